/- The laws' helpers over wagers: szWager, toWager, eqWager, markWager, heldWager. Conditions: stated at each. (gen_zf.py) -/
import Derived.Test.YtfdlfgokoponmaaDoorZd
namespace Go.Proofs.YtfdlfgokoponmaaDoor
open Go.RowKit
set_option linter.unusedVariables false

theorem Blk.below {w w' : World} {g : Nat} {t : TypeId} {cs : Array Value} (h : Blk w g t cs) (hb : Below w.heap.size w w') : Blk w' g t cs := (hb.block g h.lt).trans h

theorem Blk.grown9 {w w' : World} {g : Nat} {t : TypeId} {cs : Array Value} {row : Option Nat} (h : Blk w g t cs) (hg : w.grownBy w' row) (hne : row ≠ some g) : Blk w' g t cs := (hg.block g h.lt (fun e => hne e.symm)).trans h

theorem blk_of (w : World) (t : TypeId) (cs : Array Value) : Blk (w.alloc (.cells cs t)) w.heap.size t cs := heap_alloc_new w _

theorem Blk.other {w : World} {g : Nat} {t : TypeId} {cs : Array Value} (h : Blk w g t cs) {b : Nat} (hne : g ≠ b) (k : Nat) (u : Value) : Blk (w.setCell ⟨b, k, none⟩ u) g t cs := (Below.heap_setCell w ⟨b, k, none⟩ u g hne).trans h

theorem alloc_below (w : World) (o : Obj) : Below w.heap.size w (w.alloc o) := (Below.refl _ _).alloc (Nat.le_refl _) o

set_option maxHeartbeats 1000000 in
theorem szWager_small (w : World) (s p : Int) (A : Option Addr) (n c : Nat) (h : n ≤ 1048576) :
    Calls Tryd.prog 16 #[.agg #[.int .i64 s, .slice A n c, .int .i64 p], .int .i64 1048576] w fun r w' => r = .returned (.int .i64 (1048576 - (n : Int))) ∧ Below w.heap.size w w' := by
  obtain ⟨c0, c1, c2⟩ : (w.alloc (.cells #[.int .i64 s, .slice A n c, .int .i64 p] 37)).cell? ⟨w.heap.size, 0, none⟩ = some (.int .i64 s) ∧ (w.alloc (.cells #[.int .i64 s, .slice A n c, .int .i64 p] 37)).cell? ⟨w.heap.size, 1, none⟩ = some (.slice A n c) ∧ (w.alloc (.cells #[.int .i64 s, .slice A n c, .int .i64 p] 37)).cell? ⟨w.heap.size, 2, none⟩ = some (.int .i64 p) := ⟨(blk_of w _ _).cell 0, (blk_of w _ _).cell 1, (blk_of w _ _).cell 2⟩
  have hi : (n : Int) ≤ 1048576 ∨ (1048576 : Int) < (n : Int) := by omega
  go_enter Tryd.func16, Tryd.ntmps16
  go_wp2_with fail
  refine (szMarkS_small _ A n c h).mono ?_
  rintro r w' ⟨rfl, rfl⟩
  have h1 : (n : Int) ≤ 1048576 := by omega
  go_wp2_with fail
  go_ret
  exact ⟨rfl, alloc_below w _⟩

set_option maxHeartbeats 1000000 in
theorem szWager_big (w : World) (s p : Int) (A : Option Addr) (n c : Nat) (h : 1048576 < n) (hm : n ≤ 9223372036854775807) :
    Calls Tryd.prog 16 #[.agg #[.int .i64 s, .slice A n c, .int .i64 p], .int .i64 1048576] w fun r w' => r = .returned (.int .i64 (-1)) ∧ Below w.heap.size w w' := by
  obtain ⟨c0, c1, c2⟩ : (w.alloc (.cells #[.int .i64 s, .slice A n c, .int .i64 p] 37)).cell? ⟨w.heap.size, 0, none⟩ = some (.int .i64 s) ∧ (w.alloc (.cells #[.int .i64 s, .slice A n c, .int .i64 p] 37)).cell? ⟨w.heap.size, 1, none⟩ = some (.slice A n c) ∧ (w.alloc (.cells #[.int .i64 s, .slice A n c, .int .i64 p] 37)).cell? ⟨w.heap.size, 2, none⟩ = some (.int .i64 p) := ⟨(blk_of w _ _).cell 0, (blk_of w _ _).cell 1, (blk_of w _ _).cell 2⟩
  have hi : (n : Int) ≤ 1048576 ∨ (1048576 : Int) < (n : Int) := by omega
  go_enter Tryd.func16, Tryd.ntmps16
  go_wp2_with fail
  refine (szMarkS_big _ A n c h hm).mono ?_
  rintro r w' ⟨rfl, rfl⟩
  go_wp2_with fail
  go_ret
  exact ⟨rfl, alloc_below w _⟩

/-- a wager of the call's own -/
def NewW (s : Int) (z : List Mk) (p : Int) (w : World) (e : Ending) (w' : World) : Prop := ∃ (A : Option Addr) (c : Nat), e = .returned (.agg #[.int .i64 s, .slice A z.length c, .int .i64 p]) ∧ MOwn w' w.heap.size (.slice A z.length c) z ∧ Below w.heap.size w w'

set_option maxRecDepth 100000 in
set_option maxHeartbeats 4000000 in
theorem toWager_any (w : World) (s : Int) (v : Value) (z : List Mk) (p : Int) (hv : QRd w v z) (hn : z.length ≤ 1048576) :
    Calls Tryd.prog 17 #[.agg #[.int .i64 s, v, .int .i64 p]] w (NewW s z p w) := by
  obtain ⟨A, c, rfl, hl, hm⟩ := hv.form
  have HV : Hid (∀ wr, Below w.heap.size w wr → QRd wr (.slice A z.length c) z) := Lib.hid (fun wr hb => hv.keep (SameAt.of_below hb))
  clear hv hl hm
  have KA : Hid (Blk (((w.alloc (.cells #[.int .i64 s, .slice A z.length c, .int .i64 p] 37)).alloc (.cells #[.int .i64 0, .slice none 0 0, .int .i64 0] 25)).alloc (.cells #[.int .i64 s, .slice none 0 0, .int .i64 0] 25)) w.heap.size 37 #[.int .i64 s, .slice A z.length c, .int .i64 p] ∧ Blk (((w.alloc (.cells #[.int .i64 s, .slice A z.length c, .int .i64 p] 37)).alloc (.cells #[.int .i64 0, .slice none 0 0, .int .i64 0] 25)).alloc (.cells #[.int .i64 s, .slice none 0 0, .int .i64 0] 25)) (w.heap.size + 1) 25 #[.int .i64 0, .slice none 0 0, .int .i64 0] ∧ Blk (((w.alloc (.cells #[.int .i64 s, .slice A z.length c, .int .i64 p] 37)).alloc (.cells #[.int .i64 0, .slice none 0 0, .int .i64 0] 25)).alloc (.cells #[.int .i64 s, .slice none 0 0, .int .i64 0] 25)) (w.heap.size + 1 + 1) 25 #[.int .i64 s, .slice none 0 0, .int .i64 0] ∧ Below w.heap.size w (((w.alloc (.cells #[.int .i64 s, .slice A z.length c, .int .i64 p] 37)).alloc (.cells #[.int .i64 0, .slice none 0 0, .int .i64 0] 25)).alloc (.cells #[.int .i64 s, .slice none 0 0, .int .i64 0] 25)) ∧ w.heap.size + 3 ≤ (((w.alloc (.cells #[.int .i64 s, .slice A z.length c, .int .i64 p] 37)).alloc (.cells #[.int .i64 0, .slice none 0 0, .int .i64 0] 25)).alloc (.cells #[.int .i64 s, .slice none 0 0, .int .i64 0] 25)).heap.size) := Lib.hid ⟨((blk_of w _ _).below (alloc_below _ _)).below (alloc_below _ _),
    by have h := (blk_of (w.alloc (.cells #[.int .i64 s, .slice A z.length c, .int .i64 p] 37)) 25 #[.int .i64 0, .slice none 0 0, .int .i64 0]).below (alloc_below _ (.cells #[.int .i64 s, .slice none 0 0, .int .i64 0] 25)); rwa [show (w.alloc (.cells #[.int .i64 s, .slice A z.length c, .int .i64 p] 37)).heap.size = w.heap.size + 1 from by simp] at h,
    by have h := blk_of ((w.alloc (.cells #[.int .i64 s, .slice A z.length c, .int .i64 p] 37)).alloc (.cells #[.int .i64 0, .slice none 0 0, .int .i64 0] 25)) 25 #[.int .i64 s, .slice none 0 0, .int .i64 0]; rwa [show ((w.alloc (.cells #[.int .i64 s, .slice A z.length c, .int .i64 p] 37)).alloc (.cells #[.int .i64 0, .slice none 0 0, .int .i64 0] 25)).heap.size = w.heap.size + 1 + 1 from by simp] at h,
    ((((Below.refl _ w).alloc (Nat.le_refl _) _).alloc (by simp) _).alloc (by simp; omega) _), by simp⟩
  go_enter Tryd.func17, Tryd.ntmps17
  go_wp2_with fail
  generalize ((w.alloc (.cells #[.int .i64 s, .slice A z.length c, .int .i64 p] 37)).alloc (.cells #[.int .i64 0, .slice none 0 0, .int .i64 0] 25)).alloc (.cells #[.int .i64 s, .slice none 0 0, .int .i64 0] 25) = X at KA ⊢
  refine (toMarkS_any X _ z (HV.out _ KA.out.2.2.2.1) hn).mono ?_
  rintro e w2 ⟨v2, rfl, o2, b2⟩
  obtain ⟨A', c', rfl, -, -⟩ := (GOwn.rd qC_len o2).form
  have hne1 : w.heap.size ≠ w.heap.size + 1 + 1 := by omega
  have hne2 : w.heap.size + 1 ≠ w.heap.size + 1 + 1 := by omega
  have hs3 := KA.out.2.2.2.2
  have K0 := KA.out.1.below b2
  have K1 := KA.out.2.1.below b2
  have K2 := KA.out.2.2.1.below b2
  have O2 : Hid (MOwn w2 X.heap.size (.slice A' z.length c') z) := Lib.hid o2
  have HB2 := Lib.hid (below_step KA.out.2.2.2.1 b2 KA.out.2.2.2.1.size)
  clear o2 b2 KA
  have L0 := K0.other hne1 1 (.slice A' z.length c')
  have L1 := K1.other hne2 1 (.slice A' z.length c')
  have L2 := K2.set_ 1 (.slice A' z.length c')
  have M1 := L1.other hne2 2 (.int .i64 p)
  have M2 := L2.set_ 2 (.int .i64 p)
  have N1 := M1.set_ 0 (.int .i64 s)
  have Q1 := N1.set_ 1 (.slice A' z.length c')
  have R1 := Q1.set_ 2 (.int .i64 p)
  have f1 : w2.frozen? ⟨w.heap.size + 1 + 1, 1, none⟩ = false := K2.frozen 1
  have d1 : w2.cell? ⟨w.heap.size + 1 + 1, 1, none⟩ = some (.slice none 0 0) := K2.cell 1
  have c2 : (w2.setCell ⟨w.heap.size + 1 + 1, 1, none⟩ (.slice A' z.length c')).cell? ⟨w.heap.size, 2, none⟩ = some (.int .i64 p) := L0.cell 2
  have f2 : (w2.setCell ⟨w.heap.size + 1 + 1, 1, none⟩ (.slice A' z.length c')).frozen? ⟨w.heap.size + 1 + 1, 2, none⟩ = false := L2.frozen 2
  have d2 : (w2.setCell ⟨w.heap.size + 1 + 1, 1, none⟩ (.slice A' z.length c')).cell? ⟨w.heap.size + 1 + 1, 2, none⟩ = some (.int .i64 0) := L2.cell 2
  have e0 : ((w2.setCell ⟨w.heap.size + 1 + 1, 1, none⟩ (.slice A' z.length c')).setCell ⟨w.heap.size + 1 + 1, 2, none⟩ (.int .i64 p)).cell? ⟨w.heap.size + 1 + 1, 0, none⟩ = some (.int .i64 s) := M2.cell 0
  have e1 : ((w2.setCell ⟨w.heap.size + 1 + 1, 1, none⟩ (.slice A' z.length c')).setCell ⟨w.heap.size + 1 + 1, 2, none⟩ (.int .i64 p)).cell? ⟨w.heap.size + 1 + 1, 1, none⟩ = some (.slice A' z.length c') := M2.cell 1
  have e2 : ((w2.setCell ⟨w.heap.size + 1 + 1, 1, none⟩ (.slice A' z.length c')).setCell ⟨w.heap.size + 1 + 1, 2, none⟩ (.int .i64 p)).cell? ⟨w.heap.size + 1 + 1, 2, none⟩ = some (.int .i64 p) := M2.cell 2
  have g0 : ((w2.setCell ⟨w.heap.size + 1 + 1, 1, none⟩ (.slice A' z.length c')).setCell ⟨w.heap.size + 1 + 1, 2, none⟩ (.int .i64 p)).frozen? ⟨w.heap.size + 1, 0, none⟩ = false := M1.frozen 0
  have h0 : ((w2.setCell ⟨w.heap.size + 1 + 1, 1, none⟩ (.slice A' z.length c')).setCell ⟨w.heap.size + 1 + 1, 2, none⟩ (.int .i64 p)).cell? ⟨w.heap.size + 1, 0, none⟩ = some (.int .i64 0) := M1.cell 0
  have g1 : (((w2.setCell ⟨w.heap.size + 1 + 1, 1, none⟩ (.slice A' z.length c')).setCell ⟨w.heap.size + 1 + 1, 2, none⟩ (.int .i64 p)).setCell ⟨w.heap.size + 1, 0, none⟩ (.int .i64 s)).frozen? ⟨w.heap.size + 1, 1, none⟩ = false := N1.frozen 1
  have h1 : (((w2.setCell ⟨w.heap.size + 1 + 1, 1, none⟩ (.slice A' z.length c')).setCell ⟨w.heap.size + 1 + 1, 2, none⟩ (.int .i64 p)).setCell ⟨w.heap.size + 1, 0, none⟩ (.int .i64 s)).cell? ⟨w.heap.size + 1, 1, none⟩ = some (.slice none 0 0) := N1.cell 1
  have g2 : ((((w2.setCell ⟨w.heap.size + 1 + 1, 1, none⟩ (.slice A' z.length c')).setCell ⟨w.heap.size + 1 + 1, 2, none⟩ (.int .i64 p)).setCell ⟨w.heap.size + 1, 0, none⟩ (.int .i64 s)).setCell ⟨w.heap.size + 1, 1, none⟩ (.slice A' z.length c')).frozen? ⟨w.heap.size + 1, 2, none⟩ = false := Q1.frozen 2
  have h2 : ((((w2.setCell ⟨w.heap.size + 1 + 1, 1, none⟩ (.slice A' z.length c')).setCell ⟨w.heap.size + 1 + 1, 2, none⟩ (.int .i64 p)).setCell ⟨w.heap.size + 1, 0, none⟩ (.int .i64 s)).setCell ⟨w.heap.size + 1, 1, none⟩ (.slice A' z.length c')).cell? ⟨w.heap.size + 1, 2, none⟩ = some (.int .i64 0) := Q1.cell 2
  have HR : Hid ((((((w2.setCell ⟨w.heap.size + 1 + 1, 1, none⟩ (.slice A' z.length c')).setCell ⟨w.heap.size + 1 + 1, 2, none⟩ (.int .i64 p)).setCell ⟨w.heap.size + 1, 0, none⟩ (.int .i64 s)).setCell ⟨w.heap.size + 1, 1, none⟩ (.slice A' z.length c')).setCell ⟨w.heap.size + 1, 2, none⟩ (.int .i64 p)).cell? ⟨w.heap.size + 1, 0, none⟩ = some (.int .i64 s) ∧ (((((w2.setCell ⟨w.heap.size + 1 + 1, 1, none⟩ (.slice A' z.length c')).setCell ⟨w.heap.size + 1 + 1, 2, none⟩ (.int .i64 p)).setCell ⟨w.heap.size + 1, 0, none⟩ (.int .i64 s)).setCell ⟨w.heap.size + 1, 1, none⟩ (.slice A' z.length c')).setCell ⟨w.heap.size + 1, 2, none⟩ (.int .i64 p)).cell? ⟨w.heap.size + 1, 1, none⟩ = some (.slice A' z.length c') ∧ (((((w2.setCell ⟨w.heap.size + 1 + 1, 1, none⟩ (.slice A' z.length c')).setCell ⟨w.heap.size + 1 + 1, 2, none⟩ (.int .i64 p)).setCell ⟨w.heap.size + 1, 0, none⟩ (.int .i64 s)).setCell ⟨w.heap.size + 1, 1, none⟩ (.slice A' z.length c')).setCell ⟨w.heap.size + 1, 2, none⟩ (.int .i64 p)).cell? ⟨w.heap.size + 1, 2, none⟩ = some (.int .i64 p)) := Lib.hid ⟨R1.cell 0, R1.cell 1, R1.cell 2⟩
  have HG : Hid (MOwn (((((w2.setCell ⟨w.heap.size + 1 + 1, 1, none⟩ (.slice A' z.length c')).setCell ⟨w.heap.size + 1 + 1, 2, none⟩ (.int .i64 p)).setCell ⟨w.heap.size + 1, 0, none⟩ (.int .i64 s)).setCell ⟨w.heap.size + 1, 1, none⟩ (.slice A' z.length c')).setCell ⟨w.heap.size + 1, 2, none⟩ (.int .i64 p)) X.heap.size (.slice A' z.length c') z) := Lib.hid (MOwn.kept (MOwn.kept (MOwn.kept (MOwn.kept (MOwn.kept O2.out (set1_grown _ _ _ _) (by omega)) (set1_grown _ _ _ _) (by omega)) (set1_grown _ _ _ _) (by omega)) (set1_grown _ _ _ _) (by omega)) (set1_grown _ _ _ _) (by omega))
  have HZ : Hid (Below w.heap.size w (((((w2.setCell ⟨w.heap.size + 1 + 1, 1, none⟩ (.slice A' z.length c')).setCell ⟨w.heap.size + 1 + 1, 2, none⟩ (.int .i64 p)).setCell ⟨w.heap.size + 1, 0, none⟩ (.int .i64 s)).setCell ⟨w.heap.size + 1, 1, none⟩ (.slice A' z.length c')).setCell ⟨w.heap.size + 1, 2, none⟩ (.int .i64 p))) := Lib.hid (((((HB2.out.setCell (p := ⟨w.heap.size + 1 + 1, 1, none⟩) (by simp; omega) _).setCell (p := ⟨w.heap.size + 1 + 1, 2, none⟩) (by simp; omega) _).setCell (p := ⟨w.heap.size + 1, 0, none⟩) (by simp) _).setCell (p := ⟨w.heap.size + 1, 1, none⟩) (by simp) _).setCell (p := ⟨w.heap.size + 1, 2, none⟩) (by simp) _)
  clear K0 K1 K2 L0 L1 L2 M1 M2 N1 Q1 R1 hne1 hne2
  go_wp2_with fail
  obtain ⟨r0, r1, r2⟩ := HR.out
  refine bodyPost_ret (v := .agg #[.int .i64 s, .slice A' z.length c', .int .i64 p]) (by simp [results, Tryd.results17, go_sem, r0, r1, r2]) rfl ?_
  exact ⟨A', c', rfl, GOwn.base HG.out (by omega), HZ.out⟩

set_option maxHeartbeats 1000000 in
theorem eqWager_same (w : World) (s p : Int) (v u : Value) (z : List Mk) (hv : QRd w v z) (hu : QRd w u z) :
    Calls Tryd.prog 18 #[.agg #[.int .i64 s, v, .int .i64 p], .agg #[.int .i64 s, u, .int .i64 p]] w (BoolPost true w) := by
  obtain ⟨A, c, rfl, -, -⟩ := hv.form
  obtain ⟨A', c', rfl, -, -⟩ := hu.form
  have hb : Below w.heap.size w ((w.alloc (.cells #[.int .i64 s, .slice A z.length c, .int .i64 p] 25)).alloc (.cells #[.int .i64 s, .slice A' z.length c', .int .i64 p] 25)) := ((Below.refl _ w).alloc (Nat.le_refl _) _).alloc (by simp) _
  have HV := Lib.hid (hv.keep (SameAt.of_below hb))
  have HU := Lib.hid (hu.keep (SameAt.of_below hb))
  have HB := Lib.hid hb
  clear hv hu hb
  go_enter Tryd.func18, Tryd.ntmps18
  go_wp2_with fail
  refine (eqMarkS_any _ _ _ z z HV.out HU.out).mono ?_
  rintro e w2 ⟨rfl, b2⟩
  rw [show decide (z = z) = true from by simp]
  have K : Hid (Blk w2 w.heap.size 25 #[.int .i64 s, .slice A z.length c, .int .i64 p] ∧ Blk w2 (w.heap.size + 1) 25 #[.int .i64 s, .slice A' z.length c', .int .i64 p]) := Lib.hid ⟨((blk_of w _ _).below (alloc_below _ _)).below b2, by
    have h := (blk_of (w.alloc (.cells #[.int .i64 s, .slice A z.length c, .int .i64 p] 25)) 25 #[.int .i64 s, .slice A' z.length c', .int .i64 p]).below b2
    rwa [show (w.alloc (.cells #[.int .i64 s, .slice A z.length c, .int .i64 p] 25)).heap.size = w.heap.size + 1 from by simp] at h⟩
  have HB2 := Lib.hid (below_step HB.out b2 HB.out.size)
  have c1 : w2.cell? ⟨w.heap.size, 2, none⟩ = some (.int .i64 p) := K.out.1.cell 2
  have c2 : w2.cell? ⟨w.heap.size + 1, 2, none⟩ = some (.int .i64 p) := K.out.2.cell 2
  clear b2 K
  go_wp2_with fail
  go_ret
  exact ⟨rfl, HB2.out⟩

/-- the marks of a wager's term are numbered anew -/
def WMarked (base : Nat) (q : Int) (v : Value) (xs : List Qt) (w : World) (e : Ending) (w' : World) : Prop := e = .returned (.int .i64 (q + 2 * xs.length)) ∧ w.grownBy w' v.ownBlock ∧ w.heap.size ≤ w'.heap.size ∧ MOwn w' base v (mUp q xs xs.length)

set_option maxHeartbeats 1000000 in
theorem markWager_any (w : World) (base : Nat) (q s p : Int) (v : Value) (xs : List Qt) (hv : MOwn w base v xs) (hn : xs.length ≤ 1048576) (hq0 : 0 ≤ q) (hq : q ≤ 1000000000) :
    Calls Tryd.prog 19 #[.agg #[.int .i64 s, v, .int .i64 p], .int .i64 q] w (WMarked base q v xs w) := by
  obtain ⟨A, c, rfl, -, -⟩ := (GOwn.rd qC_len hv).form
  have HV : Hid (MOwn (w.alloc (.cells #[.int .i64 s, .slice A xs.length c, .int .i64 p] 25)) base (.slice A xs.length c) xs) := Lib.hid (hv.keep (SameAt.of_below (alloc_below w _)))
  clear hv
  go_enter Tryd.func19, Tryd.ntmps19
  go_wp2_with fail
  refine (markMarkS_any _ base q _ xs HV.out hn hq0 hq).mono ?_
  rintro e w2 ⟨rfl, g2, y2, o2⟩
  have HO := Lib.hid o2
  have HG := Lib.hid (grown_after (alloc_below w (.cells #[.int .i64 s, .slice A xs.length c, .int .i64 p] 25)) g2)
  clear g2 o2
  go_wp2_with fail
  go_ret
  exact ⟨rfl, HG.out, HG.out.size, HO.out⟩

set_option maxHeartbeats 1000000 in
theorem heldWager_any (w : World) (q s p : Int) (v : Value) (xs : List Qt) (hv : QRd w v (mUp q xs xs.length)) (hn : xs.length ≤ 1048576) (hq0 : 0 ≤ q) (hq : q ≤ 1000000000) :
    Calls Tryd.prog 20 #[.agg #[.int .i64 s, v, .int .i64 p], .int .i64 q] w fun e w' => e = .returned (.int .i64 (q + 2 * xs.length)) ∧ Below w.heap.size w w' := by
  obtain ⟨A, c, rfl, -, -⟩ := hv.form
  have hl : (mUp q xs xs.length).length = xs.length := mUp_len q xs (Nat.le_refl _)
  rw [hl] at hv ⊢
  have HV := Lib.hid (hv.keep (SameAt.of_below (alloc_below w (.cells #[.int .i64 s, .slice A xs.length c, .int .i64 p] 25))))
  clear hv hl
  have h0 : ¬ (q + 2 * (xs.length : Int) < 0) := by omega
  go_enter Tryd.func20, Tryd.ntmps20
  go_wp2_with fail
  refine (heldMarkS_any _ q _ xs HV.out hn hq0 hq).mono ?_
  rintro e w' ⟨rfl, rfl⟩
  go_wp2_with fail
  go_ret
  exact ⟨rfl, alloc_below w _⟩

end Go.Proofs.YtfdlfgokoponmaaDoor
