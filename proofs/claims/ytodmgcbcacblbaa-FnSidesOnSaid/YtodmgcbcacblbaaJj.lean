/- The walks of the laws of SidesFair, SidesOn. Conditions: rows of bytes that came in. (gen_jj.py) -/
import Derived.Test.YtodmgcbcacblbaaJi
import Derived.Test.YtodmgcbcacblbaaTj
namespace Go.Proofs.Ytodmgcbcacblbaa
open Go.RowKit
set_option linter.unusedVariables false

/-! bids with both prices the same, and their quotes -/

def sameF (f : Bt → Int) (bs : List Bt) : List Bt := bs.map fun b => (b.1, f b, f b)

def quoF (f : Bt → Int) (bs : List Bt) : List Qt := bs.map fun b => (b.1, f b)

theorem sameF_len (f : Bt → Int) (bs : List Bt) : (sameF f bs).length = bs.length := by simp [sameF]

theorem quoF_len (f : Bt → Int) (bs : List Bt) : (quoF f bs).length = bs.length := by simp [quoF]

theorem sameF_at (f : Bt → Int) {bs : List Bt} {k : Nat} {b : Bt} (h : bs[k]? = some b) : (sameF f bs)[k]? = some (b.1, f b, f b) := by rw [sameF, List.getElem?_map, h]; rfl

theorem quoF_at (f : Bt → Int) {bs : List Bt} {k : Nat} {b : Bt} (h : bs[k]? = some b) : (quoF f bs)[k]? = some (b.1, f b) := by rw [quoF, List.getElem?_map, h]; rfl

theorem same_fit (f : Bt → Int) (m : List Int) (bs : List Bt) : sfitI m (sameF f bs) = fitI m (quoF f bs) := by
  apply bool_eq
  rw [sfitI_iff, fitI_iff]
  constructor
  · intro h q hq
    obtain ⟨b, hb, rfl⟩ := List.mem_map.1 hq
    have := h (b.1, f b, f b) (List.mem_map.2 ⟨b, hb, rfl⟩)
    show onI m b.1 = 6 * f b
    have h1 : 6 * f b ≤ onI m b.1 ∧ onI m b.1 ≤ 6 * f b := this
    omega
  · intro h q hq
    obtain ⟨b, hb, rfl⟩ := List.mem_map.1 hq
    have h1 : onI m b.1 = 6 * f b := h (b.1, f b) (List.mem_map.2 ⟨b, hb, rfl⟩)
    show 6 * f b ≤ onI m b.1 ∧ onI m b.1 ≤ 6 * f b
    omega

theorem same_ok {f : Bt → Int} {n : Int} {bs : List Bt} (h : bidsB n bs = true) (hf : ∀ b ∈ bs, b.2.1 ≤ f b ∧ f b ≤ b.2.2) : bidsB n (sameF f bs) = true ∧ bokB n (quoF f bs) = true := by
  obtain ⟨h1, h2, h3⟩ := (bidsB_iff _ _).1 h
  refine ⟨(bidsB_iff _ _).2 ⟨h1, by rw [sameF_len]; exact h2, fun q hq => ?_⟩, (bokB_iff _ _).2 ⟨h1, by rw [quoF_len]; exact h2, fun q hq => ?_⟩⟩
  · obtain ⟨b, hb, rfl⟩ := List.mem_map.1 hq
    obtain ⟨k1, k2, k3⟩ := (bidB_iff _ _).1 (h3 b hb)
    have := hf b hb
    refine (bidB_iff _ _).2 ⟨k1, ?_, ?_⟩
    · show 0 ≤ f b ∧ f b ≤ f b; omega
    · show f b ≤ 6; omega
  · obtain ⟨b, hb, rfl⟩ := List.mem_map.1 hq
    obtain ⟨k1, k2, k3⟩ := (bidB_iff _ _).1 (h3 b hb)
    have := hf b hb
    refine (qokB_iff _ _).2 ⟨k1, ?_⟩
    show 0 ≤ f b ∧ f b ≤ 6; omega

theorem same_fair {f : Bt → Int} {n : Int} {bs : List Bt} (h : bidsB n bs = true) (hf : ∀ b ∈ bs, b.2.1 ≤ f b ∧ f b ≤ b.2.2) : sfairB n (sameF f bs) = fairB n (quoF f bs) := by
  obtain ⟨h1, h2⟩ := same_ok h hf
  rw [sfairB, fairB, h1, h2, Bool.true_and, Bool.true_and, anyS, anyFit]
  congr 1
  funext l
  exact same_fit f (natL l) bs

theorem lo_between {n : Int} {bs : List Bt} (h : bidsB n bs = true) : ∀ b ∈ bs, b.2.1 ≤ b.2.1 ∧ b.2.1 ≤ b.2.2 := fun b hb => by
  obtain ⟨k1, k2, k3⟩ := (bidB_iff _ _).1 (((bidsB_iff _ _).1 h).2.2 b hb)
  omega

/-- the winning stakes of bids -/
theorem win_ok {n : Nat} {bs : List Bt} (h : bidsB (n : Int) bs = true) : winOk (n : Int) bs = !sfairB (n : Int) bs := by
  rw [winOk, winning_fair h, sfairB, h, Bool.true_and, Int.toNat_natCast]

theorem sfair_nob {n : Int} {bs : List Bt} (h : bidsB n bs = false) : sfairB n bs = false := by rw [sfairB, h]; rfl

/-! two rows that are built -/

def RwRel (w : World) (ps : List Bt) (qs : List Qt) (p q : Value) (wr : World) : Prop := BOwn wr w.heap.size p ps ∧ QOwn wr w.heap.size q qs ∧ Below w.heap.size w wr ∧ ∀ g, p.ownBlock = some g → q.ownBlock ≠ some g

theorem RwRel.drew {w wr : World} {ps : List Bt} {qs : List Qt} {p q : Value} (h : RwRel w ps qs p q wr) : RwRel w ps qs p q wr.drew := ⟨h.1, h.2.1, h.2.2.1.drew, h.2.2.2⟩

theorem RwRel.bid {w wr w' : World} {ps ps' : List Bt} {qs : List Qt} {p q : Value} {g n c : Nat} (h : RwRel w ps qs p q wr) (ho : BOwn w' w.heap.size (.slice (some ⟨g, 0, none⟩) n c) ps') (hg : wr.grownBy w' p.ownBlock) (hd : p.ownBlock = some g ∨ wr.heap.size ≤ g) : RwRel w ps' qs (.slice (some ⟨g, 0, none⟩) n c) q w' := by
  obtain ⟨h1, h2, h3, h4⟩ := h
  have far : q.ownBlock = none ∨ q.ownBlock ≠ p.ownBlock := by
    rcases hp : p.ownBlock with _ | b
    · rcases hq : q.ownBlock with _ | a
      · exact .inl rfl
      · exact .inr (by intro e; cases e)
    · exact .inr (h4 b hp)
  refine ⟨ho, h2.keep (SameAt.of_grown hg far), h3.grown hg h3.size (fun b hb => (h1.ge b hb).1), fun a ha => ?_⟩
  have ha : some g = some a := ha
  injection ha with ha
  subst ha
  rcases hd with hd | hd
  · exact h4 g hd
  · intro hq
    have := (h2.ge g hq).2
    omega

theorem RwRel.quote {w wr w' : World} {ps : List Bt} {qs qs' : List Qt} {p q : Value} {g n c : Nat} (h : RwRel w ps qs p q wr) (ho : QOwn w' w.heap.size (.slice (some ⟨g, 0, none⟩) n c) qs') (hg : wr.grownBy w' q.ownBlock) (hd : q.ownBlock = some g ∨ wr.heap.size ≤ g) : RwRel w ps qs' p (.slice (some ⟨g, 0, none⟩) n c) w' := by
  obtain ⟨h1, h2, h3, h4⟩ := h
  have far : p.ownBlock = none ∨ p.ownBlock ≠ q.ownBlock := by
    rcases hp : p.ownBlock with _ | b
    · exact .inl rfl
    · exact .inr (fun e => h4 b hp e.symm)
  refine ⟨h1.keep (SameAt.of_grown hg far), ho, h3.grown hg h3.size (fun b hb => (h2.ge b hb).1), fun a ha hq => ?_⟩
  have hq : some g = some a := hq
  injection hq with hq
  subst hq
  rcases hd with hd | hd
  · exact h4 g ha hd
  · have := (h1.ge g ha).2
    omega

theorem rw_start (w : World) : RwRel w [] [] (.slice (some ⟨w.heap.size, 0, none⟩) 0 0) (.slice (some ⟨w.heap.size + 1, 0, none⟩) 0 0) ((w.alloc (.cells #[] 28)).alloc (.cells #[] 37)) := by
  have h1 := World.ownsRow_lit w #[] 0 (e := 28) (base := w.heap.size) (size := 3) (Nat.le_refl _) (by unfold maxLen; omega) rfl
  have h2 := World.ownsRow_lit (w.alloc (.cells #[] 28)) #[] 0 (e := 37) (base := w.heap.size) (size := 2) (by simp) (by unfold maxLen; omega) rfl
  rw [World.size_alloc] at h2
  refine ⟨?_, ?_, ((Below.refl _ _).alloc (Nat.le_refl _) _).alloc (by simp) _, fun g hg hq => ?_⟩
  · have h3 := World.ownsRow.alloc (w := w.alloc (.cells #[] 28)) h1 (.cells #[] 37)
    simpa [GOwn] using h3
  · simpa [GOwn] using h2
  · have hg : some w.heap.size = some g := hg
    have hq : some (w.heap.size + 1) = some g := hq
    injection hg with hg
    injection hq with hq
    omega

/-- the rows behind k rounds -/
def RnRel (w : World) (F : List Bt) (G : List Qt) (k : Nat) (p q : Value) (wr : World) : Prop := RwRel w (F.take k) (G.take k) p q wr ∧ (∃ g c, p = .slice (some ⟨g, 0, none⟩) k c) ∧ ∃ g c, q = .slice (some ⟨g, 0, none⟩) k c

/-- a row of quotes that is built: so far -/
def QiRel (w : World) (G : List Qt) (k : Nat) (p : Value) (wr : World) : Prop := QOwn wr w.heap.size p (G.take k) ∧ Below w.heap.size w wr ∧ ∃ g c, p = .slice (some ⟨g, 0, none⟩) k c

theorem qi_start (w : World) (G : List Qt) : QiRel w G 0 (.slice (some ⟨w.heap.size, 0, none⟩) 0 0) (w.alloc (.cells #[] 37)) := by
  refine ⟨?_, (Below.refl _ _).alloc (Nat.le_refl _) _, _, _, rfl⟩
  have h := World.ownsRow_lit w #[] 0 (e := 37) (base := w.heap.size) (size := 2) (Nat.le_refl _) (by unfold maxLen; omega) rfl
  simpa [GOwn] using h

theorem QiRel.drew {w wr : World} {G : List Qt} {k : Nat} {p : Value} (h : QiRel w G k p wr) : QiRel w G k p wr.drew := ⟨h.1, h.2.1.drew, h.2.2⟩
theorem QiRel.step {w wr w' : World} {G : List Qt} {k g c : Nat} {p : Value} {q : Qt} (h : QiRel w G k p wr) (hq : G[k]? = some q) (ho : QOwn w' w.heap.size (.slice (some ⟨g, 0, none⟩) (k + 1) c) (G.take k ++ [q])) (hg : wr.grownBy w' p.ownBlock) :
    QiRel w G (k + 1) (.slice (some ⟨g, 0, none⟩) (k + 1) c) w' := by
  refine ⟨by rw [List.take_add_one, hq]; exact ho, ?_, _, _, rfl⟩
  exact h.2.1.grown hg h.2.1.size (fun g hg' => (World.ownsRow.lt h.1 g hg').1)

theorem BRd.cell13 {w : World} {b off n c : Nat} {bs : List Bt} (h : BRd w (.slice (some ⟨b, off, none⟩) n c) bs) {k : Nat} {q : Bt} (hx : bs[k]? = some q) : w.cell? ⟨b, off + k * 3, none⟩ = some (.int .i64 q.1) ∧ w.cell? ⟨b, off + k * 3 + 1, none⟩ = some (.int .i64 q.2.1) ∧ w.cell? ⟨b, off + k * 3 + 2, none⟩ = some (.int .i64 q.2.2) := by
  have hk : k < bs.length := (List.getElem?_eq_some_iff.1 hx).1
  have hn : n = bs.length := by obtain ⟨A', c', e, -⟩ := h; injection e
  obtain ⟨b', off', q', hA, -, hx', h0, h1, h2⟩ := BRd.at_ h (k := k) (by omega)
  injection hA with hA
  injection hA with e1 e2
  subst e1; subst e2
  obtain rfl := Option.some.inj (hx.symm.trans hx')
  exact ⟨h0, h1, h2⟩

set_option maxRecDepth 100000 in
set_option maxHeartbeats 8000000 in
theorem FnSidesFair_walk (a0 : Option Addr) (len0 cap0 : Nat) (z0 : List Int) (w : World) (w0 : IsRowC .u8 w a0 len0 cap0 z0) :
    Calls Try.prog 5 #[.slice a0 len0 cap0] w fun e w' => e = .returned (.bool true) ∧ Below w.heap.size w w' := by
  by_cases hlen : 1048576 < len0
  · clear w0
    go_enter Try.func5, Try.ntmps5
    go_wp2
    go_ret
    exact ⟨rfl, Below.refl _ _⟩
  · have hlen' : decide (1048576 < len0) = false := by simpa using hlen
    go_enter Try.func5, Try.ntmps5
    go_wp2_with fail
    refine (drawSidesFair_any _ _ _ _ _ w0).mono ?_
    rintro e w1 ⟨n, v, bs, rfl, ⟨n1, n4⟩, ov, hl4, B1⟩
    have HB1 := Lib.hid B1
    obtain ⟨A, c, rfl, hl, hmx⟩ := (ov.rd bC_len).form
    have HV : Hid (∀ wr, Below w1.heap.size w1 wr → BRd wr (.slice A bs.length c) bs) := Lib.hid (fun wr hb => (ov.rd bC_len).keep (SameAt.of_below hb))
    clear ov B1 w0
    rcases Bool.eq_false_or_eq_true (bidsB (n : Int) bs) with hk | hk
    · have HK := Lib.hid hk
      obtain ⟨f, hf⟩ : ∃ f, fairB (n : Int) (quoF (fun b => b.2.1) bs) = f := ⟨_, rfl⟩
      have HFO := Lib.hid hf
      have HSF : Hid (sfairB (n : Int) (sameF (fun b => b.2.1) bs) = f) := Lib.hid ((same_fair hk (lo_between hk)).trans hf)
      have hwo := win_ok hk
      obtain ⟨t, ht⟩ : ∃ t, sfairB (n : Int) bs = t := ⟨_, rfl⟩
      rw [ht] at hwo
      have HT := Lib.hid ht
      clear hk hf ht
      cases t
      · have HWO : Hid (winOk (n : Int) bs = true) := Lib.hid hwo
        clear hwo
        have C1 := Lib.hid (Below.refl w1.heap.size w1)
        go_wp2_with fail
        refine (implSidesFair_any w1 (n : Int) _ bs (HV.out w1 C1.out)).mono ?_
        rintro e w2 ⟨rfl, b2⟩
        rw [HT.out]
        have C2 := Lib.hid (below_step C1.out b2 C1.out.size)
        clear b2
        go_wp2_with fail
        refine (specSidesFair_any w2 (n : Int) _ bs (HV.out w2 C2.out)).mono ?_
        rintro e w3 ⟨rfl, b3⟩
        rw [HT.out]
        have C3 := Lib.hid (below_step C2.out b3 C2.out.size)
        clear b3
        go_wp2_with fail
        refine (specBidsOk_any w3 (n : Int) _ bs (HV.out w3 C3.out)).mono ?_
        rintro e w4 ⟨rfl, b4⟩
        rw [HK.out]
        have C4 := Lib.hid (below_step C3.out b4 C3.out.size)
        clear b4
        go_wp2_with fail
        refine (implWinningStakes_any w4 (n : Int) _ bs (HV.out w4 C4.out)).mono ?_
        rintro e w5 ⟨vx, rfl, -, b5⟩
        rw [HWO.out]
        have C5 := Lib.hid (below_step C4.out b5 C4.out.size)
        clear b5
        have H0 : Hid (RnRel w5 (sameF (fun b => b.2.1) bs) (quoF (fun b => b.2.1) bs) 0 (.slice (some ⟨w5.heap.size, 0, none⟩) 0 0) (.slice (some ⟨w5.heap.size + 1, 0, none⟩) 0 0) ((w5.alloc (.cells #[] 28)).alloc (.cells #[] 37))) := Lib.hid ⟨rw_start w5, ⟨_, _, rfl⟩, _, _, rfl⟩
        go_wp2_with fail
        go_loopw [8, 9, 10] (fun p q i wr => ∃ k : Nat, i = .int .i64 (k : Int) ∧ k ≤ bs.length ∧ Hid (RnRel w5 (sameF (fun b => b.2.1) bs) (quoF (fun b => b.2.1) bs) k p q wr)) (fun _ _ i _ => bs.length - (intOf i).toNat)
        case atStart => exact ⟨0, rfl, Nat.zero_le _, H0⟩
        case round =>
          obtain ⟨k, rfl, hk, HF⟩ := hrel
          obtain ⟨-, ⟨g0, c0, rfl⟩, g1, c1, rfl⟩ := id HF.out
          clear H0
          have KK := Lib.hid (below_step C5.out HF.out.1.2.2.1 C5.out.size)
          by_cases hlt : k < bs.length
          · have hlt' : (k : Int) < (bs.length : Int) := by omega
            have hk0 : (0 : Int) ≤ (k : Int) := by omega
            obtain ⟨b, off, ⟨e, lo, hi⟩, rfl, hbb, hx, hc0, hc1, hc2⟩ := BRd.at_ (HV.out wr KK.out) hlt
            have hc0 : wr.cell? ⟨b, off + k * 3, none⟩ = some (.int .i64 e) := hc0
            have hc1 : wr.cell? ⟨b, off + k * 3 + 1, none⟩ = some (.int .i64 lo) := hc1
            have hc2 : wr.cell? ⟨b, off + k * 3 + 2, none⟩ = some (.int .i64 hi) := hc2
            have HC : Hid (∀ w', Below w5.heap.size w5 w' → w'.cell? ⟨b, off + k * 3, none⟩ = some (.int .i64 e) ∧ w'.cell? ⟨b, off + k * 3 + 1, none⟩ = some (.int .i64 lo) ∧ w'.cell? ⟨b, off + k * 3 + 2, none⟩ = some (.int .i64 hi)) := Lib.hid (fun w' h => BRd.cell13 (HV.out w' (below_step C5.out h C5.out.size)) hx)
            have HQF := Lib.hid (sameF_at (fun b => b.2.1) hx)
            have HQG := Lib.hid (quoF_at (fun b => b.2.1) hx)
            have hlf : Hid (((sameF (fun b => b.2.1) bs).take k).length = k) := Lib.hid (by rw [List.length_take, sameF_len]; omega)
            have hlg : Hid (((quoF (fun b => b.2.1) bs).take k).length = k) := Lib.hid (by rw [List.length_take, quoF_len]; omega)
            clear hx
            go_wp2_with fail
            have sa := HF.out.1.2.2.1.drew
            have owna := (show BOwn wr.drew w5.heap.size _ _ from HF.out.1.1)
            refine wp_region_held_drew (S := fun w' => Below w5.heap.size w5 w') (by kernel_rfl) sa (fun hHeld => ?_)
            refine take_in (i := 0) (v := ?_) rfl (by kernel_rfl) (fun _ _ _ h => h) rfl ?_ hHeld ?_
            rotate_left
            · intro w' hSw; go_simp; all_goals with_reducible rfl
            try simp only [Act.put, List.setIfInBounds_toArray, List.set_cons_zero, List.set_cons_succ]
            refine take_in (i := 1) (v := ?_) rfl (by kernel_rfl) (fun _ _ _ h => h) rfl ?_ hHeld ?_
            rotate_left
            · intro w' hSw; go_simp; all_goals with_reducible rfl
            try simp only [Act.put, List.setIfInBounds_toArray, List.set_cons_zero, List.set_cons_succ]
            refine take_in (i := 2) (v := ?_) rfl (by kernel_rfl) (fun _ _ _ h => h) rfl ?_ hHeld ?_
            rotate_left
            · intro w' hSw; go_simp; all_goals with_reducible rfl
            try simp only [Act.put, List.setIfInBounds_toArray, List.set_cons_zero, List.set_cons_succ]
            refine take_in (i := 3) (v := ?_) rfl (by kernel_rfl) (fun _ _ _ h => h) rfl ?_ hHeld ?_
            rotate_left
            · intro w' hSw; go_simp; all_goals with_reducible rfl
            try simp only [Act.put, List.setIfInBounds_toArray, List.set_cons_zero, List.set_cons_succ]
            refine take_in (i := 4) (v := ?_) rfl (by kernel_rfl) (fun _ _ _ h => h) rfl ?_ hHeld ?_
            rotate_left
            · intro w' hSw; go_simp; all_goals with_reducible rfl
            try simp only [Act.put, List.setIfInBounds_toArray, List.set_cons_zero, List.set_cons_succ]
            refine take_in (i := 5) (v := ?_) rfl (by kernel_rfl) (fun _ _ _ h => h) rfl ?_ hHeld ?_
            rotate_left
            · intro w' hSw; obtain ⟨d0, d1, d2⟩ := HC.out w' hSw; go_simp; all_goals with_reducible rfl
            try simp only [Act.put, List.setIfInBounds_toArray, List.set_cons_zero, List.set_cons_succ]
            refine take_in (i := 6) (v := ?_) rfl (by kernel_rfl) (fun _ _ _ h => h) rfl ?_ hHeld ?_
            rotate_left
            · intro w' hSw; go_simp; all_goals with_reducible rfl
            try simp only [Act.put, List.setIfInBounds_toArray, List.set_cons_zero, List.set_cons_succ]
            refine take_in (i := 7) (v := ?_) rfl (by kernel_rfl) (fun _ _ _ h => h) rfl ?_ hHeld ?_
            rotate_left
            · intro w' hSw; go_simp; all_goals with_reducible rfl
            try simp only [Act.put, List.setIfInBounds_toArray, List.set_cons_zero, List.set_cons_succ]
            refine take_in (i := 8) (v := ?_) rfl (by kernel_rfl) (fun _ _ _ h => h) rfl ?_ hHeld ?_
            rotate_left
            · intro w' hSw; go_simp; all_goals with_reducible rfl
            try simp only [Act.put, List.setIfInBounds_toArray, List.set_cons_zero, List.set_cons_succ]
            refine take_in (i := 9) (v := ?_) rfl (by kernel_rfl) (fun _ _ _ h => h) rfl ?_ hHeld ?_
            rotate_left
            · intro w' hSw; go_simp; all_goals with_reducible rfl
            try simp only [Act.put, List.setIfInBounds_toArray, List.set_cons_zero, List.set_cons_succ]
            refine take_in (i := 10) (v := ?_) rfl (by kernel_rfl) (fun _ _ _ h => h) rfl ?_ hHeld ?_
            rotate_left
            · intro w' hSw; obtain ⟨d0, d1, d2⟩ := HC.out w' hSw; go_simp; all_goals with_reducible rfl
            try simp only [Act.put, List.setIfInBounds_toArray, List.set_cons_zero, List.set_cons_succ]
            refine take_in (i := 11) (v := ?_) rfl (by kernel_rfl) (fun _ _ _ h => h) rfl ?_ hHeld ?_
            rotate_left
            · intro w' hSw; go_simp; all_goals with_reducible rfl
            try simp only [Act.put, List.setIfInBounds_toArray, List.set_cons_zero, List.set_cons_succ]
            refine take_in (i := 12) (v := ?_) rfl (by kernel_rfl) (fun _ _ _ h => h) rfl ?_ hHeld ?_
            rotate_left
            · intro w' hSw; go_simp; all_goals with_reducible rfl
            try simp only [Act.put, List.setIfInBounds_toArray, List.set_cons_zero, List.set_cons_succ]
            refine take_in (i := 13) (v := ?_) rfl (by kernel_rfl) (fun _ _ _ h => h) rfl ?_ hHeld ?_
            rotate_left
            · intro w' hSw; go_simp; all_goals with_reducible rfl
            try simp only [Act.put, List.setIfInBounds_toArray, List.set_cons_zero, List.set_cons_succ]
            refine take_in (i := 14) (v := ?_) rfl (by kernel_rfl) (fun _ _ _ h => h) rfl ?_ hHeld ?_
            rotate_left
            · intro w' hSw; go_simp; all_goals with_reducible rfl
            try simp only [Act.put, List.setIfInBounds_toArray, List.set_cons_zero, List.set_cons_succ]
            refine take_in (i := 15) (v := ?_) rfl (by kernel_rfl) (fun _ _ _ h => h) rfl ?_ hHeld ?_
            rotate_left
            · intro w' hSw; obtain ⟨d0, d1, d2⟩ := HC.out w' hSw; go_simp; all_goals with_reducible rfl
            try simp only [Act.put, List.setIfInBounds_toArray, List.set_cons_zero, List.set_cons_succ]
            refine take_in (i := 16) (v := ?_) rfl (by kernel_rfl) (fun _ _ _ h => h) rfl ?_ hHeld ?_
            rotate_left
            · intro w' hSw; go_simp; all_goals with_reducible rfl
            try simp only [Act.put, List.setIfInBounds_toArray, List.set_cons_zero, List.set_cons_succ]
            refine ready_one (i := 17) rfl (by kernel_rfl) (fun K hK => ?_)
            go_simp
            have ba : Below w5.heap.size w5 (wr.drew.alloc (.cells #[.int .i64 e, .int .i64 lo, .int .i64 lo] 28)) := sa.alloc sa.size _
            refine hK.out _ (wr.drew.alloc (.cells #[.int .i64 e, .int .i64 lo, .int .i64 lo] 28)) ba (fun hHeld => ?_)
            clear hK K ba
            try simp only [Act.put, List.setIfInBounds_toArray, List.set_cons_zero, List.set_cons_succ]
            refine ready_one (i := 18) rfl (by kernel_rfl) (fun K hK => ?_)
            obtain ⟨ga, ca, xa, hruna, hoa, hga, hda⟩ := run_app_b13 wr.drew w5.heap.size wr.heap.size rfl _ _ k hlf.out e lo lo owna (by omega) sa.size
            refine step_append (s := .tmp 50) (x := .tmp 67) rfl rfl hruna ?_
            have ea : Below w5.heap.size w5 xa := sa.grown hga sa.size (fun g hg' => (World.ownsRow.lt owna g hg').1)
            refine hK.out _ xa ea (fun hHeld => ?_)
            clear hK K hruna
            try simp only [Act.put, List.setIfInBounds_toArray, List.set_cons_zero, List.set_cons_succ]
            refine take_in (i := 19) (v := ?_) rfl (by kernel_rfl) (fun _ _ _ h => h) rfl ?_ hHeld ?_
            rotate_left
            · intro w' hSw; go_simp; all_goals with_reducible rfl
            try simp only [Act.put, List.setIfInBounds_toArray, List.set_cons_zero, List.set_cons_succ]
            refine wpAnyH_done (by kernel_rfl) ?_ _
            have HF2 := Lib.hid (RwRel.bid HF.out.1.drew hoa hga hda)
            clear sa owna hoa hga hda ea HF
            go_wp2_with fail
            have sb := HF2.out.2.2.1.drew
            have ownb := (show QOwn xa.drew w5.heap.size _ _ from HF2.out.2.1)
            refine wp_region_held_drew (S := fun w' => Below w5.heap.size w5 w') (by kernel_rfl) sb (fun hHeld => ?_)
            refine take_in (i := 0) (v := ?_) rfl (by kernel_rfl) (fun _ _ _ h => h) rfl ?_ hHeld ?_
            rotate_left
            · intro w' hSw; go_simp; all_goals with_reducible rfl
            try simp only [Act.put, List.setIfInBounds_toArray, List.set_cons_zero, List.set_cons_succ]
            refine take_in (i := 1) (v := ?_) rfl (by kernel_rfl) (fun _ _ _ h => h) rfl ?_ hHeld ?_
            rotate_left
            · intro w' hSw; go_simp; all_goals with_reducible rfl
            try simp only [Act.put, List.setIfInBounds_toArray, List.set_cons_zero, List.set_cons_succ]
            refine take_in (i := 2) (v := ?_) rfl (by kernel_rfl) (fun _ _ _ h => h) rfl ?_ hHeld ?_
            rotate_left
            · intro w' hSw; go_simp; all_goals with_reducible rfl
            try simp only [Act.put, List.setIfInBounds_toArray, List.set_cons_zero, List.set_cons_succ]
            refine take_in (i := 3) (v := ?_) rfl (by kernel_rfl) (fun _ _ _ h => h) rfl ?_ hHeld ?_
            rotate_left
            · intro w' hSw; go_simp; all_goals with_reducible rfl
            try simp only [Act.put, List.setIfInBounds_toArray, List.set_cons_zero, List.set_cons_succ]
            refine take_in (i := 4) (v := ?_) rfl (by kernel_rfl) (fun _ _ _ h => h) rfl ?_ hHeld ?_
            rotate_left
            · intro w' hSw; go_simp; all_goals with_reducible rfl
            try simp only [Act.put, List.setIfInBounds_toArray, List.set_cons_zero, List.set_cons_succ]
            refine take_in (i := 5) (v := ?_) rfl (by kernel_rfl) (fun _ _ _ h => h) rfl ?_ hHeld ?_
            rotate_left
            · intro w' hSw; obtain ⟨d0, d1, d2⟩ := HC.out w' hSw; go_simp; all_goals with_reducible rfl
            try simp only [Act.put, List.setIfInBounds_toArray, List.set_cons_zero, List.set_cons_succ]
            refine take_in (i := 6) (v := ?_) rfl (by kernel_rfl) (fun _ _ _ h => h) rfl ?_ hHeld ?_
            rotate_left
            · intro w' hSw; go_simp; all_goals with_reducible rfl
            try simp only [Act.put, List.setIfInBounds_toArray, List.set_cons_zero, List.set_cons_succ]
            refine take_in (i := 7) (v := ?_) rfl (by kernel_rfl) (fun _ _ _ h => h) rfl ?_ hHeld ?_
            rotate_left
            · intro w' hSw; go_simp; all_goals with_reducible rfl
            try simp only [Act.put, List.setIfInBounds_toArray, List.set_cons_zero, List.set_cons_succ]
            refine take_in (i := 8) (v := ?_) rfl (by kernel_rfl) (fun _ _ _ h => h) rfl ?_ hHeld ?_
            rotate_left
            · intro w' hSw; go_simp; all_goals with_reducible rfl
            try simp only [Act.put, List.setIfInBounds_toArray, List.set_cons_zero, List.set_cons_succ]
            refine take_in (i := 9) (v := ?_) rfl (by kernel_rfl) (fun _ _ _ h => h) rfl ?_ hHeld ?_
            rotate_left
            · intro w' hSw; go_simp; all_goals with_reducible rfl
            try simp only [Act.put, List.setIfInBounds_toArray, List.set_cons_zero, List.set_cons_succ]
            refine take_in (i := 10) (v := ?_) rfl (by kernel_rfl) (fun _ _ _ h => h) rfl ?_ hHeld ?_
            rotate_left
            · intro w' hSw; obtain ⟨d0, d1, d2⟩ := HC.out w' hSw; go_simp; all_goals with_reducible rfl
            try simp only [Act.put, List.setIfInBounds_toArray, List.set_cons_zero, List.set_cons_succ]
            refine take_in (i := 11) (v := ?_) rfl (by kernel_rfl) (fun _ _ _ h => h) rfl ?_ hHeld ?_
            rotate_left
            · intro w' hSw; go_simp; all_goals with_reducible rfl
            try simp only [Act.put, List.setIfInBounds_toArray, List.set_cons_zero, List.set_cons_succ]
            refine ready_one (i := 12) rfl (by kernel_rfl) (fun K hK => ?_)
            go_simp
            have bb : Below w5.heap.size w5 (xa.drew.alloc (.cells #[.int .i64 e, .int .i64 lo] 37)) := sb.alloc sb.size _
            refine hK.out _ (xa.drew.alloc (.cells #[.int .i64 e, .int .i64 lo] 37)) bb (fun hHeld => ?_)
            clear hK K bb
            try simp only [Act.put, List.setIfInBounds_toArray, List.set_cons_zero, List.set_cons_succ]
            refine ready_one (i := 13) rfl (by kernel_rfl) (fun K hK => ?_)
            obtain ⟨gb, cb, xb, hrunb, hob, hgb, hdb⟩ := run_app_q13 xa.drew w5.heap.size xa.heap.size rfl _ _ k hlg.out e lo ownb (by omega) sb.size
            refine step_append (s := .tmp 69) (x := .tmp 81) rfl rfl hrunb ?_
            have eb : Below w5.heap.size w5 xb := sb.grown hgb sb.size (fun g hg' => (World.ownsRow.lt ownb g hg').1)
            refine hK.out _ xb eb (fun hHeld => ?_)
            clear hK K hrunb
            try simp only [Act.put, List.setIfInBounds_toArray, List.set_cons_zero, List.set_cons_succ]
            refine take_in (i := 14) (v := ?_) rfl (by kernel_rfl) (fun _ _ _ h => h) rfl ?_ hHeld ?_
            rotate_left
            · intro w' hSw; go_simp; all_goals with_reducible rfl
            try simp only [Act.put, List.setIfInBounds_toArray, List.set_cons_zero, List.set_cons_succ]
            refine wpAnyH_done (by kernel_rfl) ?_ _
            have HF3 := Lib.hid (RwRel.quote HF2.out.drew hob hgb hdb)
            clear sb ownb hob hgb hdb eb HF2
            have HN : Hid (RnRel w5 (sameF (fun b => b.2.1) bs) (quoF (fun b => b.2.1) bs) (k + 1) (.slice (some ⟨ga, 0, none⟩) (k + 1) ca) (.slice (some ⟨gb, 0, none⟩) (k + 1) cb) xb) := Lib.hid ⟨by
              rw [List.take_add_one, HQF.out, List.take_add_one, HQG.out]
              exact HF3.out, ⟨_, _, rfl⟩, _, _, rfl⟩
            clear HF3
            go_wp2_with fail
            go_roundw
            case rel => exact ⟨k + 1, by go_num, by omega, HN⟩
            case measure => simp [intOf]; omega
          · obtain rfl : k = bs.length := by omega
            have hlt' : decide ((bs.length : Int) < (bs.length : Int)) = false := by simp
            have HWF : Hid (BRd wr (.slice (some ⟨g0, 0, none⟩) bs.length c0) (sameF (fun b => b.2.1) bs)) := Lib.hid (by
              have h := HF.out.1.1.rd bC_len
              rwa [← sameF_len (fun b => b.2.1) bs, List.take_length, sameF_len] at h)
            have HWG : Hid (QRd wr (.slice (some ⟨g1, 0, none⟩) bs.length c1) (quoF (fun b => b.2.1) bs)) := Lib.hid (by
              have h := HF.out.1.2.1.rd qC_len
              rwa [← quoF_len (fun b => b.2.1) bs, List.take_length, quoF_len] at h)
            clear HF
            go_wp2_with fail
            refine (implSidesFair_any wr (n : Int) _ _ HWF.out).mono ?_
            rintro e w6 ⟨rfl, b6⟩
            rw [HSF.out]
            have C6 := Lib.hid (below_step KK.out b6 KK.out.size)
            have HWG6 := Lib.hid (HWG.out.keep (SameAt.of_below b6))
            clear b6
            go_wp2_with fail
            refine (implFairOk_any w6 (n : Int) _ _ HWG6.out).mono ?_
            rintro e w7 ⟨rfl, b7⟩
            rw [HFO.out]
            have C7 := Lib.hid (below_step C6.out b7 C6.out.size)
            clear b7
            cases f
            all_goals
              go_wp2_with fail
              go_ret
              exact ⟨rfl, below_step HB1.out C7.out HB1.out.size⟩
      · have HWO : Hid (winOk (n : Int) bs = false) := Lib.hid hwo
        clear hwo
        have C1 := Lib.hid (Below.refl w1.heap.size w1)
        go_wp2_with fail
        refine (implSidesFair_any w1 (n : Int) _ bs (HV.out w1 C1.out)).mono ?_
        rintro e w2 ⟨rfl, b2⟩
        rw [HT.out]
        have C2 := Lib.hid (below_step C1.out b2 C1.out.size)
        clear b2
        go_wp2_with fail
        refine (specSidesFair_any w2 (n : Int) _ bs (HV.out w2 C2.out)).mono ?_
        rintro e w3 ⟨rfl, b3⟩
        rw [HT.out]
        have C3 := Lib.hid (below_step C2.out b3 C2.out.size)
        clear b3
        go_wp2_with fail
        refine (specBidsOk_any w3 (n : Int) _ bs (HV.out w3 C3.out)).mono ?_
        rintro e w4 ⟨rfl, b4⟩
        rw [HK.out]
        have C4 := Lib.hid (below_step C3.out b4 C3.out.size)
        clear b4
        go_wp2_with fail
        refine (implWinningStakes_any w4 (n : Int) _ bs (HV.out w4 C4.out)).mono ?_
        rintro e w5 ⟨vx, rfl, -, b5⟩
        rw [HWO.out]
        have C5 := Lib.hid (below_step C4.out b5 C4.out.size)
        clear b5
        have H0 : Hid (RnRel w5 (sameF (fun b => b.2.1) bs) (quoF (fun b => b.2.1) bs) 0 (.slice (some ⟨w5.heap.size, 0, none⟩) 0 0) (.slice (some ⟨w5.heap.size + 1, 0, none⟩) 0 0) ((w5.alloc (.cells #[] 28)).alloc (.cells #[] 37))) := Lib.hid ⟨rw_start w5, ⟨_, _, rfl⟩, _, _, rfl⟩
        go_wp2_with fail
        go_loopw [8, 9, 10] (fun p q i wr => ∃ k : Nat, i = .int .i64 (k : Int) ∧ k ≤ bs.length ∧ Hid (RnRel w5 (sameF (fun b => b.2.1) bs) (quoF (fun b => b.2.1) bs) k p q wr)) (fun _ _ i _ => bs.length - (intOf i).toNat)
        case atStart => exact ⟨0, rfl, Nat.zero_le _, H0⟩
        case round =>
          obtain ⟨k, rfl, hk, HF⟩ := hrel
          obtain ⟨-, ⟨g0, c0, rfl⟩, g1, c1, rfl⟩ := id HF.out
          clear H0
          have KK := Lib.hid (below_step C5.out HF.out.1.2.2.1 C5.out.size)
          by_cases hlt : k < bs.length
          · have hlt' : (k : Int) < (bs.length : Int) := by omega
            have hk0 : (0 : Int) ≤ (k : Int) := by omega
            obtain ⟨b, off, ⟨e, lo, hi⟩, rfl, hbb, hx, hc0, hc1, hc2⟩ := BRd.at_ (HV.out wr KK.out) hlt
            have hc0 : wr.cell? ⟨b, off + k * 3, none⟩ = some (.int .i64 e) := hc0
            have hc1 : wr.cell? ⟨b, off + k * 3 + 1, none⟩ = some (.int .i64 lo) := hc1
            have hc2 : wr.cell? ⟨b, off + k * 3 + 2, none⟩ = some (.int .i64 hi) := hc2
            have HC : Hid (∀ w', Below w5.heap.size w5 w' → w'.cell? ⟨b, off + k * 3, none⟩ = some (.int .i64 e) ∧ w'.cell? ⟨b, off + k * 3 + 1, none⟩ = some (.int .i64 lo) ∧ w'.cell? ⟨b, off + k * 3 + 2, none⟩ = some (.int .i64 hi)) := Lib.hid (fun w' h => BRd.cell13 (HV.out w' (below_step C5.out h C5.out.size)) hx)
            have HQF := Lib.hid (sameF_at (fun b => b.2.1) hx)
            have HQG := Lib.hid (quoF_at (fun b => b.2.1) hx)
            have hlf : Hid (((sameF (fun b => b.2.1) bs).take k).length = k) := Lib.hid (by rw [List.length_take, sameF_len]; omega)
            have hlg : Hid (((quoF (fun b => b.2.1) bs).take k).length = k) := Lib.hid (by rw [List.length_take, quoF_len]; omega)
            clear hx
            go_wp2_with fail
            have sa := HF.out.1.2.2.1.drew
            have owna := (show BOwn wr.drew w5.heap.size _ _ from HF.out.1.1)
            refine wp_region_held_drew (S := fun w' => Below w5.heap.size w5 w') (by kernel_rfl) sa (fun hHeld => ?_)
            refine take_in (i := 0) (v := ?_) rfl (by kernel_rfl) (fun _ _ _ h => h) rfl ?_ hHeld ?_
            rotate_left
            · intro w' hSw; go_simp; all_goals with_reducible rfl
            try simp only [Act.put, List.setIfInBounds_toArray, List.set_cons_zero, List.set_cons_succ]
            refine take_in (i := 1) (v := ?_) rfl (by kernel_rfl) (fun _ _ _ h => h) rfl ?_ hHeld ?_
            rotate_left
            · intro w' hSw; go_simp; all_goals with_reducible rfl
            try simp only [Act.put, List.setIfInBounds_toArray, List.set_cons_zero, List.set_cons_succ]
            refine take_in (i := 2) (v := ?_) rfl (by kernel_rfl) (fun _ _ _ h => h) rfl ?_ hHeld ?_
            rotate_left
            · intro w' hSw; go_simp; all_goals with_reducible rfl
            try simp only [Act.put, List.setIfInBounds_toArray, List.set_cons_zero, List.set_cons_succ]
            refine take_in (i := 3) (v := ?_) rfl (by kernel_rfl) (fun _ _ _ h => h) rfl ?_ hHeld ?_
            rotate_left
            · intro w' hSw; go_simp; all_goals with_reducible rfl
            try simp only [Act.put, List.setIfInBounds_toArray, List.set_cons_zero, List.set_cons_succ]
            refine take_in (i := 4) (v := ?_) rfl (by kernel_rfl) (fun _ _ _ h => h) rfl ?_ hHeld ?_
            rotate_left
            · intro w' hSw; go_simp; all_goals with_reducible rfl
            try simp only [Act.put, List.setIfInBounds_toArray, List.set_cons_zero, List.set_cons_succ]
            refine take_in (i := 5) (v := ?_) rfl (by kernel_rfl) (fun _ _ _ h => h) rfl ?_ hHeld ?_
            rotate_left
            · intro w' hSw; obtain ⟨d0, d1, d2⟩ := HC.out w' hSw; go_simp; all_goals with_reducible rfl
            try simp only [Act.put, List.setIfInBounds_toArray, List.set_cons_zero, List.set_cons_succ]
            refine take_in (i := 6) (v := ?_) rfl (by kernel_rfl) (fun _ _ _ h => h) rfl ?_ hHeld ?_
            rotate_left
            · intro w' hSw; go_simp; all_goals with_reducible rfl
            try simp only [Act.put, List.setIfInBounds_toArray, List.set_cons_zero, List.set_cons_succ]
            refine take_in (i := 7) (v := ?_) rfl (by kernel_rfl) (fun _ _ _ h => h) rfl ?_ hHeld ?_
            rotate_left
            · intro w' hSw; go_simp; all_goals with_reducible rfl
            try simp only [Act.put, List.setIfInBounds_toArray, List.set_cons_zero, List.set_cons_succ]
            refine take_in (i := 8) (v := ?_) rfl (by kernel_rfl) (fun _ _ _ h => h) rfl ?_ hHeld ?_
            rotate_left
            · intro w' hSw; go_simp; all_goals with_reducible rfl
            try simp only [Act.put, List.setIfInBounds_toArray, List.set_cons_zero, List.set_cons_succ]
            refine take_in (i := 9) (v := ?_) rfl (by kernel_rfl) (fun _ _ _ h => h) rfl ?_ hHeld ?_
            rotate_left
            · intro w' hSw; go_simp; all_goals with_reducible rfl
            try simp only [Act.put, List.setIfInBounds_toArray, List.set_cons_zero, List.set_cons_succ]
            refine take_in (i := 10) (v := ?_) rfl (by kernel_rfl) (fun _ _ _ h => h) rfl ?_ hHeld ?_
            rotate_left
            · intro w' hSw; obtain ⟨d0, d1, d2⟩ := HC.out w' hSw; go_simp; all_goals with_reducible rfl
            try simp only [Act.put, List.setIfInBounds_toArray, List.set_cons_zero, List.set_cons_succ]
            refine take_in (i := 11) (v := ?_) rfl (by kernel_rfl) (fun _ _ _ h => h) rfl ?_ hHeld ?_
            rotate_left
            · intro w' hSw; go_simp; all_goals with_reducible rfl
            try simp only [Act.put, List.setIfInBounds_toArray, List.set_cons_zero, List.set_cons_succ]
            refine take_in (i := 12) (v := ?_) rfl (by kernel_rfl) (fun _ _ _ h => h) rfl ?_ hHeld ?_
            rotate_left
            · intro w' hSw; go_simp; all_goals with_reducible rfl
            try simp only [Act.put, List.setIfInBounds_toArray, List.set_cons_zero, List.set_cons_succ]
            refine take_in (i := 13) (v := ?_) rfl (by kernel_rfl) (fun _ _ _ h => h) rfl ?_ hHeld ?_
            rotate_left
            · intro w' hSw; go_simp; all_goals with_reducible rfl
            try simp only [Act.put, List.setIfInBounds_toArray, List.set_cons_zero, List.set_cons_succ]
            refine take_in (i := 14) (v := ?_) rfl (by kernel_rfl) (fun _ _ _ h => h) rfl ?_ hHeld ?_
            rotate_left
            · intro w' hSw; go_simp; all_goals with_reducible rfl
            try simp only [Act.put, List.setIfInBounds_toArray, List.set_cons_zero, List.set_cons_succ]
            refine take_in (i := 15) (v := ?_) rfl (by kernel_rfl) (fun _ _ _ h => h) rfl ?_ hHeld ?_
            rotate_left
            · intro w' hSw; obtain ⟨d0, d1, d2⟩ := HC.out w' hSw; go_simp; all_goals with_reducible rfl
            try simp only [Act.put, List.setIfInBounds_toArray, List.set_cons_zero, List.set_cons_succ]
            refine take_in (i := 16) (v := ?_) rfl (by kernel_rfl) (fun _ _ _ h => h) rfl ?_ hHeld ?_
            rotate_left
            · intro w' hSw; go_simp; all_goals with_reducible rfl
            try simp only [Act.put, List.setIfInBounds_toArray, List.set_cons_zero, List.set_cons_succ]
            refine ready_one (i := 17) rfl (by kernel_rfl) (fun K hK => ?_)
            go_simp
            have ba : Below w5.heap.size w5 (wr.drew.alloc (.cells #[.int .i64 e, .int .i64 lo, .int .i64 lo] 28)) := sa.alloc sa.size _
            refine hK.out _ (wr.drew.alloc (.cells #[.int .i64 e, .int .i64 lo, .int .i64 lo] 28)) ba (fun hHeld => ?_)
            clear hK K ba
            try simp only [Act.put, List.setIfInBounds_toArray, List.set_cons_zero, List.set_cons_succ]
            refine ready_one (i := 18) rfl (by kernel_rfl) (fun K hK => ?_)
            obtain ⟨ga, ca, xa, hruna, hoa, hga, hda⟩ := run_app_b13 wr.drew w5.heap.size wr.heap.size rfl _ _ k hlf.out e lo lo owna (by omega) sa.size
            refine step_append (s := .tmp 50) (x := .tmp 67) rfl rfl hruna ?_
            have ea : Below w5.heap.size w5 xa := sa.grown hga sa.size (fun g hg' => (World.ownsRow.lt owna g hg').1)
            refine hK.out _ xa ea (fun hHeld => ?_)
            clear hK K hruna
            try simp only [Act.put, List.setIfInBounds_toArray, List.set_cons_zero, List.set_cons_succ]
            refine take_in (i := 19) (v := ?_) rfl (by kernel_rfl) (fun _ _ _ h => h) rfl ?_ hHeld ?_
            rotate_left
            · intro w' hSw; go_simp; all_goals with_reducible rfl
            try simp only [Act.put, List.setIfInBounds_toArray, List.set_cons_zero, List.set_cons_succ]
            refine wpAnyH_done (by kernel_rfl) ?_ _
            have HF2 := Lib.hid (RwRel.bid HF.out.1.drew hoa hga hda)
            clear sa owna hoa hga hda ea HF
            go_wp2_with fail
            have sb := HF2.out.2.2.1.drew
            have ownb := (show QOwn xa.drew w5.heap.size _ _ from HF2.out.2.1)
            refine wp_region_held_drew (S := fun w' => Below w5.heap.size w5 w') (by kernel_rfl) sb (fun hHeld => ?_)
            refine take_in (i := 0) (v := ?_) rfl (by kernel_rfl) (fun _ _ _ h => h) rfl ?_ hHeld ?_
            rotate_left
            · intro w' hSw; go_simp; all_goals with_reducible rfl
            try simp only [Act.put, List.setIfInBounds_toArray, List.set_cons_zero, List.set_cons_succ]
            refine take_in (i := 1) (v := ?_) rfl (by kernel_rfl) (fun _ _ _ h => h) rfl ?_ hHeld ?_
            rotate_left
            · intro w' hSw; go_simp; all_goals with_reducible rfl
            try simp only [Act.put, List.setIfInBounds_toArray, List.set_cons_zero, List.set_cons_succ]
            refine take_in (i := 2) (v := ?_) rfl (by kernel_rfl) (fun _ _ _ h => h) rfl ?_ hHeld ?_
            rotate_left
            · intro w' hSw; go_simp; all_goals with_reducible rfl
            try simp only [Act.put, List.setIfInBounds_toArray, List.set_cons_zero, List.set_cons_succ]
            refine take_in (i := 3) (v := ?_) rfl (by kernel_rfl) (fun _ _ _ h => h) rfl ?_ hHeld ?_
            rotate_left
            · intro w' hSw; go_simp; all_goals with_reducible rfl
            try simp only [Act.put, List.setIfInBounds_toArray, List.set_cons_zero, List.set_cons_succ]
            refine take_in (i := 4) (v := ?_) rfl (by kernel_rfl) (fun _ _ _ h => h) rfl ?_ hHeld ?_
            rotate_left
            · intro w' hSw; go_simp; all_goals with_reducible rfl
            try simp only [Act.put, List.setIfInBounds_toArray, List.set_cons_zero, List.set_cons_succ]
            refine take_in (i := 5) (v := ?_) rfl (by kernel_rfl) (fun _ _ _ h => h) rfl ?_ hHeld ?_
            rotate_left
            · intro w' hSw; obtain ⟨d0, d1, d2⟩ := HC.out w' hSw; go_simp; all_goals with_reducible rfl
            try simp only [Act.put, List.setIfInBounds_toArray, List.set_cons_zero, List.set_cons_succ]
            refine take_in (i := 6) (v := ?_) rfl (by kernel_rfl) (fun _ _ _ h => h) rfl ?_ hHeld ?_
            rotate_left
            · intro w' hSw; go_simp; all_goals with_reducible rfl
            try simp only [Act.put, List.setIfInBounds_toArray, List.set_cons_zero, List.set_cons_succ]
            refine take_in (i := 7) (v := ?_) rfl (by kernel_rfl) (fun _ _ _ h => h) rfl ?_ hHeld ?_
            rotate_left
            · intro w' hSw; go_simp; all_goals with_reducible rfl
            try simp only [Act.put, List.setIfInBounds_toArray, List.set_cons_zero, List.set_cons_succ]
            refine take_in (i := 8) (v := ?_) rfl (by kernel_rfl) (fun _ _ _ h => h) rfl ?_ hHeld ?_
            rotate_left
            · intro w' hSw; go_simp; all_goals with_reducible rfl
            try simp only [Act.put, List.setIfInBounds_toArray, List.set_cons_zero, List.set_cons_succ]
            refine take_in (i := 9) (v := ?_) rfl (by kernel_rfl) (fun _ _ _ h => h) rfl ?_ hHeld ?_
            rotate_left
            · intro w' hSw; go_simp; all_goals with_reducible rfl
            try simp only [Act.put, List.setIfInBounds_toArray, List.set_cons_zero, List.set_cons_succ]
            refine take_in (i := 10) (v := ?_) rfl (by kernel_rfl) (fun _ _ _ h => h) rfl ?_ hHeld ?_
            rotate_left
            · intro w' hSw; obtain ⟨d0, d1, d2⟩ := HC.out w' hSw; go_simp; all_goals with_reducible rfl
            try simp only [Act.put, List.setIfInBounds_toArray, List.set_cons_zero, List.set_cons_succ]
            refine take_in (i := 11) (v := ?_) rfl (by kernel_rfl) (fun _ _ _ h => h) rfl ?_ hHeld ?_
            rotate_left
            · intro w' hSw; go_simp; all_goals with_reducible rfl
            try simp only [Act.put, List.setIfInBounds_toArray, List.set_cons_zero, List.set_cons_succ]
            refine ready_one (i := 12) rfl (by kernel_rfl) (fun K hK => ?_)
            go_simp
            have bb : Below w5.heap.size w5 (xa.drew.alloc (.cells #[.int .i64 e, .int .i64 lo] 37)) := sb.alloc sb.size _
            refine hK.out _ (xa.drew.alloc (.cells #[.int .i64 e, .int .i64 lo] 37)) bb (fun hHeld => ?_)
            clear hK K bb
            try simp only [Act.put, List.setIfInBounds_toArray, List.set_cons_zero, List.set_cons_succ]
            refine ready_one (i := 13) rfl (by kernel_rfl) (fun K hK => ?_)
            obtain ⟨gb, cb, xb, hrunb, hob, hgb, hdb⟩ := run_app_q13 xa.drew w5.heap.size xa.heap.size rfl _ _ k hlg.out e lo ownb (by omega) sb.size
            refine step_append (s := .tmp 69) (x := .tmp 81) rfl rfl hrunb ?_
            have eb : Below w5.heap.size w5 xb := sb.grown hgb sb.size (fun g hg' => (World.ownsRow.lt ownb g hg').1)
            refine hK.out _ xb eb (fun hHeld => ?_)
            clear hK K hrunb
            try simp only [Act.put, List.setIfInBounds_toArray, List.set_cons_zero, List.set_cons_succ]
            refine take_in (i := 14) (v := ?_) rfl (by kernel_rfl) (fun _ _ _ h => h) rfl ?_ hHeld ?_
            rotate_left
            · intro w' hSw; go_simp; all_goals with_reducible rfl
            try simp only [Act.put, List.setIfInBounds_toArray, List.set_cons_zero, List.set_cons_succ]
            refine wpAnyH_done (by kernel_rfl) ?_ _
            have HF3 := Lib.hid (RwRel.quote HF2.out.drew hob hgb hdb)
            clear sb ownb hob hgb hdb eb HF2
            have HN : Hid (RnRel w5 (sameF (fun b => b.2.1) bs) (quoF (fun b => b.2.1) bs) (k + 1) (.slice (some ⟨ga, 0, none⟩) (k + 1) ca) (.slice (some ⟨gb, 0, none⟩) (k + 1) cb) xb) := Lib.hid ⟨by
              rw [List.take_add_one, HQF.out, List.take_add_one, HQG.out]
              exact HF3.out, ⟨_, _, rfl⟩, _, _, rfl⟩
            clear HF3
            go_wp2_with fail
            go_roundw
            case rel => exact ⟨k + 1, by go_num, by omega, HN⟩
            case measure => simp [intOf]; omega
          · obtain rfl : k = bs.length := by omega
            have hlt' : decide ((bs.length : Int) < (bs.length : Int)) = false := by simp
            have HWF : Hid (BRd wr (.slice (some ⟨g0, 0, none⟩) bs.length c0) (sameF (fun b => b.2.1) bs)) := Lib.hid (by
              have h := HF.out.1.1.rd bC_len
              rwa [← sameF_len (fun b => b.2.1) bs, List.take_length, sameF_len] at h)
            have HWG : Hid (QRd wr (.slice (some ⟨g1, 0, none⟩) bs.length c1) (quoF (fun b => b.2.1) bs)) := Lib.hid (by
              have h := HF.out.1.2.1.rd qC_len
              rwa [← quoF_len (fun b => b.2.1) bs, List.take_length, quoF_len] at h)
            clear HF
            go_wp2_with fail
            refine (implSidesFair_any wr (n : Int) _ _ HWF.out).mono ?_
            rintro e w6 ⟨rfl, b6⟩
            rw [HSF.out]
            have C6 := Lib.hid (below_step KK.out b6 KK.out.size)
            have HWG6 := Lib.hid (HWG.out.keep (SameAt.of_below b6))
            clear b6
            go_wp2_with fail
            refine (implFairOk_any w6 (n : Int) _ _ HWG6.out).mono ?_
            rintro e w7 ⟨rfl, b7⟩
            rw [HFO.out]
            have C7 := Lib.hid (below_step C6.out b7 C6.out.size)
            clear b7
            cases f
            all_goals
              go_wp2_with fail
              go_ret
              exact ⟨rfl, below_step HB1.out C7.out HB1.out.size⟩
    · have HK := Lib.hid hk
      have HT := Lib.hid (sfair_nob hk)
      clear hk
      have C1 := Lib.hid (Below.refl w1.heap.size w1)
      go_wp2_with fail
      refine (implSidesFair_any w1 (n : Int) _ bs (HV.out w1 C1.out)).mono ?_
      rintro e w2 ⟨rfl, b2⟩
      rw [HT.out]
      have C2 := Lib.hid (below_step C1.out b2 C1.out.size)
      clear b2
      go_wp2_with fail
      refine (specSidesFair_any w2 (n : Int) _ bs (HV.out w2 C2.out)).mono ?_
      rintro e w3 ⟨rfl, b3⟩
      rw [HT.out]
      have C3 := Lib.hid (below_step C2.out b3 C2.out.size)
      clear b3
      go_wp2_with fail
      refine (specBidsOk_any w3 (n : Int) _ bs (HV.out w3 C3.out)).mono ?_
      rintro e w4 ⟨rfl, b4⟩
      rw [HK.out]
      have C4 := Lib.hid (below_step C3.out b4 C3.out.size)
      clear b4
      go_wp2_with fail
      refine (alive_any _).mono ?_
      rintro e w' ⟨rfl, rfl⟩

      go_wp2_with fail
      go_ret
      exact ⟨rfl, below_step HB1.out C4.out HB1.out.size⟩

/-- what the law of SidesOn wants -/
theorem sides_law {n : Nat} {bs : List Bt} {x : Int} (h : soB (n : Int) bs x = true) :
    soB (n : Int) bs (notI (n : Int) x) = true ∧ soL (n : Int) bs x + soM (n : Int) bs (notI (n : Int) x) = 36 ∧ soM (n : Int) bs x + soL (n : Int) bs (notI (n : Int) x) = 36 ∧ soL (n : Int) bs x ≤ soM (n : Int) bs x ∧
    sfairB (n : Int) bs = true ∧ (0 ≤ leastB (n : Int) (quoF (fun b => b.2.1) bs) x → soL (n : Int) bs x ≤ leastB (n : Int) (quoF (fun b => b.2.1) bs) x ∧ mostB (n : Int) (quoF (fun b => b.2.1) bs) x ≤ soM (n : Int) bs x) := by
  by_cases hc : bidsB (n : Int) bs = true ∧ evB (n : Int) x = true
  · obtain ⟨hb, he⟩ := hc
    obtain ⟨w1, w4⟩ := ((bidsB_iff _ _).1 hb).1
    have hn1 : 1 ≤ n := by omega
    have hne := ev_not he
    have ha : anyS n bs = true := (so_any hb he).symm.trans h
    have hnn : notI (n : Int) (notI (n : Int) x) = x := by rw [notI_eq hne, notI_eq he]; omega
    have e1 := sleast_most hn1 ha he
    have e2 := sleast_most hn1 ha hne
    rw [hnn] at e2
    obtain ⟨⟨l, hl, el⟩, hle, -⟩ := sleast_some ha x
    obtain ⟨⟨m, hm, em⟩, hmo⟩ := smost_some ha x
    have y1 := so_yes hb he
    have y2 := so_yes hb hne
    refine ⟨(so_any hb hne).trans ha, by rw [y1.1, y2.2]; exact e1, by rw [y1.2, y2.1]; omega, by rw [y1.1, y1.2]; have := hle m hm; omega, by rw [sfairB, hb, Int.toNat_natCast, ha]; rfl, fun h0 => ?_⟩
    have hok := (same_ok hb (lo_between hb)).2
    rw [leastB_yes hok he] at h0 ⊢
    rw [mostB_yes hok he, y1.1, y1.2]
    rcases Bool.eq_false_or_eq_true (anyFit n (quoF (fun b => b.2.1) bs)) with hf | hf
    · have sub : ∀ l, FitL n (quoF (fun b => b.2.1) bs) l → SFitL n bs l := by
        intro l hl
        refine ⟨hl.1, ?_⟩
        have h2 := hl.2
        rw [sfitI_iff]
        rw [fitI_iff] at h2
        intro b hbm
        have h3 : onI (natL l) b.1 = 6 * b.2.1 := h2 (b.1, b.2.1) (List.mem_map.2 ⟨b, hbm, rfl⟩)
        have := lo_between hb b hbm
        omega
      obtain ⟨⟨l2, hl2, el2⟩, -, -⟩ := least_some hf x
      obtain ⟨⟨m2, hm2, em2⟩, -⟩ := most_some hf x
      have := hle l2 (sub l2 hl2)
      have := hmo m2 (sub m2 hm2)
      omega
    · rw [least_none hf] at h0; omega
  · rw [(so_no hc).2.2] at h; cases h

theorem sides_no {n : Nat} {bs : List Bt} {x : Int} (h : soB (n : Int) bs x = false) : soL (n : Int) bs x = -1 ∧ soM (n : Int) bs x = -1 := by
  by_cases hc : bidsB (n : Int) bs = true ∧ evB (n : Int) x = true
  · obtain ⟨hb, he⟩ := hc
    have ha : anyS n bs = false := (so_any hb he).symm.trans h
    rw [(so_yes hb he).1, (so_yes hb he).2, sleast_none ha, smost_none ha]
    exact ⟨rfl, rfl⟩
  · exact ⟨(so_no hc).1, (so_no hc).2.1⟩

set_option maxRecDepth 100000 in
set_option maxHeartbeats 8000000 in
theorem FnSidesOn_walk (a0 : Option Addr) (len0 cap0 : Nat) (z0 : List Int) (w : World) (w0 : IsRowC .u8 w a0 len0 cap0 z0) :
    Calls Try.prog 8 #[.slice a0 len0 cap0] w fun e w' => e = .returned (.bool true) ∧ Below w.heap.size w w' := by
  by_cases hlen : 1048576 < len0
  · clear w0
    go_enter Try.func8, Try.ntmps8
    go_wp2
    go_ret
    exact ⟨rfl, Below.refl _ _⟩
  · have hlen' : decide (1048576 < len0) = false := by simpa using hlen
    go_enter Try.func8, Try.ntmps8
    go_wp2_with fail
    refine (drawSidesOn_any _ _ _ _ _ w0).mono ?_
    rintro e w1 ⟨n, v, bs, x, rfl, ⟨n1, n4⟩, ov, hl4, ⟨x0, x1⟩, B1⟩
    have HB1 := Lib.hid B1
    obtain ⟨A, c, rfl, hl, hmx⟩ := (ov.rd bC_len).form
    have HV : Hid (∀ wr, Below w1.heap.size w1 wr → BRd wr (.slice A bs.length c) bs) := Lib.hid (fun wr hb => (ov.rd bC_len).keep (SameAt.of_below hb))
    clear ov B1 w0
    rcases Bool.eq_false_or_eq_true (soB (n : Int) bs x) with ht | ht
    · obtain ⟨t2, s1, s2, s3, s4, s5⟩ := sides_law ht
      obtain ⟨⟨l0, l1⟩, m0, m1⟩ := so_bound ht
      obtain ⟨⟨l2, l3⟩, m2, m3⟩ := so_bound t2
      obtain ⟨l, hl'⟩ : ∃ l, soL (n : Int) bs x = l := ⟨_, rfl⟩
      obtain ⟨m, hm'⟩ : ∃ m, soM (n : Int) bs x = m := ⟨_, rfl⟩
      obtain ⟨a, ha'⟩ : ∃ a, soL (n : Int) bs (notI (n : Int) x) = a := ⟨_, rfl⟩
      obtain ⟨z2, hz2⟩ : ∃ z, soM (n : Int) bs (notI (n : Int) x) = z := ⟨_, rfl⟩
      obtain ⟨y, hy⟩ : ∃ y, leastB (n : Int) (quoF (fun b => b.2.1) bs) x = y := ⟨_, rfl⟩
      obtain ⟨z, hz⟩ : ∃ z, mostB (n : Int) (quoF (fun b => b.2.1) bs) x = z := ⟨_, rfl⟩
      have HT := Lib.hid ht
      have HT2 := Lib.hid t2
      have HL := Lib.hid hl'
      have HM := Lib.hid hm'
      have HL2 := Lib.hid ha'
      have HM2 := Lib.hid hz2
      have HX := Lib.hid hy
      have HZ := Lib.hid hz
      have HSF := Lib.hid s4
      rw [hl', hz2] at s1
      rw [hm', ha'] at s2
      rw [hl', hm'] at s3
      rw [hl', hm', hy, hz] at s5
      have HIN := Lib.hid s5
      rw [hl'] at l0 l1
      rw [hm'] at m0 m1
      rw [ha'] at l2 l3
      rw [hz2] at m2 m3
      have q1 : IntKind.i64.wrap (l + z2) = 36 := by rw [s1]; exact IntWalk.i64_in _ (by omega)
      have q2 : IntKind.i64.wrap (m + a) = 36 := by rw [s2]; exact IntWalk.i64_in _ (by omega)
      clear ht t2 hl' hm' ha' hz2 hy hz s1 s2 s4 s5
      have C1 := Lib.hid (Below.refl w1.heap.size w1)
      go_wp2_with fail
      refine (implSidesOn_any w1 (n : Int) _ bs x (HV.out w1 C1.out)).mono ?_
      rintro e w2 ⟨rfl, b2⟩
      rw [HL.out, HM.out, HT.out]
      have C2 := Lib.hid (below_step C1.out b2 C1.out.size)
      clear b2
      go_wp2_with fail
      refine (specSidesOn_any w2 (n : Int) _ bs x (HV.out w2 C2.out)).mono ?_
      rintro e w3 ⟨rfl, b3⟩
      rw [HL.out, HM.out, HT.out]
      have C3 := Lib.hid (below_step C2.out b3 C2.out.size)
      clear b3
      go_wp2_with fail
      refine (implNotEvent_any _ x _).mono ?_
      rintro e w' ⟨rfl, rfl⟩

      go_wp2_with fail
      refine (implSidesOn_any w3 (n : Int) _ bs (notI (n : Int) x) (HV.out w3 C3.out)).mono ?_
      rintro e w4 ⟨rfl, b4⟩
      rw [HL2.out, HM2.out, HT2.out]
      have C4 := Lib.hid (below_step C3.out b4 C3.out.size)
      clear b4
      have H0 := Lib.hid (qi_start w4 (quoF (fun b => b.2.1) bs))
      go_wp2_with fail
      go_loopw [15, 16] (fun p i wr => ∃ k : Nat, i = .int .i64 (k : Int) ∧ k ≤ bs.length ∧ Hid (QiRel w4 (quoF (fun b => b.2.1) bs) k p wr)) (fun _ i _ => bs.length - (intOf i).toNat)
      case atStart => exact ⟨0, rfl, Nat.zero_le _, H0⟩
      case round =>
        obtain ⟨k, rfl, hk, HF⟩ := hrel
        obtain ⟨g0, c0, rfl⟩ := HF.out.2.2
        clear H0
        have KK := Lib.hid (below_step C4.out HF.out.2.1 C4.out.size)
        by_cases hlt : k < bs.length
        · have hlt' : (k : Int) < (bs.length : Int) := by omega
          have hk0 : (0 : Int) ≤ (k : Int) := by omega
          obtain ⟨b, off, ⟨e, lo, hi⟩, rfl, hbb, hx, hc0, hc1, hc2⟩ := BRd.at_ (HV.out wr KK.out) hlt
          have hc0 : wr.cell? ⟨b, off + k * 3, none⟩ = some (.int .i64 e) := hc0
          have hc1 : wr.cell? ⟨b, off + k * 3 + 1, none⟩ = some (.int .i64 lo) := hc1
          have hc2 : wr.cell? ⟨b, off + k * 3 + 2, none⟩ = some (.int .i64 hi) := hc2
          have HC : Hid (∀ w', Below w4.heap.size w4 w' → w'.cell? ⟨b, off + k * 3, none⟩ = some (.int .i64 e) ∧ w'.cell? ⟨b, off + k * 3 + 1, none⟩ = some (.int .i64 lo) ∧ w'.cell? ⟨b, off + k * 3 + 2, none⟩ = some (.int .i64 hi)) := Lib.hid (fun w' h => BRd.cell13 (HV.out w' (below_step C4.out h C4.out.size)) hx)
          have HQG := Lib.hid (quoF_at (fun b => b.2.1) hx)
          have hlg : Hid (((quoF (fun b => b.2.1) bs).take k).length = k) := Lib.hid (by rw [List.length_take, quoF_len]; omega)
          clear hx
          go_wp2_with fail
          have sa := HF.out.2.1.drew
          have owna := (show QOwn wr.drew w4.heap.size _ _ from HF.out.1)
          refine wp_region_held_drew (S := fun w' => Below w4.heap.size w4 w') (by kernel_rfl) sa (fun hHeld => ?_)
          refine take_in (i := 0) (v := ?_) rfl (by kernel_rfl) (fun _ _ _ h => h) rfl ?_ hHeld ?_
          rotate_left
          · intro w' hSw; go_simp; all_goals with_reducible rfl
          try simp only [Act.put, List.setIfInBounds_toArray, List.set_cons_zero, List.set_cons_succ]
          refine take_in (i := 1) (v := ?_) rfl (by kernel_rfl) (fun _ _ _ h => h) rfl ?_ hHeld ?_
          rotate_left
          · intro w' hSw; go_simp; all_goals with_reducible rfl
          try simp only [Act.put, List.setIfInBounds_toArray, List.set_cons_zero, List.set_cons_succ]
          refine take_in (i := 2) (v := ?_) rfl (by kernel_rfl) (fun _ _ _ h => h) rfl ?_ hHeld ?_
          rotate_left
          · intro w' hSw; go_simp; all_goals with_reducible rfl
          try simp only [Act.put, List.setIfInBounds_toArray, List.set_cons_zero, List.set_cons_succ]
          refine take_in (i := 3) (v := ?_) rfl (by kernel_rfl) (fun _ _ _ h => h) rfl ?_ hHeld ?_
          rotate_left
          · intro w' hSw; go_simp; all_goals with_reducible rfl
          try simp only [Act.put, List.setIfInBounds_toArray, List.set_cons_zero, List.set_cons_succ]
          refine take_in (i := 4) (v := ?_) rfl (by kernel_rfl) (fun _ _ _ h => h) rfl ?_ hHeld ?_
          rotate_left
          · intro w' hSw; go_simp; all_goals with_reducible rfl
          try simp only [Act.put, List.setIfInBounds_toArray, List.set_cons_zero, List.set_cons_succ]
          refine take_in (i := 5) (v := ?_) rfl (by kernel_rfl) (fun _ _ _ h => h) rfl ?_ hHeld ?_
          rotate_left
          · intro w' hSw; obtain ⟨d0, d1, d2⟩ := HC.out w' hSw; go_simp; all_goals with_reducible rfl
          try simp only [Act.put, List.setIfInBounds_toArray, List.set_cons_zero, List.set_cons_succ]
          refine take_in (i := 6) (v := ?_) rfl (by kernel_rfl) (fun _ _ _ h => h) rfl ?_ hHeld ?_
          rotate_left
          · intro w' hSw; go_simp; all_goals with_reducible rfl
          try simp only [Act.put, List.setIfInBounds_toArray, List.set_cons_zero, List.set_cons_succ]
          refine take_in (i := 7) (v := ?_) rfl (by kernel_rfl) (fun _ _ _ h => h) rfl ?_ hHeld ?_
          rotate_left
          · intro w' hSw; go_simp; all_goals with_reducible rfl
          try simp only [Act.put, List.setIfInBounds_toArray, List.set_cons_zero, List.set_cons_succ]
          refine take_in (i := 8) (v := ?_) rfl (by kernel_rfl) (fun _ _ _ h => h) rfl ?_ hHeld ?_
          rotate_left
          · intro w' hSw; go_simp; all_goals with_reducible rfl
          try simp only [Act.put, List.setIfInBounds_toArray, List.set_cons_zero, List.set_cons_succ]
          refine take_in (i := 9) (v := ?_) rfl (by kernel_rfl) (fun _ _ _ h => h) rfl ?_ hHeld ?_
          rotate_left
          · intro w' hSw; go_simp; all_goals with_reducible rfl
          try simp only [Act.put, List.setIfInBounds_toArray, List.set_cons_zero, List.set_cons_succ]
          refine take_in (i := 10) (v := ?_) rfl (by kernel_rfl) (fun _ _ _ h => h) rfl ?_ hHeld ?_
          rotate_left
          · intro w' hSw; obtain ⟨d0, d1, d2⟩ := HC.out w' hSw; go_simp; all_goals with_reducible rfl
          try simp only [Act.put, List.setIfInBounds_toArray, List.set_cons_zero, List.set_cons_succ]
          refine take_in (i := 11) (v := ?_) rfl (by kernel_rfl) (fun _ _ _ h => h) rfl ?_ hHeld ?_
          rotate_left
          · intro w' hSw; go_simp; all_goals with_reducible rfl
          try simp only [Act.put, List.setIfInBounds_toArray, List.set_cons_zero, List.set_cons_succ]
          refine ready_one (i := 12) rfl (by kernel_rfl) (fun K hK => ?_)
          go_simp
          have ba : Below w4.heap.size w4 (wr.drew.alloc (.cells #[.int .i64 e, .int .i64 lo] 37)) := sa.alloc sa.size _
          refine hK.out _ (wr.drew.alloc (.cells #[.int .i64 e, .int .i64 lo] 37)) ba (fun hHeld => ?_)
          clear hK K ba
          try simp only [Act.put, List.setIfInBounds_toArray, List.set_cons_zero, List.set_cons_succ]
          refine ready_one (i := 13) rfl (by kernel_rfl) (fun K hK => ?_)
          obtain ⟨ga, ca, xa, hruna, hoa, hga, hda⟩ := run_app_q13 wr.drew w4.heap.size wr.heap.size rfl _ _ k hlg.out e lo owna (by omega) sa.size
          refine step_append (s := .tmp 84) (x := .tmp 96) rfl rfl hruna ?_
          have ea : Below w4.heap.size w4 xa := sa.grown hga sa.size (fun g hg' => (World.ownsRow.lt owna g hg').1)
          refine hK.out _ xa ea (fun hHeld => ?_)
          clear hK K hruna
          try simp only [Act.put, List.setIfInBounds_toArray, List.set_cons_zero, List.set_cons_succ]
          refine take_in (i := 14) (v := ?_) rfl (by kernel_rfl) (fun _ _ _ h => h) rfl ?_ hHeld ?_
          rotate_left
          · intro w' hSw; go_simp; all_goals with_reducible rfl
          try simp only [Act.put, List.setIfInBounds_toArray, List.set_cons_zero, List.set_cons_succ]
          refine wpAnyH_done (by kernel_rfl) ?_ _
          have HN := Lib.hid (HF.out.drew.step HQG.out hoa hga)
          clear sa owna hoa hga hda ea HF
          go_wp2_with fail
          go_roundw
          case rel => exact ⟨k + 1, by go_num, by omega, HN⟩
          case measure => simp [intOf]; omega
        · obtain rfl : k = bs.length := by omega
          have hlt' : decide ((bs.length : Int) < (bs.length : Int)) = false := by simp
          have HWG : Hid (QRd wr (.slice (some ⟨g0, 0, none⟩) bs.length c0) (quoF (fun b => b.2.1) bs)) := Lib.hid (by
            have h := HF.out.1.rd qC_len
            rwa [← quoF_len (fun b => b.2.1) bs, List.take_length, quoF_len] at h)
          clear HF
          go_wp2_with fail
          refine (implLeastOn_any wr (n : Int) _ _ x HWG.out).mono ?_
          rintro e w6 ⟨rfl, b6⟩
          rw [HX.out]
          have C6 := Lib.hid (below_step KK.out b6 KK.out.size)
          have HWG6 := Lib.hid (HWG.out.keep (SameAt.of_below b6))
          clear b6
          by_cases hy0 : y < 0
          · go_wp2_with fail
            refine (implSidesFair_any w6 (n : Int) _ bs (HV.out w6 C6.out)).mono ?_
            rintro e w7 ⟨rfl, b7⟩
            rw [HSF.out]
            have C7 := Lib.hid (below_step C6.out b7 C6.out.size)
            clear b7
            go_wp2_with fail
            go_ret
            exact ⟨rfl, below_step HB1.out C7.out HB1.out.size⟩
          · have hy0' : decide (y < 0) = false := decide_eq_false hy0
            obtain ⟨hly, hzm⟩ := HIN.out (by omega)
            go_wp2_with fail
            refine (implSidesFair_any w6 (n : Int) _ bs (HV.out w6 C6.out)).mono ?_
            rintro e w7 ⟨rfl, b7⟩
            rw [HSF.out]
            have C7 := Lib.hid (below_step C6.out b7 C6.out.size)
            have HWG7 := Lib.hid (HWG6.out.keep (SameAt.of_below b7))
            clear b7
            go_wp2_with fail
            refine (implMostOn_any w7 (n : Int) _ _ x HWG7.out).mono ?_
            rintro e w8 ⟨rfl, b8⟩
            rw [HZ.out]
            have C8 := Lib.hid (below_step C7.out b8 C7.out.size)
            clear b8
            go_wp2_with fail
            go_ret
            exact ⟨rfl, below_step HB1.out C8.out HB1.out.size⟩
    · obtain ⟨k1, k2⟩ := sides_no ht
      have HT := Lib.hid ht
      have HL := Lib.hid k1
      have HM := Lib.hid k2
      clear ht k1 k2
      have C1 := Lib.hid (Below.refl w1.heap.size w1)
      go_wp2_with fail
      refine (implSidesOn_any w1 (n : Int) _ bs x (HV.out w1 C1.out)).mono ?_
      rintro e w2 ⟨rfl, b2⟩
      rw [HL.out, HM.out, HT.out]
      have C2 := Lib.hid (below_step C1.out b2 C1.out.size)
      clear b2
      go_wp2_with fail
      refine (specSidesOn_any w2 (n : Int) _ bs x (HV.out w2 C2.out)).mono ?_
      rintro e w3 ⟨rfl, b3⟩
      rw [HL.out, HM.out, HT.out]
      have C3 := Lib.hid (below_step C2.out b3 C2.out.size)
      clear b3
      go_wp2_with fail
      refine (alive_any _).mono ?_
      rintro e w' ⟨rfl, rfl⟩

      go_wp2_with fail
      go_ret
      exact ⟨rfl, below_step HB1.out C3.out HB1.out.size⟩

end Go.Proofs.Ytodmgcbcacblbaa
