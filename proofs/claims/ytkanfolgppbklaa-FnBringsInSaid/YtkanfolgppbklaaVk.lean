/- What is drawn of bets: DrawBringsIn. Conditions: a row of bytes that came in. -/
import Derived.Test.YtkanfolgppbklaaUf
import Derived.Test.YtkanfolgppbklaaUg
import Derived.Test.YtkanfolgppbklaaDt
import Derived.Test.YtkanfolgppbklaaRh
namespace Go.Proofs.Ytkanfolgppbklaa
open Go.RowKit
set_option linter.unusedVariables false

/-- the reader, and behind it a row of bets -/
def BDraw (w : World) (P : Nat) (v : Value) (bs : List Bt) (wr : World) : Prop := Rd wr w.heap.size P ∧ BOwn wr (w.heap.size + 1) v bs ∧ Below w.heap.size w wr ∧ w.heap.size + 1 ≤ wr.heap.size

theorem BDraw.picked {w wr w' : World} {P Q : Nat} {v : Value} {bs : List Bt} (h : BDraw w P v bs wr) (k : Picked w.heap.size Q wr w') : BDraw w Q v bs w' := by
  obtain ⟨h1, h2, h3, h4⟩ := h
  refine ⟨k.rd, h2.keep (SameAt.of_grown k.grown ?_), h3.trans (k.below (Nat.le_refl _) h1.lt), by rw [k.size]; exact h4⟩
  rcases hv : v.ownBlock with _ | g
  · exact .inl rfl
  · refine .inr fun e => ?_
    have := (h2.ge g hv).1
    injection e with e
    omega

theorem BDraw.alloc {w wr : World} {P : Nat} {v : Value} {bs : List Bt} (h : BDraw w P v bs wr) (o : Obj) : BDraw w P v bs (wr.alloc o) := by
  obtain ⟨h1, h2, h3, h4⟩ := h
  exact ⟨h1.keep (by simp) (fun b hb => Below.heap_alloc wr _ b hb), h2.keep (SameAt.of_below ((Below.refl _ wr).alloc (Nat.le_refl _) _)), h3.alloc h3.size _, by simp; omega⟩

theorem BDraw.append {w wr w' : World} {P : Nat} {v v' : Value} {bs ys : List Bt} (h : BDraw w P v bs wr) (ho : BOwn w' (w.heap.size + 1) v' ys) (hg : wr.grownBy w' v.ownBlock) : BDraw w P v' ys w' := by
  obtain ⟨h1, h2, h3, h4⟩ := h
  exact ⟨h1.grown hg (fun g hg' => by have := (h2.ge g hg').1; omega), ho, h3.grown hg h3.size (fun g hg' => by have := (h2.ge g hg').1; omega), Nat.le_trans h4 hg.size⟩

theorem BDraw.start {w w1 : World} (ho : Opened w w1) : BDraw w 0 (.slice (some ⟨w1.heap.size, 0, none⟩) 0 0) [] (w1.alloc (.cells #[] 30)) :=
  ⟨ho.rd.keep (by simp) (fun b hb => Below.heap_alloc w1 _ b hb), lit_none w1 _ (by have := ho.size; omega), ho.below.alloc ho.below.size _, by have := ho.size; simp; omega⟩

theorem three_one {a b c : Int} : ∀ u ∈ [Value.int .i64 a, .int .i64 b, .int .i64 c], u.oneCell' = true := by
  intro u hu
  simp only [List.mem_cons, List.not_mem_nil, or_false] at hu
  rcases hu with rfl | rfl | rfl <;> rfl

/-- bets and a world that were drawn -/
def DrawBets (w : World) (e : Ending) (w' : World) : Prop := ∃ (v : Value) (bs : List Bt) (u : Int), e = .returned (.tuple #[v, .int .i64 u]) ∧ BOwn w' w.heap.size v bs ∧ bs.length ≤ 4 ∧ -1 ≤ u ∧ u ≤ 4 ∧ Below w.heap.size w w'

theorem BDraw.bets {w wr : World} {P : Nat} {v : Value} {bs : List Bt} (h : BDraw w P v bs wr) : BOwn wr w.heap.size v bs ∧ Below w.heap.size w wr := ⟨h.2.1.base (by omega), h.2.2.1⟩

set_option maxRecDepth 100000 in
set_option maxHeartbeats 8000000 in
theorem drawBringsIn_any (w : World) (a : Option Addr) (len cap : Nat) (zs : List Int) (h : IsRowC .u8 w a len cap zs) :
    Calls Try.prog 6 #[.slice a len cap] w (DrawBets w) := by
  obtain ⟨j0, hj, hy0, hy1, hy2⟩ := info_parts Try_betinfo
  go_enter Try.func6, Try.ntmps6
  go_wp2_with fail
  refine (open_any w a len cap zs h).mono ?_
  rintro e w1 ⟨rfl, ho⟩
  have H0 := Lib.hid (BDraw.start ho)
  clear ho
  go_wp2_with fail
  refine (pick_any _ w.heap.size 0 _ (by decide) H0.out.1).mono ?_
  rintro e w2 ⟨v1, rfl, ⟨p1, p2, -⟩, k1⟩
  have p2 := p2 (by decide)
  have H2 := Lib.hid (H0.out.picked k1)
  clear k1 H0
  obtain ⟨N, rfl⟩ : ∃ N : Nat, v1 = N := ⟨v1.toNat, by omega⟩
  have hN : N ≤ 3 := by omega
  clear p1 p2
  go_wp2_with fail
  go_loopw [5, 6] (fun p c wr => ∃ (k Q : Nat) (bs : List Bt), c = .int .i64 (k : Int) ∧ k ≤ N ∧ Q + 3 * k ≤ 10 ∧ Hid (bs.length + k ≤ 3) ∧ Hid (BDraw w Q p bs wr)) (fun _ c _ => (intOf c).toNat)
  case atStart => exact ⟨N, 1, [], rfl, Nat.le_refl _, by omega, Lib.hid (by simp; omega), H2⟩
  case round =>
    obtain ⟨k, Q, bs, rfl, hk, hQ, HL, HR⟩ := hrel
    clear H2
    by_cases hlt : 0 < k
    · have hlt' : (0 : Int) < (k : Int) := by omega
      go_wp2_with fail
      refine (pick_any _ w.heap.size (Q) _ (by omega) HR.out.1).mono ?_
      rintro e w3 ⟨v2, rfl, ⟨p3a, p3b, -⟩, k1⟩
      have p3b := p3b (by decide)
      have H3 := Lib.hid (HR.out.picked k1)
      clear k1 HR
      go_wp2_with fail
      refine (pick_any _ w.heap.size (Q + 1) _ (by omega) H3.out.1).mono ?_
      rintro e w4 ⟨v3, rfl, ⟨p4a, p4b, -⟩, k1⟩
      have p4b := p4b (by decide)
      have H4 := Lib.hid (H3.out.picked k1)
      clear k1 H3
      go_wp2_with fail
      refine (pick_any _ w.heap.size (Q + 2) _ (by omega) H4.out.1).mono ?_
      rintro e w5 ⟨v4, rfl, ⟨p5a, p5b, -⟩, k1⟩
      have p5b := p5b (by decide)
      have H5 := Lib.hid (H4.out.picked k1)
      clear k1 H4
      have hlb : bs.length ≤ 3 := by have := HL.out; omega
      have hown := Lib.hid (World.ownsRow.alloc (w := w5) (show w5.ownsRow (w.heap.size + 1) 30 3 _ bs.length (bs.flatMap bC) from H5.out.2.1) (.cells #[.int .i64 v2, .int .i64 v3, .int .i64 (v4 - 3)] 30))
      have hsz := H5.out.2.2.2
      go_wp2_with (at_builtin; refine wpList_append_own _ rfl _ _ 23 rfl (w.heap.size + 1) 30 j0 (.agg #[.int .i64 0, .int .i64 0, .int .i64 0]) 3 24 Try.underlying23 hj hy0 hy1 hy2 rfl (by decide) _ _ _ rfl hown.out ⟨w5.heap.size, 0, none⟩ 1 1 [.int .i64 v2, .int .i64 v3, .int .i64 (v4 - 3)] rfl rfl ?m1a three_one ?m1b ?m1c ?m1d ?_)
      case m1a => exact World.news_of_block (heap_alloc_new w5 _)
      case m1b => unfold maxLen; omega
      case m1c => omega
      case m1d => rw [World.size_alloc]; omega
      intro v' w' hown' hgrow _
      have HN := Lib.hid (BDraw.append (wr := w5) H5.out (show BOwn w' (w.heap.size + 1) v' (bs ++ [(v2, v3, (v4 - 3))]) from by simpa [GOwn, bC] using hown') (grown_after (w := w5) ((Below.refl _ w5).alloc (Nat.le_refl _) _) hgrow))
      clear hown' hgrow hown
      clear hlb
      go_wp2_with fail
      have hk1 : ((k - 1 : Nat) : Int) = (k : Int) - 1 := by omega
      go_roundw
      case rel => exact ⟨k - 1, Q + 3, _, by rw [hk1], by omega, by omega, Lib.hid (by have := HL.out; simp; omega), HN⟩
      case measure => simp [intOf]; omega
    · obtain rfl : k = 0 := by omega
      have hlb : bs.length ≤ 3 := by have := HL.out; omega
      go_wp2_with fail
      refine (odd_any _ w.heap.size Q _ (by decide) (by decide) (by omega) HR.out.1).mono ?_
      rintro e z1 ⟨b, rfl, k1⟩
      have H3 := Lib.hid (HR.out.picked k1)
      clear k1 HR
      cases b
      · go_wp2_with fail
        refine (pick_any _ w.heap.size (Q + 1) _ (by omega) H3.out.1).mono ?_
        rintro e y1 ⟨t1, rfl, ⟨a1a, a1b, -⟩, k1⟩
        have a1b := a1b (by decide)
        have L1 := Lib.hid (H3.out.picked k1)
        clear k1 H3
        go_wp2_with fail
        refine (pick_any _ w.heap.size (Q + 1 + 1) _ (by omega) L1.out.1).mono ?_
        rintro e y2 ⟨t2, rfl, ⟨a2a, a2b, -⟩, k1⟩
        have a2b := a2b (by decide)
        have L2 := Lib.hid (L1.out.picked k1)
        clear k1 L1
        go_wp2_with fail
        go_ret2
        exact ⟨_, _, _, rfl, L2.out.bets.1, by first | omega | (simp; omega), by omega, by omega, L2.out.bets.2⟩
      · have H4 := Lib.hid (H3.out.alloc (.cells #[.int .i64 16, .int .i64 0, .int .i64 0, .int .i64 0, .int .i64 37, .int .i64 0, .int .i64 0, .int .i64 0, .int .i64 10] 30))
        have KB := Lib.hid (blk_alloc z1 #[.int .i64 16, .int .i64 0, .int .i64 0, .int .i64 0, .int .i64 37, .int .i64 0, .int .i64 0, .int .i64 0, .int .i64 10] 30)
        have HNE : Hid (z1.heap.size ≠ w.heap.size) := Lib.hid (by have := H3.out.2.2.2; omega)
        clear H3
        go_wp2_with fail
        refine (pick_any _ w.heap.size (Q + 1) _ (by omega) H4.out.1).mono ?_
        rintro e z2 ⟨v2, rfl, ⟨p3a, p3b, -⟩, k1⟩
        have p3b := p3b (by decide)
        have H5 := Lib.hid (H4.out.picked k1)
        have HKB := Lib.hid (KB.out.picked k1 HNE.out)
        clear k1 H4 KB
        obtain rfl | rfl | rfl : v2 = 0 ∨ v2 = 1 ∨ v2 = 2 := by omega
        · obtain ⟨⟨hs0, hs1, hs2⟩, hne⟩ : (z2.cell? ⟨z1.heap.size, 0, none⟩ = some (.int .i64 16) ∧ z2.cell? ⟨z1.heap.size, 1, none⟩ = some (.int .i64 0) ∧ z2.cell? ⟨z1.heap.size, 2, none⟩ = some (.int .i64 0)) ∧ True := ⟨⟨HKB.out.cell 0, HKB.out.cell 1, HKB.out.cell 2⟩, trivial⟩
          have hown := Lib.hid (World.ownsRow.alloc (w := z2) (show z2.ownsRow (w.heap.size + 1) 30 3 _ bs.length (bs.flatMap bC) from H5.out.2.1) (.cells #[.int .i64 16, .int .i64 0, .int .i64 0] 30))
          have hsz := H5.out.2.2.2
          go_wp2_with (at_builtin; refine wpList_append_own _ rfl _ _ 23 rfl (w.heap.size + 1) 30 j0 (.agg #[.int .i64 0, .int .i64 0, .int .i64 0]) 3 24 Try.underlying23 hj hy0 hy1 hy2 rfl (by decide) _ _ _ rfl hown.out ⟨z2.heap.size, 0, none⟩ 1 1 [.int .i64 16, .int .i64 0, .int .i64 0] rfl rfl ?m2a three_one ?m2b ?m2c ?m2d ?_)
          case m2a => exact World.news_of_block (heap_alloc_new z2 _)
          case m2b => unfold maxLen; omega
          case m2c => omega
          case m2d => rw [World.size_alloc]; omega
          intro v' w' hown' hgrow _
          have HN := Lib.hid (BDraw.append (wr := z2) H5.out (show BOwn w' (w.heap.size + 1) v' (bs ++ [(16, 0, 0)]) from by simpa [GOwn, bC] using hown') (grown_after (w := z2) ((Below.refl _ z2).alloc (Nat.le_refl _) _) hgrow))
          clear hown' hgrow hown
          go_wp2_with fail
          refine (pick_any _ w.heap.size (Q + 2) _ (by omega) HN.out.1).mono ?_
          rintro e y1 ⟨t1, rfl, ⟨a1a, a1b, -⟩, k1⟩
          have a1b := a1b (by decide)
          have L1 := Lib.hid (HN.out.picked k1)
          clear k1 HN
          go_wp2_with fail
          refine (pick_any _ w.heap.size (Q + 2 + 1) _ (by omega) L1.out.1).mono ?_
          rintro e y2 ⟨t2, rfl, ⟨a2a, a2b, -⟩, k1⟩
          have a2b := a2b (by decide)
          have L2 := Lib.hid (L1.out.picked k1)
          clear k1 L1
          go_wp2_with fail
          go_ret2
          exact ⟨_, _, _, rfl, L2.out.bets.1, by first | omega | (simp; omega), by omega, by omega, L2.out.bets.2⟩
        · obtain ⟨⟨hs0, hs1, hs2⟩, hne⟩ : (z2.cell? ⟨z1.heap.size, 3, none⟩ = some (.int .i64 0) ∧ z2.cell? ⟨z1.heap.size, 4, none⟩ = some (.int .i64 37) ∧ z2.cell? ⟨z1.heap.size, 5, none⟩ = some (.int .i64 0)) ∧ True := ⟨⟨HKB.out.cell 3, HKB.out.cell 4, HKB.out.cell 5⟩, trivial⟩
          have hown := Lib.hid (World.ownsRow.alloc (w := z2) (show z2.ownsRow (w.heap.size + 1) 30 3 _ bs.length (bs.flatMap bC) from H5.out.2.1) (.cells #[.int .i64 0, .int .i64 37, .int .i64 0] 30))
          have hsz := H5.out.2.2.2
          go_wp2_with (at_builtin; refine wpList_append_own _ rfl _ _ 23 rfl (w.heap.size + 1) 30 j0 (.agg #[.int .i64 0, .int .i64 0, .int .i64 0]) 3 24 Try.underlying23 hj hy0 hy1 hy2 rfl (by decide) _ _ _ rfl hown.out ⟨z2.heap.size, 0, none⟩ 1 1 [.int .i64 0, .int .i64 37, .int .i64 0] rfl rfl ?m3a three_one ?m3b ?m3c ?m3d ?_)
          case m3a => exact World.news_of_block (heap_alloc_new z2 _)
          case m3b => unfold maxLen; omega
          case m3c => omega
          case m3d => rw [World.size_alloc]; omega
          intro v' w' hown' hgrow _
          have HN := Lib.hid (BDraw.append (wr := z2) H5.out (show BOwn w' (w.heap.size + 1) v' (bs ++ [(0, 37, 0)]) from by simpa [GOwn, bC] using hown') (grown_after (w := z2) ((Below.refl _ z2).alloc (Nat.le_refl _) _) hgrow))
          clear hown' hgrow hown
          go_wp2_with fail
          refine (pick_any _ w.heap.size (Q + 2) _ (by omega) HN.out.1).mono ?_
          rintro e y1 ⟨t1, rfl, ⟨a1a, a1b, -⟩, k1⟩
          have a1b := a1b (by decide)
          have L1 := Lib.hid (HN.out.picked k1)
          clear k1 HN
          go_wp2_with fail
          refine (pick_any _ w.heap.size (Q + 2 + 1) _ (by omega) L1.out.1).mono ?_
          rintro e y2 ⟨t2, rfl, ⟨a2a, a2b, -⟩, k1⟩
          have a2b := a2b (by decide)
          have L2 := Lib.hid (L1.out.picked k1)
          clear k1 L1
          go_wp2_with fail
          go_ret2
          exact ⟨_, _, _, rfl, L2.out.bets.1, by first | omega | (simp; omega), by omega, by omega, L2.out.bets.2⟩
        · obtain ⟨⟨hs0, hs1, hs2⟩, hne⟩ : (z2.cell? ⟨z1.heap.size, 6, none⟩ = some (.int .i64 0) ∧ z2.cell? ⟨z1.heap.size, 7, none⟩ = some (.int .i64 0) ∧ z2.cell? ⟨z1.heap.size, 8, none⟩ = some (.int .i64 10)) ∧ True := ⟨⟨HKB.out.cell 6, HKB.out.cell 7, HKB.out.cell 8⟩, trivial⟩
          have hown := Lib.hid (World.ownsRow.alloc (w := z2) (show z2.ownsRow (w.heap.size + 1) 30 3 _ bs.length (bs.flatMap bC) from H5.out.2.1) (.cells #[.int .i64 0, .int .i64 0, .int .i64 10] 30))
          have hsz := H5.out.2.2.2
          go_wp2_with (at_builtin; refine wpList_append_own _ rfl _ _ 23 rfl (w.heap.size + 1) 30 j0 (.agg #[.int .i64 0, .int .i64 0, .int .i64 0]) 3 24 Try.underlying23 hj hy0 hy1 hy2 rfl (by decide) _ _ _ rfl hown.out ⟨z2.heap.size, 0, none⟩ 1 1 [.int .i64 0, .int .i64 0, .int .i64 10] rfl rfl ?m4a three_one ?m4b ?m4c ?m4d ?_)
          case m4a => exact World.news_of_block (heap_alloc_new z2 _)
          case m4b => unfold maxLen; omega
          case m4c => omega
          case m4d => rw [World.size_alloc]; omega
          intro v' w' hown' hgrow _
          have HN := Lib.hid (BDraw.append (wr := z2) H5.out (show BOwn w' (w.heap.size + 1) v' (bs ++ [(0, 0, 10)]) from by simpa [GOwn, bC] using hown') (grown_after (w := z2) ((Below.refl _ z2).alloc (Nat.le_refl _) _) hgrow))
          clear hown' hgrow hown
          go_wp2_with fail
          refine (pick_any _ w.heap.size (Q + 2) _ (by omega) HN.out.1).mono ?_
          rintro e y1 ⟨t1, rfl, ⟨a1a, a1b, -⟩, k1⟩
          have a1b := a1b (by decide)
          have L1 := Lib.hid (HN.out.picked k1)
          clear k1 HN
          go_wp2_with fail
          refine (pick_any _ w.heap.size (Q + 2 + 1) _ (by omega) L1.out.1).mono ?_
          rintro e y2 ⟨t2, rfl, ⟨a2a, a2b, -⟩, k1⟩
          have a2b := a2b (by decide)
          have L2 := Lib.hid (L1.out.picked k1)
          clear k1 L1
          go_wp2_with fail
          go_ret2
          exact ⟨_, _, _, rfl, L2.out.bets.1, by first | omega | (simp; omega), by omega, by omega, L2.out.bets.2⟩

end Go.Proofs.Ytkanfolgppbklaa
