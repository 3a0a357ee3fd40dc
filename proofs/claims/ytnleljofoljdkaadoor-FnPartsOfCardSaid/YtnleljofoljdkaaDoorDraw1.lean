/- What is drawn for PartsOf. Condition: a row of bytes that came in. -/
import Derived.Test.YtnleljofoljdkaaDoorRow
import Derived.Test.YtnleljofoljdkaaDoorRd3
import Derived.Test.YtnleljofoljdkaaDoorParts5
namespace Go.Proofs.YtnleljofoljdkaaDoor
open Go.RowKit
set_option linter.unusedVariables false

def OddPost (R P : Nat) (w : World) (e : Ending) (w' : World) : Prop := ∃ b : Bool, e = .returned (.bool b) ∧ Picked R P w w'

set_option maxHeartbeats 400000 in
theorem odd_any (w : World) (R P : Nat) (n : Int) (hn : 1 ≤ n) (hn2 : n ≤ 1000000) (hP : P ≤ 1000000) (h : Rd w R P) :
    Calls Tryd.prog 19 #[.pointer (some ⟨R, 0, none⟩), .int .i64 n] w (OddPost R (P + 1) w) := by
  have hn0 : 0 < n := by omega
  go_enter Tryd.func19, Tryd.ntmps19
  go_wp2_with fail
  refine (pick_any _ R P _ hP h).mono ?_
  rintro e w2 ⟨v1, rfl, -, k1⟩
  go_wp2_with fail
  go_ret
  exact ⟨_, rfl, k1⟩

/-- what the loop of draws keeps: the reader, the row behind it, all that was there -/
def DrawRel (w : World) (R P : Nat) (v : Value) (xs : List Int) (wr : World) : Prop := Rd wr R P ∧ IOwn wr (R + 1) v xs ∧ Below w.heap.size w wr ∧ w.heap.size ≤ R

theorem DrawRel.picked {w wr w' : World} {R P Q : Nat} {v : Value} {xs : List Int} (h : DrawRel w R P v xs wr) (k : Picked R Q wr w') : DrawRel w R Q v xs w' := by
  obtain ⟨h1, h2, h3, h4⟩ := h
  refine ⟨k.rd, h2.keep (SameAt.of_grown k.grown ?_), h3.trans (k.below h4 h1.lt), h4⟩
  rcases hv : v.ownBlock with _ | g
  · exact .inl rfl
  · refine .inr fun e => ?_
    have := (h2.ge g hv).1
    injection e with e
    omega

theorem DrawRel.append {w wr w' : World} {R P : Nat} {v v' : Value} {xs ys : List Int} (h : DrawRel w R P v xs wr) (ho : IOwn w' (R + 1) v' ys) (hg : wr.grownBy w' v.ownBlock) : DrawRel w R P v' ys w' := by
  obtain ⟨h1, h2, h3, h4⟩ := h
  have hr := h1.lt
  exact ⟨h1.grown hg (fun g hg' => by have := (h2.ge g hg').1; omega), ho, h3.grown hg (by omega) (fun g hg' => by have := (h2.ge g hg').1; omega), h4⟩

def DrawList (w : World) (e : Ending) (w' : World) : Prop := ∃ (n : Int) (v : Value) (xs : List Int), e = .returned (.tuple #[.int .i64 n, v]) ∧ IRd w' v xs ∧ xs.length ≤ 10 ∧ 0 ≤ n ∧ n ≤ 5 ∧ Below w.heap.size w w'

set_option maxHeartbeats 4000000 in
theorem drawPartsOf_any (w : World) (a : Option Addr) (len cap : Nat) (zs : List Int) (h : IsRowC .u8 w a len cap zs) :
    Calls Tryd.prog 5 #[.slice a len cap] w (DrawList w) := by
  obtain ⟨i0, hi, hz0, hz1, hz2⟩ := info_parts Try_intinfo
  go_enter Tryd.func5, Tryd.ntmps5
  go_wp2_with fail
  refine (open_any w a len cap zs h).mono ?_
  rintro e w1 ⟨rfl, ho⟩
  go_wp2_with fail
  refine (l20Worlds_any _ w.heap.size 0 (by decide) ho.rd).mono ?_
  rintro e w2 ⟨x, y, rfl, x1, x2, -, -, k1⟩
  have H2 : Hid (DrawRel w w.heap.size 6 (.slice (some ⟨w2.heap.size, 0, none⟩) 0 0) [] (w2.alloc (.cells #[] 3))) := Lib.hid (by
    have hs : w2.heap.size = w.heap.size + 1 := by have := k1.size; have := ho.size; omega
    refine ⟨k1.rd.keep (by simp) (fun b hb => Below.heap_alloc w2 _ b hb), ?_, (ho.picked k1).alloc (by omega) _, Nat.le_refl _⟩
    exact World.ownsRow_lit w2 #[] 0 (by omega) (by unfold maxLen; omega) rfl)
  clear ho k1 h
  go_wp2_with fail
  refine (pick_any _ w.heap.size 6 _ (by decide) H2.out.1).mono ?_
  rintro e w3 ⟨v1, rfl, ⟨p1, p2, -⟩, k1⟩
  have p2 := p2 (by decide)
  have H3 := Lib.hid (H2.out.picked k1)
  clear H2 k1
  go_wp2_with fail
  refine (pick_any _ w.heap.size 7 _ (by decide) H3.out.1).mono ?_
  rintro e w4 ⟨v2, rfl, ⟨p3, p4, -⟩, k1⟩
  have p4 := p4 (by decide)
  have H4 := Lib.hid (H3.out.picked k1)
  clear H3 k1
  obtain rfl | rfl | rfl | rfl | rfl | rfl : x = 0 ∨ x = 1 ∨ x = 2 ∨ x = 3 ∨ x = 4 ∨ x = 5 := by omega
  all_goals
    clear x1 x2
    go_wp2_with fail
    go_loopw [7, 8] (fun l c wr => ∃ (k P : Nat) (xs : List Int), c = .int .i64 k ∧ k + xs.length ≤ 9 ∧ P + k ≤ 17 ∧ Hid (DrawRel w w.heap.size P l xs wr)) (fun _ c _ => (intOf c).toNat)
    case atStart => exact ⟨(v1 + v2 / 39 * 6).toNat, 8, [], by rw [Int.toNat_of_nonneg (by omega)], by simp; omega, by omega, H4⟩
    case round =>
      obtain ⟨k, P, xs, rfl, hk, hP, HR⟩ := hrel
      clear H4
      by_cases hk0 : 0 < k
      · have hk0' : (0 : Int) < (k : Int) := by omega
        go_wp2_with fail
        refine (pick_any _ w.heap.size P _ (by omega) HR.out.1).mono ?_
        rintro e w5 ⟨v3, rfl, -, k1⟩
        have H5 := Lib.hid (HR.out.picked k1)
        clear k1
        have hown0 := H5.out.2.1
        unfold IOwn at hown0
        have hown := Lib.hid (World.ownsRow.alloc (w := w5) hown0 (.cells #[.int .i64 v3] 3))
        have hsz := H5.out.1.lt
        clear hown0
        go_wp2_with (at_builtin; refine wpList_append_own _ rfl _ _ 23 rfl (w.heap.size + 1) 3 i0 (.int .i64 0) 1 8 Tryd.underlying23 hi hz0 hz1 hz2 rfl (by decide) _ _ _ rfl hown.out ⟨w5.heap.size, 0, none⟩ 1 1 [.int .i64 v3] rfl rfl ?c1 one_int ?c3 ?c4 ?c5 ?_)
        case c1 => exact one_new w5 _ _
        case c3 => unfold maxLen; omega
        case c4 => omega
        case c5 => simp; omega
        intro v' w' hown' hgrow _
        have HO := Lib.hid (show IOwn w' (w.heap.size + 1) v' (xs ++ [v3]) from by simpa [IOwn] using hown')
        have HL := Lib.hid (H5.out.append HO.out (grown_after (w := w5) ((Below.refl _ w5).alloc (Nat.le_refl _) _) hgrow))
        clear hown' hgrow
        go_wp2_with fail
        go_roundw
        case rel => exact ⟨k - 1, P + 1, xs ++ [v3], by (first | go_num | (congr 1; omega)), by simp; omega, by omega, HL⟩
        case measure => simp [intOf]; omega
      · have hk0' : (k : Int) ≤ 0 := by omega
        go_wp2_with fail
        refine (odd_any _ w.heap.size P _ (by decide) (by decide) (by omega) HR.out.1).mono ?_
        rintro e w5 ⟨b, rfl, k1⟩
        have H5 := Lib.hid (HR.out.picked k1)
        clear k1
        have hown0 := H5.out.2.1
        unfold IOwn at hown0
        have hown := Lib.hid (World.ownsRow.alloc (w := w5) hown0 (.cells #[.int .i64 16] 3))
        have hsz := H5.out.1.lt
        clear hown0
        cases b
        · go_wp2_with fail
          go_ret2
          exact ⟨_, _, _, rfl, H5.out.2.1.rd, by omega, by decide, by decide, H5.out.2.2.1⟩
        · go_wp2_with (at_builtin; refine wpList_append_own _ rfl _ _ 23 rfl (w.heap.size + 1) 3 i0 (.int .i64 0) 1 8 Tryd.underlying23 hi hz0 hz1 hz2 rfl (by decide) _ _ _ rfl hown.out ⟨w5.heap.size, 0, none⟩ 1 1 [.int .i64 16] rfl rfl ?c1 one_int ?c3 ?c4 ?c5 ?_)
          case c1 => exact one_new w5 _ _
          case c3 => unfold maxLen; omega
          case c4 => omega
          case c5 => simp; omega
          intro v' w' hown' hgrow _
          have HO := Lib.hid (show IOwn w' (w.heap.size + 1) v' (xs ++ [16]) from by simpa [IOwn] using hown')
          have HL := Lib.hid (H5.out.append HO.out (grown_after (w := w5) ((Below.refl _ w5).alloc (Nat.le_refl _) _) hgrow))
          clear hown' hgrow
          go_wp2_with fail
          go_ret2
          exact ⟨_, _, _, rfl, HL.out.2.1.rd, by simp; omega, by decide, by decide, HL.out.2.2.1⟩

end Go.Proofs.YtnleljofoljdkaaDoor
