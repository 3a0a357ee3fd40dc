/- What is drawn for chapter 3: stakes; a book; both. Conditions: a row of bytes that came in. -/
import Derived.Test.YtpldhdidobggdaaDv
namespace Go.Proofs.Ytpldhdidobggdaa
open Go.RowKit
set_option linter.unusedVariables false

def StakesR (w : World) (R P : Nat) (e : Ending) (w' : World) : Prop := ∃ v xs, e = .returned v ∧ GamRel w R P v xs w' ∧ xs.length ≤ 8

set_option maxHeartbeats 4000000 in
theorem l20Stakes_any (w : World) (R P n : Nat) (hP : P ≤ 10000) (h : Rd w R P) (hn : n ≤ 4) :
    Calls Try.prog 42 #[.pointer (some ⟨R, 0, none⟩), .int .i64 (n : Int)] w (StakesR w R (P + 20)) := by
  have H0 := Lib.hid (GamRel.start h)
  clear h
  obtain ⟨i0, hi, hz0, hz1, hz2⟩ := info_parts Try_intinfo
  go_enter Try.func42, Try.ntmps42
  go_wp2_with fail
  go_loopw [5, 6] (fun p i wr => ∃ (k Q : Nat) (xs : List Int), i = .int .i64 (k : Int) ∧ k ≤ n + 1 ∧ Q ≤ P + 3 * k ∧ xs.length = k ∧ Hid (GamRel w R Q p xs wr)) (fun _ i _ => n + 1 - (intOf i).toNat)
  case atStart => exact ⟨0, P, [], rfl, by omega, by omega, rfl, H0⟩
  case round =>
    obtain ⟨k, Q, xs, rfl, hk, hQ, hl, HR⟩ := hrel
    clear H0
    go_wp2_with fail
    refine (pick_any _ R Q _ (by omega) HR.out.1).mono ?_
    rintro e w4 ⟨v1, rfl, ⟨p1, p2, -⟩, k1⟩
    have p2 := p2 (by decide)
    have H4 := Lib.hid (HR.out.picked k1)
    clear k1 HR
    obtain ⟨d, hd⟩ : ∃ d, v1 / 29 = d := ⟨_, rfl⟩
    have hd0 : 0 ≤ d := by omega
    have hd1 : d ≤ 1 := by omega
    by_cases hlt : (k : Int) < (n : Int) + d
    · go_wp2_with fail
      refine (pick_any _ R (Q + 1) _ (by omega) H4.out.1).mono ?_
      rintro e w5 ⟨v2, rfl, ⟨p3, p4, -⟩, k1⟩
      have p4 := p4 (by decide)
      have H5 := Lib.hid (H4.out.picked k1)
      clear k1 H4
      go_wp2_with fail
      refine (pick_any _ R (Q + 2) _ (by omega) H5.out.1).mono ?_
      rintro e w6 ⟨v3, rfl, ⟨p5, p6, -⟩, k1⟩
      have p6 := p6 (by decide)
      have H6 := Lib.hid (H5.out.picked k1)
      clear k1 H5
      have hown0 := H6.out.2.1
      unfold IOwn at hown0
      have hown := Lib.hid (World.ownsRow.alloc (w := w6) hown0 (.cells #[.int .i64 (v2 - 2 + v3 / 39 * 9)] 3))
      have hsz := H6.out.2.2.1.size
      clear hown0
      go_wp2_with (at_builtin; refine wpList_append_own _ rfl _ _ 24 rfl w.heap.size 3 i0 (.int .i64 0) 1 8 Try.underlying24 hi hz0 hz1 hz2 rfl (by decide) _ _ _ rfl hown.out ⟨w6.heap.size, 0, none⟩ 1 1 [.int .i64 (v2 - 2 + v3 / 39 * 9)] rfl rfl ?c1 one_int ?c3 ?c4 ?c5 ?_)
      case c1 => exact one_new w6 _ _
      case c3 => unfold maxLen; omega
      case c4 => omega
      case c5 => simp; omega
      intro v' w' hown' hgrow _
      have HL := Lib.hid (H6.out.append (show IOwn w' w.heap.size v' (xs ++ [v2 - 2 + v3 / 39 * 9]) from by simpa [IOwn, hl] using hown') (grown_after (w := w6) ((Below.refl _ w6).alloc (Nat.le_refl _) _) hgrow))
      clear hown' hgrow hown
      go_wp2_with fail
      go_roundw
      case rel => exact ⟨k + 1, Q + 3, xs ++ [v2 - 2 + v3 / 39 * 9], by go_num, by omega, by omega, by simp; omega, HL⟩
      case measure => simp [intOf]; omega
    · have hge : (n : Int) + d ≤ (k : Int) := by omega
      go_wp2_with fail
      go_ret
      exact ⟨_, _, rfl, ⟨H4.out.1.mono (by omega), H4.out.2⟩, by omega⟩

/-- a number of worlds and a book -/
def DrawBk (w : World) (e : Ending) (w' : World) : Prop := ∃ (x : Int) (v : Value) (qs : List Qt), e = .returned (.tuple #[.int .i64 x, v]) ∧ QOwn w' w.heap.size v qs ∧ qs.length ≤ 4 ∧ Below w.heap.size w w'

/-- a number of worlds, a book, and stakes -/
def DrawBal (w : World) (e : Ending) (w' : World) : Prop := ∃ (x : Int) (v u : Value) (qs : List Qt) (ss : List Int), e = .returned (.tuple #[.int .i64 x, v, u]) ∧ QOwn w' w.heap.size v qs ∧ IOwn w' w.heap.size u ss ∧ qs.length ≤ 4 ∧ ss.length ≤ 8 ∧ Below w.heap.size w w'

end Go.Proofs.Ytpldhdidobggdaa
