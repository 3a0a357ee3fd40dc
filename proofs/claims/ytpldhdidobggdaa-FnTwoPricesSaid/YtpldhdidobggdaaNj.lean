/- Contract of the program's FairOk. Conditions: a row of quotes that reads as a list. -/
import Derived.Test.YtpldhdidobggdaaNi
namespace Go.Proofs.Ytpldhdidobggdaa
open Go.RowKit
set_option linter.unusedVariables false

theorem first_fair (n : Int) (qs : List Qt) : firstB n qs = fairB n qs := by
  rw [firstB, fairB, first_any]

set_option maxHeartbeats 1000000 in
theorem implFairOk_any (w : World) (n : Int) (v : Value) (qs : List Qt) (hv : QRd w v qs) :
    Calls Try.prog 15 #[.int .i64 n, v] w (BoolPost (fairB n qs) w) := by
  obtain ⟨A, c, rfl, hl, hmx⟩ := hv.form
  have HV := Lib.hid hv
  clear hv
  go_enter Try.func15, Try.ntmps15
  go_wp2_with fail
  refine (implFirstMeasure_any w n _ qs HV.out).mono ?_
  rintro r w2 ⟨u, rfl, o2, b2⟩
  have HB := Lib.hid b2
  clear b2 o2
  rw [first_fair]
  obtain ⟨t, ht⟩ : ∃ t, fairB n qs = t := ⟨_, rfl⟩
  rw [ht]
  have HT := Lib.hid ht
  clear ht
  go_wp2_with fail
  go_ret
  exact ⟨ret_bool HT.out.symm, HB.out⟩

end Go.Proofs.Ytpldhdidobggdaa
