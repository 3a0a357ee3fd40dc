/- Contracts on the walk over measures: spec: CountMeasures, l4Units, FairOk, MixedMeasure. Conditions: stated at each. -/
import Derived.Test.YtpldhdidobggdaaMd
import Derived.Test.YtpldhdidobggdaaGf
namespace Go.Proofs.Ytpldhdidobggdaa
open Go.RowKit
set_option linter.unusedVariables false

/-- how many of the first d fit -/
def cntI (n : Nat) (qs : List Qt) (d : Nat) : Int := ((((lay n 36).take d).filter fun l => fitI (natL l) qs).length : Nat)

theorem cnt_step {n : Nat} {qs : List Qt} {d : Nat} {l : List Nat} (h : (lay n 36)[d]? = some l) : cntI n qs (d + 1) = cntI n qs d + (if fitI (natL l) qs = true then 1 else 0) := by
  unfold cntI
  rw [List.take_add_one, h, List.filter_append]
  cases hf : fitI (natL l) qs <;> simp [hf]

theorem cnt_le (n : Nat) (qs : List Qt) (d : Nat) : 0 ≤ cntI n qs d ∧ cntI n qs d ≤ d := by
  have h1 : (((lay n 36).take d).filter fun l => fitI (natL l) qs).length ≤ d := Nat.le_trans (List.length_filter_le _ _) (by simp; omega)
  unfold cntI; omega

/-- how many measures fit; -1 for others -/
def countI (n : Int) (qs : List Qt) : Int := if bokB n qs = true then (countFit n.toNat qs : Int) else -1

theorem count_yes {n : Nat} {qs : List Qt} (h : bokB (n : Int) qs = true) {d : Nat} (hd : (lay n 36).length ≤ d) : countI n qs = cntI n qs d := by
  rw [countI, if_pos h, Int.toNat_natCast, cntI, List.take_of_length_le hd]; rfl

theorem count_no {n : Int} {qs : List Qt} (h : bokB n qs = false) : countI n qs = -1 := by rw [countI, h]; rfl

end Go.Proofs.Ytpldhdidobggdaa
