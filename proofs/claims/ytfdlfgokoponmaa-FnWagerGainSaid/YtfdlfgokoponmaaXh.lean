/- spec.l9Held, spec.l9Text, spec.TermText. Conditions: rows that read as lists of marks; texts of at most a million bytes. -/
import Derived.Test.YtfdlfgokoponmaaXe
import Derived.Laws.Concat
namespace Go.Proofs.Ytfdlfgokoponmaa
open Go.RowKit
set_option linter.unusedVariables false

def TxtPost (s : List UInt8) (w : World) (e : Ending) (w' : World) : Prop := e = .returned (.string ⟨s.toArray⟩) ∧ Below w.heap.size w w'

theorem add_txt {P : Program} (x y : List UInt8) (h : x.length + y.length ≤ 9000000) (w : World) : (Op.stringOp .add ⟨x.toArray⟩ ⟨y.toArray⟩).run P w = .ok (.string ⟨(x ++ y).toArray⟩) w := by
  rw [run_string_add_sum w _ _ (by simp [ByteArray.size]; omega), ByteArray.mk_append_mk]

theorem enc_last (T : Tm) : encT T = flatR (kids T) ++ [lastM T] := by
  have h := flatR_kids T []
  rw [List.append_nil] at h
  rw [← h, flatR_cons]
  simp [flatR]

theorem brk_ge (b : Bool) (s : List UInt8) : s.length ≤ (brk b s).length := by
  unfold brk
  split <;> simp
  omega

theorem ret_txt {x y : List UInt8} (h : x = y) : Ending.returned (.string ⟨x.toArray⟩) = .returned (.string ⟨y.toArray⟩) := by rw [h]

end Go.Proofs.Ytfdlfgokoponmaa
