/- spec.ReadTerm. Conditions: none. -/
import Derived.Test.YtfdlfgokoponmaaXm
import Derived.Test.YtfdlfgokoponmaaXi
namespace Go.Proofs.Ytfdlfgokoponmaa
open Go.RowKit
set_option linter.unusedVariables false

/-- whether a text is read; the row that is read -/
noncomputable def rdB (S : ByteArray) : Bool := open Classical in decide (∃ T, ReadsB (bs S) T)

noncomputable def rdL (S : ByteArray) : List Mk := open Classical in if h : ∃ T, ReadsB (bs S) T then encT h.choose else []

theorem rd_yes {S : ByteArray} {T : Tm} (h : ReadsB (bs S) T) : rdB S = true ∧ rdL S = encT T := by
  have hx : ∃ T, ReadsB (bs S) T := ⟨T, h⟩
  refine ⟨by simp only [rdB, decide_eq_true_eq]; exact hx, ?_⟩
  unfold rdL
  rw [dif_pos hx, ReadsB.one hx.choose_spec h]

theorem rd_no {S : ByteArray} (h : ∀ T, ¬ ReadsB (bs S) T) : rdB S = false ∧ rdL S = [] := by
  have hx : ¬ ∃ T, ReadsB (bs S) T := fun ⟨T, hT⟩ => h T hT
  exact ⟨by simp only [rdB, decide_eq_false_iff_not]; exact hx, by unfold rdL; exact dif_neg hx⟩

theorem reads_rds {S : ByteArray} {T : Tm} (h : ReadsB (bs S) T) : Rds .disj ((bs S).drop 0) T [] := by
  rw [List.drop_zero, ← h.1]
  exact read_txt T

/-- a fresh row of marks, and whether it was read -/
def MRead (S : ByteArray) (w : World) (e : Ending) (w' : World) : Prop := ∃ v, e = .returned (.tuple #[v, .bool (rdB S)]) ∧ MOwn w' w.heap.size v (rdL S) ∧ Below w.heap.size w w'

theorem mread_no {S : ByteArray} {w w1 : World} (h : ∀ T, ¬ ReadsB (bs S) T) (b : Below w.heap.size w w1) : MRead S w (.returned (.tuple #[.slice (some ⟨w1.heap.size, 0, none⟩) 0 0, .bool false])) (w1.alloc (.cells #[] 34)) := by
  obtain ⟨h1, h2⟩ := rd_no h
  exact ⟨_, by rw [h1], by rw [h2]; exact mlit0 w1 w.heap.size b.size, b.alloc b.size _⟩

theorem mread_yes {S : ByteArray} {w w1 : World} {v : Value} {T : Tm} (h : rdB S = true ∧ rdL S = encT T) (o : MOwn w1 w.heap.size v (encT T)) (b : Below w.heap.size w w1) : MRead S w (.returned (.tuple #[v, .bool true])) w1 :=
  ⟨v, by rw [h.1], by rw [h.2]; exact o, b⟩

theorem bs_list (S : ByteArray) : S.toList = bs S := Go.ByteArray.toList_eq S

theorem bs_mk (l : List UInt8) : bs ⟨l.toArray⟩ = l := rfl

theorem bs_eq {S : ByteArray} {l : List UInt8} (h : l = bs S) : (⟨l.toArray⟩ : ByteArray) = S := by
  subst h
  apply ByteArray.ext
  simp [bs]

end Go.Proofs.Ytfdlfgokoponmaa
