/- spec.l9Text, spec.TermText. Conditions: rows that read as lists of marks; texts of at most a million bytes. -/
import Derived.Test.YtfdlfgokoponmaaXh
namespace Go.Proofs.Ytfdlfgokoponmaa
open Go.RowKit
set_option linter.unusedVariables false

theorem txt_no (x : Tm) : (txtT x).length ≤ (txtT (.no x)).length := by
  have := brk_ge (decide (ownT x < 2)) (txtT x)
  simp only [txtT, List.length_cons]
  omega

theorem txt_an (x y : Tm) : (txtT x).length ≤ (txtT (.an x y)).length ∧ (txtT y).length ≤ (txtT (.an x y)).length := by
  have h1 := brk_ge (decide (ownT x < 1)) (txtT x)
  have h2 := brk_ge (decide (ownT y < 2)) (txtT y)
  simp only [txtT, List.length_cons, List.length_append]
  omega

theorem txt_vel (x y : Tm) : (txtT x).length ≤ (txtT (.vel x y)).length ∧ (txtT y).length ≤ (txtT (.vel x y)).length := by
  have h2 := brk_ge (decide (ownT y < 1)) (txtT y)
  simp only [txtT, List.length_cons, List.length_append]
  omega

/-- the text of a row of marks -/
noncomputable def txtI (t : List Mk) : List UInt8 := open Classical in if h : ∃ T, encT T = t ∧ t.length ≤ 40 then txtT h.choose else []

theorem txtI_tree {T : Tm} (h : (encT T).length ≤ 40) : txtI (encT T) = txtT T := by
  have hx : ∃ U, encT U = encT T ∧ (encT T).length ≤ 40 := ⟨T, rfl, h⟩
  unfold txtI
  rw [dif_pos hx, enc_inj hx.choose_spec.1]

theorem txtI_no {t : List Mk} (h : tmB t = false) : txtI t = [] := by
  unfold txtI
  rw [dif_neg]
  rintro ⟨T, rfl, h2⟩
  rw [tree_tm h2] at h
  cases h

end Go.Proofs.Ytfdlfgokoponmaa
