/- The program's machine of marks, runMarks, at events. Conditions: rows that read as lists of marks. (gen_xpg.py) -/
import Derived.Test.YtfdlfgokoponmaaDoorXpf
import Derived.OwnWalk
namespace Go.Proofs.YtfdlfgokoponmaaDoor
open Go.RowKit
set_option linter.unusedVariables false
set_option linter.unusedSimpArgs false

theorem own_some {α : Type} {e : TypeId} {c : Nat} {enc : α → List Value} {w : World} {base n cp : Nat} {B : Option Addr} {xs : List α} (h : GOwn e c enc w base (.slice B n cp) xs) : (B = none ∧ n = 0 ∧ cp = 0 ∧ xs = []) ∨ ∃ g, B = some ⟨g, 0, none⟩ ∧ n = xs.length ∧ n ≤ cp ∧ base ≤ g ∧ g < w.heap.size := by
  rcases id h.2 with ⟨hv, h0⟩ | ⟨g, cap, cur, hv, -⟩
  · injection hv with h1 h2 h3
    exact .inl ⟨h1, h2, h3, List.eq_nil_of_length_eq_zero h0⟩
  · injection hv with h1 h2 h3
    subst h1
    have h4 := own_len h
    exact .inr ⟨g, rfl, h4.1, h4.2.1, h4.2.2.2.1, h4.2.2.2.2⟩

/-- what the machine tells -/
def RunPost (ret : Tm → Value) (zero : Value) (t : List Mk) (w : World) (e : Ending) (w' : World) : Prop :=
  Below w.heap.size w w' ∧ ((tmB t = false ∧ e = .returned (.tuple #[zero, .bool false])) ∨ (∃ T, encT T = t ∧ tmB t = true ∧ e = .returned (.tuple #[ret T, .bool true])))

theorem run_txt {l : List Mk} {T : Tm} {s : List Tm} (h : run [] l = some (T :: s)) : (txtT T).length ≤ 3 * l.length := by
  have h1 := (run_flat h).1
  rw [show flatR ([] : List Tm) = [] from rfl, List.nil_append, flatR_cons] at h1
  have h2 := txt_len T
  rw [h1, List.length_append]
  omega

end Go.Proofs.YtfdlfgokoponmaaDoor
