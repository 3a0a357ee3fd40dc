/- spec.l9Event, spec.EventOfTerm. Conditions: rows that read as lists of marks. -/
import Derived.Test.YtfdlfgokoponmaaDoorXd
namespace Go.Proofs.YtfdlfgokoponmaaDoor
open Go.RowKit
set_option linter.unusedVariables false

theorem take_left {a b : List Mk} {L : Nat} (h : a.length = L) : (a ++ b).take L = a := by subst h; simp

theorem drop_left {a b : List Mk} {L : Nat} (h : a.length = L) : (a ++ b).drop L = b := by subst h; simp

theorem at_last {a : List Mk} {m : Mk} {L : Nat} (h : a.length = L) : (a ++ [m])[L]? = some m := by subst h; simp

theorem and_16 : ∀ a b : Fin 16, bits BinOp.and IntKind.i64 ((a : Nat) : Int) ((b : Nat) : Int) = (((a : Nat) &&& (b : Nat) : Nat) : Int) := by decide +kernel

theorem or_16 : ∀ a b : Fin 16, bits BinOp.or IntKind.i64 ((a : Nat) : Int) ((b : Nat) : Int) = (((a : Nat) ||| (b : Nat) : Nat) : Int) := by decide +kernel

def EvPost (n : Nat) (w : World) (e : Ending) (w' : World) : Prop := e = .returned (.int .i64 (n : Int)) ∧ Below w.heap.size w w'

/-- the event of a row of marks -/
noncomputable def evI (t : List Mk) : Int := open Classical in if h : ∃ T, encT T = t ∧ t.length ≤ 40 then (evT h.choose : Int) else -1

theorem evI_tree {T : Tm} (h : (encT T).length ≤ 40) : evI (encT T) = evT T := by
  have hx : ∃ U, encT U = encT T ∧ (encT T).length ≤ 40 := ⟨T, rfl, h⟩
  unfold evI
  rw [dif_pos hx, enc_inj hx.choose_spec.1]

theorem evI_no {t : List Mk} (h : tmB t = false) : evI t = -1 := by
  unfold evI
  rw [dif_neg]
  rintro ⟨T, rfl, h2⟩
  rw [tree_tm h2] at h
  cases h

def NumP (n : Int) (w : World) (e : Ending) (w' : World) : Prop := e = .returned (.int .i64 n) ∧ Below w.heap.size w w'

end Go.Proofs.YtfdlfgokoponmaaDoor
