/- Rows of pairs for a seat that has quotes: what XXg has beside XQd. Fill it as Xg (tools/shim.sh) where Qc and Qd are in the base. No condition but those stated. -/
import Derived.Test.YtfdlfgokoponmaaQd
import Derived.Test.YtfdlfgokoponmaaRd3
import Derived.Test.YtfdlfgokoponmaaQm
import Derived.BigRegion
import Derived.Deep.AppendLies
import Derived.Deep.RegionLaw
import Derived.Handy
import Derived.Deep.RegionHeld3
import Derived.Maps.AppendAt
import Derived.Laws.AppendOwnNone
import Derived.RegionCalls
namespace Go.Proofs.Ytfdlfgokoponmaa
open Go.RowKit
set_option linter.unusedVariables false

def BoolPost (b : Bool) (w : World) (e : Ending) (w' : World) : Prop := e = .returned (.bool b) ∧ Below w.heap.size w w'

theorem GRd.take7 {α : Type} {c : Nat} {enc : α → List Value} {w : World} {A : Option Addr} {n cp : Nat} {xs : List α} (h : GRd c enc w (.slice A n cp) xs) {k : Nat} (hk : k ≤ n) : GRd c enc w (.slice A k cp) (xs.take k) := by
  obtain ⟨A', cp', e, hl, hm, hc⟩ := h
  injection e with e1 e2 e3
  subst e1
  subst e2
  subst e3
  have hlen : (xs.take k).length = k := by simp; omega
  refine ⟨A, cp, by rw [hlen], by omega, hm, fun h0 => ?_⟩
  obtain ⟨b, off, hA, hb, hcell⟩ := hc (by omega)
  refine ⟨b, off, hA, hb, fun i x hx j u hu => hcell i x ?_ j u hu⟩
  rw [List.getElem?_take] at hx
  split at hx
  · exact hx
  · cases hx

theorem GRd.drop7 {α : Type} {c : Nat} {enc : α → List Value} {w : World} {b off n cp : Nat} {xs : List α} (h : GRd c enc w (.slice (some ⟨b, off, none⟩) n cp) xs) {k m : Nat} (hk : n = k + m) : GRd c enc w (.slice (some ⟨b, off + k * c, none⟩) m (cp - k)) (xs.drop k) := by
  obtain ⟨A', cp', e, hl, hm, hc⟩ := h
  injection e with e1 e2 e3
  subst e1
  subst e3
  have hlen : (xs.drop k).length = m := by rw [List.length_drop]; omega
  refine ⟨_, _, by rw [hlen], by omega, by omega, fun h0 => ?_⟩
  obtain ⟨b', off', hA, hb, hcell⟩ := hc (by omega)
  injection hA with hA
  injection hA with hb' ho'
  subst hb' ho'
  refine ⟨b, off + k * c, rfl, hb, fun i x hx j u hu => ?_⟩
  rw [List.getElem?_drop] at hx
  have := hcell (k + i) x hx j u hu
  rwa [Nat.add_mul, ← Nat.add_assoc] at this

end Go.Proofs.Ytfdlfgokoponmaa
