/- A row of quotes that came in reads as a list. Conditions: what the form tells of an argument. -/
import Derived.Test.YteljcicdibbhdaaQd
import Derived.Deep.SlicePairs
import Derived.Lib.SmallJoins
namespace Go.Proofs.Yteljcicdibbhdaa
open Go.RowKit Go.Deep
set_option linter.unusedVariables false

def intIn : Value → Int
  | .int _ n => n
  | _ => 0

theorem qrd_of_trod {H : Type} {enc : TypeId × Value → H} {W : World} {fuel : Nat} {a : Option Addr} {len cap : Nat} {x : DataW H × List MemPlace}
    (hf : DataW.trod enc Try.prog W 0 (fun _ => true) true fuel 48 [.slice a len cap] = some x) : ∃ qs, QRd W (.slice a len cap) qs := by
  rcases open_slice_pairs Try.underlying48 Try.underlying53 (by kernel_rfl) rfl rfl (by kernel_rfl) (by kernel_rfl) hf with ⟨h, -⟩ | ⟨a', len', cap', m, n, V0, V1, D0, D1, P0, P1, hcs, hb, hl, hm, hmm, -, hi⟩
  · have h' : (Value.slice a len cap) = .slice none 0 0 := by simpa using h
    rw [h']
    exact ⟨[], GRd.nil _ _ _⟩
  · have h' : (Value.slice a len cap) = .slice (some a') len' cap' := by simpa using hcs
    rw [h']
    have hmc : m = cap' := by rw [hmm]; simp
    subst hmc
    rw [maxLen_is] at hm
    have hv : ∀ i, i < m → V0 i = .int .i64 (intIn (V0 i)) ∧ V1 i = .int .i64 (intIn (V1 i)) := by
      intro i him
      obtain ⟨-, -, h0, h1⟩ := hi i him
      obtain ⟨n0, e0, -, -⟩ := DataW.trod_int Try.underlying3 h0
      obtain ⟨n1, e1, -, -⟩ := DataW.trod_int Try.underlying3 h1
      have e0' : V0 i = .int .i64 n0 := by simpa using e0
      have e1' : V1 i = .int .i64 n1 := by simpa using e1
      rw [e0', e1']
      exact ⟨rfl, rfl⟩
    refine ⟨(List.range len').map fun i => (intIn (V0 i), intIn (V1 i)), some a', m, by simp, by simpa using hl, hm, fun h0 => ?_⟩
    have hlen : 0 < len' := by simpa using h0
    obtain ⟨b, off, spot⟩ := a'
    have hc := (hi 0 (by omega)).1
    have hspot : spot = none := by simpa [Addr.add] using World.cell?_spot hc
    subst hspot
    have hlt := World.block_lt_of_cell? W _ hc
    rw [addr_add] at hlt
    refine ⟨b, off, rfl, hlt, fun i q hq j u hu => ?_⟩
    have hil : i < len' := by
      rcases Nat.lt_or_ge i len' with h1 | h1
      · exact h1
      · rw [List.getElem?_eq_none (by simpa using h1)] at hq; cases hq
    have hqe : q = (intIn (V0 i), intIn (V1 i)) := by
      rw [List.getElem?_map, List.getElem?_range hil] at hq
      exact (Option.some.inj hq).symm
    obtain ⟨c0, c1, -, -⟩ := hi i (by omega)
    obtain ⟨v0, v1⟩ := hv i (by omega)
    rw [addr_add] at c0 c1
    subst hqe
    match j, hu with
    | 0, hu =>
      have : u = .int .i64 (intIn (V0 i)) := (Option.some.inj hu).symm
      rw [Nat.add_zero, c0, this, ← v0]
    | 1, hu =>
      have : u = .int .i64 (intIn (V1 i)) := (Option.some.inj hu).symm
      rw [Nat.add_assoc, c1, this, ← v1]
    | j + 2, hu => simp [qC] at hu

end Go.Proofs.Yteljcicdibbhdaa
