/- A row of ints that came in reads as a list. -/
import Derived.Test.YteljcicdibbhdaaInts
import Derived.Test.YteljcicdibbhdaaRd2
namespace Go.Proofs.Yteljcicdibbhdaa
open Go.RowKit
set_option linter.unusedVariables false

theorem ird_of_row {w : World} {a : Option Addr} {len cap : Nat} {zs : List Int} (h : IsRowC .i64 w a len cap zs) : ∃ xs, IRd w (.slice a len cap) xs := by
  rcases h with ⟨rfl, rfl, rfl, rfl⟩ | ⟨x, rfl, hl, hm, hz, hcell, hwz⟩
  · exact ⟨[], none, 0, rfl, by simp, by omega, fun h => by simp at h⟩
  · have hlen : (zs.take len).length = len := by simp; omega
    rw [maxLen_is] at hm
    refine ⟨zs.take len, some x, cap, by rw [hlen], by omega, hm, fun h0 => ?_⟩
    rw [hlen] at h0
    obtain ⟨b, off, spot⟩ := x
    have hc := hcell 0 (by omega)
    have hspot : spot = none := by simpa [Addr.add] using World.cell?_spot hc
    subst hspot
    have hlt := World.block_lt_of_cell? w _ hc
    rw [addr_add] at hlt
    refine ⟨b, off, rfl, hlt, fun i y hy => ?_⟩
    have hi : i < len := by
      rcases Nat.lt_or_ge i len with h1 | h1
      · exact h1
      · rw [List.getElem?_eq_none (by omega)] at hy; cases hy
    have := hcell i (by omega)
    rw [addr_add] at this
    rw [List.getElem?_take, if_pos hi] at hy
    rw [this]
    simp [hy]

end Go.Proofs.Yteljcicdibbhdaa
