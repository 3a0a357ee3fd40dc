/- The ways to lay grains, in their order: tables. No condition. -/
import Derived.Test.YtfdgelikmhaagaaMm
namespace Go.Proofs.Ytfdgelikmhaagaa
set_option linter.unusedVariables false

theorem chain36 : chainB (lay 1 36) = true ∧ chainB (lay 2 36) = true ∧ chainB (lay 3 36) = true ∧ chainB (lay 4 36) = true := by decide +kernel

theorem chain18 : chainB (lay 1 18) = true ∧ chainB (lay 2 18) = true ∧ chainB (lay 3 18) = true ∧ chainB (lay 4 18) = true := by decide +kernel

theorem chain12 : chainB (lay 1 12) = true ∧ chainB (lay 2 12) = true ∧ chainB (lay 3 12) = true ∧ chainB (lay 4 12) = true := by decide +kernel

theorem chain6 : chainB (lay 1 6) = true ∧ chainB (lay 2 6) = true ∧ chainB (lay 3 6) = true ∧ chainB (lay 4 6) = true := by decide +kernel

theorem lay_len36 : (lay 1 36).length = 1 ∧ (lay 2 36).length = 37 ∧ (lay 3 36).length = 703 ∧ (lay 4 36).length = 9139 := by decide +kernel

theorem chain_of {w g : Nat} (h1 : 1 ≤ w) (h4 : w ≤ 4) (hg : g = 36 ∨ g = 18 ∨ g = 12 ∨ g = 6) : chainB (lay w g) = true := by
  obtain rfl | rfl | rfl | rfl : w = 1 ∨ w = 2 ∨ w = 3 ∨ w = 4 := by omega
  all_goals obtain rfl | rfl | rfl | rfl := hg
  · exact chain36.1
  · exact chain18.1
  · exact chain12.1
  · exact chain6.1
  · exact chain36.2.1
  · exact chain18.2.1
  · exact chain12.2.1
  · exact chain6.2.1
  · exact chain36.2.2.1
  · exact chain18.2.2.1
  · exact chain12.2.2.1
  · exact chain6.2.2.1
  · exact chain36.2.2.2
  · exact chain18.2.2.2
  · exact chain12.2.2.2
  · exact chain6.2.2.2

end Go.Proofs.Ytfdgelikmhaagaa
