/- Contracts of BetterOk. Conditions: rows that read as lists. -/
import Derived.Test.YtfdgelikmhaagaaGb
namespace Go.Proofs.Ytfdgelikmhaagaa
open Go.RowKit
set_option linter.unusedVariables false

/-- a Bool is told, and nothing is turned but the tape -/
def BoolQ (b : Bool) (w : World) (e : Ending) (w' : World) : Prop := ∃ n, e = .returned (.bool b) ∧ w' = w.drewN n

theorem boolQ_ret {b c : Bool} {w : World} {n : Nat} (h : b = c) : BoolQ b w (.returned (.bool c)) (w.drewN n) := by subst h; exact ⟨n, rfl, rfl⟩

theorem boolQ_same {b c : Bool} {w : World} (h : b = c) : BoolQ b w (.returned (.bool c)) w := by subst h; exact ⟨0, rfl, rfl⟩

theorem boolQ_more {b c : Bool} {w : World} {n m : Nat} (h : b = c) : BoolQ b w (.returned (.bool c)) ((w.drewN n).drewN m) := by subst h; exact ⟨n + m, rfl, World.drewN_drewN _ _ _⟩

/-- up to place k the first list is at least the second one -/
def geUpto (xs ys : List Int) (k : Nat) : Prop := ∀ (j : Nat) (x y : Int), j < k → xs[j]? = some x → ys[j]? = some y → y ≤ x

theorem geUpto_succ {xs ys : List Int} {k : Nat} {x y : Int} (h : geUpto xs ys k) (hx : xs[k]? = some x) (hy : ys[k]? = some y) (hle : y ≤ x) : geUpto xs ys (k + 1) := by
  intro j u v hj hu hv
  rcases Nat.lt_succ_iff_lt_or_eq.1 hj with h1 | h1
  · exact h j u v h1 hu hv
  · subst h1
    rw [hx] at hu; rw [hy] at hv
    obtain rfl := Option.some.inj hu
    obtain rfl := Option.some.inj hv
    exact hle

theorem better_yes {xs ys : List Int} (h : gok2 xs ys = true) {k : Nat} (hk : xs.length ≤ k) (hg : geUpto xs ys k) : betterB xs ys = true := by
  rw [betterB_iff]
  refine ⟨h, fun j x y hx hy => hg j x y ?_ hx hy⟩
  rcases Nat.lt_or_ge j xs.length with h1 | h1
  · omega
  · rw [List.getElem?_eq_none h1] at hx; cases hx

theorem better_no {xs ys : List Int} {k : Nat} {x y : Int} (hx : xs[k]? = some x) (hy : ys[k]? = some y) (h : x < y) : betterB xs ys = false := by
  rw [← Bool.not_eq_true, betterB_iff]
  rintro ⟨-, h2⟩
  have := h2 k x y hx hy
  omega

theorem better_none {xs ys : List Int} (h : gok2 xs ys = false) : betterB xs ys = false := by rw [betterB, h]; rfl

theorem len_ne {xs ys : List Int} {t : Bool} (h : decide (xs.length = ys.length) = t) : ((xs.length : Int) != (ys.length : Int)) = !t := by
  subst h
  rw [Bool.eq_iff_iff]
  simp only [bne_iff_ne, Bool.not_eq_true', decide_eq_false_iff_not]
  omega

end Go.Proofs.Ytfdgelikmhaagaa
