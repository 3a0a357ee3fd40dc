/- Contract of spec's BetsAgainst. Conditions: a row that reads as a list. -/
import Derived.Test.YteljcicdibbhdaaUe
import Derived.Test.YteljcicdibbhdaaUf
namespace Go.Proofs.Yteljcicdibbhdaa
open Go.RowKit
set_option linter.unusedVariables false

theorem bets_less {n : Int} {t : List Int} {a b : Nat} (h : tokB n t = true) (hf : fault t = some (a, b)) (hl : tget t a + tget t b < tget t (a ||| b)) :
    betsL n t = [((a : Int), tget t a, -1), ((b : Int), tget t b, -1), (((a ||| b : Nat) : Int), tget t (a ||| b), 1)] := by
  rw [betsL, h, hf]; simp [hl]

theorem bets_more {n : Int} {t : List Int} {a b : Nat} (h : tokB n t = true) (hf : fault t = some (a, b)) (hl : ¬ tget t a + tget t b < tget t (a ||| b)) :
    betsL n t = [((a : Int), tget t a, 1), ((b : Int), tget t b, 1), (((a ||| b : Nat) : Int), tget t (a ||| b), -1)] := by
  rw [betsL, h, hf]; simp [hl]

theorem bets_sum {n : Int} {t : List Int} (h : tokB n t = true) (hf : fault t = none) (ha : addB n t = false) : betsL n t = [(((t.length - 1 : Nat) : Int), tget t (t.length - 1), -1)] := by
  rw [betsL, h, hf, ha]; rfl

end Go.Proofs.Yteljcicdibbhdaa
