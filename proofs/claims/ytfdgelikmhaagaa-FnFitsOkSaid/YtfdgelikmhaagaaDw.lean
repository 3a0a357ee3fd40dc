/- What is drawn for chapter 3: stakes; a book; both. Conditions: a row of bytes that came in. -/
import Derived.Test.YtfdgelikmhaagaaDv
namespace Go.Proofs.Ytfdgelikmhaagaa
open Go.RowKit
set_option linter.unusedVariables false

def StakesR (w : World) (R P : Nat) (e : Ending) (w' : World) : Prop := ∃ v xs, e = .returned v ∧ GamRel w R P v xs w' ∧ xs.length ≤ 8

/-- a number of worlds and a book -/
def DrawBk (w : World) (e : Ending) (w' : World) : Prop := ∃ (x : Int) (v : Value) (qs : List Qt), e = .returned (.tuple #[.int .i64 x, v]) ∧ QOwn w' w.heap.size v qs ∧ qs.length ≤ 4 ∧ Below w.heap.size w w'

/-- a number of worlds, a book, and stakes -/
def DrawBal (w : World) (e : Ending) (w' : World) : Prop := ∃ (x : Int) (v u : Value) (qs : List Qt) (ss : List Int), e = .returned (.tuple #[.int .i64 x, v, u]) ∧ QOwn w' w.heap.size v qs ∧ IOwn w' w.heap.size u ss ∧ qs.length ≤ 4 ∧ ss.length ≤ 8 ∧ Below w.heap.size w w'

end Go.Proofs.Ytfdgelikmhaagaa
