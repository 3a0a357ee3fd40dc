/- What is drawn for chapter 4: measures, with events, gambles, books. Conditions: a row of bytes that came in. -/
import Derived.Test.YtfjmlbcmidichaaDm
import Derived.Test.YtfjmlbcmidichaaDi
import Derived.Test.YtfjmlbcmidichaaDw
import Derived.Test.YtfjmlbcmidichaaDt
import Derived.Test.YtfjmlbcmidichaaMe
namespace Go.Proofs.Ytfjmlbcmidichaa
open Go.RowKit
set_option linter.unusedVariables false

/-- a fresh row of at most four numbers from 0 to 37 -/
def DrawMea (w : World) (e : Ending) (w' : World) : Prop := ∃ v xs, e = .returned v ∧ IOwn w' w.heap.size v xs ∧ xs.length ≤ 4 ∧ Bnd 37 xs ∧ Below w.heap.size w w'

/-- two fresh rows -/
def DrawTwoR (w : World) (e : Ending) (w' : World) : Prop := ∃ (v u : Value) (xs ys : List Int), e = .returned (.tuple #[v, u]) ∧ IOwn w' w.heap.size v xs ∧ IOwn w' w.heap.size u ys ∧ xs.length ≤ 8 ∧ ys.length ≤ 8 ∧ Below w.heap.size w w' ∧ (∀ g, v.ownBlock = some g → u.ownBlock ≠ some g)

theorem GamRel.ne {w2 w3 : World} {R Q : Nat} {v u : Value} {xs ys : List Int} {b : Nat} (h : IOwn w2 b v xs) (k : GamRel w2 R Q u ys w3) : ∀ g, v.ownBlock = some g → u.ownBlock ≠ some g := by
  intro g hg hu
  have h1 := (h.ge g hg).2
  have h2 := (k.2.1.ge g hu).1
  omega

/-- a measure and an event -/
def DrawMeaEv (w : World) (e : Ending) (w' : World) : Prop := ∃ (v : Value) (xs : List Int) (x : Int), e = .returned (.tuple #[v, .int .i64 x]) ∧ IOwn w' w.heap.size v xs ∧ xs.length ≤ 4 ∧ Below w.heap.size w w'

end Go.Proofs.Ytfjmlbcmidichaa
