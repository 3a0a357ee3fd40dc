/- Units of three grains are enough: the table. No condition. -/
import Derived.Test.YtfdgelikmhaagaaMm
namespace Go.Proofs.Ytfdgelikmhaagaa
set_option linter.unusedVariables false

def tup : Nat → List (List Nat)
  | 0 => [[]]
  | w + 1 => (List.range 6).flatMap fun a => (tup w).map fun m => a :: m

def onN : List Nat → Nat → Nat
  | [], _ => 0
  | x :: m, e => e % 2 * x + onN m (e / 2)

/-- the events without world 0 on which there are whole sixths -/
def evs (w : Nat) (r : List Nat) : List Nat := (List.range (2 ^ w)).filter fun e => e % 2 == 0 && onN r e % 6 == 0

def unitB (w : Nat) (r : List Nat) : Bool := !(r.sum % 6 == 0) || (evs w r).all fun e1 => (evs w r).all fun e2 => (evs w r).all fun e3 =>
  (lay w (r.sum / 3)).any fun c => onN c e1 * 3 == onN r e1 && onN c e2 * 3 == onN r e2 && onN c e3 * 3 == onN r e3

theorem unit_tab : (tup 1).all (unitB 1) = true ∧ (tup 2).all (unitB 2) = true ∧ (tup 3).all (unitB 3) = true ∧ (tup 4).all (unitB 4) = true := by decide +kernel

end Go.Proofs.Ytfdgelikmhaagaa
