/- Either some measure lies between two sided prices, or some stakes surely win: the table, and what it says. No condition. -/
import Derived.Test.YtodmgcbcacblbaaSx
namespace Go.Proofs.Ytodmgcbcacblbaa
set_option linter.unusedVariables false

/-- the prices that some way of units of three brings, as codes -/
def feas13 (w e1 e2 e3 : Nat) : List Nat :=
  ((lay w 12).filter fun c => Nat.beq (onN c e1 % 2 + onN c e2 % 2 + onN c e3 % 2) 0).map fun c => 49 * (onN c e1 / 2) + 7 * (onN c e2 / 2) + onN c e3 / 2

/-- one bit for each code -/
def bits13 (f : List Nat) : Nat := f.foldl (fun m c => Nat.lor m (2 ^ c)) 0

/-- stakes, what they bring at most before prices, and both parts of what they cost -/
abbrev Tr13 := List (Nat × (Nat → Nat → Nat → Nat) × (Nat → Nat → Nat → Nat))

def win13 (t : Tr13) (l1 u1 l2 u2 l3 u3 : Nat) : Bool :=
  t.any fun x => Nat.ble (x.1 + x.2.2 u1 u2 u3 + 1) (x.2.1 l1 l2 l3)

def span13 (t : Tr13) (l1 u1 l2 u2 z b a : Nat) : Bool :=
  Nat.beq z (2 ^ (b + 1) - 2 ^ a) && (Nat.ble b 6 && (Nat.ble a b && ((Nat.beq a 0 || win13 t l1 u1 l2 u2 0 (a - 1)) && (Nat.beq b 6 || win13 t l1 u1 l2 u2 (b + 1) 6))))

def chk13 (t : Tr13) (l1 u1 l2 u2 z : Nat) : Bool :=
  bif Nat.beq z 0 then win13 t l1 u1 l2 u2 0 6 else span13 t l1 u1 l2 u2 z (Nat.log2 z) (Nat.log2 (2 ^ (Nat.log2 z + 1) - z))

def run13 (t : Tr13) (l1 u1 l2 r : Nat) : Nat → Nat → Nat → Bool
  | 0, _, _ => true
  | k + 1, u, z => chk13 t l1 u1 l2 u (Nat.lor z (Nat.land (Nat.shiftRight r (7 * u)) 127)) && run13 t l1 u1 l2 r k (u + 1) (Nat.lor z (Nat.land (Nat.shiftRight r (7 * u)) 127))

def box13 (t : Tr13) (l1 u1 r : Nat) : Bool :=
  (List.range 7).all fun l2 => run13 t l1 u1 l2 r (7 - l2) l2 0

def top13 (t : Tr13) (l1 q : Nat) : Nat → Nat → Nat → Bool
  | 0, _, _ => true
  | k + 1, u, r => box13 t l1 u (Nat.lor r (Nat.land (Nat.shiftRight q (49 * u)) 562949953421311)) && top13 t l1 q k (u + 1) (Nat.lor r (Nat.land (Nat.shiftRight q (49 * u)) 562949953421311))

def all13 (t : Tr13) (q : Nat) : Bool :=
  (List.range 7).all fun l1 => top13 t l1 q (7 - l1) l1 0

def side13 (w e1 e2 e3 : Nat) : Bool := all13 (trio.map fun s => (topB w e1 e2 e3 s.2.1 s.2.2, s.2)) (bits13 (feas13 w e1 e2 e3))

theorem side1 : (evens 1).all (fun a => (evens 1).all fun b => (evens 1).all fun c => !(Nat.ble a b && Nat.ble b c) || side13 1 a b c) = true := by decide +kernel

theorem side2 : (evens 2).all (fun a => (evens 2).all fun b => (evens 2).all fun c => !(Nat.ble a b && Nat.ble b c) || side13 2 a b c) = true := by decide +kernel

theorem side3 : (evens 3).all (fun a => (evens 3).all fun b => (evens 3).all fun c => !(Nat.ble a b && Nat.ble b c) || side13 3 a b c) = true := by decide +kernel

theorem side4a : ([0] : List Nat).all (fun a => (evens 4).all fun b => (evens 4).all fun c => !(Nat.ble a b && Nat.ble b c) || side13 4 a b c) = true := by decide +kernel

theorem side4b : ([2] : List Nat).all (fun a => (evens 4).all fun b => (evens 4).all fun c => !(Nat.ble a b && Nat.ble b c) || side13 4 a b c) = true := by decide +kernel

end Go.Proofs.Ytodmgcbcacblbaa
