/- What is drawn for chapter 1. Conditions: a row of bytes that came in. -/
import Derived.Test.YtghmgnhiglmifaaKit
import Derived.Test.YtghmgnhiglmifaaEv2
import Derived.Deep.DeepCutAuto
namespace Go.Proofs.Ytghmgnhiglmifaa
open Go.RowKit
set_option linter.unusedVariables false

/-- two numbers that are not far from nothing -/
def Two (B : Nat) (w : World) (e : Ending) (w' : World) : Prop :=
  ∃ x y : Int, e = .returned (.tuple #[.int .i64 x, .int .i64 y]) ∧ -100 ≤ x ∧ x ≤ 100 ∧ -100 ≤ y ∧ y ≤ 100 ∧ Below B w w'

def TwoR (R P : Nat) (w : World) (e : Ending) (w' : World) : Prop :=
  ∃ x y : Int, e = .returned (.tuple #[.int .i64 x, .int .i64 y]) ∧ 0 ≤ x ∧ x ≤ 5 ∧ -17 ≤ y ∧ y ≤ 31 ∧ Picked R P w w'

set_option maxHeartbeats 1000000 in
theorem l20Worlds_any (w : World) (R P : Nat) (hP : P ≤ 100000) (h : Rd w R P) :
    Calls Try.prog 66 #[.pointer (some ⟨R, 0, none⟩)] w (TwoR R (P + 6) w) := by
  go_enter Try.func66, Try.ntmps66
  go_upto_region 1 with fail
  go_cut [4] (fun s4 wx => ∃ x : Int, s4 = .int .i64 x ∧ 0 ≤ x ∧ x ≤ 5 ∧ Picked R (P + 3) w wx)
  case first =>
    go_wp2_with fail
    refine (pick_any _ R P _ (by omega) h).mono ?_
    rintro e w2 ⟨v1, rfl, ⟨p1, p2, -⟩, k1⟩
    have p2 := p2 (by decide)
    go_wp2_with fail
    refine (pick_any _ R (P + 1) _ (by omega) k1.rd).mono ?_
    rintro e w3 ⟨v2, rfl, ⟨p3, p4, -⟩, k2⟩
    have p4 := p4 (by decide)
    go_wp2_with fail
    refine (pick_any _ R (P + 2) _ (by omega) k2.rd).mono ?_
    rintro e w4 ⟨v3, rfl, ⟨p5, p6, -⟩, k3⟩
    have p6 := p6 (by decide)
    go_wp2_with fail
    go_meet
    exact ⟨_, rfl, by omega, by omega, (k1.trans k2).trans k3⟩
  case rest =>
    obtain ⟨x, rfl, x1, x2, k0⟩ := hcut
    obtain rfl | rfl | rfl | rfl | rfl | rfl : x = 0 ∨ x = 1 ∨ x = 2 ∨ x = 3 ∨ x = 4 ∨ x = 5 := by omega
    all_goals
      clear x1 x2
      go_wp2_with fail
      refine (pick_any _ R (P + 3) _ (by omega) k0.rd).mono ?_
      rintro e w2 ⟨v1, rfl, ⟨p1, p2, -⟩, k1⟩
      have p2 := p2 (by decide)
      go_wp2_with fail
      refine (pick_any _ R (P + 4) _ (by omega) k1.rd).mono ?_
      rintro e w3 ⟨v2, rfl, ⟨p3, p4, -⟩, k2⟩
      have p4 := p4 (by decide)
      go_wp2_with fail
      refine (pick_any _ R (P + 5) _ (by omega) k2.rd).mono ?_
      rintro e w4 ⟨v3, rfl, ⟨p5, p6, -⟩, k3⟩
      have p6 := p6 (by decide)
      go_wp2_with fail
      go_ret2
      exact ⟨_, _, rfl, by omega, by omega, by omega, by omega, ((k0.trans k1).trans k2).trans k3⟩

/-- three numbers; of the last one nothing is told -/
def Three (B : Nat) (w : World) (e : Ending) (w' : World) : Prop :=
  ∃ x y z : Int, e = .returned (.tuple #[.int .i64 x, .int .i64 y, .int .i64 z]) ∧ Below B w w'

def ThreeR (R P : Nat) (w : World) (e : Ending) (w' : World) : Prop :=
  ∃ x y z : Int, e = .returned (.tuple #[.int .i64 x, .int .i64 y, .int .i64 z]) ∧ Picked R P w w'

set_option maxHeartbeats 1000000 in
theorem l20Two_any (w : World) (R P : Nat) (hP : P ≤ 90000) (h : Rd w R P) :
    Calls Try.prog 47 #[.pointer (some ⟨R, 0, none⟩)] w (ThreeR R (P + 8) w) := by
  go_enter Try.func47, Try.ntmps47
  go_wp2_with fail
  refine (l20Worlds_any _ R P (by omega) h).mono ?_
  rintro e w2 ⟨x, y, rfl, x1, x2, y1, y2, k0⟩
  obtain rfl | rfl | rfl | rfl | rfl | rfl : x = 0 ∨ x = 1 ∨ x = 2 ∨ x = 3 ∨ x = 4 ∨ x = 5 := by omega
  all_goals
    go_wp2_with fail
    refine (pick_any _ R (P + 6) _ (by omega) k0.rd).mono ?_
    rintro e w3 ⟨v2, rfl, ⟨p3, p4, -⟩, k2⟩
    have p4 := p4 (by decide)
    go_wp2_with fail
    refine (pick_any _ R (P + 7) _ (by omega) k2.rd).mono ?_
    rintro e w4 ⟨v3, rfl, ⟨p5, p6, -⟩, k3⟩
    have p6 := p6 (by decide)
    obtain rfl | rfl | rfl | rfl : v3 = 0 ∨ v3 = 1 ∨ v3 = 2 ∨ v3 = 3 := by omega
    all_goals
      by_cases hy : 0 ≤ y
      all_goals
        go_wp2_with fail
        go_ret3
        exact ⟨_, _, _, rfl, (k0.trans k2).trans k3⟩

end Go.Proofs.Ytghmgnhiglmifaa
