/- Contracts of spec's l8Common, GivenBy, CalledGain, FitsCalled. Conditions: rows that read as lists. -/
import Derived.Test.YtbjmhbkpeglpkaaWa
import Derived.Test.YtbjmhbkpeglpkaaRh
import Derived.Test.YtbjmhbkpeglpkaaMb
import Derived.BigRegion
import Derived.Maps.AppendAt
namespace Go.Proofs.Ytbjmhbkpeglpkaa
open Go.RowKit
set_option linter.unusedVariables false

theorem gc_step {a b u v : Nat} (h : Nat.gcd v u = Nat.gcd b a) : Nat.gcd (u % v) v = Nat.gcd b a := by
  rw [← h, Nat.gcd_rec v u]

set_option maxRecDepth 100000 in
set_option maxHeartbeats 2000000 in
theorem specCommon_any (a b : Int) (h1 : 0 ≤ a ∧ a ≤ 1000000) (h2 : 0 ≤ b ∧ b ≤ 1000000) (W : World) :
    Calls Try.prog 69 #[.int .i64 a, .int .i64 b] W fun r W' => r = .returned (.int .i64 (gcI a b)) ∧ W = W' := by
  obtain ⟨n, rfl⟩ : ∃ n : Nat, a = n := ⟨a.toNat, by omega⟩
  obtain ⟨d, rfl⟩ : ∃ d : Nat, b = d := ⟨b.toNat, by omega⟩
  have hn : n ≤ 1000000 := by omega
  have hd : d ≤ 1000000 := by omega
  clear h1 h2
  go_enter Try.func69, Try.ntmps69
  go_wp2_with fail
  go_loop [0, 1] (fun x y => ∃ u v : Nat, x = .int .i64 (u : Int) ∧ y = .int .i64 (v : Int) ∧ u ≤ 1000000 ∧ v ≤ 1000000 ∧ Hid (Nat.gcd v u = Nat.gcd d n)) (fun _ y => (intOf y).toNat)
  case atStart => exact ⟨n, d, rfl, rfl, hn, hd, Lib.hid rfl⟩
  case round =>
    obtain ⟨u, v, rfl, rfl, hu, hv, HG⟩ := hrel
    by_cases hv0 : 0 < v
    · have hv1 : (0 : Int) < (v : Int) := by omega
      have hvn : ((v : Int) == 0) = false := by rw [beq_eq_false_iff_ne]; omega
      have ht : (u : Int).tmod (v : Int) = ((u % v : Nat) : Int) := by rw [Int.tmod_eq_emod_of_nonneg (by omega)]; rfl
      have hr : u % v < v := Nat.mod_lt _ hv0
      have HG2 := Lib.hid (gc_step HG.out)
      obtain ⟨x, hx⟩ : ∃ x, u % v = x := ⟨_, rfl⟩
      rw [hx] at ht hr HG2
      clear hx
      go_wp2_with fail
      go_round
      case rel => exact ⟨v, x, rfl, rfl, hv, by omega, HG2⟩
      case measure => simp [intOf]; omega
    · obtain rfl : v = 0 := by omega
      have HE : Hid (u = Nat.gcd n d) := Lib.hid (by have := HG.out; rw [Nat.gcd_zero_left] at this; rw [this, Nat.gcd_comm])
      have HR : Hid (gcI (n : Int) (d : Int) = ((max u 1 : Nat) : Int)) := Lib.hid (by unfold gcI; rw [Int.toNat_natCast, Int.toNat_natCast, ← HE.out])
      clear HG
      by_cases h1 : u < 1
      · have h1' : (u : Int) < 1 := by omega
        go_wp2_with fail
        go_ret
        exact ⟨ret_int (by rw [HR.out]; omega), rfl⟩
      · have h1' : (1 : Int) ≤ (u : Int) := by omega
        go_wp2_with fail
        go_ret
        exact ⟨ret_int (by rw [HR.out]; omega), rfl⟩

/-- a fraction, and whether it is told -/
def FracPost (n d : Int) (b : Bool) (w : World) (e : Ending) (w' : World) : Prop := e = .returned (.tuple #[.int .i64 n, .int .i64 d, .bool b]) ∧ Below w.heap.size w w'

theorem frac_ret {n d x y : Int} {b c : Bool} {w w' : World} (h : n = x) (k : d = y) (l : b = c) (hb : Below w.heap.size w w') : FracPost n d b w (.returned (.tuple #[.int .i64 x, .int .i64 y, .bool c])) w' := by subst h k l; exact ⟨rfl, hb⟩

end Go.Proofs.Ytbjmhbkpeglpkaa
