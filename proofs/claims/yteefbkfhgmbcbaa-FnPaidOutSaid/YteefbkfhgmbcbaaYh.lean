/- The walk of the law of PoolOf. Conditions: a row of bytes that came in. -/
import Derived.Test.YteefbkfhgmbcbaaYp
import Derived.Test.YteefbkfhgmbcbaaYg
import Derived.Test.YteefbkfhgmbcbaaYf
namespace Go.Proofs.Yteefbkfhgmbcbaa
open Go.RowKit
set_option linter.unusedVariables false

theorem paid_each {W : Int} {ts : List Qt} (h : tkB W ts = true) : ∀ x ∈ paidL W ts, 0 ≤ x ∧ x ≤ 300 := by
  intro x hx
  have hp := pays_of h
  obtain ⟨k, -, rfl⟩ := List.mem_map.1 hx
  have h1 := onW_bound hp (k : Int)
  have h2 := sum2_bound hp
  have h3 := ((tkB_iff W ts).1 h).2.2.1
  omega

theorem take_sum10 {y : List Int} {k : Nat} {x : Int} (h : y[k]? = some x) : (y.take (k + 1)).sum = (y.take k).sum + x := by
  rw [List.take_add_one, h]; simp

theorem take_bound10 {y : List Int} (h : ∀ x ∈ y, 0 ≤ x ∧ x ≤ 300) (k : Nat) : 0 ≤ (y.take k).sum ∧ (y.take k).sum ≤ 300 * (k : Int) := by
  induction k with
  | zero => simp
  | succ k ih =>
    rcases hk : y[k]? with _ | x
    · rw [List.take_add_one, hk]; simp; omega
    · have := h x (List.mem_of_getElem? hk)
      rw [take_sum10 hk]; push_cast; omega

set_option maxRecDepth 100000 in
set_option maxHeartbeats 8000000 in
theorem FnPoolOf_walk (a0 : Option Addr) (len0 cap0 : Nat) (z0 : List Int) (w : World) (w0 : IsRowC .u8 w a0 len0 cap0 z0) :
    Calls Try.prog 4 #[.slice a0 len0 cap0] w fun e w' => e = .returned (.bool true) ∧ Below w.heap.size w w' := by
  by_cases hlen : 1048576 < len0
  · clear w0
    go_enter Try.func4, Try.ntmps4
    go_wp2
    go_ret
    exact ⟨rfl, Below.refl _ _⟩
  · have hlen' : decide (1048576 < len0) = false := by simpa using hlen
    go_enter Try.func4, Try.ntmps4
    go_wp2_with fail
    refine (drawPoolOf_any _ _ _ _ _ w0).mono ?_
    rintro e w1 ⟨W, g, c, ts, rfl, hl7, ov1, B1⟩
    clear hlen hlen' w0
    have z1 := B1.size
    rcases Bool.eq_false_or_eq_true (tkB W ts) with h | h
    · obtain ⟨hW1, hW4, h6, hall⟩ := (tkB_iff W ts).1 h
      obtain ⟨N, rfl⟩ : ∃ N : Nat, W = N := ⟨W.toNat, by omega⟩
      have hp := pays_of h
      obtain ⟨n, hn⟩ : ∃ n, sum2 ts = n := ⟨_, rfl⟩
      obtain ⟨y, hy⟩ : ∃ y, paidL (N : Int) ts = y := ⟨_, rfl⟩
      have HN : Hid (poolR (N : Int) ts = n) := Lib.hid (by unfold poolR; rw [if_pos h, hn])
      have HY : Hid (paidR (N : Int) ts = y) := Lib.hid (by unfold paidR; rw [if_pos h, hy])
      have HYS : Hid (y.sum = n) := Lib.hid (by rw [← hy, ← hn]; exact paid_sum ⟨hW1, hW4⟩ (fun t ht => by have := (tkOne_iff (N : Int) t).1 (hall t ht); omega))
      have HYB : Hid (∀ x ∈ y, 0 ≤ x ∧ x ≤ 300) := Lib.hid (by rw [← hy]; exact paid_each h)
      have hyl : y.length = N := by rw [← hy, paid_len]; omega
      have hn0 : 0 ≤ n := by have := (sum2_bound hp).1; omega
      have hN1 : 1 ≤ N := by omega
      have hN4 : N ≤ 4 := by omega
      clear h hy hn hall hp hW1 hW4
      go_wp2_with fail
      refine (implPoolOf_any w1 N _ ts (ov1.rd qC_len)).mono ?_
      rintro e w2 ⟨rfl, b2⟩
      rw [HN.out]
      have z2 := b2.size
      have B2 := below_step B1 b2 (by omega)
      have ov2 := ov1.keep (SameAt.of_below b2)
      clear B1 b2 ov1
      go_wp2_with fail
      refine (specPoolOf_any w2 N _ ts (ov2.rd qC_len)).mono ?_
      rintro e w' ⟨rfl, rfl⟩
      rw [HN.out]
      go_wp2_with fail
      refine (implPaidOn_any w2 N _ ts (ov2.rd qC_len)).mono ?_
      rintro e w3 ⟨vr, rfl, ovr3, b3⟩
      rw [HY.out] at ovr3
      subst hyl
      have z3 := b3.size
      have B3 := below_step B2 b3 (by omega)
      clear B2 b3 ov2
      obtain ⟨A1, c1, rfl, hlc1, hmc1, -⟩ := id ovr3.rd
      have HV := Lib.hid ovr3.rd
      clear ovr3
      go_wp2_with fail
      go_loopw [6, 8] (fun s i wr => ∃ k : Nat, s = .int .i64 ((y.take k).sum) ∧ i = .int .i64 (k : Int) ∧ k ≤ y.length ∧ Hid (wr = w3)) (fun _ i _ => y.length - (intOf i).toNat)
      case atStart => exact ⟨0, rfl, rfl, Nat.zero_le _, Lib.hid rfl⟩
      case round =>
        obtain ⟨k, rfl, rfl, hk, HF⟩ := hrel
        obtain rfl := HF.out
        clear HF
        obtain ⟨s, hs⟩ : ∃ s, (y.take k).sum = s := ⟨_, rfl⟩
        have HS := Lib.hid hs
        have hsb := take_bound10 HYB.out k
        rw [hs] at hsb
        by_cases hlt : k < y.length
        · have hlt' : (k : Int) < (y.length : Int) := by omega
          obtain ⟨G1, o1, x, rfl, -, hx, hc1⟩ := HV.out.at_ hlt
          have bx := HYB.out x (List.mem_of_getElem? hx)
          have hw1 : IntKind.i64.wrap (s + x) = s + x := IntWalk.i64_in _ (by omega)
          have HSX : Hid ((y.take (k + 1)).sum = s + x) := Lib.hid (by rw [take_sum10 hx, hs])
          clear hx
          rw [hs]
          clear hs
          go_wp2_with fail
          exact ⟨⟨k + 1, by rw [HSX.out], rfl, by omega, Lib.hid (by trivial)⟩, by simp [intOf]; omega⟩
        · obtain rfl : k = y.length := by omega
          have hlt' : decide ((y.length : Int) < (y.length : Int)) = false := by simp
          have hsn : s = n := by rw [← hs, List.take_length]; exact HYS.out
          rw [hs]
          clear hs
          subst hsn
          go_wp2_with fail
          refine (alive_any _).mono ?_
          rintro e w' ⟨rfl, rfl⟩
          go_wp2_with fail
          go_ret
          exact ⟨rfl, B3⟩
    · have HN : Hid (poolR W ts = -1) := Lib.hid (by unfold poolR; rw [if_neg (by rw [h]; decide)])
      have HT := Lib.hid h
      clear h
      go_wp2_with fail
      refine (implPoolOf_any w1 W _ ts (ov1.rd qC_len)).mono ?_
      rintro e w2 ⟨rfl, b2⟩
      rw [HN.out]
      have z2 := b2.size
      have B2 := below_step B1 b2 (by omega)
      have ov2 := ov1.keep (SameAt.of_below b2)
      clear B1 b2 ov1
      go_wp2_with fail
      refine (specPoolOf_any w2 W _ ts (ov2.rd qC_len)).mono ?_
      rintro e w' ⟨rfl, rfl⟩
      rw [HN.out]
      go_wp2_with fail
      refine (implTicketsOk_any w2 W _ ts (ov2.rd qC_len)).mono ?_
      rintro e w3 ⟨rfl, b3⟩
      rw [HT.out]
      have z3 := b3.size
      have B3 := below_step B2 b3 (by omega)
      clear B2 b3 ov2
      go_wp2_with fail
      refine (alive_any _).mono ?_
      rintro e w' ⟨rfl, rfl⟩
      go_wp2_with fail
      go_ret
      exact ⟨rfl, B3⟩

end Go.Proofs.Yteefbkfhgmbcbaa
