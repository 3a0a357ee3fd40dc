/- The walk of the law of GainOf. Conditions: rows of bytes that came in. -/
import Derived.Test.YtdgaakdlnihejaaQl
namespace Go.Proofs.Ytdgaakdlnihejaa
open Go.RowKit
set_option linter.unusedVariables false

set_option maxHeartbeats 2000000 in
theorem FnGainOf_walk (a0 : Option Addr) (len0 cap0 : Nat) (z0 : List Int) (W : World) (w0 : IsRowC .u8 W a0 len0 cap0 z0) :
    Calls Try.prog 5 #[.slice a0 len0 cap0] W fun e w' => e = .returned (.bool true) ∧ Below W.heap.size W w' := by
  by_cases hlen : 1048576 < len0
  · clear w0
    go_enter Try.func5, Try.ntmps5
    go_wp2
    go_ret
    exact ⟨rfl, Below.refl _ _⟩
  · have hlen' : decide (1048576 < len0) = false := by simpa using hlen
    go_enter Try.func5, Try.ntmps5
    go_wp2_with fail
    refine (drawGainOf_any _ _ _ _ _ w0).mono ?_
    rintro e w1 ⟨n, ⟨a, b⟩, s, rfl, b1⟩
    unfold qV
    have HC : Hid (∀ wr, Below (w1.alloc (.cells #[.int .i64 a, .int .i64 b] 24)).heap.size (w1.alloc (.cells #[.int .i64 a, .int .i64 b] 24)) wr → wr.cell? ⟨w1.heap.size, 0, none⟩ = some (.int .i64 a) ∧ wr.cell? ⟨w1.heap.size, 1, none⟩ = some (.int .i64 b)) := Lib.hid (fun wr h => box_cells (q := (a, b)) h)
    have HW : Hid (Below W.heap.size W (w1.alloc (.cells #[.int .i64 a, .int .i64 b] 24))) := Lib.hid (b1.alloc b1.size _)
    clear hlen hlen' w0 b1
    rcases Bool.eq_false_or_eq_true (gainB n (a, b) s) with ht | ht
    · have HR := Lib.hid (gainR_yes ht)
      have HL := Lib.hid (gain_law ht)
      have hn1 : 1 ≤ n := (gain_wok ht).1
      have hn2 : n ≤ 4 := (gain_wok ht).2
      have hs1 : -9 ≤ s := (fit_of ht).2.2.1
      have hs2 : s ≤ 9 := (fit_of ht).2.2.2
      have hlen : (gainL n (a, b) s).length = n.toNat := gainL_len _ _ _
      have hlen2 : ((gainL n (a, b) s).length : Int) = n := by omega
      obtain ⟨m, hm⟩ : ∃ m, m = (gainL n (a, b) s).length := ⟨_, rfl⟩
      rw [← hm] at hlen2
      have HM := Lib.hid hm
      have hm1 : (1 : Int) ≤ (m : Int) := by omega
      have hm0 : ((m : Int) == 0) = false := by rw [beq_eq_false_iff_ne]; omega
      have hmn : ((m : Int) == n) = true := by rw [beq_iff_eq]; exact hlen2
      have HMN := Lib.hid hmn
      clear ht hlen hm hmn hlen2
      go_wp2_with fail
      generalize w1.alloc (.cells #[.int .i64 a, .int .i64 b] 24) = w at HC HW ⊢
      have B0 : Below w.heap.size w w := Below.refl _ _
      have z0 : w.heap.size ≤ w.heap.size := Nat.le_refl _
      obtain ⟨hc0, hc1⟩ := HC.out w B0
      go_wp2_with fail
      refine (implGainOf_any n (a, b) s _).mono ?_
      rintro e w1 ⟨vg, rfl, ovg1, b1⟩
      rw [HR.out] at ovg1
      have z1 := b1.size
      have hvg : ∀ g, vg.ownBlock = some g → g < w1.heap.size := fun g hg => (ovg1.ge g hg).2
      have B1 := below_step B0 b1 (by omega)
      clear hc0 hc1
      clear B0 b1
      obtain ⟨hc0, hc1⟩ := HC.out w1 B1
      go_wp2_with fail
      refine (specGainOf_any n (a, b) s _).mono ?_
      rintro e w2 ⟨vx, rfl, ovx2, b2⟩
      rw [HR.out] at ovx2
      have z2 := b2.size
      have hvx : ∀ g, vx.ownBlock = some g → g < w2.heap.size := fun g hg => (ovx2.ge g hg).2
      have B2 := below_step B1 b2 (by omega)
      have ovg2 := ovg1.keep (SameAt.of_below b2)
      clear hc0 hc1
      clear B1 b2 ovg1
      obtain ⟨hc0, hc1⟩ := HC.out w2 B2
      go_wp2_with fail
      refine (sameInts_any w2 vg vx _ _ (ovg2.rd) (ovx2.rd)).mono ?_
      rintro e w' ⟨q3, rfl, rfl⟩
      rw [decide_self]
      have z3 : w2.heap.size ≤ (w2.drewN q3).heap.size := Nat.le_refl _
      have B3 : Below w.heap.size w (w2.drewN q3) := below_drewN B2 q3
      have ovg3 : IOwn (w2.drewN q3) _ vg _ := ovg2
      have ovx3 : IOwn (w2.drewN q3) _ vx _ := ovx2
      clear hc0 hc1
      clear B2 ovg2 ovx2
      generalize w2.drewN q3 = w3 at *
      clear ovx3 hvx
      obtain ⟨Ag, cg, rfl, hlg, hmg, -⟩ := id (ovg3.rd)
      rw [← HM.out] at hlg hvg ovg3 ⊢
      obtain ⟨hc0, hc1⟩ := HC.out w3 B3
      go_wp2_with fail
      refine (implOtherQuote_any n (a, b) _).mono ?_
      rintro e w4 ⟨rfl, b4⟩
      have z4 := b4.size
      have B4 := below_step B3 b4 (by omega)
      have ovg4 := ovg3.keep (SameAt.of_below b4)
      clear hc0 hc1
      clear B3 b4 ovg3
      obtain ⟨hc0, hc1⟩ := HC.out w4 B4
      go_wp2_with fail
      refine (implGainOf_any n (otherR n (a, b)) (-s) _).mono ?_
      rintro e w5 ⟨vo, rfl, ovo5, b5⟩
      rw [HL.out.1] at ovo5
      have z5 := b5.size
      have hvo : ∀ g, vo.ownBlock = some g → g < w5.heap.size := fun g hg => (ovo5.ge g hg).2
      have B5 := below_step B4 b5 (by omega)
      have ovg5 := ovg4.keep (SameAt.of_below b5)
      clear hc0 hc1
      clear B4 b5 ovg4
      obtain ⟨hc0, hc1⟩ := HC.out w5 B5
      go_wp2_with fail
      refine (implGainOf_any n (a, b) (-s) _).mono ?_
      rintro e w6 ⟨vn, rfl, ovn6, b6⟩
      have z6 := b6.size
      have hvn : ∀ g, vn.ownBlock = some g → g < w6.heap.size := fun g hg => (ovn6.ge g hg).2
      have B6 := below_step B5 b6 (by omega)
      have ovg6 := ovg5.keep (SameAt.of_below b6)
      have ovo6 := ovo5.keep (SameAt.of_below b6)
      clear hc0 hc1
      clear B5 b6 ovg5 ovo5
      obtain ⟨hc0, hc1⟩ := HC.out w6 B6
      go_wp2_with fail
      refine (implSumGamble_any w6 _ vn _ _ (ovg6.rd) (ovn6.rd)).mono ?_
      rintro e w7 ⟨vs, rfl, ovs7, b7⟩
      rw [HL.out.2.1]
      rw [HL.out.2.2.1] at ovs7
      have z7 := b7.size
      have hvs : ∀ g, vs.ownBlock = some g → g < w7.heap.size := fun g hg => (ovs7.ge g hg).2
      have B7 := below_step B6 b7 (by omega)
      have ovg7 := ovg6.keep (SameAt.of_below b7)
      have ovo7 := ovo6.keep (SameAt.of_below b7)
      have ovn7 := ovn6.keep (SameAt.of_below b7)
      clear hc0 hc1
      clear B6 b7 ovg6 ovo6 ovn6
      clear ovn7 hvn
      obtain ⟨hc0, hc1⟩ := HC.out w7 B7
      go_wp2_with fail
      refine (implTimesGamble_any w7 _ _ 0 (ovg7.rd)).mono ?_
      rintro e w8 ⟨vt, rfl, ovt8, b8⟩
      rw [HL.out.2.2.2.1]
      rw [HL.out.2.2.2.2] at ovt8
      have z8 := b8.size
      have hvt : ∀ g, vt.ownBlock = some g → g < w8.heap.size := fun g hg => (ovt8.ge g hg).2
      have B8 := below_step B7 b8 (by omega)
      have ovg8 := ovg7.keep (SameAt.of_below b8)
      have ovo8 := ovo7.keep (SameAt.of_below b8)
      have ovs8 := ovs7.keep (SameAt.of_below b8)
      clear hc0 hc1
      clear B7 b8 ovg7 ovo7 ovs7
      obtain ⟨hc0, hc1⟩ := HC.out w8 B8
      go_wp2_with fail
      refine (sameInts_any w8 vo _ _ _ (ovo8.rd) (ovg8.rd)).mono ?_
      rintro e w' ⟨q9, rfl, rfl⟩
      rw [decide_self]
      have z9 : w8.heap.size ≤ (w8.drewN q9).heap.size := Nat.le_refl _
      have B9 : Below w.heap.size w (w8.drewN q9) := below_drewN B8 q9
      have ovg9 : IOwn (w8.drewN q9) _ _ _ := ovg8
      have ovo9 : IOwn (w8.drewN q9) _ vo _ := ovo8
      have ovs9 : IOwn (w8.drewN q9) _ vs _ := ovs8
      have ovt9 : IOwn (w8.drewN q9) _ vt _ := ovt8
      clear hc0 hc1
      clear B8 ovg8 ovo8 ovs8 ovt8
      generalize w8.drewN q9 = w9 at *
      obtain ⟨hc0, hc1⟩ := HC.out w9 B9
      go_wp2_with fail
      refine (sameInts_any w9 vs vt _ _ (ovs9.rd) (ovt9.rd)).mono ?_
      rintro e w' ⟨q10, rfl, rfl⟩
      rw [decide_self]
      have z10 : w9.heap.size ≤ (w9.drewN q10).heap.size := Nat.le_refl _
      have B10 : Below w.heap.size w (w9.drewN q10) := below_drewN B9 q10
      have ovg10 : IOwn (w9.drewN q10) _ _ _ := ovg9
      have ovo10 : IOwn (w9.drewN q10) _ vo _ := ovo9
      have ovs10 : IOwn (w9.drewN q10) _ vs _ := ovs9
      have ovt10 : IOwn (w9.drewN q10) _ vt _ := ovt9
      clear hc0 hc1
      clear B9 ovg9 ovo9 ovs9 ovt9
      generalize w9.drewN q10 = w10 at *
      have hmn := HMN.out
      go_wp2_with fail
      go_ret
      exact ⟨ret_bool (by simp), below_step HW.out B10 HW.out.size⟩
    · have HR := Lib.hid (gainR_no ht)
      clear ht
      go_wp2_with fail
      generalize w1.alloc (.cells #[.int .i64 a, .int .i64 b] 24) = w at HC HW ⊢
      have B0 : Below w.heap.size w w := Below.refl _ _
      have z0 : w.heap.size ≤ w.heap.size := Nat.le_refl _
      obtain ⟨hc0, hc1⟩ := HC.out w B0
      go_wp2_with fail
      refine (implGainOf_any n (a, b) s _).mono ?_
      rintro e w1 ⟨vg, rfl, ovg1, b1⟩
      rw [HR.out] at ovg1
      have z1 := b1.size
      have hvg : ∀ g, vg.ownBlock = some g → g < w1.heap.size := fun g hg => (ovg1.ge g hg).2
      have B1 := below_step B0 b1 (by omega)
      clear hc0 hc1
      clear B0 b1
      obtain ⟨hc0, hc1⟩ := HC.out w1 B1
      go_wp2_with fail
      refine (specGainOf_any n (a, b) s _).mono ?_
      rintro e w2 ⟨vx, rfl, ovx2, b2⟩
      rw [HR.out] at ovx2
      have z2 := b2.size
      have hvx : ∀ g, vx.ownBlock = some g → g < w2.heap.size := fun g hg => (ovx2.ge g hg).2
      have B2 := below_step B1 b2 (by omega)
      have ovg2 := ovg1.keep (SameAt.of_below b2)
      clear hc0 hc1
      clear B1 b2 ovg1
      obtain ⟨Ag, cg, rfl, hlg, hmg, -⟩ := id (ovg2.rd)
      go_wp2_with fail
      refine (sameInts_any w2 _ vx _ _ (ovg2.rd) (ovx2.rd)).mono ?_
      rintro e w' ⟨q3, rfl, rfl⟩
      rw [decide_self]
      have z3 : w2.heap.size ≤ (w2.drewN q3).heap.size := Nat.le_refl _
      have B3 : Below w.heap.size w (w2.drewN q3) := below_drewN B2 q3
      have ovg3 : IOwn (w2.drewN q3) _ _ _ := ovg2
      have ovx3 : IOwn (w2.drewN q3) _ vx _ := ovx2
      clear B2 ovg2 ovx2
      generalize w2.drewN q3 = w3 at *
      go_wp2_with fail
      refine (alive_any _).mono ?_
      rintro e w' ⟨rfl, rfl⟩
      go_wp2_with fail
      go_ret
      exact ⟨ret_bool (by simp), below_step HW.out B3 HW.out.size⟩

end Go.Proofs.Ytdgaakdlnihejaa
