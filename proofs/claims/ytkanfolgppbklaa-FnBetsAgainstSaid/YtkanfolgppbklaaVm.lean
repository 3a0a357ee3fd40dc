/- The walk of the law of BetsAgainst. Conditions: a row of bytes that came in. -/
import Derived.Test.YtkanfolgppbklaaVc
import Derived.Test.YtkanfolgppbklaaVl
import Derived.Test.YtkanfolgppbklaaUi
namespace Go.Proofs.Ytkanfolgppbklaa
open Go.RowKit
set_option linter.unusedVariables false

set_option maxRecDepth 100000 in
set_option maxHeartbeats 8000000 in
theorem FnBetsAgainst_walk (a0 : Option Addr) (len0 cap0 : Nat) (z0 : List Int) (w : World) (w0 : IsRowC .u8 w a0 len0 cap0 z0) :
    Calls Try.prog 4 #[.slice a0 len0 cap0] w fun e w' => e = .returned (.bool true) ∧ Below w.heap.size w w' := by
  by_cases hlen : 1048576 < len0
  · clear w0
    go_enter Try.func4, Try.ntmps4
    go_wp2
    go_ret
    exact ⟨rfl, Below.refl _ _⟩
  · have hlen' : decide (1048576 < len0) = false := by simpa using hlen
    go_enter Try.func4, Try.ntmps4
    go_wp2_with fail
    refine (drawBetsAgainst_any _ _ _ _ _ w0).mono ?_
    rintro e w1 ⟨n, vt, t, rfl, ovt1, hl17, hn1, hn5, B1⟩
    clear hlen hlen' w0
    have z1 := B1.size
    rcases Bool.eq_false_or_eq_true (agB n t) with h | h
    · obtain ⟨k1, k2, k3, k4, k5⟩ := bets_bring h
      have ht : tokB n t = true := by rw [agB, Bool.and_eq_true] at h; exact h.1
      obtain ⟨m, rfl, m1, m4, -, h16, -⟩ := tok_len ht
      have HA := Lib.hid h
      obtain ⟨D, hD⟩ : ∃ D, agI (m : Int) t = D := ⟨_, rfl⟩
      obtain ⟨bs, hbs⟩ : ∃ bs, betsL (m : Int) t = bs := ⟨_, rfl⟩
      rw [hD] at k1
      rw [hbs] at k2 k3 k4 k5
      have HBS := Lib.hid hbs
      have HBB : Hid (∀ k : Nat, k < m → bsB bs (k : Int) = true) := Lib.hid (fun k hk => by rw [bsB, k2, Bool.true_and, inB_iff]; omega)
      have HBN : Hid (∀ k : Nat, k < m → bsN bs (k : Int) = D) := Lib.hid (fun k hk => by rw [bsN_yes (HBB.out k hk), Int.toNat_natCast, k5 k (by omega), hD])
      have HEV := Lib.hid k4
      have h3 : bs.length ≤ 1048576 := by omega
      have h3' : (bs.length : Int) ≤ 3 := by omega
      have hD0 : D < 0 := k1
      clear h ht hD hbs k1 k2 k4 k5
      go_wp2_with fail
      refine (implBetsAgainst_any w1 _ vt t (ovt1.rd)).mono ?_
      rintro e w2 ⟨vb, rfl, ovb2, b2⟩
      rw [HA.out]
      rw [HBS.out] at ovb2
      have z2 := b2.size
      have hvb : ∀ g, vb.ownBlock = some g → g < w2.heap.size := fun g hg => (ovb2.ge g hg).2
      have B2 := below_step B1 b2 (by omega)
      have ovt2 := ovt1.keep (SameAt.of_below b2)
      clear B1 b2 ovt1
      go_wp2_with fail
      refine (specBetsAgainst_any w2 _ vt t (ovt2.rd)).mono ?_
      rintro e w3 ⟨vx, rfl, ovx3, b3⟩
      rw [HA.out]
      rw [HBS.out] at ovx3
      have z3 := b3.size
      have hvx : ∀ g, vx.ownBlock = some g → g < w3.heap.size := fun g hg => (ovx3.ge g hg).2
      have B3 := below_step B2 b3 (by omega)
      have ovt3 := ovt2.keep (SameAt.of_below b3)
      have ovb3 := ovb2.keep (SameAt.of_below b3)
      clear B2 b3 ovt2 ovb2
      go_wp2_with fail
      refine (sameBets_any w3 vb vx _ _ (ovb3.rd bC_len) (ovx3.rd bC_len)).mono ?_
      rintro e w4 ⟨rfl, b4⟩
      rw [show ∀ x : List Bt, decide (x = x) = true from fun x => by simp]
      have z4 := b4.size
      have B4 := below_step B3 b4 (by omega)
      have ovt4 := ovt3.keep (SameAt.of_below b4)
      have ovb4 := ovb3.keep (SameAt.of_below b4)
      have ovx4 := ovx3.keep (SameAt.of_below b4)
      clear B3 b4 ovt3 ovb3 ovx3
      obtain ⟨Ab, cb, rfl, hlb, hmb⟩ := (ovb4.rd bC_len).form
      obtain ⟨Ax, cx, rfl, hlx, hmx⟩ := (ovx4.rd bC_len).form
      obtain ⟨At, ct, rfl, hlt0, hmt, -⟩ := id ovt4.rd
      go_wp2_with fail
      refine (implBringsIn_any w4 0 _ bs (ovb4.rd bC_len) h3).mono ?_
      rintro e w5 ⟨rfl, b5⟩
      rw [show bsN bs 0 = D from HBN.out 0 (by omega), show bsB bs 0 = true from HBB.out 0 (by omega)]
      have z5 := b5.size
      have B5 := below_step B4 b5 (by omega)
      have ovt5 := ovt4.keep (SameAt.of_below b5)
      have ovb5 := ovb4.keep (SameAt.of_below b5)
      have ovx5 := ovx4.keep (SameAt.of_below b5)
      clear B4 b5 ovt4 ovb4 ovx4
      have HVB : Hid (∀ wr, Below w5.heap.size w5 wr → BRd wr (.slice Ab bs.length cb) bs) := Lib.hid (fun wr h => (ovb5.rd bC_len).keep (SameAt.of_below h))
      have HVX : Hid (∀ wr, Below w5.heap.size w5 wr → BRd wr (.slice Ax bs.length cx) bs) := Lib.hid (fun wr h => (ovx5.rd bC_len).keep (SameAt.of_below h))
      have HVT : Hid (∀ wr, Below w5.heap.size w5 wr → IRd wr (.slice At t.length ct) t) := Lib.hid (fun wr h => ovt5.rd.keep (SameAt.of_below h))
      have HB5 := Lib.hid B5
      clear ovb5 ovx5 ovt5 B5
      go_wp2_with fail
      go_loopw [11] (fun i wr => ∃ k : Nat, i = .int .i64 (k : Int) ∧ k ≤ m ∧ Hid (Below w5.heap.size w5 wr)) (fun i _ => m - (intOf i).toNat)
      case atStart => exact ⟨0, rfl, Nat.zero_le _, Lib.hid (Below.refl _ _)⟩
      case round =>
        obtain ⟨k, rfl, hk, HF⟩ := hrel
        by_cases hlt : k < m
        · have hlt' : (k : Int) < (m : Int) := by omega
          go_wp2_with fail
          refine (implBringsIn_any _ (k : Int) _ bs (HVB.out _ HF.out) h3).mono ?_
          rintro r w6 ⟨rfl, b6⟩
          rw [HBN.out k hlt, HBB.out k hlt]
          have HF6 := Lib.hid (below_step HF.out b6 HF.out.size)
          clear b6
          go_wp2_with fail
          go_roundw
          case rel => exact ⟨k + 1, by go_num, by omega, HF6⟩
          case measure => simp [intOf]; omega
        · have hlt' : (m : Int) ≤ (k : Int) := by omega
          go_wp2_with fail
          go_loopw [14] (fun i wq => ∃ j : Nat, i = .int .i64 (j : Int) ∧ j ≤ bs.length ∧ Hid (Below w5.heap.size w5 wq)) (fun i _ => bs.length - (intOf i).toNat)
          case atStart => exact ⟨0, rfl, Nat.zero_le _, HF⟩
          case round =>
            clear HF
            obtain ⟨j, rfl, hj, HF⟩ := hrel
            by_cases hjl : j < bs.length
            · have hjl' : (j : Int) < (bs.length : Int) := by omega
              have hj0 : (0 : Int) ≤ (j : Int) := by omega
              obtain ⟨G, off, ⟨e, p, s⟩, rfl, -, hx, hc0, hc1, hc2⟩ := BRd.at_ (HVX.out wr HF.out) hjl
              obtain ⟨a, ha, hal, hp⟩ := HEV.out _ (List.mem_of_getElem? hx)
              dsimp only at ha hp hc0 hc1 hc2
              subst ha
              obtain ⟨G2, off2, x, rfl, -, hx2, hcx⟩ := (HVT.out wr HF.out).at_ hal
              rw [tget_at hx2] at hp
              subst hp
              have ha0 : (0 : Int) ≤ (a : Int) := by omega
              have ha1 : (a : Int) < (t.length : Int) := by omega
              clear hx hx2 hc2
              go_wp2_with fail
              go_region
              all_goals
                go_wp2_with fail
                go_roundw
                case rel => exact ⟨j + 1, by go_num, by omega, Lib.hid HF.out.drew⟩
                case measure => simp [intOf]; omega
            · have hjl' : (bs.length : Int) ≤ (j : Int) := by omega
              go_wp2_with fail
              go_ret
              exact ⟨ret_bool (by simp), below_step HB5.out HF.out HB5.out.size⟩
    · have HA := Lib.hid h
      have HBS := Lib.hid (bets_no h)
      clear h
      go_wp2_with fail
      refine (implBetsAgainst_any w1 _ vt t (ovt1.rd)).mono ?_
      rintro e w2 ⟨vb, rfl, ovb2, b2⟩
      rw [HA.out]
      rw [HBS.out] at ovb2
      have z2 := b2.size
      have hvb : ∀ g, vb.ownBlock = some g → g < w2.heap.size := fun g hg => (ovb2.ge g hg).2
      have B2 := below_step B1 b2 (by omega)
      have ovt2 := ovt1.keep (SameAt.of_below b2)
      clear B1 b2 ovt1
      go_wp2_with fail
      refine (specBetsAgainst_any w2 _ vt t (ovt2.rd)).mono ?_
      rintro e w3 ⟨vx, rfl, ovx3, b3⟩
      rw [HA.out]
      rw [HBS.out] at ovx3
      have z3 := b3.size
      have hvx : ∀ g, vx.ownBlock = some g → g < w3.heap.size := fun g hg => (ovx3.ge g hg).2
      have B3 := below_step B2 b3 (by omega)
      have ovt3 := ovt2.keep (SameAt.of_below b3)
      have ovb3 := ovb2.keep (SameAt.of_below b3)
      clear B2 b3 ovt2 ovb2
      go_wp2_with fail
      refine (sameBets_any w3 vb vx _ _ (ovb3.rd bC_len) (ovx3.rd bC_len)).mono ?_
      rintro e w4 ⟨rfl, b4⟩
      rw [show ∀ x : List Bt, decide (x = x) = true from fun x => by simp]
      have z4 := b4.size
      have B4 := below_step B3 b4 (by omega)
      have ovt4 := ovt3.keep (SameAt.of_below b4)
      have ovb4 := ovb3.keep (SameAt.of_below b4)
      have ovx4 := ovx3.keep (SameAt.of_below b4)
      clear B3 b4 ovt3 ovb3 ovx3
      obtain ⟨Ab, cb, rfl, hlb, hmb⟩ := (ovb4.rd bC_len).form
      go_wp2_with fail
      refine (alive_any _).mono ?_
      rintro e w' ⟨rfl, rfl⟩
      go_wp2_with fail
      go_ret
      exact ⟨ret_bool (by simp), B4⟩

end Go.Proofs.Ytkanfolgppbklaa
