/- The walk of the law of PaidOn. Conditions: a row of bytes that came in. -/
import Derived.Test.YteefbkfhgmbcbaaYh
namespace Go.Proofs.Yteefbkfhgmbcbaa
open Go.RowKit
set_option linter.unusedVariables false

theorem onW_last {ts : List Qt} {M : Nat} {t : Qt} (hl : ts.length = M + 1) (h : ts[M]? = some t) (x : Int) : onW ts x = onW (ts.take M) x + (if t.1 = x then t.2 else 0) := by
  have := onW_take h x
  rwa [List.take_of_length_le (by omega)] at this

theorem Blk.below10 {w w' : World} {g : Nat} {t : TypeId} {cs : Array Value} (h : Blk w g t cs) (hb : Below w.heap.size w w') : Blk w' g t cs := (hb.block g h.lt).trans h

theorem blk_of10 (w : World) (t : TypeId) (cs : Array Value) : Blk (w.alloc (.cells cs t)) w.heap.size t cs := heap_alloc_new w _

theorem alloc_below10 (w : World) (o : Obj) : Below w.heap.size w (w.alloc o) := (Below.refl _ _).alloc (Nat.le_refl _) o

set_option maxRecDepth 100000 in
set_option maxHeartbeats 8000000 in
theorem FnPaidOn_walk (a0 : Option Addr) (len0 cap0 : Nat) (z0 : List Int) (w : World) (w0 : IsRowC .u8 w a0 len0 cap0 z0) :
    Calls Try.prog 5 #[.slice a0 len0 cap0] w fun e w' => e = .returned (.bool true) ∧ Below w.heap.size w w' := by
  by_cases hlen : 1048576 < len0
  · clear w0
    go_enter Try.func5, Try.ntmps5
    go_wp2
    go_ret
    exact ⟨rfl, Below.refl _ _⟩
  · have hlen' : decide (1048576 < len0) = false := by simpa using hlen
    go_enter Try.func5, Try.ntmps5
    go_wp2_with fail
    refine (drawPaidOn_any _ _ _ _ _ w0).mono ?_
    rintro e w1 ⟨W, g, c, ts, rfl, hl7, ov1, B1⟩
    clear hlen hlen' w0
    have z1 := B1.size
    have hlc : ts.length ≤ c := by
      obtain ⟨A', c', e, h1, h2⟩ := (ov1.rd qC_len).form
      injection e with e1 e2 e3
      omega
    have hcm : c ≤ 9223372036854775807 := by
      obtain ⟨A', c', e, h1, h2⟩ := (ov1.rd qC_len).form
      injection e with e1 e2 e3
      omega
    obtain ⟨y, hy⟩ : ∃ y, paidR W ts = y := ⟨_, rfl⟩
    have HY := Lib.hid hy
    go_wp2_with fail
    refine (implPaidOn_any w1 W _ ts (ov1.rd qC_len)).mono ?_
    rintro e w2 ⟨vx, rfl, ovx2, b2⟩
    rw [HY.out] at ovx2
    have z2 := b2.size
    have B2 := below_step B1 b2 (by omega)
    have ov2 := ov1.keep (SameAt.of_below b2)
    clear B1 b2 ov1
    go_wp2_with fail
    refine (specPaidOn_any w2 W _ ts (ov2.rd qC_len)).mono ?_
    rintro e w3 ⟨vy, rfl, ovy3, b3⟩
    rw [HY.out] at ovy3
    have z3 := b3.size
    have B3 := below_step B2 b3 (by omega)
    have ov3 := ov2.keep (SameAt.of_below b3)
    have ovx3 := ovx2.keep (SameAt.of_below b3)
    clear B2 b3 ov2 ovx2
    go_wp2_with fail
    refine (sameInts_any w3 vx vy _ _ (ovx3.rd) (ovy3.rd)).mono ?_
    rintro e w' ⟨q4, rfl, rfl⟩
    rw [decide_self]
    have z4 : w3.heap.size ≤ (w3.drewN q4).heap.size := Nat.le_refl _
    have B4 : Below w.heap.size w (w3.drewN q4) := below_drewN B3 q4
    have ov4 : KOwn (w3.drewN q4) _ _ _ := ov3
    have ovx4 : IOwn (w3.drewN q4) _ vx _ := ovx3
    clear B3 ov3 ovx3 ovy3
    generalize w3.drewN q4 = w4 at *
    obtain ⟨A1, c1, rfl, hlc1, hmc1, -⟩ := id ovx4.rd
    rcases Bool.eq_false_or_eq_true (tkB W ts) with h | h
    · obtain ⟨hW1, hW4, h6, hall⟩ := (tkB_iff W ts).1 h
      obtain ⟨N, rfl⟩ : ∃ N : Nat, W = N := ⟨W.toNat, by omega⟩
      have hyl : y.length = N := by rw [← hy]; unfold paidR; rw [if_pos h, paid_len]; omega
      subst hyl
      have hN1 : 1 ≤ y.length := by omega
      rcases Nat.eq_zero_or_pos ts.length with h0 | h0
      · obtain rfl : ts = [] := List.eq_nil_of_length_eq_zero h0
        clear h0 h hall hy
        have hne : ((y.length : Int) == 0) = false := by simpa using (by omega : ¬ ((y.length : Int) = 0))
        go_wp2_with fail
        refine (alive_any _).mono ?_
        rintro e w' ⟨rfl, rfl⟩
        go_wp2_with fail
        go_ret
        exact ⟨rfl, B4⟩
      · obtain ⟨M, hM⟩ : ∃ M, ts.length = M + 1 := ⟨ts.length - 1, by omega⟩
        obtain ⟨t, ht⟩ : ∃ t, ts[M]? = some t := ⟨_, List.getElem?_eq_getElem (by omega)⟩
        have bt := (tkOne_iff _ t).1 (hall t (List.mem_of_getElem? ht))
        obtain ⟨x, hx⟩ : ∃ x, paidL (y.length : Int) (ts.take M) = x := ⟨_, rfl⟩
        have hxl : x.length = y.length := by rw [← hx, paid_len]; omega
        have HT := tkB_take h M
        have HX : Hid (paidR (y.length : Int) (ts.take M) = x) := Lib.hid (by unfold paidR; rw [if_pos HT, hx])
        have HXB : Hid (∀ z ∈ x, 0 ≤ z ∧ z ≤ 300) := Lib.hid (by rw [← hx]; exact paid_each HT)
        have HYX : Hid (∀ (k : Nat) (z : Int), x[k]? = some z → y[k]? = some (z + if t.1 = (k : Int) then t.2 else 0)) := Lib.hid (by
          intro k z hz
          have hk : k < (y.length : Int).toNat := by
            have := (List.getElem?_eq_some_iff.1 hz).1
            omega
          rw [← hx, paid_at hk] at hz
          have e : y = paidL (y.length : Int) ts := by
            have := hy
            unfold paidR at this
            rw [if_pos h] at this
            exact this.symm
          have e2 := paid_at (ts := ts) hk
          rw [← e] at e2
          rw [e2, onW_last hM ht, Option.some.inj hz])
        have hwM : IntKind.i64.wrap ((ts.length : Int) - 1) = (M : Int) := by rw [hM]; exact (IntWalk.i64_in _ (by omega)).trans (by omega)
        have hMl : M < ts.length := by omega
        have hMl' : (M : Int) < (ts.length : Int) := by omega
        have hM0 : (0 : Int) ≤ (M : Int) := by omega
        have hMc : (M : Int) < (c : Int) := by omega
        have hne : ((y.length : Int) == 0) = false := by simpa using (by omega : ¬ ((y.length : Int) = 0))
        have hne2 : ((ts.length : Int) == 0) = false := by simpa using (by omega : ¬ ((ts.length : Int) = 0))
        have hc0 := QRd.cell (ov4.rd qC_len) ht
        obtain ⟨p, q⟩ := t
        obtain ⟨hc0, hc1⟩ := hc0
        simp only [Nat.zero_add] at hc0 hc1
        have HA := alloc_below10 w4 (.cells #[.int .i64 p, .int .i64 q] 35)
        have HV := Lib.hid ((ov4.rd qC_len).keep (SameAt.of_below HA))
        have HVX := Lib.hid (ovx4.rd.keep (SameAt.of_below HA))
        have HK := Lib.hid (blk_of10 w4 35 #[.int .i64 p, .int .i64 q])
        have HB := Lib.hid (below_step B4 HA B4.size)
        have z4' := B4.size
        clear hy hx h hall hM ht HT ov4 ovx4 h0 HA B4
        go_wp2_with fail
        generalize w4.alloc (.cells #[.int .i64 p, .int .i64 q] 35) = w4' at *
        refine (implPaidOn_any _ _ _ (ts.take M) (GRd.take7 (HV.out) (by omega))).mono ?_
        rintro e w5 ⟨vl, rfl, ovl5, b5⟩
        rw [HX.out] at ovl5
        have HB5 := Lib.hid (below_step HB.out b5 HB.out.size)
        have HK5 := Lib.hid (HK.out.below10 b5)
        have HVX5 := Lib.hid (HVX.out.keep (SameAt.of_below b5))
        obtain ⟨A2, c2, rfl, hlc2, hmc2, -⟩ := id ovl5.rd
        have HVL := Lib.hid ovl5.rd
        rw [hxl] at *
        clear b5 ovl5 hc0 hc1 HVX HV HB HK
        go_wp2_with fail
        have hx0 := HK5.out.cell 0
        have hx1 := HK5.out.cell 1
        go_loopw [8] (fun i wr => ∃ k : Nat, i = .int .i64 (k : Int) ∧ k ≤ y.length ∧ Hid (wr = w5)) (fun i _ => y.length - (intOf i).toNat)
        case atStart => exact ⟨0, rfl, Nat.zero_le _, Lib.hid rfl⟩
        case round =>
          obtain ⟨k, rfl, hk, HF⟩ := hrel
          obtain rfl := HF.out
          clear HF
          by_cases hlt : k < y.length
          · have hlt' : (k : Int) < (y.length : Int) := by omega
            obtain ⟨G1, o1, n, rfl, -, hn, hc1⟩ := HVL.out.at_ hlt
            obtain ⟨G2, o2, m, rfl, -, hm, hc2⟩ := HVX5.out.at_ hlt
            have hmn := Option.some.inj (hm.symm.trans (HYX.out k n hn))
            have bn := HXB.out n (List.mem_of_getElem? hn)
            clear hn hm
            by_cases hpk : p = (k : Int)
            · subst hpk
              rw [if_pos rfl] at hmn
              have hw1 : IntKind.i64.wrap (n + q) = m := by rw [hmn]; exact IntWalk.i64_in _ (by omega)
              clear hmn
              go_wp2_with fail
              exact ⟨⟨k + 1, rfl, by omega, Lib.hid (by trivial)⟩, by simp [intOf]; omega⟩
            · rw [if_neg hpk] at hmn
              have hpk' : ((k : Int) == p) = false := by simpa using fun e => hpk e.symm
              obtain rfl : m = n := by omega
              clear hmn
              go_wp2_with fail
              exact ⟨⟨k + 1, rfl, by omega, Lib.hid (by trivial)⟩, by simp [intOf]; omega⟩
          · obtain rfl : k = y.length := by omega
            have hlt' : decide ((y.length : Int) < (y.length : Int)) = false := by simp
            go_wp2_with fail
            go_ret
            exact ⟨rfl, HB5.out⟩
    · have hyn : y = [] := by rw [← hy]; unfold paidR; rw [if_neg (by rw [h]; decide)]
      clear h hy
      subst hyn
      go_wp2_with fail
      refine (alive_any _).mono ?_
      rintro e w' ⟨rfl, rfl⟩
      go_wp2_with fail
      go_ret
      exact ⟨rfl, B4⟩

end Go.Proofs.Yteefbkfhgmbcbaa
