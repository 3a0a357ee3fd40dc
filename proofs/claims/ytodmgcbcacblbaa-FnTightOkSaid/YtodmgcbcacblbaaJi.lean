/- The walk of the law of TightOk. Conditions: rows of bytes that came in. (gen_ji.py) -/
import Derived.Test.YtodmgcbcacblbaaJh
namespace Go.Proofs.Ytodmgcbcacblbaa
open Go.RowKit
set_option linter.unusedVariables false

theorem tight_nob {n : Int} {bs : List Bt} (h : bidsB n bs = false) : tightB n bs = false := by rw [tightB, sfairB, h]; simp

theorem tight_fair {n : Int} {bs : List Bt} (h : tightB n bs = true) : sfairB n bs = true := by rw [tightB, Bool.and_eq_true] at h; exact h.2

theorem tight_nil {n : Nat} (h1 : 1 ≤ n) (h4 : n ≤ 4) : tightB (n : Int) [] = true := by
  have hb : bidsB (n : Int) [] = true := (bidsB_iff _ _).2 ⟨by omega, by simp, fun b hb => by cases hb⟩
  obtain ⟨v, rfl⟩ : ∃ v, n = v + 1 := ⟨n - 1, by omega⟩
  rw [tightB, sfairB, hb, Int.toNat_natCast, anyS]
  have hm : (36 :: List.replicate v 0) ∈ lay (v + 1) 36 := (mem_lay _ _ _).2 ⟨by simp, by simp⟩
  rw [List.any_eq_true.2 ⟨_, hm, rfl⟩]; rfl

theorem below_lit13 {w W w' : World} {o : Obj} (h : Below w.heap.size w W) (b : Below (W.alloc o).heap.size (W.alloc o) w') : Below w.heap.size w w' := below_step (h.alloc h.size o) b (by have := h.size; simp; omega)

theorem full13 {n : Nat} (h1 : 1 ≤ n) (h4 : n ≤ 4) : wrap64 (wrap64 ((2 : Int) ^ n) - 1) = 2 ^ n - 1 ∧ (1 : Int) ≤ 2 ^ n - 1 := by
  obtain rfl | rfl | rfl | rfl : n = 1 ∨ n = 2 ∨ n = 3 ∨ n = 4 := by omega
  all_goals decide +kernel

set_option maxRecDepth 100000 in
set_option maxHeartbeats 8000000 in
theorem FnTightOk_walk (a0 : Option Addr) (len0 cap0 : Nat) (z0 : List Int) (w : World) (w0 : IsRowC .u8 w a0 len0 cap0 z0) :
    Calls Try.prog 9 #[.slice a0 len0 cap0] w fun e w' => e = .returned (.bool true) ∧ Below w.heap.size w w' := by
  by_cases hlen : 1048576 < len0
  · clear w0
    go_enter Try.func9, Try.ntmps9
    go_wp2
    go_ret
    exact ⟨rfl, Below.refl _ _⟩
  · have hlen' : decide (1048576 < len0) = false := by simpa using hlen
    go_enter Try.func9, Try.ntmps9
    go_wp2_with fail
    refine (drawTightOk_any _ _ _ _ _ w0).mono ?_
    rintro e w1 ⟨n, v, bs, rfl, ⟨n1, n4⟩, ov, hl4, B1⟩
    have HB1 := Lib.hid B1
    obtain ⟨A, c, rfl, hl, hmx⟩ := ov.form
    have HV : Hid (∀ wr, Below w1.heap.size w1 wr → BRd wr (.slice A bs.length c) bs) := Lib.hid (fun wr hb => ov.keep (SameAt.of_below hb))
    have HNIL := Lib.hid (tight_nil n1 n4)
    obtain ⟨hfull, hfull1⟩ := full13 n1 n4
    obtain ⟨t, ht⟩ : ∃ t, tightB (n : Int) bs = t := ⟨_, rfl⟩
    have HT := Lib.hid ht
    clear ov B1 w0
    rcases Bool.eq_false_or_eq_true (bidsB (n : Int) bs) with hk | hk
    · have HK := Lib.hid hk
      by_cases hone : bs.length = 1
      · obtain ⟨⟨e, lo, hi⟩, rfl⟩ : ∃ b, bs = [b] := List.length_eq_one_iff.1 hone
        replace HV : Hid (∀ wr, Below w1.heap.size w1 wr → BRd wr (.slice A 1 c) [(e, lo, hi)]) := HV
        simp only [List.length_singleton]
        obtain ⟨k1, k2, k3⟩ := tight_one hk
        rw [ht] at k1 k2 k3
        replace k1 : e = 0 → t = (decide (lo = 0) && decide (hi = 0)) := k1
        replace k2 : e = 2 ^ n - 1 → t = (decide (lo = 6) && decide (hi = 6)) := k2
        replace k3 : e ≠ 0 → e ≠ 2 ^ n - 1 → t = true := k3
        have HFR : Hid (t = true → sfairB (n : Int) [(e, lo, hi)] = true) := Lib.hid (fun h => tight_fair (ht.trans h))
        by_cases h0 : e = 0
        · subst h0
          have q1 : ((0 : Int) == wrap64 (wrap64 ((2 : Int) ^ n) - 1)) = false := beq_false_of_ne (by rw [hfull]; omega)
          replace k1 := k1 rfl
          clear k2 k3 ht hk hone hfull
          by_cases c1 : lo = 0
          · subst c1
            by_cases c2 : hi = 0
            · subst c2
              obtain rfl : t = true := k1
              replace HFR := Lib.hid (HFR.out rfl)
              have C1 := Lib.hid (Below.refl w1.heap.size w1)
              go_wp2_with fail
              refine (implTightOk_any w1 (n : Int) _ [(_, _, _)] (HV.out w1 C1.out)).mono ?_
              rintro e w2 ⟨rfl, b2⟩
              rw [HT.out]
              have C2 := Lib.hid (below_step C1.out b2 C1.out.size)
              clear b2
              go_wp2_with fail
              refine (specTightOk_any w2 (n : Int) _ [(_, _, _)] (HV.out w2 C2.out)).mono ?_
              rintro e w3 ⟨rfl, b3⟩
              rw [HT.out]
              have C3 := Lib.hid (below_step C2.out b3 C2.out.size)
              clear b3
              go_wp2_with fail
              refine (specBidsOk_any w3 (n : Int) _ [(_, _, _)] (HV.out w3 C3.out)).mono ?_
              rintro e w4 ⟨rfl, b4⟩
              rw [HK.out]
              have C4 := Lib.hid (below_step C3.out b4 C3.out.size)
              clear b4
              obtain ⟨b, off, q, rfl, -, hx, hc0, hc1, hc2⟩ := BRd.at_ (HV.out w4 C4.out) (k := 0) (by decide)
              obtain rfl : ((0 : Int), (0 : Int), (0 : Int)) = q := Option.some.inj hx
              have hc0 : w4.cell? ⟨b, off, none⟩ = some (.int .i64 (0)) := hc0
              have hc1 : w4.cell? ⟨b, off + 1, none⟩ = some (.int .i64 (0)) := by have h : w4.cell? ⟨b, off + 0 * 3 + 1, none⟩ = some (.int .i64 (0)) := hc1; simpa using h
              have hc2 : w4.cell? ⟨b, off + 2, none⟩ = some (.int .i64 (0)) := by have h : w4.cell? ⟨b, off + 0 * 3 + 2, none⟩ = some (.int .i64 (0)) := hc2; simpa using h
              clear hx
              go_wp2_with fail
              go_quiet (fail)
              have CW : Hid (∀ (o : Obj) (q : Nat), Below w1.heap.size w1 ((w4.alloc o).drewN q)) := Lib.hid (fun o q => below_drewN (C4.out.alloc C4.out.size o) q)
              go_wp2_with fail
              refine (implSidesFair_any _ (n : Int) _ [(_, _, _)] (HV.out _ (CW.out _ _))).mono ?_
              rintro e w7 ⟨rfl, b7⟩
              rw [HFR.out]
              have C7 := Lib.hid (below_step (CW.out _ _) b7 ((CW.out _ _)).size)
              clear b7
              go_wp2_with fail
              refine (implTightOk_any _ (n : Int) _ [] (brd_empty _ _)).mono ?_
              rintro e w8 ⟨rfl, b8⟩
              rw [HNIL.out]
              have C8 := Lib.hid (below_lit13 C7.out b8)
              clear b8
              go_wp2_with fail
              go_ret
              exact ⟨rfl, below_step HB1.out C8.out HB1.out.size⟩
            · have c2' : (hi == 0) = false := beq_false_of_ne c2
              obtain rfl : t = false := by rw [k1, decide_eq_false c2]; rfl
              clear k1 c2
              have C1 := Lib.hid (Below.refl w1.heap.size w1)
              go_wp2_with fail
              refine (implTightOk_any w1 (n : Int) _ [(_, _, _)] (HV.out w1 C1.out)).mono ?_
              rintro e w2 ⟨rfl, b2⟩
              rw [HT.out]
              have C2 := Lib.hid (below_step C1.out b2 C1.out.size)
              clear b2
              go_wp2_with fail
              refine (specTightOk_any w2 (n : Int) _ [(_, _, _)] (HV.out w2 C2.out)).mono ?_
              rintro e w3 ⟨rfl, b3⟩
              rw [HT.out]
              have C3 := Lib.hid (below_step C2.out b3 C2.out.size)
              clear b3
              go_wp2_with fail
              refine (specBidsOk_any w3 (n : Int) _ [(_, _, _)] (HV.out w3 C3.out)).mono ?_
              rintro e w4 ⟨rfl, b4⟩
              rw [HK.out]
              have C4 := Lib.hid (below_step C3.out b4 C3.out.size)
              clear b4
              obtain ⟨b, off, q, rfl, -, hx, hc0, hc1, hc2⟩ := BRd.at_ (HV.out w4 C4.out) (k := 0) (by decide)
              obtain rfl : ((0 : Int), (0 : Int), (hi : Int)) = q := Option.some.inj hx
              have hc0 : w4.cell? ⟨b, off, none⟩ = some (.int .i64 (0)) := hc0
              have hc1 : w4.cell? ⟨b, off + 1, none⟩ = some (.int .i64 (0)) := by have h : w4.cell? ⟨b, off + 0 * 3 + 1, none⟩ = some (.int .i64 (0)) := hc1; simpa using h
              have hc2 : w4.cell? ⟨b, off + 2, none⟩ = some (.int .i64 (hi)) := by have h : w4.cell? ⟨b, off + 0 * 3 + 2, none⟩ = some (.int .i64 (hi)) := hc2; simpa using h
              clear hx
              go_wp2_with fail
              go_quiet (fail)
              have CW : Hid (∀ (o : Obj) (q : Nat), Below w1.heap.size w1 ((w4.alloc o).drewN q)) := Lib.hid (fun o q => below_drewN (C4.out.alloc C4.out.size o) q)
              go_wp2_with fail
              refine (implTightOk_any _ (n : Int) _ [] (brd_empty _ _)).mono ?_
              rintro e w8 ⟨rfl, b8⟩
              rw [HNIL.out]
              have C8 := Lib.hid (below_lit13 (CW.out _ _) b8)
              clear b8
              go_wp2_with fail
              go_ret
              exact ⟨rfl, below_step HB1.out C8.out HB1.out.size⟩
          · have c1' : (lo == 0) = false := beq_false_of_ne c1
            obtain rfl : t = false := by rw [k1, decide_eq_false c1]; rfl
            clear k1 c1
            have C1 := Lib.hid (Below.refl w1.heap.size w1)
            go_wp2_with fail
            refine (implTightOk_any w1 (n : Int) _ [(_, _, _)] (HV.out w1 C1.out)).mono ?_
            rintro e w2 ⟨rfl, b2⟩
            rw [HT.out]
            have C2 := Lib.hid (below_step C1.out b2 C1.out.size)
            clear b2
            go_wp2_with fail
            refine (specTightOk_any w2 (n : Int) _ [(_, _, _)] (HV.out w2 C2.out)).mono ?_
            rintro e w3 ⟨rfl, b3⟩
            rw [HT.out]
            have C3 := Lib.hid (below_step C2.out b3 C2.out.size)
            clear b3
            go_wp2_with fail
            refine (specBidsOk_any w3 (n : Int) _ [(_, _, _)] (HV.out w3 C3.out)).mono ?_
            rintro e w4 ⟨rfl, b4⟩
            rw [HK.out]
            have C4 := Lib.hid (below_step C3.out b4 C3.out.size)
            clear b4
            obtain ⟨b, off, q, rfl, -, hx, hc0, hc1, hc2⟩ := BRd.at_ (HV.out w4 C4.out) (k := 0) (by decide)
            obtain rfl : ((0 : Int), (lo : Int), (hi : Int)) = q := Option.some.inj hx
            have hc0 : w4.cell? ⟨b, off, none⟩ = some (.int .i64 (0)) := hc0
            have hc1 : w4.cell? ⟨b, off + 1, none⟩ = some (.int .i64 (lo)) := by have h : w4.cell? ⟨b, off + 0 * 3 + 1, none⟩ = some (.int .i64 (lo)) := hc1; simpa using h
            have hc2 : w4.cell? ⟨b, off + 2, none⟩ = some (.int .i64 (hi)) := by have h : w4.cell? ⟨b, off + 0 * 3 + 2, none⟩ = some (.int .i64 (hi)) := hc2; simpa using h
            clear hx
            go_wp2_with fail
            go_quiet (fail)
            have CW : Hid (∀ (o : Obj) (q : Nat), Below w1.heap.size w1 ((w4.alloc o).drewN q)) := Lib.hid (fun o q => below_drewN (C4.out.alloc C4.out.size o) q)
            go_wp2_with fail
            refine (implTightOk_any _ (n : Int) _ [] (brd_empty _ _)).mono ?_
            rintro e w8 ⟨rfl, b8⟩
            rw [HNIL.out]
            have C8 := Lib.hid (below_lit13 (CW.out _ _) b8)
            clear b8
            go_wp2_with fail
            go_ret
            exact ⟨rfl, below_step HB1.out C8.out HB1.out.size⟩
        · have h0' : (e == 0) = false := beq_false_of_ne h0
          by_cases hf : e = 2 ^ n - 1
          · have q1 : (e == wrap64 (wrap64 ((2 : Int) ^ n) - 1)) = true := by rw [hfull, hf]; simp
            replace k2 := k2 hf
            clear k1 k3 ht hk hone hfull hf h0
            by_cases c1 : lo = 6
            · subst c1
              by_cases c2 : hi = 6
              · subst c2
                obtain rfl : t = true := k2
                replace HFR := Lib.hid (HFR.out rfl)
                have C1 := Lib.hid (Below.refl w1.heap.size w1)
                go_wp2_with fail
                refine (implTightOk_any w1 (n : Int) _ [(_, _, _)] (HV.out w1 C1.out)).mono ?_
                rintro e w2 ⟨rfl, b2⟩
                rw [HT.out]
                have C2 := Lib.hid (below_step C1.out b2 C1.out.size)
                clear b2
                go_wp2_with fail
                refine (specTightOk_any w2 (n : Int) _ [(_, _, _)] (HV.out w2 C2.out)).mono ?_
                rintro e w3 ⟨rfl, b3⟩
                rw [HT.out]
                have C3 := Lib.hid (below_step C2.out b3 C2.out.size)
                clear b3
                go_wp2_with fail
                refine (specBidsOk_any w3 (n : Int) _ [(_, _, _)] (HV.out w3 C3.out)).mono ?_
                rintro e w4 ⟨rfl, b4⟩
                rw [HK.out]
                have C4 := Lib.hid (below_step C3.out b4 C3.out.size)
                clear b4
                obtain ⟨b, off, q, rfl, -, hx, hc0, hc1, hc2⟩ := BRd.at_ (HV.out w4 C4.out) (k := 0) (by decide)
                obtain rfl : ((e : Int), (6 : Int), (6 : Int)) = q := Option.some.inj hx
                have hc0 : w4.cell? ⟨b, off, none⟩ = some (.int .i64 (e)) := hc0
                have hc1 : w4.cell? ⟨b, off + 1, none⟩ = some (.int .i64 (6)) := by have h : w4.cell? ⟨b, off + 0 * 3 + 1, none⟩ = some (.int .i64 (6)) := hc1; simpa using h
                have hc2 : w4.cell? ⟨b, off + 2, none⟩ = some (.int .i64 (6)) := by have h : w4.cell? ⟨b, off + 0 * 3 + 2, none⟩ = some (.int .i64 (6)) := hc2; simpa using h
                clear hx
                go_wp2_with fail
                go_quiet (fail)
                have CW : Hid (∀ (o : Obj) (q : Nat), Below w1.heap.size w1 ((w4.alloc o).drewN q)) := Lib.hid (fun o q => below_drewN (C4.out.alloc C4.out.size o) q)
                go_wp2_with fail
                refine (implSidesFair_any _ (n : Int) _ [(_, _, _)] (HV.out _ (CW.out _ _))).mono ?_
                rintro e w7 ⟨rfl, b7⟩
                rw [HFR.out]
                have C7 := Lib.hid (below_step (CW.out _ _) b7 ((CW.out _ _)).size)
                clear b7
                go_wp2_with fail
                refine (implTightOk_any _ (n : Int) _ [] (brd_empty _ _)).mono ?_
                rintro e w8 ⟨rfl, b8⟩
                rw [HNIL.out]
                have C8 := Lib.hid (below_lit13 C7.out b8)
                clear b8
                go_wp2_with fail
                go_ret
                exact ⟨rfl, below_step HB1.out C8.out HB1.out.size⟩
              · have c2' : (hi == 6) = false := beq_false_of_ne c2
                obtain rfl : t = false := by rw [k2, decide_eq_false c2]; rfl
                clear k2 c2
                have C1 := Lib.hid (Below.refl w1.heap.size w1)
                go_wp2_with fail
                refine (implTightOk_any w1 (n : Int) _ [(_, _, _)] (HV.out w1 C1.out)).mono ?_
                rintro e w2 ⟨rfl, b2⟩
                rw [HT.out]
                have C2 := Lib.hid (below_step C1.out b2 C1.out.size)
                clear b2
                go_wp2_with fail
                refine (specTightOk_any w2 (n : Int) _ [(_, _, _)] (HV.out w2 C2.out)).mono ?_
                rintro e w3 ⟨rfl, b3⟩
                rw [HT.out]
                have C3 := Lib.hid (below_step C2.out b3 C2.out.size)
                clear b3
                go_wp2_with fail
                refine (specBidsOk_any w3 (n : Int) _ [(_, _, _)] (HV.out w3 C3.out)).mono ?_
                rintro e w4 ⟨rfl, b4⟩
                rw [HK.out]
                have C4 := Lib.hid (below_step C3.out b4 C3.out.size)
                clear b4
                obtain ⟨b, off, q, rfl, -, hx, hc0, hc1, hc2⟩ := BRd.at_ (HV.out w4 C4.out) (k := 0) (by decide)
                obtain rfl : ((e : Int), (6 : Int), (hi : Int)) = q := Option.some.inj hx
                have hc0 : w4.cell? ⟨b, off, none⟩ = some (.int .i64 (e)) := hc0
                have hc1 : w4.cell? ⟨b, off + 1, none⟩ = some (.int .i64 (6)) := by have h : w4.cell? ⟨b, off + 0 * 3 + 1, none⟩ = some (.int .i64 (6)) := hc1; simpa using h
                have hc2 : w4.cell? ⟨b, off + 2, none⟩ = some (.int .i64 (hi)) := by have h : w4.cell? ⟨b, off + 0 * 3 + 2, none⟩ = some (.int .i64 (hi)) := hc2; simpa using h
                clear hx
                go_wp2_with fail
                go_quiet (fail)
                have CW : Hid (∀ (o : Obj) (q : Nat), Below w1.heap.size w1 ((w4.alloc o).drewN q)) := Lib.hid (fun o q => below_drewN (C4.out.alloc C4.out.size o) q)
                go_wp2_with fail
                refine (implTightOk_any _ (n : Int) _ [] (brd_empty _ _)).mono ?_
                rintro e w8 ⟨rfl, b8⟩
                rw [HNIL.out]
                have C8 := Lib.hid (below_lit13 (CW.out _ _) b8)
                clear b8
                go_wp2_with fail
                go_ret
                exact ⟨rfl, below_step HB1.out C8.out HB1.out.size⟩
            · have c1' : (lo == 6) = false := beq_false_of_ne c1
              obtain rfl : t = false := by rw [k2, decide_eq_false c1]; rfl
              clear k2 c1
              have C1 := Lib.hid (Below.refl w1.heap.size w1)
              go_wp2_with fail
              refine (implTightOk_any w1 (n : Int) _ [(_, _, _)] (HV.out w1 C1.out)).mono ?_
              rintro e w2 ⟨rfl, b2⟩
              rw [HT.out]
              have C2 := Lib.hid (below_step C1.out b2 C1.out.size)
              clear b2
              go_wp2_with fail
              refine (specTightOk_any w2 (n : Int) _ [(_, _, _)] (HV.out w2 C2.out)).mono ?_
              rintro e w3 ⟨rfl, b3⟩
              rw [HT.out]
              have C3 := Lib.hid (below_step C2.out b3 C2.out.size)
              clear b3
              go_wp2_with fail
              refine (specBidsOk_any w3 (n : Int) _ [(_, _, _)] (HV.out w3 C3.out)).mono ?_
              rintro e w4 ⟨rfl, b4⟩
              rw [HK.out]
              have C4 := Lib.hid (below_step C3.out b4 C3.out.size)
              clear b4
              obtain ⟨b, off, q, rfl, -, hx, hc0, hc1, hc2⟩ := BRd.at_ (HV.out w4 C4.out) (k := 0) (by decide)
              obtain rfl : ((e : Int), (lo : Int), (hi : Int)) = q := Option.some.inj hx
              have hc0 : w4.cell? ⟨b, off, none⟩ = some (.int .i64 (e)) := hc0
              have hc1 : w4.cell? ⟨b, off + 1, none⟩ = some (.int .i64 (lo)) := by have h : w4.cell? ⟨b, off + 0 * 3 + 1, none⟩ = some (.int .i64 (lo)) := hc1; simpa using h
              have hc2 : w4.cell? ⟨b, off + 2, none⟩ = some (.int .i64 (hi)) := by have h : w4.cell? ⟨b, off + 0 * 3 + 2, none⟩ = some (.int .i64 (hi)) := hc2; simpa using h
              clear hx
              go_wp2_with fail
              go_quiet (fail)
              have CW : Hid (∀ (o : Obj) (q : Nat), Below w1.heap.size w1 ((w4.alloc o).drewN q)) := Lib.hid (fun o q => below_drewN (C4.out.alloc C4.out.size o) q)
              go_wp2_with fail
              refine (implTightOk_any _ (n : Int) _ [] (brd_empty _ _)).mono ?_
              rintro e w8 ⟨rfl, b8⟩
              rw [HNIL.out]
              have C8 := Lib.hid (below_lit13 (CW.out _ _) b8)
              clear b8
              go_wp2_with fail
              go_ret
              exact ⟨rfl, below_step HB1.out C8.out HB1.out.size⟩
          · have q1 : (e == wrap64 (wrap64 ((2 : Int) ^ n) - 1)) = false := beq_false_of_ne (by rw [hfull]; exact hf)
            obtain rfl : t = true := k3 h0 hf
            replace HFR := Lib.hid (HFR.out rfl)
            clear k1 k2 k3 ht hk hone hfull hf h0
            have C1 := Lib.hid (Below.refl w1.heap.size w1)
            go_wp2_with fail
            refine (implTightOk_any w1 (n : Int) _ [(_, _, _)] (HV.out w1 C1.out)).mono ?_
            rintro e w2 ⟨rfl, b2⟩
            rw [HT.out]
            have C2 := Lib.hid (below_step C1.out b2 C1.out.size)
            clear b2
            go_wp2_with fail
            refine (specTightOk_any w2 (n : Int) _ [(_, _, _)] (HV.out w2 C2.out)).mono ?_
            rintro e w3 ⟨rfl, b3⟩
            rw [HT.out]
            have C3 := Lib.hid (below_step C2.out b3 C2.out.size)
            clear b3
            go_wp2_with fail
            refine (specBidsOk_any w3 (n : Int) _ [(_, _, _)] (HV.out w3 C3.out)).mono ?_
            rintro e w4 ⟨rfl, b4⟩
            rw [HK.out]
            have C4 := Lib.hid (below_step C3.out b4 C3.out.size)
            clear b4
            obtain ⟨b, off, q, rfl, -, hx, hc0, hc1, hc2⟩ := BRd.at_ (HV.out w4 C4.out) (k := 0) (by decide)
            obtain rfl : ((e : Int), (lo : Int), (hi : Int)) = q := Option.some.inj hx
            have hc0 : w4.cell? ⟨b, off, none⟩ = some (.int .i64 (e)) := hc0
            have hc1 : w4.cell? ⟨b, off + 1, none⟩ = some (.int .i64 (lo)) := by have h : w4.cell? ⟨b, off + 0 * 3 + 1, none⟩ = some (.int .i64 (lo)) := hc1; simpa using h
            have hc2 : w4.cell? ⟨b, off + 2, none⟩ = some (.int .i64 (hi)) := by have h : w4.cell? ⟨b, off + 0 * 3 + 2, none⟩ = some (.int .i64 (hi)) := hc2; simpa using h
            clear hx
            go_wp2_with fail
            go_quiet (fail)
            have CW : Hid (∀ (o : Obj) (q : Nat), Below w1.heap.size w1 ((w4.alloc o).drewN q)) := Lib.hid (fun o q => below_drewN (C4.out.alloc C4.out.size o) q)
            go_wp2_with fail
            refine (implSidesFair_any _ (n : Int) _ [(_, _, _)] (HV.out _ (CW.out _ _))).mono ?_
            rintro e w7 ⟨rfl, b7⟩
            rw [HFR.out]
            have C7 := Lib.hid (below_step (CW.out _ _) b7 ((CW.out _ _)).size)
            clear b7
            go_wp2_with fail
            refine (implTightOk_any _ (n : Int) _ [] (brd_empty _ _)).mono ?_
            rintro e w8 ⟨rfl, b8⟩
            rw [HNIL.out]
            have C8 := Lib.hid (below_lit13 C7.out b8)
            clear b8
            go_wp2_with fail
            go_ret
            exact ⟨rfl, below_step HB1.out C8.out HB1.out.size⟩
      · have hne : ((bs.length : Int) == 1) = false := beq_false_of_ne (by omega)
        have HFR : Hid (t = true → sfairB (n : Int) bs = true) := Lib.hid (fun h => tight_fair (ht.trans h))
        clear ht hk hone
        cases t
        · have C1 := Lib.hid (Below.refl w1.heap.size w1)
          go_wp2_with fail
          refine (implTightOk_any w1 (n : Int) _ bs (HV.out w1 C1.out)).mono ?_
          rintro e w2 ⟨rfl, b2⟩
          rw [HT.out]
          have C2 := Lib.hid (below_step C1.out b2 C1.out.size)
          clear b2
          go_wp2_with fail
          refine (specTightOk_any w2 (n : Int) _ bs (HV.out w2 C2.out)).mono ?_
          rintro e w3 ⟨rfl, b3⟩
          rw [HT.out]
          have C3 := Lib.hid (below_step C2.out b3 C2.out.size)
          clear b3
          go_wp2_with fail
          refine (specBidsOk_any w3 (n : Int) _ bs (HV.out w3 C3.out)).mono ?_
          rintro e w4 ⟨rfl, b4⟩
          rw [HK.out]
          have C4 := Lib.hid (below_step C3.out b4 C3.out.size)
          clear b4
          go_wp2_with fail
          refine (implTightOk_any _ (n : Int) _ [] (brd_empty _ _)).mono ?_
          rintro e w8 ⟨rfl, b8⟩
          rw [HNIL.out]
          have C8 := Lib.hid (below_lit13 C4.out b8)
          clear b8
          go_wp2_with fail
          go_ret
          exact ⟨rfl, below_step HB1.out C8.out HB1.out.size⟩
        · replace HFR := Lib.hid (HFR.out rfl)
          have C1 := Lib.hid (Below.refl w1.heap.size w1)
          go_wp2_with fail
          refine (implTightOk_any w1 (n : Int) _ bs (HV.out w1 C1.out)).mono ?_
          rintro e w2 ⟨rfl, b2⟩
          rw [HT.out]
          have C2 := Lib.hid (below_step C1.out b2 C1.out.size)
          clear b2
          go_wp2_with fail
          refine (specTightOk_any w2 (n : Int) _ bs (HV.out w2 C2.out)).mono ?_
          rintro e w3 ⟨rfl, b3⟩
          rw [HT.out]
          have C3 := Lib.hid (below_step C2.out b3 C2.out.size)
          clear b3
          go_wp2_with fail
          refine (specBidsOk_any w3 (n : Int) _ bs (HV.out w3 C3.out)).mono ?_
          rintro e w4 ⟨rfl, b4⟩
          rw [HK.out]
          have C4 := Lib.hid (below_step C3.out b4 C3.out.size)
          clear b4
          go_wp2_with fail
          refine (implSidesFair_any _ (n : Int) _ bs (HV.out _ C4.out)).mono ?_
          rintro e w7 ⟨rfl, b7⟩
          rw [HFR.out]
          have C7 := Lib.hid (below_step C4.out b7 (C4.out).size)
          clear b7
          go_wp2_with fail
          refine (implTightOk_any _ (n : Int) _ [] (brd_empty _ _)).mono ?_
          rintro e w8 ⟨rfl, b8⟩
          rw [HNIL.out]
          have C8 := Lib.hid (below_lit13 C7.out b8)
          clear b8
          go_wp2_with fail
          go_ret
          exact ⟨rfl, below_step HB1.out C8.out HB1.out.size⟩
    · have HK := Lib.hid hk
      obtain rfl : t = false := ht.symm.trans (tight_nob hk)
      clear ht hk
      have C1 := Lib.hid (Below.refl w1.heap.size w1)
      go_wp2_with fail
      refine (implTightOk_any w1 (n : Int) _ bs (HV.out w1 C1.out)).mono ?_
      rintro e w2 ⟨rfl, b2⟩
      rw [HT.out]
      have C2 := Lib.hid (below_step C1.out b2 C1.out.size)
      clear b2
      go_wp2_with fail
      refine (specTightOk_any w2 (n : Int) _ bs (HV.out w2 C2.out)).mono ?_
      rintro e w3 ⟨rfl, b3⟩
      rw [HT.out]
      have C3 := Lib.hid (below_step C2.out b3 C2.out.size)
      clear b3
      go_wp2_with fail
      refine (specBidsOk_any w3 (n : Int) _ bs (HV.out w3 C3.out)).mono ?_
      rintro e w4 ⟨rfl, b4⟩
      rw [HK.out]
      have C4 := Lib.hid (below_step C3.out b4 C3.out.size)
      clear b4
      go_wp2_with fail
      refine (alive_any _).mono ?_
      rintro e w' ⟨rfl, rfl⟩

      go_wp2_with fail
      go_ret
      exact ⟨rfl, below_step HB1.out C4.out HB1.out.size⟩

end Go.Proofs.Ytodmgcbcacblbaa
