/- The walk of the law of GivenBy. Conditions: two rows of bytes that came in. -/
import Derived.Test.YtghmgnhiglmifaaWr
namespace Go.Proofs.Ytghmgnhiglmifaa
open Go.RowKit
set_option linter.unusedVariables false

theorem row_byte8 {w : World} {a : Option Addr} {len cap : Nat} {zs : List Int} (h : IsRowC .u8 w a len cap zs) {i : Nat} (hi : i < len) : ∃ b off, ∃ v : Nat, a = some ⟨b, off, none⟩ ∧ b < w.heap.size ∧ v ≤ 255 ∧ w.cell? ⟨b, off + i, none⟩ = some (.int .u8 (v : Int)) := by
  rcases h with ⟨rfl, rfl, rfl, rfl⟩ | ⟨x, rfl, hl, hm, hz, hcell, hwz⟩
  · omega
  · obtain ⟨b, off, spot⟩ := x
    have hc := hcell 0 (by omega)
    have hspot : spot = none := by simpa [Addr.add] using World.cell?_spot hc
    subst hspot
    have hlt := World.block_lt_of_cell? w _ hc
    rw [addr_add] at hlt
    obtain ⟨v, hv, e⟩ := u8_of hwz i
    have := hcell i (by omega)
    rw [addr_add, e] at this
    exact ⟨b, off, v, rfl, hlt, hv, this⟩

theorem frac_le {n d p q : Int} (n0 : 0 ≤ n) (h : n * q + p * d = d * q) : n * q + p * d = d * q := h

set_option maxRecDepth 100000 in
set_option maxHeartbeats 8000000 in
theorem FnGivenBy_walk (a0 : Option Addr) (len0 cap0 : Nat) (z0 : List Int) (a1 : Option Addr) (len1 cap1 : Nat) (z1 : List Int) (w : World) (h0 : IsRowC .u8 w a0 len0 cap0 z0) (h1 : IsRowC .u8 w a1 len1 cap1 z1) :
    Calls Try.prog 3 #[.slice a0 len0 cap0, .slice a1 len1 cap1] w fun e w' => e = .returned (.bool true) ∧ Below w.heap.size w w' := by
  by_cases hlen : 1048576 < len0
  · clear h0 h1
    have hlen2 : (1048576 : Int) < (len0 : Int) := by omega
    go_enter Try.func3, Try.ntmps3
    go_wp2
    go_ret
    exact ⟨rfl, Below.refl _ _⟩
  have hlen' : (len0 : Int) ≤ 1048576 := by omega
  by_cases hlen1 : 1048576 < len1
  · clear h0 h1
    have hlen2 : (1048576 : Int) < (len1 : Int) := by omega
    go_enter Try.func3, Try.ntmps3
    go_wp2
    go_ret
    exact ⟨rfl, Below.refl _ _⟩
  · have hlen1' : (len1 : Int) ≤ 1048576 := by omega
    clear hlen hlen1
    go_enter Try.func3, Try.ntmps3
    go_wp2_with fail
    refine (drawGivenBy_any _ _ _ _ _ h0).mono ?_
    rintro e w1 ⟨vm, m, a, b, rfl, ovm1, hl4, -, a0', a31, b0', b15, B1⟩
    have HV : Hid (∀ wr, Below w1.heap.size w1 wr → IRd wr vm m) := Lib.hid (fun wr h => ovm1.rd.keep (SameAt.of_below h))
    have HB1 := Lib.hid B1
    have HROW := Lib.hid h1
    have R1 : Hid (Below w1.heap.size w1 w1) := Lib.hid (Below.refl _ _)
    clear ovm1 B1 h0 h1 hlen'
    rcases Bool.eq_false_or_eq_true (givB m a b) with h | h
    · obtain ⟨hm, hea, heb, -⟩ := (givB_iff m a b).1 h
      obtain ⟨hnot, hsum⟩ := giv_not h
      obtain ⟨g, hg, -, -, n0, n1, d1, d2⟩ := giv_scale h
      have np := giv_bounds m (notI (m.length : Int) a) b
      have HG := Lib.hid h
      have ab15 := evB_15 hea
      have bb15 := evB_15 heb
      have hab := and_is (a := a) (b := b) ab15 bb15
      obtain ⟨A, ca, rfl, hlA, hmA, -⟩ := id (HV.out _ R1.out)
      have hm1 : 1 ≤ m.length := (mea_parts hm).2.2.1
      have HCH : Hid (∀ c, evB (m.length : Int) c = true → givB m (andI a c) b = true ∧ (givB m c (andI a b) = true → givN m (andI a c) b * givD m a b * givD m c (andI a b) = givD m (andI a c) b * givN m a b * givN m c (andI a b))) := Lib.hid (fun c hc => giv_chain h hc)
      obtain ⟨Q, hQ⟩ : ∃ Q, m.length = Q := ⟨_, rfl⟩
      rw [hQ] at hnot hsum np HCH hlA hl4 hm1 HV ⊢
      obtain ⟨zn, hzn⟩ : ∃ z, notI (Q : Int) a = z := ⟨_, rfl⟩
      obtain ⟨zab, hzab⟩ : ∃ z, andI a b = z := ⟨_, rfl⟩
      obtain ⟨n, hn⟩ : ∃ n, givN m a b = n := ⟨_, rfl⟩
      obtain ⟨d, hd⟩ : ∃ n, givD m a b = n := ⟨_, rfl⟩
      rw [hzn] at hnot hsum np
      rw [hzab] at hab
      obtain ⟨p, hp⟩ : ∃ n, givN m zn b = n := ⟨_, rfl⟩
      obtain ⟨q, hq⟩ : ∃ n, givD m zn b = n := ⟨_, rfl⟩
      rw [hn, hd, hp, hq] at hsum
      rw [hp, hq] at np
      rw [hn] at n0
      rw [hn, hd] at n1
      rw [hd] at d1 d2
      have nn : 0 ≤ n ∧ n ≤ 36 := by omega
      have nd : 0 ≤ d ∧ d ≤ 36 := by omega
      have t1 := mul36 nn ⟨np.2.2.1, np.2.2.2⟩
      have t2 := mul36 ⟨np.1, np.2.1⟩ nd
      have t3 := mul36 nd ⟨np.2.2.1, np.2.2.2⟩
      have hw1 : IntKind.i64.wrap (n * q) = n * q := IntWalk.i64_in _ (by omega)
      have hw2 : IntKind.i64.wrap (p * d) = p * d := IntWalk.i64_in _ (by omega)
      have hw3 : IntKind.i64.wrap (d * q) = d * q := IntWalk.i64_in _ (by omega)
      have hw4 : IntKind.i64.wrap (n * q + p * d) = n * q + p * d := IntWalk.i64_in _ (by omega)
      have hE : (n * q + p * d == d * q) = true := by rw [beq_iff_eq]; exact hsum
      have HN := Lib.hid hn
      have HD := Lib.hid hd
      have HP := Lib.hid hp
      have HQ := Lib.hid hq
      have HPB := Lib.hid hnot
      have HZ := Lib.hid hzn
      have HZAB := Lib.hid hzab
      clear h hm hea heb hQ hsum hnot hg np t1 t2 t3 hn hd hp hq hzn hzab
      go_wp2_with fail
      refine (implGivenBy_any _ _ m a b (HV.out _ R1.out)).mono ?_
      rintro r w2 ⟨rfl, b'⟩
      rw [HN.out, HD.out, HG.out]
      have R2 := Lib.hid (below_step R1.out b' R1.out.size)
      clear b' R1
      go_wp2_with fail
      refine (specGivenBy_any _ _ m a b (HV.out _ R2.out)).mono ?_
      rintro r w3 ⟨rfl, b'⟩
      rw [HN.out, HD.out, HG.out]
      have R3 := Lib.hid (below_step R2.out b' R2.out.size)
      clear b' R2
      obtain rfl | rfl | rfl | rfl : Q = 1 ∨ Q = 2 ∨ Q = 3 ∨ Q = 4 := by omega
      · have HZL : Hid (notI 1 a = zn) := HZ
        by_cases hl1 : 0 < len1
        · have hl1' : (0 : Int) < (len1 : Int) := by omega
          obtain ⟨bb, off, v0, rfl, hbl, hv, hcv⟩ := row_byte8 HROW.out hl1
          rw [Nat.add_zero] at hcv
          have hb3 : Below w.heap.size w w3 := below_step HB1.out R3.out HB1.out.size
          have hcv2 : w3.cell? ⟨bb, off, none⟩ = some (.int .u8 (v0 : Int)) := (hb3.cell (p := ⟨bb, off, none⟩) hbl).trans hcv
          have hv2 : (0 : Int) ≤ (v0 : Int) := by omega
          have hv3 : (v0 : Int) ≤ 255 := by omega
          obtain ⟨c, hc0⟩ : ∃ c : Int, (v0 : Int) % 2 = c := ⟨_, rfl⟩
          have hmod : (v0 : Int).tmod 2 = c := by rw [Int.tmod_eq_emod_of_nonneg (by omega)]; exact hc0
          have hc : evB 1 c = true := (evB_iff _ _).2 ⟨by decide, by decide, by omega, by have : allI 1 = 1 := by decide
                                                                                          omega⟩
          clear hcv hc0 hb3
          go_wp2_with fail
          go_region
          all_goals
            clear hcv2 hmod
            have HBD := Lib.hid (R3.out.drew)
            clear R3
            have R3 := HBD
            clear HBD
            obtain ⟨hu, hch⟩ := HCH.out c hc
            have HU := Lib.hid hu
            have ns := giv_bounds m (andI a c) b
            have nt := giv_bounds m c (andI a b)
            have hac := and_is (a := a) (b := c) ab15 (evB_15 hc)
            obtain ⟨z2, hz2⟩ : ∃ z, andI a c = z := ⟨_, rfl⟩
            rw [hz2] at hac ns hch HU
            obtain ⟨s, hs⟩ : ∃ s, givB m c zab = s := ⟨_, rfl⟩
            obtain ⟨u, hu1⟩ : ∃ n, givN m z2 b = n := ⟨_, rfl⟩
            obtain ⟨v, hv1⟩ : ∃ n, givD m z2 b = n := ⟨_, rfl⟩
            obtain ⟨x, hx1⟩ : ∃ n, givN m c zab = n := ⟨_, rfl⟩
            obtain ⟨t, ht1⟩ : ∃ n, givD m c zab = n := ⟨_, rfl⟩
            rw [HZAB.out] at hch nt
            rw [hs, hu1, hv1, hx1, ht1, HN.out, HD.out] at hch
            rw [hu1, hv1] at ns
            rw [hx1, ht1] at nt
            have HS := Lib.hid hs
            have HU1 := Lib.hid hu1
            have HV1 := Lib.hid hv1
            have HX1 := Lib.hid hx1
            have HT1 := Lib.hid ht1
            clear hs hu1 hv1 hx1 ht1 hu hz2
            have m1 := mul36 ⟨ns.1, ns.2.1⟩ nd
            have m2 := mul1296 m1 ⟨nt.2.2.1, nt.2.2.2⟩
            have m3 := mul36 ⟨ns.2.2.1, ns.2.2.2⟩ nn
            have m4 := mul1296 m3 ⟨nt.1, nt.2.1⟩
            have hx1' : IntKind.i64.wrap (u * d) = u * d := IntWalk.i64_in _ (by omega)
            have hx2' : IntKind.i64.wrap (u * d * t) = u * d * t := IntWalk.i64_in _ (by omega)
            have hx3' : IntKind.i64.wrap (v * n) = v * n := IntWalk.i64_in _ (by omega)
            have hx4' : IntKind.i64.wrap (v * n * x) = v * n * x := IntWalk.i64_in _ (by omega)
            clear m1 m2 m3 m4 ns nt nd nn hc
            go_wp2_with fail
            refine (implNotEvent_any _ _ _).mono ?_
            rintro r w' ⟨rfl, rfl⟩
            rw [HZL.out]
            go_wp2_with fail
            refine (implGivenBy_any _ _ m zn b (HV.out _ R3.out)).mono ?_
            rintro r w4 ⟨rfl, b'⟩
            rw [HP.out, HQ.out, HPB.out]
            have R4 := Lib.hid (below_step R3.out b' R3.out.size)
            clear b' R3
            go_wp2_with fail
            refine (implGivenBy_any _ _ m z2 b (HV.out _ R4.out)).mono ?_
            rintro r w5 ⟨rfl, b'⟩
            rw [HU1.out, HV1.out, HU.out]
            have R5 := Lib.hid (below_step R4.out b' R4.out.size)
            clear b' R4
            go_wp2_with fail
            refine (implGivenBy_any _ _ m c zab (HV.out _ R5.out)).mono ?_
            rintro r w6 ⟨rfl, b'⟩
            rw [HX1.out, HT1.out, HS.out]
            have R6 := Lib.hid (below_step R5.out b' R5.out.size)
            clear b' R5
            cases s
            · clear hch
              go_wp2_with fail
              go_ret
              exact ⟨ret_bool (by simp), below_step HB1.out R6.out HB1.out.size⟩
            · have hEQ : (u * d * t == v * n * x) = true := by rw [beq_iff_eq]; exact hch rfl
              clear hch
              go_wp2_with fail
              go_ret
              exact ⟨ret_bool (by simp), below_step HB1.out R6.out HB1.out.size⟩
        · have hl1' : (len1 : Int) ≤ 0 := by omega
          obtain ⟨c, hc0⟩ : ∃ c : Int, c = 0 := ⟨0, rfl⟩
          have hc : evB 1 c = true := by rw [hc0]; decide
          subst hc0
          obtain ⟨hu, hch⟩ := HCH.out 0 hc
          have HU := Lib.hid hu
          have ns := giv_bounds m (andI a 0) b
          have nt := giv_bounds m 0 (andI a b)
          have hac := and_is (a := a) (b := 0) ab15 (evB_15 hc)
          obtain ⟨z2, hz2⟩ : ∃ z, andI a 0 = z := ⟨_, rfl⟩
          rw [hz2] at hac ns hch HU
          obtain ⟨s, hs⟩ : ∃ s, givB m 0 zab = s := ⟨_, rfl⟩
          obtain ⟨u, hu1⟩ : ∃ n, givN m z2 b = n := ⟨_, rfl⟩
          obtain ⟨v, hv1⟩ : ∃ n, givD m z2 b = n := ⟨_, rfl⟩
          obtain ⟨x, hx1⟩ : ∃ n, givN m 0 zab = n := ⟨_, rfl⟩
          obtain ⟨t, ht1⟩ : ∃ n, givD m 0 zab = n := ⟨_, rfl⟩
          rw [HZAB.out] at hch nt
          rw [hs, hu1, hv1, hx1, ht1, HN.out, HD.out] at hch
          rw [hu1, hv1] at ns
          rw [hx1, ht1] at nt
          have HS := Lib.hid hs
          have HU1 := Lib.hid hu1
          have HV1 := Lib.hid hv1
          have HX1 := Lib.hid hx1
          have HT1 := Lib.hid ht1
          clear hs hu1 hv1 hx1 ht1 hu hz2
          have m1 := mul36 ⟨ns.1, ns.2.1⟩ nd
          have m2 := mul1296 m1 ⟨nt.2.2.1, nt.2.2.2⟩
          have m3 := mul36 ⟨ns.2.2.1, ns.2.2.2⟩ nn
          have m4 := mul1296 m3 ⟨nt.1, nt.2.1⟩
          have hx1' : IntKind.i64.wrap (u * d) = u * d := IntWalk.i64_in _ (by omega)
          have hx2' : IntKind.i64.wrap (u * d * t) = u * d * t := IntWalk.i64_in _ (by omega)
          have hx3' : IntKind.i64.wrap (v * n) = v * n := IntWalk.i64_in _ (by omega)
          have hx4' : IntKind.i64.wrap (v * n * x) = v * n * x := IntWalk.i64_in _ (by omega)
          clear m1 m2 m3 m4 ns nt nd nn hc
          go_wp2_with fail
          refine (implNotEvent_any _ _ _).mono ?_
          rintro r w' ⟨rfl, rfl⟩
          rw [HZL.out]
          go_wp2_with fail
          refine (implGivenBy_any _ _ m zn b (HV.out _ R3.out)).mono ?_
          rintro r w4 ⟨rfl, b'⟩
          rw [HP.out, HQ.out, HPB.out]
          have R4 := Lib.hid (below_step R3.out b' R3.out.size)
          clear b' R3
          go_wp2_with fail
          refine (implGivenBy_any _ _ m z2 b (HV.out _ R4.out)).mono ?_
          rintro r w5 ⟨rfl, b'⟩
          rw [HU1.out, HV1.out, HU.out]
          have R5 := Lib.hid (below_step R4.out b' R4.out.size)
          clear b' R4
          go_wp2_with fail
          refine (implGivenBy_any _ _ m 0 zab (HV.out _ R5.out)).mono ?_
          rintro r w6 ⟨rfl, b'⟩
          rw [HX1.out, HT1.out, HS.out]
          have R6 := Lib.hid (below_step R5.out b' R5.out.size)
          clear b' R5
          cases s
          · clear hch
            go_wp2_with fail
            go_ret
            exact ⟨ret_bool (by simp), below_step HB1.out R6.out HB1.out.size⟩
          · have hEQ : (u * d * t == v * n * x) = true := by rw [beq_iff_eq]; exact hch rfl
            clear hch
            go_wp2_with fail
            go_ret
            exact ⟨ret_bool (by simp), below_step HB1.out R6.out HB1.out.size⟩
      · have HZL : Hid (notI 2 a = zn) := HZ
        by_cases hl1 : 0 < len1
        · have hl1' : (0 : Int) < (len1 : Int) := by omega
          obtain ⟨bb, off, v0, rfl, hbl, hv, hcv⟩ := row_byte8 HROW.out hl1
          rw [Nat.add_zero] at hcv
          have hb3 : Below w.heap.size w w3 := below_step HB1.out R3.out HB1.out.size
          have hcv2 : w3.cell? ⟨bb, off, none⟩ = some (.int .u8 (v0 : Int)) := (hb3.cell (p := ⟨bb, off, none⟩) hbl).trans hcv
          have hv2 : (0 : Int) ≤ (v0 : Int) := by omega
          have hv3 : (v0 : Int) ≤ 255 := by omega
          obtain ⟨c, hc0⟩ : ∃ c : Int, (v0 : Int) % 4 = c := ⟨_, rfl⟩
          have hmod : (v0 : Int).tmod 4 = c := by rw [Int.tmod_eq_emod_of_nonneg (by omega)]; exact hc0
          have hc : evB 2 c = true := (evB_iff _ _).2 ⟨by decide, by decide, by omega, by have : allI 2 = 3 := by decide
                                                                                          omega⟩
          clear hcv hc0 hb3
          go_wp2_with fail
          go_region
          all_goals
            clear hcv2 hmod
            have HBD := Lib.hid (R3.out.drew)
            clear R3
            have R3 := HBD
            clear HBD
            obtain ⟨hu, hch⟩ := HCH.out c hc
            have HU := Lib.hid hu
            have ns := giv_bounds m (andI a c) b
            have nt := giv_bounds m c (andI a b)
            have hac := and_is (a := a) (b := c) ab15 (evB_15 hc)
            obtain ⟨z2, hz2⟩ : ∃ z, andI a c = z := ⟨_, rfl⟩
            rw [hz2] at hac ns hch HU
            obtain ⟨s, hs⟩ : ∃ s, givB m c zab = s := ⟨_, rfl⟩
            obtain ⟨u, hu1⟩ : ∃ n, givN m z2 b = n := ⟨_, rfl⟩
            obtain ⟨v, hv1⟩ : ∃ n, givD m z2 b = n := ⟨_, rfl⟩
            obtain ⟨x, hx1⟩ : ∃ n, givN m c zab = n := ⟨_, rfl⟩
            obtain ⟨t, ht1⟩ : ∃ n, givD m c zab = n := ⟨_, rfl⟩
            rw [HZAB.out] at hch nt
            rw [hs, hu1, hv1, hx1, ht1, HN.out, HD.out] at hch
            rw [hu1, hv1] at ns
            rw [hx1, ht1] at nt
            have HS := Lib.hid hs
            have HU1 := Lib.hid hu1
            have HV1 := Lib.hid hv1
            have HX1 := Lib.hid hx1
            have HT1 := Lib.hid ht1
            clear hs hu1 hv1 hx1 ht1 hu hz2
            have m1 := mul36 ⟨ns.1, ns.2.1⟩ nd
            have m2 := mul1296 m1 ⟨nt.2.2.1, nt.2.2.2⟩
            have m3 := mul36 ⟨ns.2.2.1, ns.2.2.2⟩ nn
            have m4 := mul1296 m3 ⟨nt.1, nt.2.1⟩
            have hx1' : IntKind.i64.wrap (u * d) = u * d := IntWalk.i64_in _ (by omega)
            have hx2' : IntKind.i64.wrap (u * d * t) = u * d * t := IntWalk.i64_in _ (by omega)
            have hx3' : IntKind.i64.wrap (v * n) = v * n := IntWalk.i64_in _ (by omega)
            have hx4' : IntKind.i64.wrap (v * n * x) = v * n * x := IntWalk.i64_in _ (by omega)
            clear m1 m2 m3 m4 ns nt nd nn hc
            go_wp2_with fail
            refine (implNotEvent_any _ _ _).mono ?_
            rintro r w' ⟨rfl, rfl⟩
            rw [HZL.out]
            go_wp2_with fail
            refine (implGivenBy_any _ _ m zn b (HV.out _ R3.out)).mono ?_
            rintro r w4 ⟨rfl, b'⟩
            rw [HP.out, HQ.out, HPB.out]
            have R4 := Lib.hid (below_step R3.out b' R3.out.size)
            clear b' R3
            go_wp2_with fail
            refine (implGivenBy_any _ _ m z2 b (HV.out _ R4.out)).mono ?_
            rintro r w5 ⟨rfl, b'⟩
            rw [HU1.out, HV1.out, HU.out]
            have R5 := Lib.hid (below_step R4.out b' R4.out.size)
            clear b' R4
            go_wp2_with fail
            refine (implGivenBy_any _ _ m c zab (HV.out _ R5.out)).mono ?_
            rintro r w6 ⟨rfl, b'⟩
            rw [HX1.out, HT1.out, HS.out]
            have R6 := Lib.hid (below_step R5.out b' R5.out.size)
            clear b' R5
            cases s
            · clear hch
              go_wp2_with fail
              go_ret
              exact ⟨ret_bool (by simp), below_step HB1.out R6.out HB1.out.size⟩
            · have hEQ : (u * d * t == v * n * x) = true := by rw [beq_iff_eq]; exact hch rfl
              clear hch
              go_wp2_with fail
              go_ret
              exact ⟨ret_bool (by simp), below_step HB1.out R6.out HB1.out.size⟩
        · have hl1' : (len1 : Int) ≤ 0 := by omega
          obtain ⟨c, hc0⟩ : ∃ c : Int, c = 0 := ⟨0, rfl⟩
          have hc : evB 2 c = true := by rw [hc0]; decide
          subst hc0
          obtain ⟨hu, hch⟩ := HCH.out 0 hc
          have HU := Lib.hid hu
          have ns := giv_bounds m (andI a 0) b
          have nt := giv_bounds m 0 (andI a b)
          have hac := and_is (a := a) (b := 0) ab15 (evB_15 hc)
          obtain ⟨z2, hz2⟩ : ∃ z, andI a 0 = z := ⟨_, rfl⟩
          rw [hz2] at hac ns hch HU
          obtain ⟨s, hs⟩ : ∃ s, givB m 0 zab = s := ⟨_, rfl⟩
          obtain ⟨u, hu1⟩ : ∃ n, givN m z2 b = n := ⟨_, rfl⟩
          obtain ⟨v, hv1⟩ : ∃ n, givD m z2 b = n := ⟨_, rfl⟩
          obtain ⟨x, hx1⟩ : ∃ n, givN m 0 zab = n := ⟨_, rfl⟩
          obtain ⟨t, ht1⟩ : ∃ n, givD m 0 zab = n := ⟨_, rfl⟩
          rw [HZAB.out] at hch nt
          rw [hs, hu1, hv1, hx1, ht1, HN.out, HD.out] at hch
          rw [hu1, hv1] at ns
          rw [hx1, ht1] at nt
          have HS := Lib.hid hs
          have HU1 := Lib.hid hu1
          have HV1 := Lib.hid hv1
          have HX1 := Lib.hid hx1
          have HT1 := Lib.hid ht1
          clear hs hu1 hv1 hx1 ht1 hu hz2
          have m1 := mul36 ⟨ns.1, ns.2.1⟩ nd
          have m2 := mul1296 m1 ⟨nt.2.2.1, nt.2.2.2⟩
          have m3 := mul36 ⟨ns.2.2.1, ns.2.2.2⟩ nn
          have m4 := mul1296 m3 ⟨nt.1, nt.2.1⟩
          have hx1' : IntKind.i64.wrap (u * d) = u * d := IntWalk.i64_in _ (by omega)
          have hx2' : IntKind.i64.wrap (u * d * t) = u * d * t := IntWalk.i64_in _ (by omega)
          have hx3' : IntKind.i64.wrap (v * n) = v * n := IntWalk.i64_in _ (by omega)
          have hx4' : IntKind.i64.wrap (v * n * x) = v * n * x := IntWalk.i64_in _ (by omega)
          clear m1 m2 m3 m4 ns nt nd nn hc
          go_wp2_with fail
          refine (implNotEvent_any _ _ _).mono ?_
          rintro r w' ⟨rfl, rfl⟩
          rw [HZL.out]
          go_wp2_with fail
          refine (implGivenBy_any _ _ m zn b (HV.out _ R3.out)).mono ?_
          rintro r w4 ⟨rfl, b'⟩
          rw [HP.out, HQ.out, HPB.out]
          have R4 := Lib.hid (below_step R3.out b' R3.out.size)
          clear b' R3
          go_wp2_with fail
          refine (implGivenBy_any _ _ m z2 b (HV.out _ R4.out)).mono ?_
          rintro r w5 ⟨rfl, b'⟩
          rw [HU1.out, HV1.out, HU.out]
          have R5 := Lib.hid (below_step R4.out b' R4.out.size)
          clear b' R4
          go_wp2_with fail
          refine (implGivenBy_any _ _ m 0 zab (HV.out _ R5.out)).mono ?_
          rintro r w6 ⟨rfl, b'⟩
          rw [HX1.out, HT1.out, HS.out]
          have R6 := Lib.hid (below_step R5.out b' R5.out.size)
          clear b' R5
          cases s
          · clear hch
            go_wp2_with fail
            go_ret
            exact ⟨ret_bool (by simp), below_step HB1.out R6.out HB1.out.size⟩
          · have hEQ : (u * d * t == v * n * x) = true := by rw [beq_iff_eq]; exact hch rfl
            clear hch
            go_wp2_with fail
            go_ret
            exact ⟨ret_bool (by simp), below_step HB1.out R6.out HB1.out.size⟩
      · have HZL : Hid (notI 3 a = zn) := HZ
        by_cases hl1 : 0 < len1
        · have hl1' : (0 : Int) < (len1 : Int) := by omega
          obtain ⟨bb, off, v0, rfl, hbl, hv, hcv⟩ := row_byte8 HROW.out hl1
          rw [Nat.add_zero] at hcv
          have hb3 : Below w.heap.size w w3 := below_step HB1.out R3.out HB1.out.size
          have hcv2 : w3.cell? ⟨bb, off, none⟩ = some (.int .u8 (v0 : Int)) := (hb3.cell (p := ⟨bb, off, none⟩) hbl).trans hcv
          have hv2 : (0 : Int) ≤ (v0 : Int) := by omega
          have hv3 : (v0 : Int) ≤ 255 := by omega
          obtain ⟨c, hc0⟩ : ∃ c : Int, (v0 : Int) % 8 = c := ⟨_, rfl⟩
          have hmod : (v0 : Int).tmod 8 = c := by rw [Int.tmod_eq_emod_of_nonneg (by omega)]; exact hc0
          have hc : evB 3 c = true := (evB_iff _ _).2 ⟨by decide, by decide, by omega, by have : allI 3 = 7 := by decide
                                                                                          omega⟩
          clear hcv hc0 hb3
          go_wp2_with fail
          go_region
          all_goals
            clear hcv2 hmod
            have HBD := Lib.hid (R3.out.drew)
            clear R3
            have R3 := HBD
            clear HBD
            obtain ⟨hu, hch⟩ := HCH.out c hc
            have HU := Lib.hid hu
            have ns := giv_bounds m (andI a c) b
            have nt := giv_bounds m c (andI a b)
            have hac := and_is (a := a) (b := c) ab15 (evB_15 hc)
            obtain ⟨z2, hz2⟩ : ∃ z, andI a c = z := ⟨_, rfl⟩
            rw [hz2] at hac ns hch HU
            obtain ⟨s, hs⟩ : ∃ s, givB m c zab = s := ⟨_, rfl⟩
            obtain ⟨u, hu1⟩ : ∃ n, givN m z2 b = n := ⟨_, rfl⟩
            obtain ⟨v, hv1⟩ : ∃ n, givD m z2 b = n := ⟨_, rfl⟩
            obtain ⟨x, hx1⟩ : ∃ n, givN m c zab = n := ⟨_, rfl⟩
            obtain ⟨t, ht1⟩ : ∃ n, givD m c zab = n := ⟨_, rfl⟩
            rw [HZAB.out] at hch nt
            rw [hs, hu1, hv1, hx1, ht1, HN.out, HD.out] at hch
            rw [hu1, hv1] at ns
            rw [hx1, ht1] at nt
            have HS := Lib.hid hs
            have HU1 := Lib.hid hu1
            have HV1 := Lib.hid hv1
            have HX1 := Lib.hid hx1
            have HT1 := Lib.hid ht1
            clear hs hu1 hv1 hx1 ht1 hu hz2
            have m1 := mul36 ⟨ns.1, ns.2.1⟩ nd
            have m2 := mul1296 m1 ⟨nt.2.2.1, nt.2.2.2⟩
            have m3 := mul36 ⟨ns.2.2.1, ns.2.2.2⟩ nn
            have m4 := mul1296 m3 ⟨nt.1, nt.2.1⟩
            have hx1' : IntKind.i64.wrap (u * d) = u * d := IntWalk.i64_in _ (by omega)
            have hx2' : IntKind.i64.wrap (u * d * t) = u * d * t := IntWalk.i64_in _ (by omega)
            have hx3' : IntKind.i64.wrap (v * n) = v * n := IntWalk.i64_in _ (by omega)
            have hx4' : IntKind.i64.wrap (v * n * x) = v * n * x := IntWalk.i64_in _ (by omega)
            clear m1 m2 m3 m4 ns nt nd nn hc
            go_wp2_with fail
            refine (implNotEvent_any _ _ _).mono ?_
            rintro r w' ⟨rfl, rfl⟩
            rw [HZL.out]
            go_wp2_with fail
            refine (implGivenBy_any _ _ m zn b (HV.out _ R3.out)).mono ?_
            rintro r w4 ⟨rfl, b'⟩
            rw [HP.out, HQ.out, HPB.out]
            have R4 := Lib.hid (below_step R3.out b' R3.out.size)
            clear b' R3
            go_wp2_with fail
            refine (implGivenBy_any _ _ m z2 b (HV.out _ R4.out)).mono ?_
            rintro r w5 ⟨rfl, b'⟩
            rw [HU1.out, HV1.out, HU.out]
            have R5 := Lib.hid (below_step R4.out b' R4.out.size)
            clear b' R4
            go_wp2_with fail
            refine (implGivenBy_any _ _ m c zab (HV.out _ R5.out)).mono ?_
            rintro r w6 ⟨rfl, b'⟩
            rw [HX1.out, HT1.out, HS.out]
            have R6 := Lib.hid (below_step R5.out b' R5.out.size)
            clear b' R5
            cases s
            · clear hch
              go_wp2_with fail
              go_ret
              exact ⟨ret_bool (by simp), below_step HB1.out R6.out HB1.out.size⟩
            · have hEQ : (u * d * t == v * n * x) = true := by rw [beq_iff_eq]; exact hch rfl
              clear hch
              go_wp2_with fail
              go_ret
              exact ⟨ret_bool (by simp), below_step HB1.out R6.out HB1.out.size⟩
        · have hl1' : (len1 : Int) ≤ 0 := by omega
          obtain ⟨c, hc0⟩ : ∃ c : Int, c = 0 := ⟨0, rfl⟩
          have hc : evB 3 c = true := by rw [hc0]; decide
          subst hc0
          obtain ⟨hu, hch⟩ := HCH.out 0 hc
          have HU := Lib.hid hu
          have ns := giv_bounds m (andI a 0) b
          have nt := giv_bounds m 0 (andI a b)
          have hac := and_is (a := a) (b := 0) ab15 (evB_15 hc)
          obtain ⟨z2, hz2⟩ : ∃ z, andI a 0 = z := ⟨_, rfl⟩
          rw [hz2] at hac ns hch HU
          obtain ⟨s, hs⟩ : ∃ s, givB m 0 zab = s := ⟨_, rfl⟩
          obtain ⟨u, hu1⟩ : ∃ n, givN m z2 b = n := ⟨_, rfl⟩
          obtain ⟨v, hv1⟩ : ∃ n, givD m z2 b = n := ⟨_, rfl⟩
          obtain ⟨x, hx1⟩ : ∃ n, givN m 0 zab = n := ⟨_, rfl⟩
          obtain ⟨t, ht1⟩ : ∃ n, givD m 0 zab = n := ⟨_, rfl⟩
          rw [HZAB.out] at hch nt
          rw [hs, hu1, hv1, hx1, ht1, HN.out, HD.out] at hch
          rw [hu1, hv1] at ns
          rw [hx1, ht1] at nt
          have HS := Lib.hid hs
          have HU1 := Lib.hid hu1
          have HV1 := Lib.hid hv1
          have HX1 := Lib.hid hx1
          have HT1 := Lib.hid ht1
          clear hs hu1 hv1 hx1 ht1 hu hz2
          have m1 := mul36 ⟨ns.1, ns.2.1⟩ nd
          have m2 := mul1296 m1 ⟨nt.2.2.1, nt.2.2.2⟩
          have m3 := mul36 ⟨ns.2.2.1, ns.2.2.2⟩ nn
          have m4 := mul1296 m3 ⟨nt.1, nt.2.1⟩
          have hx1' : IntKind.i64.wrap (u * d) = u * d := IntWalk.i64_in _ (by omega)
          have hx2' : IntKind.i64.wrap (u * d * t) = u * d * t := IntWalk.i64_in _ (by omega)
          have hx3' : IntKind.i64.wrap (v * n) = v * n := IntWalk.i64_in _ (by omega)
          have hx4' : IntKind.i64.wrap (v * n * x) = v * n * x := IntWalk.i64_in _ (by omega)
          clear m1 m2 m3 m4 ns nt nd nn hc
          go_wp2_with fail
          refine (implNotEvent_any _ _ _).mono ?_
          rintro r w' ⟨rfl, rfl⟩
          rw [HZL.out]
          go_wp2_with fail
          refine (implGivenBy_any _ _ m zn b (HV.out _ R3.out)).mono ?_
          rintro r w4 ⟨rfl, b'⟩
          rw [HP.out, HQ.out, HPB.out]
          have R4 := Lib.hid (below_step R3.out b' R3.out.size)
          clear b' R3
          go_wp2_with fail
          refine (implGivenBy_any _ _ m z2 b (HV.out _ R4.out)).mono ?_
          rintro r w5 ⟨rfl, b'⟩
          rw [HU1.out, HV1.out, HU.out]
          have R5 := Lib.hid (below_step R4.out b' R4.out.size)
          clear b' R4
          go_wp2_with fail
          refine (implGivenBy_any _ _ m 0 zab (HV.out _ R5.out)).mono ?_
          rintro r w6 ⟨rfl, b'⟩
          rw [HX1.out, HT1.out, HS.out]
          have R6 := Lib.hid (below_step R5.out b' R5.out.size)
          clear b' R5
          cases s
          · clear hch
            go_wp2_with fail
            go_ret
            exact ⟨ret_bool (by simp), below_step HB1.out R6.out HB1.out.size⟩
          · have hEQ : (u * d * t == v * n * x) = true := by rw [beq_iff_eq]; exact hch rfl
            clear hch
            go_wp2_with fail
            go_ret
            exact ⟨ret_bool (by simp), below_step HB1.out R6.out HB1.out.size⟩
      · have HZL : Hid (notI 4 a = zn) := HZ
        by_cases hl1 : 0 < len1
        · have hl1' : (0 : Int) < (len1 : Int) := by omega
          obtain ⟨bb, off, v0, rfl, hbl, hv, hcv⟩ := row_byte8 HROW.out hl1
          rw [Nat.add_zero] at hcv
          have hb3 : Below w.heap.size w w3 := below_step HB1.out R3.out HB1.out.size
          have hcv2 : w3.cell? ⟨bb, off, none⟩ = some (.int .u8 (v0 : Int)) := (hb3.cell (p := ⟨bb, off, none⟩) hbl).trans hcv
          have hv2 : (0 : Int) ≤ (v0 : Int) := by omega
          have hv3 : (v0 : Int) ≤ 255 := by omega
          obtain ⟨c, hc0⟩ : ∃ c : Int, (v0 : Int) % 16 = c := ⟨_, rfl⟩
          have hmod : (v0 : Int).tmod 16 = c := by rw [Int.tmod_eq_emod_of_nonneg (by omega)]; exact hc0
          have hc : evB 4 c = true := (evB_iff _ _).2 ⟨by decide, by decide, by omega, by have : allI 4 = 15 := by decide
                                                                                          omega⟩
          clear hcv hc0 hb3
          go_wp2_with fail
          go_region
          all_goals
            clear hcv2 hmod
            have HBD := Lib.hid (R3.out.drew)
            clear R3
            have R3 := HBD
            clear HBD
            obtain ⟨hu, hch⟩ := HCH.out c hc
            have HU := Lib.hid hu
            have ns := giv_bounds m (andI a c) b
            have nt := giv_bounds m c (andI a b)
            have hac := and_is (a := a) (b := c) ab15 (evB_15 hc)
            obtain ⟨z2, hz2⟩ : ∃ z, andI a c = z := ⟨_, rfl⟩
            rw [hz2] at hac ns hch HU
            obtain ⟨s, hs⟩ : ∃ s, givB m c zab = s := ⟨_, rfl⟩
            obtain ⟨u, hu1⟩ : ∃ n, givN m z2 b = n := ⟨_, rfl⟩
            obtain ⟨v, hv1⟩ : ∃ n, givD m z2 b = n := ⟨_, rfl⟩
            obtain ⟨x, hx1⟩ : ∃ n, givN m c zab = n := ⟨_, rfl⟩
            obtain ⟨t, ht1⟩ : ∃ n, givD m c zab = n := ⟨_, rfl⟩
            rw [HZAB.out] at hch nt
            rw [hs, hu1, hv1, hx1, ht1, HN.out, HD.out] at hch
            rw [hu1, hv1] at ns
            rw [hx1, ht1] at nt
            have HS := Lib.hid hs
            have HU1 := Lib.hid hu1
            have HV1 := Lib.hid hv1
            have HX1 := Lib.hid hx1
            have HT1 := Lib.hid ht1
            clear hs hu1 hv1 hx1 ht1 hu hz2
            have m1 := mul36 ⟨ns.1, ns.2.1⟩ nd
            have m2 := mul1296 m1 ⟨nt.2.2.1, nt.2.2.2⟩
            have m3 := mul36 ⟨ns.2.2.1, ns.2.2.2⟩ nn
            have m4 := mul1296 m3 ⟨nt.1, nt.2.1⟩
            have hx1' : IntKind.i64.wrap (u * d) = u * d := IntWalk.i64_in _ (by omega)
            have hx2' : IntKind.i64.wrap (u * d * t) = u * d * t := IntWalk.i64_in _ (by omega)
            have hx3' : IntKind.i64.wrap (v * n) = v * n := IntWalk.i64_in _ (by omega)
            have hx4' : IntKind.i64.wrap (v * n * x) = v * n * x := IntWalk.i64_in _ (by omega)
            clear m1 m2 m3 m4 ns nt nd nn hc
            go_wp2_with fail
            refine (implNotEvent_any _ _ _).mono ?_
            rintro r w' ⟨rfl, rfl⟩
            rw [HZL.out]
            go_wp2_with fail
            refine (implGivenBy_any _ _ m zn b (HV.out _ R3.out)).mono ?_
            rintro r w4 ⟨rfl, b'⟩
            rw [HP.out, HQ.out, HPB.out]
            have R4 := Lib.hid (below_step R3.out b' R3.out.size)
            clear b' R3
            go_wp2_with fail
            refine (implGivenBy_any _ _ m z2 b (HV.out _ R4.out)).mono ?_
            rintro r w5 ⟨rfl, b'⟩
            rw [HU1.out, HV1.out, HU.out]
            have R5 := Lib.hid (below_step R4.out b' R4.out.size)
            clear b' R4
            go_wp2_with fail
            refine (implGivenBy_any _ _ m c zab (HV.out _ R5.out)).mono ?_
            rintro r w6 ⟨rfl, b'⟩
            rw [HX1.out, HT1.out, HS.out]
            have R6 := Lib.hid (below_step R5.out b' R5.out.size)
            clear b' R5
            cases s
            · clear hch
              go_wp2_with fail
              go_ret
              exact ⟨ret_bool (by simp), below_step HB1.out R6.out HB1.out.size⟩
            · have hEQ : (u * d * t == v * n * x) = true := by rw [beq_iff_eq]; exact hch rfl
              clear hch
              go_wp2_with fail
              go_ret
              exact ⟨ret_bool (by simp), below_step HB1.out R6.out HB1.out.size⟩
        · have hl1' : (len1 : Int) ≤ 0 := by omega
          obtain ⟨c, hc0⟩ : ∃ c : Int, c = 0 := ⟨0, rfl⟩
          have hc : evB 4 c = true := by rw [hc0]; decide
          subst hc0
          obtain ⟨hu, hch⟩ := HCH.out 0 hc
          have HU := Lib.hid hu
          have ns := giv_bounds m (andI a 0) b
          have nt := giv_bounds m 0 (andI a b)
          have hac := and_is (a := a) (b := 0) ab15 (evB_15 hc)
          obtain ⟨z2, hz2⟩ : ∃ z, andI a 0 = z := ⟨_, rfl⟩
          rw [hz2] at hac ns hch HU
          obtain ⟨s, hs⟩ : ∃ s, givB m 0 zab = s := ⟨_, rfl⟩
          obtain ⟨u, hu1⟩ : ∃ n, givN m z2 b = n := ⟨_, rfl⟩
          obtain ⟨v, hv1⟩ : ∃ n, givD m z2 b = n := ⟨_, rfl⟩
          obtain ⟨x, hx1⟩ : ∃ n, givN m 0 zab = n := ⟨_, rfl⟩
          obtain ⟨t, ht1⟩ : ∃ n, givD m 0 zab = n := ⟨_, rfl⟩
          rw [HZAB.out] at hch nt
          rw [hs, hu1, hv1, hx1, ht1, HN.out, HD.out] at hch
          rw [hu1, hv1] at ns
          rw [hx1, ht1] at nt
          have HS := Lib.hid hs
          have HU1 := Lib.hid hu1
          have HV1 := Lib.hid hv1
          have HX1 := Lib.hid hx1
          have HT1 := Lib.hid ht1
          clear hs hu1 hv1 hx1 ht1 hu hz2
          have m1 := mul36 ⟨ns.1, ns.2.1⟩ nd
          have m2 := mul1296 m1 ⟨nt.2.2.1, nt.2.2.2⟩
          have m3 := mul36 ⟨ns.2.2.1, ns.2.2.2⟩ nn
          have m4 := mul1296 m3 ⟨nt.1, nt.2.1⟩
          have hx1' : IntKind.i64.wrap (u * d) = u * d := IntWalk.i64_in _ (by omega)
          have hx2' : IntKind.i64.wrap (u * d * t) = u * d * t := IntWalk.i64_in _ (by omega)
          have hx3' : IntKind.i64.wrap (v * n) = v * n := IntWalk.i64_in _ (by omega)
          have hx4' : IntKind.i64.wrap (v * n * x) = v * n * x := IntWalk.i64_in _ (by omega)
          clear m1 m2 m3 m4 ns nt nd nn hc
          go_wp2_with fail
          refine (implNotEvent_any _ _ _).mono ?_
          rintro r w' ⟨rfl, rfl⟩
          rw [HZL.out]
          go_wp2_with fail
          refine (implGivenBy_any _ _ m zn b (HV.out _ R3.out)).mono ?_
          rintro r w4 ⟨rfl, b'⟩
          rw [HP.out, HQ.out, HPB.out]
          have R4 := Lib.hid (below_step R3.out b' R3.out.size)
          clear b' R3
          go_wp2_with fail
          refine (implGivenBy_any _ _ m z2 b (HV.out _ R4.out)).mono ?_
          rintro r w5 ⟨rfl, b'⟩
          rw [HU1.out, HV1.out, HU.out]
          have R5 := Lib.hid (below_step R4.out b' R4.out.size)
          clear b' R4
          go_wp2_with fail
          refine (implGivenBy_any _ _ m 0 zab (HV.out _ R5.out)).mono ?_
          rintro r w6 ⟨rfl, b'⟩
          rw [HX1.out, HT1.out, HS.out]
          have R6 := Lib.hid (below_step R5.out b' R5.out.size)
          clear b' R5
          cases s
          · clear hch
            go_wp2_with fail
            go_ret
            exact ⟨ret_bool (by simp), below_step HB1.out R6.out HB1.out.size⟩
          · have hEQ : (u * d * t == v * n * x) = true := by rw [beq_iff_eq]; exact hch rfl
            clear hch
            go_wp2_with fail
            go_ret
            exact ⟨ret_bool (by simp), below_step HB1.out R6.out HB1.out.size⟩
    · obtain ⟨hn, hd⟩ := giv_no h
      have HN := Lib.hid hn
      have HD := Lib.hid hd
      have HG := Lib.hid h
      clear h hn hd
      go_wp2_with fail
      refine (implGivenBy_any _ _ m a b (HV.out _ R1.out)).mono ?_
      rintro r w2 ⟨rfl, b'⟩
      rw [HN.out, HD.out, HG.out]
      have R2 := Lib.hid (below_step R1.out b' R1.out.size)
      clear b' R1
      go_wp2_with fail
      refine (specGivenBy_any _ _ m a b (HV.out _ R2.out)).mono ?_
      rintro r w3 ⟨rfl, b'⟩
      rw [HN.out, HD.out, HG.out]
      have R3 := Lib.hid (below_step R2.out b' R2.out.size)
      clear b' R2
      go_wp2_with fail
      refine (alive_any _).mono ?_
      rintro r w' ⟨rfl, rfl⟩
      go_wp2_with fail
      go_ret
      exact ⟨ret_bool (by simp), below_step HB1.out R3.out HB1.out.size⟩

end Go.Proofs.Ytghmgnhiglmifaa
