/- The walk of the law of FirstMeasure. Conditions: rows of bytes that came in. -/
import Derived.Test.YtfjmlbcmidichaaLd0
namespace Go.Proofs.Ytfjmlbcmidichaa
open Go.RowKit
set_option linter.unusedVariables false

theorem qown_cases {w : World} {base : Nat} {v : Value} {qs : List Qt} (h : QOwn w base v qs) : (v = .slice none 0 0 ∧ qs = []) ∨ ∃ g cap, v = .slice (some ⟨g, 0, none⟩) qs.length cap ∧ qs.length ≤ cap ∧ cap ≤ 9223372036854775807 := by
  rcases h.2 with ⟨rfl, h0⟩ | ⟨g, cap, cur, rfl, -, -, h1, h2, -, -⟩
  · exact .inl ⟨rfl, List.length_eq_zero_iff.1 h0⟩
  · exact .inr ⟨g, cap, rfl, h1, by rw [maxLen_is] at h2; exact h2⟩

theorem first_facts {n : Int} {qs : List Qt} (h : firstB n qs = true) : ∃ x0, (firstR n qs)[0]? = some x0 ∧ (0 ≤ x0 ∧ x0 ≤ 36) ∧ fitB (firstR n qs) qs = true ∧ fairB n qs = true ∧ (1 ≤ n ∧ n ≤ 4) ∧ 0 < (firstR n qs).length ∧ qs.length ≤ 3 ∧ (∀ k : Int, fairB n (qs ++ [(1, k)]) = true → x0 ≤ 6 * k) := by
  have hfair : fairB n qs = true := by rw [← first_fair]; exact h
  rw [firstB, Bool.and_eq_true] at h
  obtain ⟨hb, hs⟩ := h
  obtain ⟨l, hl⟩ := Option.isSome_iff_exists.1 hs
  have hR : firstR n qs = natL l := by rw [firstR, if_pos hb, hl]; rfl
  have hn : 1 ≤ n ∧ n ≤ 4 := ((bokB_iff _ _).1 hb).1
  have h3 := ((bokB_iff _ _).1 hb).2.1
  obtain ⟨k, hk⟩ : ∃ k, n.toNat = k + 1 := ⟨n.toNat - 1, by omega⟩
  have hm := List.mem_of_find?_eq_some hl
  have hfit := List.find?_some hl
  have hm2 := hm
  rw [hk] at hm2
  obtain ⟨e1, e2⟩ := (mem_lay k 36 l).1 hm2
  have hmea : meaB (natL l) = true := (mea_lay (natL l)).2 ⟨by rw [natL_len]; omega, l, by rw [natL_len, e1, ← hk]; exact hm, rfl⟩
  cases l with
  | nil => simp at e1
  | cons x l =>
    have hx0 : (natL (x :: l))[0]? = some (x : Int) := rfl
    have hg := (grs_of hmea).1 (x : Int) (by simp [natL])
    refine ⟨(x : Int), by rw [hR]; rfl, hg, ?_, hfair, hn, by rw [hR, natL_len]; simp, h3, fun p hp => ?_⟩
    · rw [hR, fitB, hmea, natL_len, e1]
      have : (((k + 1 : Nat)) : Int) = n := by omega
      rw [this, hb]
      simpa using hfit
    · rw [fairB, Bool.and_eq_true] at hp
      exact first_price (w := n.toNat) (by omega) hl hp.2

theorem first_no2 {n : Int} {qs : List Qt} (h : firstB n qs = false) : firstR n qs = [] ∧ fairB n qs = false := by
  refine ⟨?_, by rw [← first_fair]; exact h⟩
  rw [firstB, Bool.and_eq_false_iff] at h
  rw [firstR]
  split
  · next hb =>
    rcases h with h | h
    · rw [hb] at h; cases h
    · cases hf : firstFit n.toNat qs with
      | none => rfl
      | some l => rw [hf] at h; cases h
  · rfl

theorem two_one' {x y : Int} : ∀ u ∈ [Value.int .i64 x, .int .i64 y], u.oneCell' = true := by
  intro u hu
  simp only [List.mem_cons, List.not_mem_nil, or_false] at hu
  rcases hu with rfl | rfl <;> rfl

set_option maxRecDepth 100000 in
set_option maxHeartbeats 8000000 in
theorem FnFirstMeasure_walk (a0 : Option Addr) (len0 cap0 : Nat) (z0 : List Int) (w : World) (w0 : IsRowC .u8 w a0 len0 cap0 z0) :
    Calls Try.prog 3 #[.slice a0 len0 cap0] w fun e w' => e = .returned (.bool true) ∧ Below w.heap.size w w' := by
  by_cases hlen : 1048576 < len0
  · clear w0
    go_enter Try.func3, Try.ntmps3
    go_wp2
    go_ret
    exact ⟨rfl, Below.refl _ _⟩
  · have hlen' : decide (1048576 < len0) = false := by simpa using hlen
    go_enter Try.func3, Try.ntmps3
    go_wp2_with fail
    refine (drawFirstMeasure_any _ _ _ _ _ w0).mono ?_
    rintro e w1 ⟨n, vb, qs, rfl, ovb1, hl4, B1⟩
    clear hlen hlen' w0
    have z1 := B1.size
    have hvb : ∀ g, vb.ownBlock = some g → g < w1.heap.size := fun g hg => (ovb1.ge g hg).2
    obtain ⟨j0, hj, hy0, hy1, hy2⟩ := info_parts Try_quoteinfo
    rcases Bool.eq_false_or_eq_true (firstB n qs) with hb | hb
    · have HB := Lib.hid hb
      obtain ⟨x0, hx0, ⟨x1, x2⟩, hfit, hfair, ⟨hn1, hn2⟩, hpos, hq3, hpr⟩ := first_facts hb
      obtain ⟨ms, hms⟩ : ∃ ms, firstR n qs = ms := ⟨_, rfl⟩
      rw [hms] at hx0 hfit hpos
      have HMS := Lib.hid hms
      have HX0 := Lib.hid hx0
      have HFIT := Lib.hid hfit
      have HFAIR := Lib.hid hfair
      have HPOS := Lib.hid hpos
      have HPR := Lib.hid hpr
      clear hb hms hx0 hfit hfair hpos hpr
      go_wp2_with fail
      refine (implFirstMeasure_any w1 n vb qs (ovb1.rd qC_len)).mono ?_
      rintro e w2 ⟨vm, rfl, ovm2, b2⟩
      rw [HB.out]
      rw [HMS.out] at ovm2
      have z2 := b2.size
      have hvm : ∀ g, vm.ownBlock = some g → g < w2.heap.size := fun g hg => (ovm2.ge g hg).2
      have B2 := below_step B1 b2 (by omega)
      have ovb2 := ovb1.keep (SameAt.of_below b2)
      clear B1 b2 ovb1
      go_wp2_with fail
      refine (specFirstMeasure_any w2 n vb qs (ovb2.rd qC_len)).mono ?_
      rintro e w3 ⟨vx, rfl, ovx3, b3⟩
      rw [HB.out]
      rw [HMS.out] at ovx3
      have z3 := b3.size
      have hvx : ∀ g, vx.ownBlock = some g → g < w3.heap.size := fun g hg => (ovx3.ge g hg).2
      have B3 := below_step B2 b3 (by omega)
      have ovb3 := ovb2.keep (SameAt.of_below b3)
      have ovm3 := ovm2.keep (SameAt.of_below b3)
      clear B2 b3 ovb2 ovm2
      go_wp2_with fail
      refine (sameInts_any w3 vm vx _ _ (ovm3.rd) (ovx3.rd)).mono ?_
      rintro e w' ⟨q4, rfl, rfl⟩
      rw [decide_self]
      have z4 : w3.heap.size ≤ (w3.drewN q4).heap.size := Nat.le_refl _
      have B4 : Below w.heap.size w (w3.drewN q4) := below_drewN B3 q4
      have ovb4 : QOwn (w3.drewN q4) _ vb _ := ovb3
      have ovm4 : IOwn (w3.drewN q4) _ vm _ := ovm3
      have ovx4 : IOwn (w3.drewN q4) _ vx _ := ovx3
      clear B3 ovb3 ovm3 ovx3
      generalize w3.drewN q4 = w4 at *
      clear ovx4 hvx
      have HVB := Lib.hid ovb4
      have HVM := Lib.hid ovm4
      have HBJ := Lib.hid B4
      have HZJ : Hid (w.heap.size ≤ w4.heap.size) := Lib.hid B4.size
      obtain ⟨gm, cm, rfl, hcm1, hcm2⟩ := HVM.out.form HPOS.out
      have hcm3 : (ms.length : Int) ≤ (cm : Int) := by omega
      have hms1 : (0 : Int) < (ms.length : Int) := by have := HPOS.out; omega
      clear ovb4 ovm4 B4
      rcases qown_cases HVB.out with ⟨rfl, rfl⟩ | ⟨gb, cb, rfl, hcb1, hcb2⟩
      · skip
        go_wp2_with fail
        go_loopw [9] (fun i wr => ∃ k : Nat, i = .int .i64 (k : Int) ∧ k ≤ 7 ∧ Hid (Below w4.heap.size w4 wr)) (fun i _ => 7 - (intOf i).toNat)
        case atStart => exact ⟨0, rfl, Nat.zero_le _, Lib.hid (Below.refl _ _)⟩
        case round =>
          obtain ⟨k, rfl, hk, HW⟩ := hrel
          by_cases hlt : k < 7
          · have hlt2 : (k : Int) ≤ 6 := by omega
            have hown := Lib.hid (litq_own wr)
            have hsz := HW.out.size
            have hown2 := Lib.hid (World.ownsRow.alloc (w := wr.alloc (.cells #[] 33)) hown.out (.cells #[.int .i64 1, .int .i64 (k : Int)] 33))
            go_wp2_with (first
              | (at_builtin; refine wpList_append_own_none rfl _ _ 23 rfl wr.heap.size 33 j0 2 Try.underlying23 hj _ _ _ rfl hown.out rfl ?_)
              | (at_builtin; refine wpList_append_own_at _ rfl _ _ 23 rfl wr.heap.size 33 j0 (.agg #[.int .i64 0, .int .i64 0]) 2 16 Try.underlying23 hj hy0 hy1 hy2 rfl (by decide) _ _ _ rfl hown2.out ⟨wr.heap.size + 1, 0, none⟩ 1 1 [.int .i64 1, .int .i64 (k : Int)] rfl rfl ?mc0 two_one' ?mc3 ?mc4 ?mc5 ?_))
            first | (case mc0 => exact news_second wr 1 k) | skip
            case mc3 => unfold maxLen; omega
            case mc4 => omega
            case mc5 => simp; omega
            intro v2 wc hown' hgrow _ _
            have oc : QOwn wc wr.heap.size v2 ([] ++ [(1, (k : Int))]) := by simpa [GOwn, qC] using hown'
            have bc : Below wr.heap.size wr wc := (Below.refl _ wr).grown (grown_alloc2 hgrow) (Nat.le_refl _) (fun g hg => by have h1 : wr.heap.size = g := Option.some.inj hg; omega)
            have HC := Lib.hid (below_step HW.out bc HW.out.size)
            have HOC := Lib.hid oc
            clear hown' hgrow oc bc hown hown2
            obtain ⟨t, ht⟩ : ∃ t, fairB n ([] ++ [(1, (k : Int))]) = t := ⟨_, rfl⟩
            have HT := Lib.hid ht
            clear ht
            go_wp2_with fail
            refine (implFairOk_any wc n v2 ([] ++ [(1, (k : Int))]) (GOwn.rd qC_len HOC.out)).mono ?_
            rintro e wd ⟨rfl, bd⟩
            rw [HT.out]
            have HD := Lib.hid (below_step HC.out bd HC.out.size)
            clear bd HOC
            cases t
            · go_wp2_with fail
              go_roundw
              case rel => exact ⟨k + 1, by go_num, by omega, HD⟩
              case measure => simp [intOf]; omega
            · have hle : x0 ≤ 6 * (k : Int) := HPR.out k HT.out
              have hdv : ((k : Int) * 36) / 6 = 6 * (k : Int) := by omega
              have hdv2 : ((k : Int) * 36).tdiv 6 = 6 * (k : Int) := by rw [Int.tdiv_eq_ediv_of_nonneg (by omega)]; omega
              have hnl : decide (6 * (k : Int) < x0) = false := by simpa using hle
              have hc0 := IRd.cellk (HVM.out.keep (SameAt.of_below HD.out)).rd HX0.out
              rw [Nat.zero_add] at hc0
              go_wp2_with fail
              go_roundw
              case rel => exact ⟨k + 1, by go_num, by omega, HD⟩
              case measure => simp [intOf]; omega
          · have hge7 : (6 : Int) < (k : Int) := by omega
            go_wp2_with fail
            refine (implFitsOk_any wr _ _ ms [] (HVM.out.keep (SameAt.of_below HW.out)).rd (GOwn.rd qC_len (HVB.out.keep (SameAt.of_below HW.out)))).mono ?_
            rintro e wa ⟨rfl, ba⟩
            rw [HFIT.out]
            have HA := Lib.hid (below_step HW.out ba HW.out.size)
            clear ba
            go_wp2_with fail
            refine (implFairOk_any wa n _ [] (GOwn.rd qC_len (HVB.out.keep (SameAt.of_below HA.out)))).mono ?_
            rintro e wb ⟨rfl, bb⟩
            rw [HFAIR.out]
            have HBB := Lib.hid (below_step HA.out bb HA.out.size)
            clear bb
            go_wp2_with fail
            go_ret
            exact ⟨rfl, below_step HBJ.out HBB.out HZJ.out⟩
      · have hcb3 : (qs.length : Int) ≤ (cb : Int) := by omega
        go_wp2_with fail
        go_loopw [9] (fun i wr => ∃ k : Nat, i = .int .i64 (k : Int) ∧ k ≤ 7 ∧ Hid (Below w4.heap.size w4 wr)) (fun i _ => 7 - (intOf i).toNat)
        case atStart => exact ⟨0, rfl, Nat.zero_le _, Lib.hid (Below.refl _ _)⟩
        case round =>
          obtain ⟨k, rfl, hk, HW⟩ := hrel
          by_cases hq : qs.length < 3
          · have hq2 : (qs.length : Int) < 3 := by omega
            by_cases hlt : k < 7
            · have hlt2 : (k : Int) ≤ 6 := by omega
              have hown := Lib.hid (litq_own wr)
              have hsz := HW.out.size
              have hnews := Lib.hid (grd_news ((GOwn.rd qC_len (HVB.out.keep (SameAt.of_below HW.out))).keep (SameAt.grow (w' := wr.alloc (.cells #[] 33)) rfl)))
              go_wp2_with (at_builtin; refine wpList_append_own_at _ rfl _ _ 23 rfl wr.heap.size 33 j0 (.agg #[.int .i64 0, .int .i64 0]) 2 16 Try.underlying23 hj hy0 hy1 hy2 rfl (by decide) _ _ _ rfl hown.out ⟨gb, 0, none⟩ qs.length cb (qs.flatMap qC) rfl ?mc0 hnews.out (quotes_one qs) ?mc3 ?mc4 ?mc5 ?_)
              case mc0 => exact flat_len qC_len qs
              case mc3 => unfold maxLen; omega
              case mc4 => omega
              case mc5 => simp
              intro v1 wb hown' hgrow _ _
              obtain ⟨ob, bb⟩ := copy_of (w := wr) (qs := qs) hown' hgrow rfl
              have zb := bb.size
              have hge := (fun g hg => (ob.ge g hg).1 : ∀ g, v1.ownBlock = some g → wr.heap.size ≤ g)
              have hown2 := Lib.hid (World.ownsRow.alloc (w := wb) (show wb.ownsRow wr.heap.size 33 2 v1 qs.length (qs.flatMap qC) from ob) (.cells #[.int .i64 1, .int .i64 (k : Int)] 33))
              clear hown' hgrow ob
              go_wp2_with (at_builtin; refine wpList_append_own_at _ rfl _ _ 23 rfl wr.heap.size 33 j0 (.agg #[.int .i64 0, .int .i64 0]) 2 16 Try.underlying23 hj hy0 hy1 hy2 rfl (by decide) _ _ _ rfl hown2.out ⟨wb.heap.size, 0, none⟩ 1 1 [.int .i64 1, .int .i64 (k : Int)] rfl rfl ?nc0 two_one' ?nc3 ?nc4 ?nc5 ?_)
              first | (case nc0 => exact World.news_of_block (heap_alloc_new wb _)) | skip
              case nc3 => unfold maxLen; omega
              case nc4 => omega
              case nc5 => simp; omega
              intro v2 wc hown' hgrow _ _
              have oc : QOwn wc wr.heap.size v2 (qs ++ [(1, (k : Int))]) := by simpa [GOwn, qC] using hown'
              have bc : Below wr.heap.size wr wc := bb.grown (grown_after (w := wb) ((Below.refl _ wb).alloc (Nat.le_refl _) _) hgrow) zb hge
              have HC := Lib.hid (below_step HW.out bc HW.out.size)
              have HOC := Lib.hid oc
              clear hown' hgrow oc bc hown hown2
              obtain ⟨t, ht⟩ : ∃ t, fairB n (qs ++ [(1, (k : Int))]) = t := ⟨_, rfl⟩
              have HT := Lib.hid ht
              clear ht
              go_wp2_with fail
              refine (implFairOk_any wc n v2 (qs ++ [(1, (k : Int))]) (GOwn.rd qC_len HOC.out)).mono ?_
              rintro e wd ⟨rfl, bd⟩
              rw [HT.out]
              have HD := Lib.hid (below_step HC.out bd HC.out.size)
              clear bd HOC
              cases t
              · go_wp2_with fail
                go_roundw
                case rel => exact ⟨k + 1, by go_num, by omega, HD⟩
                case measure => simp [intOf]; omega
              · have hle : x0 ≤ 6 * (k : Int) := HPR.out k HT.out
                have hdv : ((k : Int) * 36) / 6 = 6 * (k : Int) := by omega
                have hdv2 : ((k : Int) * 36).tdiv 6 = 6 * (k : Int) := by rw [Int.tdiv_eq_ediv_of_nonneg (by omega)]; omega
                have hnl : decide (6 * (k : Int) < x0) = false := by simpa using hle
                have hc0 := IRd.cellk (HVM.out.keep (SameAt.of_below HD.out)).rd HX0.out
                rw [Nat.zero_add] at hc0
                go_wp2_with fail
                go_roundw
                case rel => exact ⟨k + 1, by go_num, by omega, HD⟩
                case measure => simp [intOf]; omega
            · have hge7 : (6 : Int) < (k : Int) := by omega
              go_wp2_with fail
              refine (implFitsOk_any wr _ _ ms qs (HVM.out.keep (SameAt.of_below HW.out)).rd (GOwn.rd qC_len (HVB.out.keep (SameAt.of_below HW.out)))).mono ?_
              rintro e wa ⟨rfl, ba⟩
              rw [HFIT.out]
              have HA := Lib.hid (below_step HW.out ba HW.out.size)
              clear ba
              go_wp2_with fail
              refine (implFairOk_any wa n _ qs (GOwn.rd qC_len (HVB.out.keep (SameAt.of_below HA.out)))).mono ?_
              rintro e wb ⟨rfl, bb⟩
              rw [HFAIR.out]
              have HBB := Lib.hid (below_step HA.out bb HA.out.size)
              clear bb
              go_wp2_with fail
              go_ret
              exact ⟨rfl, below_step HBJ.out HBB.out HZJ.out⟩
          · have hq2 : (3 : Int) ≤ (qs.length : Int) := by omega
            by_cases hlt : k < 7
            · have hlt2 : (k : Int) ≤ 6 := by omega
              go_wp2_with fail
              refine (implFitsOk_any wr _ _ ms qs (HVM.out.keep (SameAt.of_below HW.out)).rd (GOwn.rd qC_len (HVB.out.keep (SameAt.of_below HW.out)))).mono ?_
              rintro e wa ⟨rfl, ba⟩
              rw [HFIT.out]
              have HA := Lib.hid (below_step HW.out ba HW.out.size)
              clear ba
              go_wp2_with fail
              refine (implFairOk_any wa n _ qs (GOwn.rd qC_len (HVB.out.keep (SameAt.of_below HA.out)))).mono ?_
              rintro e wb ⟨rfl, bb⟩
              rw [HFAIR.out]
              have HBB := Lib.hid (below_step HA.out bb HA.out.size)
              clear bb
              go_wp2_with fail
              go_ret
              exact ⟨rfl, below_step HBJ.out HBB.out HZJ.out⟩
            · have hge7 : (6 : Int) < (k : Int) := by omega
              go_wp2_with fail
              refine (implFitsOk_any wr _ _ ms qs (HVM.out.keep (SameAt.of_below HW.out)).rd (GOwn.rd qC_len (HVB.out.keep (SameAt.of_below HW.out)))).mono ?_
              rintro e wa ⟨rfl, ba⟩
              rw [HFIT.out]
              have HA := Lib.hid (below_step HW.out ba HW.out.size)
              clear ba
              go_wp2_with fail
              refine (implFairOk_any wa n _ qs (GOwn.rd qC_len (HVB.out.keep (SameAt.of_below HA.out)))).mono ?_
              rintro e wb ⟨rfl, bb⟩
              rw [HFAIR.out]
              have HBB := Lib.hid (below_step HA.out bb HA.out.size)
              clear bb
              go_wp2_with fail
              go_ret
              exact ⟨rfl, below_step HBJ.out HBB.out HZJ.out⟩
    · have HB := Lib.hid hb
      have HR := Lib.hid (first_no2 hb).1
      have HF := Lib.hid (first_no2 hb).2
      clear hb hj hy0 hy1 hy2
      go_wp2_with fail
      refine (implFirstMeasure_any w1 n vb qs (ovb1.rd qC_len)).mono ?_
      rintro e w2 ⟨vm, rfl, ovm2, b2⟩
      rw [HB.out]
      rw [HR.out] at ovm2
      have z2 := b2.size
      have hvm : ∀ g, vm.ownBlock = some g → g < w2.heap.size := fun g hg => (ovm2.ge g hg).2
      have B2 := below_step B1 b2 (by omega)
      have ovb2 := ovb1.keep (SameAt.of_below b2)
      clear B1 b2 ovb1
      go_wp2_with fail
      refine (specFirstMeasure_any w2 n vb qs (ovb2.rd qC_len)).mono ?_
      rintro e w3 ⟨vx, rfl, ovx3, b3⟩
      rw [HB.out]
      rw [HR.out] at ovx3
      have z3 := b3.size
      have hvx : ∀ g, vx.ownBlock = some g → g < w3.heap.size := fun g hg => (ovx3.ge g hg).2
      have B3 := below_step B2 b3 (by omega)
      have ovb3 := ovb2.keep (SameAt.of_below b3)
      have ovm3 := ovm2.keep (SameAt.of_below b3)
      clear B2 b3 ovb2 ovm2
      go_wp2_with fail
      refine (sameInts_any w3 vm vx _ _ (ovm3.rd) (ovx3.rd)).mono ?_
      rintro e w' ⟨q4, rfl, rfl⟩
      rw [decide_self]
      have z4 : w3.heap.size ≤ (w3.drewN q4).heap.size := Nat.le_refl _
      have B4 : Below w.heap.size w (w3.drewN q4) := below_drewN B3 q4
      have ovb4 : QOwn (w3.drewN q4) _ vb _ := ovb3
      have ovm4 : IOwn (w3.drewN q4) _ vm _ := ovm3
      have ovx4 : IOwn (w3.drewN q4) _ vx _ := ovx3
      clear B3 ovb3 ovm3 ovx3
      generalize w3.drewN q4 = w4 at *
      clear ovx4 hvx
      obtain ⟨Am, cm, rfl, hlcm, hmm, -⟩ := id (ovm4.rd)
      clear hvm
      go_wp2_with fail
      refine (implFairOk_any w4 n vb qs (ovb4.rd qC_len)).mono ?_
      rintro e w5 ⟨rfl, b5⟩
      rw [HF.out]
      have z5 := b5.size
      have B5 := below_step B4 b5 (by omega)
      have ovb5 := ovb4.keep (SameAt.of_below b5)
      have ovm5 := ovm4.keep (SameAt.of_below b5)
      clear B4 b5 ovb4 ovm4
      go_wp2_with fail
      refine (alive_any _).mono ?_
      rintro e w' ⟨rfl, rfl⟩
      go_wp2_with fail
      go_ret
      exact ⟨rfl, B5⟩

end Go.Proofs.Ytfjmlbcmidichaa
