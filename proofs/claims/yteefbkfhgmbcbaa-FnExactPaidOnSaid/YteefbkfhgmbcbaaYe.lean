/- The contract of spec's PaidOut. Conditions: a row that reads. -/
import Derived.Test.YteefbkfhgmbcbaaYd
namespace Go.Proofs.Yteefbkfhgmbcbaa
open Go.RowKit
set_option linter.unusedVariables false

theorem outB_iff (W : Int) (ts : List Qt) (x : Int) : outB W ts x = true ↔ tkB W ts = true ∧ 0 ≤ x ∧ x ≤ W - 1 := by
  rw [outB, Bool.and_eq_true, inB_iff]

theorem share_bound {ts : List Qt} (h : Pays ts) (h6 : ts.length ≤ 6) {x : Int} {t : Qt} (ht : t ∈ ts) : 0 ≤ shareI (sum2 ts) (onW ts x) x t ∧ shareI (sum2 ts) (onW ts x) x t ≤ 15000 := by
  refine ⟨(share_ge h ht).1, ?_⟩
  have hs := sum2_bound h
  have ho := onW_bound h x
  have h2 := h t ht
  have hm : t.2 * sum2 ts ≤ 50 * 300 := Int.mul_le_mul h2.2 (by omega) hs.1 (by decide)
  have hm0 : 0 ≤ t.2 * sum2 ts := Int.mul_nonneg (by omega) hs.1
  unfold shareI
  split
  · omega
  · split
    · exact Int.le_trans (Int.ediv_le_self _ hm0) (by omega)
    · omega

/-- the rows O and S, up to k and from k on -/
def mixL (O S : List Int) (k : Nat) : List Int := O.take k ++ S.drop k

theorem mix_len {O S : List Int} (h : O.length = S.length) {k : Nat} (hk : k ≤ S.length) : (mixL O S k).length = S.length := by
  simp only [mixL, List.length_append, List.length_take, List.length_drop]; omega

theorem mix_at {O S : List Int} (h : O.length = S.length) {k : Nat} (hk : k < S.length) : (mixL O S k)[k]? = S[k]? := by
  rw [mixL, List.getElem?_append_right (by rw [List.length_take]; omega), List.length_take, Nat.min_eq_left (by omega), Nat.sub_self, List.getElem?_drop, Nat.add_zero]

theorem mix_set {O S : List Int} (h : O.length = S.length) {k : Nat} {o : Int} (ho : O[k]? = some o) : mixL O S (k + 1) = (mixL O S k).set k o := by
  have hk : k < O.length := (List.getElem?_eq_some_iff.1 ho).1
  unfold mixL
  rw [List.set_append_right _ _ (by rw [List.length_take]; omega), List.length_take, Nat.min_eq_left (by omega), Nat.sub_self, List.take_add_one, ho, Option.toList_some, List.append_assoc]
  congr 1
  rw [List.drop_eq_getElem_cons (show k < S.length by omega)]
  rfl

theorem mix_same {O S : List Int} (h : O.length = S.length) {k : Nat} {o : Int} (ho : O[k]? = some o) (hs : S[k]? = some o) : mixL O S (k + 1) = mixL O S k := by
  rw [mix_set h ho]
  apply List.ext_getElem?
  intro i
  by_cases hi : k = i
  · subst hi
    have hk : k < S.length := (List.getElem?_eq_some_iff.1 hs).1
    rw [List.getElem?_set_self (by rw [mix_len h (Nat.le_of_lt hk)]; exact hk), mix_at h hk, hs]
  · rw [List.getElem?_set_ne hi]

theorem mix_end {O S : List Int} (h : O.length = S.length) {k : Nat} (he : ∀ j, k ≤ j → O[j]? = S[j]?) : mixL O S k = O := by
  apply List.ext_getElem?
  intro i
  unfold mixL
  rcases Nat.lt_or_ge i k with hi | hi
  · rcases Nat.lt_or_ge i O.length with h1 | h1
    · rw [List.getElem?_append_left (by rw [List.length_take]; omega), List.getElem?_take, if_pos hi]
    · rw [List.getElem?_eq_none (by rw [List.length_append, List.length_take, List.length_drop]; omega), List.getElem?_eq_none h1]
  · rcases Nat.lt_or_ge k O.length with h1 | h1
    · rw [List.getElem?_append_right (by rw [List.length_take]; omega), List.length_take, Nat.min_eq_left (by omega), List.getElem?_drop, he i hi]
      congr 1; omega
    · rw [List.getElem?_eq_none (by rw [List.length_append, List.length_take, List.length_drop]; omega), List.getElem?_eq_none (by omega)]

theorem out_share {ts : List Qt} {x : Int} {k : Nat} (h : leftI ts x - cntW (ts.take k) x ≤ 0) : ∀ j, k ≤ j → (outL ts x)[j]? = (shareL ts x)[j]? := by
  intro j hj
  rcases Nat.lt_or_ge j ts.length with h1 | h1
  · have ht : ts[j]? = some ts[j] := List.getElem?_eq_getElem h1
    have hc := cntW_take_le ts x hj
    rw [out_at ht, share_at ht, if_neg (by omega)]
  · rw [List.getElem?_eq_none (by rw [out_len]; exact h1), List.getElem?_eq_none (by rw [share_len]; exact h1)]

theorem cntW_take {ts : List Qt} {k : Nat} {t : Qt} (h : ts[k]? = some t) (x : Int) : cntW (ts.take (k + 1)) x = cntW (ts.take k) x + (if t.1 = x then 1 else 0) := by
  rw [take_snoc10 h]
  generalize ts.take k = a
  induction a with
  | nil => simp [cntW]
  | cons u a ih => simp only [List.cons_append, cntW, ih]; omega

theorem sum_take10 {xs : List Int} {k : Nat} {x : Int} (h : xs[k]? = some x) : (xs.take (k + 1)).sum = (xs.take k).sum + x := by
  rw [List.take_add_one, h, Option.toList_some, List.sum_append]; simp

theorem IOwn.cellk10 {w : World} {base g c n : Nat} {xs : List Int} (h : IOwn w base (.slice (some ⟨g, 0, none⟩) n c) xs) {k : Nat} {x : Int} (hx : xs[k]? = some x) : w.cell? ⟨g, k, none⟩ = some (.int .i64 x) := by
  have hk : k < xs.length := (List.getElem?_eq_some_iff.1 hx).1
  have hn : n = xs.length := by
    rcases h.2 with ⟨e, -⟩ | ⟨g', cap, cur, e, -⟩
    · cases e
    · injection e with e1 e2 e3
  subst hn
  have := World.ownsRow.cellAt (show w.ownsRow base 3 1 (.slice (some ⟨g, 0, none⟩) xs.length c) xs.length (xs.map (Value.int .i64)) from h) k (by omega)
  rw [this, List.getElem?_map, hx]; rfl

theorem IOwn.frozen10 {w : World} {base g c n : Nat} {xs : List Int} (h : IOwn w base (.slice (some ⟨g, 0, none⟩) n c) xs) (k : Nat) : w.frozen? ⟨g, k, none⟩ = false := by
  have hn : n = xs.length := by
    rcases h.2 with ⟨e, -⟩ | ⟨g', cap, cur, e, -⟩
    · cases e
    · injection e with e1 e2 e3
  subst hn
  exact World.ownsRow.frozenAt (show w.ownsRow base 3 1 (.slice (some ⟨g, 0, none⟩) xs.length c) xs.length (xs.map (Value.int .i64)) from h) k

theorem IOwn.store {w : World} {base g c n : Nat} {xs : List Int} (h : IOwn w base (.slice (some ⟨g, 0, none⟩) n c) xs) {k : Nat} (y : Int) : IOwn (w.setCell ⟨g, k, none⟩ (.int .i64 y)) base (.slice (some ⟨g, 0, none⟩) n c) (xs.set k y) := by
  have hn : n = xs.length := by
    rcases h.2 with ⟨e, -⟩ | ⟨g', cap, cur, e, -⟩
    · cases e
    · injection e with e1 e2 e3
  subst hn
  obtain ⟨h1, -⟩ := World.ownsRow.stored (show w.ownsRow base 3 1 (.slice (some ⟨g, 0, none⟩) xs.length c) xs.length (xs.map (Value.int .i64)) from h) k (.int .i64 y)
  unfold IOwn
  rw [List.length_set, List.map_set]
  exact h1

set_option maxRecDepth 100000 in
set_option maxHeartbeats 8000000 in
theorem specPaidOut_any (w : World) (W : Int) (v : Value) (ts : List Qt) (x : Int) (hv : QRd w v ts) :
    Calls Try.prog 28 #[.int .i64 W, v, .int .i64 x] w (NewInts (outR W ts x) w) := by
  obtain ⟨A, c, rfl, hl, hm⟩ := hv.form
  have HV : Hid (∀ wr, Below w.heap.size w wr → QRd wr (.slice A ts.length c) ts) := Lib.hid (fun wr hb => hv.keep (SameAt.of_below hb))
  clear hv
  have D0 := Lib.hid (ARel.start w (shareL ts x))
  rcases Bool.eq_false_or_eq_true (tkB W ts) with h | h
  · have HP := Lib.hid (pays_of h)
    obtain ⟨w1, w4, h6, -⟩ := (tkB_iff W ts).1 h
    have hwr : IntKind.i64.wrap (W - 1) = W - 1 := IntWalk.i64_in _ (by omega)
    rcases Bool.eq_false_or_eq_true (inB x 0 (W - 1)) with hx | hx
    · have HR : Hid (outR W ts x = outL ts x) := Lib.hid (by rw [outR, if_pos (by rw [outB, h, hx]; rfl)])
      have HPO : Hid (poolR W ts = sum2 ts) := Lib.hid (by rw [poolR, if_pos h])
      have hpb := sum2_bound HP.out
      have hob := onW_bound HP.out x
      have HZ := Lib.hid (share_len ts x)
      obtain ⟨P, hP⟩ : ∃ P, sum2 ts = P := ⟨_, rfl⟩
      obtain ⟨O, hO⟩ : ∃ O, onW ts x = O := ⟨_, rfl⟩
      rw [hP] at HPO hpb hob
      rw [hO] at hob
      have hPb : 0 ≤ P ∧ P ≤ 300 := by omega
      have HSH : Hid (∀ k t, ts[k]? = some t → (shareL ts x)[k]? = some (shareI P O x t) ∧ 0 ≤ shareI P O x t ∧ shareI P O x t ≤ 15000) := Lib.hid (fun k t ht => by
        have h1 := share_at (x := x) ht
        have h2 := share_bound HP.out h6 (x := x) (List.mem_of_getElem? ht)
        rw [hP, hO] at h1 h2
        exact ⟨h1, h2⟩)
      have HO := Lib.hid hO
      have HLF : Hid (leftI ts x = P - (shareL ts x).sum) := Lib.hid (by rw [leftI, hP])
      clear hP hO hpb
      go_enter Try.func28, Try.ntmps28
      go_wp2_with fail
      generalize w.alloc (.cells #[] 3) = wa at D0 ⊢
      refine (specTicketsOk_any wa W _ ts (HV.out _ D0.out.2)).mono ?_
      rintro r w' ⟨rfl, rfl⟩
      rw [h]
      clear h
      go_wp2_with fail
      refine (l1In_any _ _ _ _).mono ?_
      rintro r w' ⟨rfl, rfl⟩
      rw [hx]
      clear hx
      go_wp2_with fail
      refine (specPoolOf_any wa W _ ts (HV.out _ D0.out.2)).mono ?_
      rintro r w' ⟨rfl, rfl⟩
      rw [HPO.out]
      go_wp2_with fail
      refine (l10On_any wa _ ts x (HV.out _ D0.out.2) HP.out h6).mono ?_
      rintro r w' ⟨rfl, rfl⟩
      rw [HO.out]
      go_wp2_with fail
      go_loopw [7, 10, 11] (fun p l i wr => ∃ (k g c : Nat) (n : Int), p = .slice (some ⟨g, 0, none⟩) k c ∧ i = .int .i64 (k : Int) ∧ k ≤ ts.length ∧ l = .int .i64 n ∧ Hid (n = P - ((shareL ts x).take k).sum ∧ P - 15000 * k ≤ n ∧ n ≤ P) ∧ Hid (ARel w (shareL ts x) k (.slice (some ⟨g, 0, none⟩) k c) wr)) (fun _ _ i _ => ts.length - (intOf i).toNat)
      case atStart => exact ⟨0, w.heap.size, 0, P, rfl, rfl, Nat.zero_le _, rfl, Lib.hid ⟨by simp, by simp, Int.le_refl _⟩, D0⟩
      case round =>
        obtain ⟨k, g, c1, n, rfl, rfl, hk, rfl, HN, HF⟩ := hrel
        clear D0
        by_cases hlt : k < ts.length
        · obtain ⟨b, off, t, rfl, -, ht, hc0, hc1⟩ := QRd.at_ (HV.out _ HF.out.2) hlt
          have hlt' : (k : Int) < (ts.length : Int) := by omega
          obtain ⟨s1, s2, s3⟩ := HSH.out k t ht
          have htp := HP.out t (List.mem_of_getElem? ht)
          obtain ⟨y, hy⟩ : ∃ y, shareI P O x t = y := ⟨_, rfl⟩
          rw [hy] at s1 s2 s3
          have HS := Lib.hid s1
          have HLK : Hid (((shareL ts x).take k).length = k) := Lib.hid (by rw [List.length_take, HZ.out]; omega)
          obtain ⟨n1, n2, n3⟩ := HN.out
          have hwn : IntKind.i64.wrap (n - y) = n - y := IntWalk.i64_in _ (by omega)
          have HN2 : Hid (n - y = P - ((shareL ts x).take (k + 1)).sum ∧ P - 15000 * ((k + 1 : Nat) : Int) ≤ n - y ∧ n - y ≤ P) := Lib.hid ⟨by rw [sum_take10 HS.out]; omega, by push_cast; omega, by omega⟩
          have hwn0 : wrap64 n = n := IntWalk.wrap64_in _ (by omega)
          clear ht s1 n1 n2 n3
          by_cases h0 : O = 0
          · have h0' : (O == 0) = true := by simpa using h0
            have hyt : t.2 = y := by rw [← hy, shareI, if_pos h0]
            subst hyt
            clear hy h0
            go_wp2_with (at_builtin; refine wp_app_int rfl _ _ rfl _ w.heap.size _ _ k HLK.out t.2 (by rfl) HF.out.1 (by rfl) (by omega) HF.out.2.size ?_)
            intro g5 c5 w5 o5 b5 _
            have HF5 : Hid (ARel w (shareL ts x) (k + 1) (.slice (some ⟨g5, 0, none⟩) (k + 1) c5) w5) := Lib.hid ⟨by rw [List.take_add_one, HS.out]; exact o5, HF.out.2.trans b5⟩
            clear o5 b5
            go_wp2_with fail
            go_roundw
            case rel => exact ⟨k + 1, g5, c5, n - t.2, rfl, by go_num, by omega, rfl, HN2, HF5⟩
            case measure => simp [intOf]; omega
          · have h0' : (O == 0) = false := by simpa using h0
            by_cases h1 : t.1 = x
            · have h1' : (t.1 == x) = true := by simpa using h1
              have hyt : t.2 * P / O = y := by rw [← hy, shareI, if_neg h0, if_pos h1]
              have hm : 0 ≤ t.2 * P ∧ t.2 * P ≤ 50 * 300 := ⟨Int.mul_nonneg (by omega) (by omega), Int.mul_le_mul htp.2 hPb.2 hPb.1 (by decide)⟩
              have hwm : IntKind.i64.wrap (t.2 * P) = t.2 * P := IntWalk.i64_in _ (by omega)
              have hq : (t.2 * P).tdiv O = y := by rw [Int.tdiv_eq_ediv_of_nonneg hm.1]; exact hyt
              have hwy : wrap64 y = y := IntWalk.wrap64_in _ (by omega)
              have hwy2 : IntKind.i64.wrap y = y := IntWalk.i64_in _ (by omega)
              clear hy hyt h1 hm
              go_wp2_with (at_builtin; refine wp_app_int rfl _ _ rfl _ w.heap.size _ _ k HLK.out y (by rfl) HF.out.1 (by rfl) (by omega) HF.out.2.size ?_)
              intro g5 c5 w5 o5 b5 _
              have HF5 : Hid (ARel w (shareL ts x) (k + 1) (.slice (some ⟨g5, 0, none⟩) (k + 1) c5) w5) := Lib.hid ⟨by rw [List.take_add_one, HS.out]; exact o5, HF.out.2.trans b5⟩
              clear o5 b5
              go_wp2_with fail
              go_roundw
              case rel => exact ⟨k + 1, g5, c5, n - y, rfl, by go_num, by omega, rfl, HN2, HF5⟩
              case measure => simp [intOf]; omega
            · have h1' : (t.1 == x) = false := by simpa using h1
              have hyt : y = 0 := by rw [← hy, shareI, if_neg h0, if_neg h1]
              subst hyt
              clear hy h1
              go_wp2_with (at_builtin; refine wp_app_int rfl _ _ rfl _ w.heap.size _ _ k HLK.out 0 (by rfl) HF.out.1 (by rfl) (by omega) HF.out.2.size ?_)
              intro g5 c5 w5 o5 b5 _
              have HF5 : Hid (ARel w (shareL ts x) (k + 1) (.slice (some ⟨g5, 0, none⟩) (k + 1) c5) w5) := Lib.hid ⟨by rw [List.take_add_one, HS.out]; exact o5, HF.out.2.trans b5⟩
              clear o5 b5
              go_wp2_with fail
              go_roundw
              case rel => exact ⟨k + 1, g5, c5, n, rfl, by go_num, by omega, by first | rfl | rw [hwn0], by simpa using HN2, HF5⟩
              case measure => simp [intOf]; omega
        · obtain rfl : k = ts.length := by omega
          have HLB : Hid (n = leftI ts x ∧ 0 ≤ n ∧ n ≤ cntW ts x) := Lib.hid (by
            have h1 := HN.out.1
            rw [List.take_of_length_le (by rw [HZ.out]; exact Nat.le_refl _), ← HLF.out] at h1
            rw [h1]
            exact ⟨rfl, left_bound HP.out x⟩)
          have HN3 := Lib.hid HN.out.2.2
          have HOL : Hid ((outL ts x).length = (shareL ts x).length) := Lib.hid (by rw [out_len, share_len])
          have HF2 : Hid (IOwn wr w.heap.size (.slice (some ⟨g, 0, none⟩) ts.length c1) (mixL (outL ts x) (shareL ts x) 0) ∧ Below w.heap.size w wr) := Lib.hid ⟨by have := HF.out.1; rw [List.take_of_length_le (by rw [HZ.out]; exact Nat.le_refl _)] at this; simpa [mixL] using this, HF.out.2⟩
          clear HF HN
          go_wp2_with fail
          go_loopw [10, 13] (fun l i wr => ∃ (k : Nat) (m : Int), i = .int .i64 (k : Int) ∧ k ≤ ts.length ∧ l = .int .i64 m ∧ 0 ≤ m ∧ m ≤ 300 ∧ Hid (m = leftI ts x - cntW (ts.take k) x) ∧ Hid (IOwn wr w.heap.size (.slice (some ⟨g, 0, none⟩) ts.length c1) (mixL (outL ts x) (shareL ts x) k) ∧ Below w.heap.size w wr)) (fun _ i _ => ts.length - (intOf i).toNat)
          case atStart => exact ⟨0, n, rfl, Nat.zero_le _, rfl, HLB.out.2.1, by have := HN3.out; omega, Lib.hid (by simp [cntW]; exact HLB.out.1), HF2⟩
          case round =>
            obtain ⟨k, m, rfl, hk2, rfl, m0, m3, HM, HQ⟩ := hrel
            clear HF2
            by_cases hlt2 : k < ts.length
            · have hlt2' : (k : Int) < (ts.length : Int) := by omega
              by_cases hm0 : 0 < m
              · obtain ⟨b, off, t, rfl, -, ht, hc0, hc1⟩ := QRd.at_ (HV.out _ HQ.out.2) hlt2
                obtain ⟨s1, s2, s3⟩ := HSH.out k t ht
                have hot := out_at (x := x) ht
                have hct := cntW_take ht x
                obtain ⟨y, hy⟩ : ∃ y, shareI P O x t = y := ⟨_, rfl⟩
                rw [hy] at s1 s2 s3
                have hsh := share_at (x := x) ht
                rw [s1] at hsh
                have hsh := Option.some.inj hsh
                rw [← hsh] at hot
                by_cases h1 : t.1 = x
                · have h1' : (t.1 == x) = true := by simpa using h1
                  rw [if_pos ⟨by have := HM.out; omega, h1⟩] at hot
                  rw [if_pos h1] at hct
                  have hcell : wr.cell? ⟨g, k, none⟩ = some (.int .i64 y) := by
                    have hr := (HQ.out.1.rd)
                    have := IOwn.cellk10 HQ.out.1 (k := k) (x := y) (by rw [mix_at HOL.out (by rw [HZ.out]; exact hlt2)]; exact s1)
                    exact this
                  have hfz : wr.frozen? ⟨g, k, none⟩ = false := IOwn.frozen10 HQ.out.1 k
                  have hwy : IntKind.i64.wrap (y + 1) = y + 1 := IntWalk.i64_in _ (by omega)
                  have hwm : IntKind.i64.wrap (m - 1) = m - 1 := IntWalk.i64_in _ (by omega)
                  have HQ2 : Hid (IOwn (wr.setCell ⟨g, k, none⟩ (.int .i64 (y + 1))) w.heap.size (.slice (some ⟨g, 0, none⟩) ts.length c1) (mixL (outL ts x) (shareL ts x) (k + 1)) ∧ Below w.heap.size w (wr.setCell ⟨g, k, none⟩ (.int .i64 (y + 1)))) := Lib.hid ⟨by rw [mix_set HOL.out hot]; exact IOwn.store HQ.out.1 _, HQ.out.2.setCell (p := ⟨g, k, none⟩) (HQ.out.1.ge g rfl).1 _⟩
                  have HM2 : Hid (m - 1 = leftI ts x - cntW (ts.take (k + 1)) x) := Lib.hid (by rw [hct]; have := HM.out; omega)
                  clear ht s1 hot hct hsh hy h1 HQ
                  go_wp2_with fail
                  go_roundw
                  case rel => exact ⟨k + 1, m - 1, by go_num, by omega, rfl, by omega, by omega, HM2, HQ2⟩
                  case measure => simp [intOf]; omega
                · have h1' : (t.1 == x) = false := by simpa using h1
                  rw [if_neg (fun e => h1 e.2)] at hot
                  rw [if_neg h1, Int.add_zero] at hct
                  have HQ2 : Hid (IOwn wr w.heap.size (.slice (some ⟨g, 0, none⟩) ts.length c1) (mixL (outL ts x) (shareL ts x) (k + 1)) ∧ Below w.heap.size w wr) := Lib.hid ⟨by rw [mix_same HOL.out hot s1]; exact HQ.out.1, HQ.out.2⟩
                  have HM2 : Hid (m = leftI ts x - cntW (ts.take (k + 1)) x) := Lib.hid (by rw [hct]; exact HM.out)
                  clear ht s1 hot hct hsh hy h1 HQ
                  go_wp2_with fail
                  go_roundw
                  case rel => exact ⟨k + 1, m, by go_num, by omega, rfl, m0, m3, HM2, HQ2⟩
                  case measure => simp [intOf]; omega
              · have hm0' : m ≤ 0 := by omega
                have HE : Hid (mixL (outL ts x) (shareL ts x) k = outL ts x) := Lib.hid (mix_end HOL.out (out_share (by have := HM.out; omega)))
                go_wp2_with fail
                go_ret
                exact ⟨_, rfl, by rw [HR.out, ← HE.out]; exact HQ.out.1, HQ.out.2⟩
            · obtain rfl : k = ts.length := by omega
              have HE : Hid (mixL (outL ts x) (shareL ts x) ts.length = outL ts x) := Lib.hid (mix_end HOL.out (fun j hj => by rw [List.getElem?_eq_none (by rw [out_len]; exact hj), List.getElem?_eq_none (by rw [share_len]; exact hj)]))
              go_wp2_with fail
              go_ret
              exact ⟨_, rfl, by rw [HR.out, ← HE.out]; exact HQ.out.1, HQ.out.2⟩
    · have HR : Hid (outR W ts x = []) := Lib.hid (by rw [outR, outB, h, hx]; rfl)
      go_enter Try.func28, Try.ntmps28
      go_wp2_with fail
      refine (specTicketsOk_any _ W _ ts (HV.out _ D0.out.2)).mono ?_
      rintro r w' ⟨rfl, rfl⟩
      rw [h]
      go_wp2_with fail
      refine (l1In_any _ _ _ _).mono ?_
      rintro r w' ⟨rfl, rfl⟩
      rw [hx]
      go_wp2_with fail
      go_ret
      exact ⟨_, rfl, by rw [HR.out]; exact D0.out.1, D0.out.2⟩
  · have HR : Hid (outR W ts x = []) := Lib.hid (by rw [outR, outB, h]; rfl)
    go_enter Try.func28, Try.ntmps28
    go_wp2_with fail
    refine (specTicketsOk_any _ W _ ts (HV.out _ D0.out.2)).mono ?_
    rintro r w' ⟨rfl, rfl⟩
    rw [h]
    go_wp2_with fail
    go_ret
    exact ⟨_, rfl, by rw [HR.out]; exact D0.out.1, D0.out.2⟩

end Go.Proofs.Yteefbkfhgmbcbaa
