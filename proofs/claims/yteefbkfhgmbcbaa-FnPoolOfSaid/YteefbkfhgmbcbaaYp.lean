/- The contracts of the program's functions of chapter 10. Conditions: rows that read, numbers that are paid. -/
import Derived.Test.YteefbkfhgmbcbaaYf
import Derived.Test.YteefbkfhgmbcbaaGf
namespace Go.Proofs.Yteefbkfhgmbcbaa
open Go.RowKit
set_option linter.unusedVariables false

set_option maxHeartbeats 400000 in
theorem isWorld_any (w x : Int) (W : World) :
    Calls Try.prog 44 #[.int .i64 w, .int .i64 x] W fun e W' => e = .returned (.bool (inB x 0 (w - 1))) ∧ W = W' := by
  by_cases h1 : 0 ≤ x
  · by_cases h2 : x < w
    · have HT : Hid (inB x 0 (w - 1) = true) := Lib.hid ((inB_iff _ _ _).2 ⟨h1, by omega⟩)
      go_enter Try.func44, Try.ntmps44
      go_wp2
      go_ret
      exact ⟨ret_bool (by rw [HT.out]), rfl⟩
    · have HT : Hid (inB x 0 (w - 1) = false) := Lib.hid (by rw [← Bool.not_eq_true, inB_iff]; omega)
      have h3 : decide (x < w) = false := by simpa using h2
      go_enter Try.func44, Try.ntmps44
      go_wp2
      go_ret
      exact ⟨ret_bool (by rw [HT.out]), rfl⟩
  · have HT : Hid (inB x 0 (w - 1) = false) := Lib.hid (by rw [← Bool.not_eq_true, inB_iff]; omega)
    have h3 : decide (0 ≤ x) = false := by simpa using h1
    go_enter Try.func44, Try.ntmps44
    go_wp2
    go_ret
    exact ⟨ret_bool (by rw [HT.out]), rfl⟩

set_option maxHeartbeats 400000 in
theorem paidOk_any (x : Int) (W : World) :
    Calls Try.prog 45 #[.int .i64 x] W fun e W' => e = .returned (.bool (inB x 1 50)) ∧ W = W' := by
  by_cases h1 : 1 ≤ x
  · by_cases h2 : x ≤ 50
    · have HT : Hid (inB x 1 50 = true) := Lib.hid ((inB_iff _ _ _).2 ⟨h1, h2⟩)
      go_enter Try.func45, Try.ntmps45
      go_wp2
      go_ret
      exact ⟨ret_bool (by rw [HT.out]), rfl⟩
    · have HT : Hid (inB x 1 50 = false) := Lib.hid (by rw [← Bool.not_eq_true, inB_iff]; omega)
      have h3 : decide (x ≤ 50) = false := by simpa using h2
      go_enter Try.func45, Try.ntmps45
      go_wp2
      go_ret
      exact ⟨ret_bool (by rw [HT.out]), rfl⟩
  · have HT : Hid (inB x 1 50 = false) := Lib.hid (by rw [← Bool.not_eq_true, inB_iff]; omega)
    have h3 : decide (1 ≤ x) = false := by simpa using h1
    go_enter Try.func45, Try.ntmps45
    go_wp2
    go_ret
    exact ⟨ret_bool (by rw [HT.out]), rfl⟩

theorem tkB_of {W : Int} {ts : List Qt} {k : Nat} (hw : wokB W = true) (h6 : ts.length ≤ 6) (hk : ts.length ≤ k) (h : ∀ t ∈ ts.take k, inB t.1 0 (W - 1) = true ∧ inB t.2 1 50 = true) : tkB W ts = true := by
  rw [List.take_of_length_le hk] at h
  have h1 := (wokB_iff W).1 hw
  refine (tkB_iff W ts).2 ⟨h1.1, h1.2, h6, fun t ht => ?_⟩
  obtain ⟨a, b⟩ := h t ht
  rw [tkOne, a, b]; rfl

theorem tkB_bad {W : Int} {ts : List Qt} {k : Nat} {t : Qt} (ht : ts[k]? = some t) (h : inB t.1 0 (W - 1) = false ∨ inB t.2 1 50 = false) : tkB W ts = false := by
  rw [← Bool.not_eq_true, tkB_iff]
  rintro ⟨h1, h2, -, h4⟩
  have h5 := (tkOne_iff W t).1 (h4 t (List.mem_of_getElem? ht))
  rcases h with h | h
  · rw [← Bool.not_eq_true, inB_iff] at h; omega
  · rw [← Bool.not_eq_true, inB_iff] at h; omega

set_option maxHeartbeats 2000000 in
theorem implTicketsOk_any (w : World) (W : Int) (v : Value) (ts : List Qt) (hv : QRd w v ts) :
    Calls Try.prog 15 #[.int .i64 W, v] w (BoolPost (tkB W ts) w) := by
  obtain ⟨A, c, rfl, hl, hm⟩ := hv.form
  have HV := Lib.hid hv
  clear hv
  rcases Bool.eq_false_or_eq_true (wokB W) with hw | hw
  · have HWK := Lib.hid hw
    by_cases h6 : ts.length ≤ 6
    · have h6' : (ts.length : Int) ≤ 6 := by omega
      go_enter Try.func15, Try.ntmps15
      go_wp2_with fail
      refine (worldsOk_any W _).mono ?_
      rintro r w' ⟨rfl, rfl⟩
      rw [hw]
      clear hw
      go_wp2_with fail
      go_loopw [17] (fun i wr => ∃ k : Nat, i = .int .i64 k ∧ k ≤ ts.length ∧ Hid (∀ t ∈ ts.take k, inB t.1 0 (W - 1) = true ∧ inB t.2 1 50 = true) ∧ Hid (Below w.heap.size w wr)) (fun i _ => ts.length - (intOf i).toNat)
      case atStart => exact ⟨0, rfl, Nat.zero_le _, Lib.hid (by simp), Lib.hid (Below.refl _ _)⟩
      case round =>
        obtain ⟨k, rfl, hk, HA, HB⟩ := hrel
        by_cases hlt : k < ts.length
        · obtain ⟨b, off, t, rfl, -, hx, hc0, hc1⟩ := QRd.at_ (HV.out.keep (SameAt.of_below HB.out)) hlt
          have HX := Lib.hid hx
          clear hx
          have HB2 : ∀ o, Hid (Below w.heap.size w (wr.alloc o)) := fun o => Lib.hid (HB.out.alloc HB.out.size o)
          rcases Bool.eq_false_or_eq_true (inB t.1 0 (W - 1)) with h1 | h1
          · rcases Bool.eq_false_or_eq_true (inB t.2 1 50) with h2 | h2
            · have HS := Lib.hid (take_mem10 HX.out HA.out ⟨h1, h2⟩)
              go_wp2_with fail
              refine (isWorld_any _ _ _).mono ?_
              rintro r w2 ⟨rfl, rfl⟩
              rw [h1]
              go_wp2_with fail
              refine (paidOk_any _ _).mono ?_
              rintro r w2 ⟨rfl, rfl⟩
              rw [h2]
              go_wp2_with fail
              go_roundw
              case rel => exact ⟨k + 1, by go_num, by omega, HS, HB2 _⟩
              case measure => simp [intOf]; omega
            · have HN : Hid (tkB W ts = false) := Lib.hid (tkB_bad HX.out (.inr h2))
              go_wp2_with fail
              refine (isWorld_any _ _ _).mono ?_
              rintro r w2 ⟨rfl, rfl⟩
              rw [h1]
              go_wp2_with fail
              refine (paidOk_any _ _).mono ?_
              rintro r w2 ⟨rfl, rfl⟩
              rw [h2]
              go_wp2_with fail
              go_ret
              exact ⟨ret_bool HN.out.symm, (HB2 _).out⟩
          · have HN : Hid (tkB W ts = false) := Lib.hid (tkB_bad HX.out (.inl h1))
            go_wp2_with fail
            refine (isWorld_any _ _ _).mono ?_
            rintro r w2 ⟨rfl, rfl⟩
            rw [h1]
            go_wp2_with fail
            go_ret
            exact ⟨ret_bool HN.out.symm, (HB2 _).out⟩
        · go_wp2_with fail
          go_ret
          exact ⟨ret_bool (tkB_of HWK.out h6 (by omega) HA.out).symm, HB.out⟩
    · have h6' : (6 : Int) < (ts.length : Int) := by omega
      have HN : Hid (tkB W ts = false) := Lib.hid (by rw [← Bool.not_eq_true, tkB_iff]; omega)
      go_enter Try.func15, Try.ntmps15
      go_wp2_with fail
      refine (worldsOk_any W _).mono ?_
      rintro r w' ⟨rfl, rfl⟩
      rw [hw]
      go_wp2_with fail
      go_ret
      exact ⟨ret_bool HN.out.symm, Below.refl _ _⟩
  · have HN : Hid (tkB W ts = false) := Lib.hid (by rw [← Bool.not_eq_true, wokB_iff] at hw; rw [← Bool.not_eq_true, tkB_iff]; omega)
    go_enter Try.func15, Try.ntmps15
    go_wp2_with fail
    refine (worldsOk_any W _).mono ?_
    rintro r w' ⟨rfl, rfl⟩
    rw [hw]
    go_wp2_with fail
    go_ret
    exact ⟨ret_bool HN.out.symm, Below.refl _ _⟩

set_option maxHeartbeats 2000000 in
theorem paidForAll_any (w : World) (v : Value) (ts : List Qt) (hv : QRd w v ts) (hp : Pays ts) (h6 : ts.length ≤ 6) :
    Calls Try.prog 48 #[v] w fun r w' => r = .returned (.int .i64 (sum2 ts)) ∧ Below w.heap.size w w' := by
  obtain ⟨A, c, rfl, hl, hm⟩ := hv.form
  have HV := Lib.hid hv
  have HP := Lib.hid hp
  clear hv hp
  go_enter Try.func48, Try.ntmps48
  go_wp2_with fail
  go_loopw [3, 8] (fun s i wr => ∃ (k : Nat) (n : Int), i = .int .i64 (k : Int) ∧ k ≤ ts.length ∧ s = .int .i64 n ∧ 0 ≤ n ∧ n ≤ 300 ∧ Hid (n = sum2 (ts.take k)) ∧ Hid (Below w.heap.size w wr)) (fun _ i _ => ts.length - (intOf i).toNat)
  case atStart => exact ⟨0, 0, rfl, Nat.zero_le _, rfl, by omega, by omega, Lib.hid (by simp [sum2]), Lib.hid (Below.refl _ _)⟩
  case round =>
    obtain ⟨k, n, rfl, hk, rfl, n0, n3, HN, HB⟩ := hrel
    by_cases hlt : k < ts.length
    · obtain ⟨b, off, t, rfl, -, hx, hc0, hc1⟩ := QRd.at_ (HV.out.keep (SameAt.of_below HB.out)) hlt
      have hb := HP.out t (List.mem_of_getElem? hx)
      have hsu := sum2_bound (HP.out.take (k + 1))
      have hln : (ts.take (k + 1)).length ≤ 6 := by rw [List.length_take]; omega
      have hnx := sum2_take hx
      rw [← HN.out] at hnx
      have hb1 : 0 ≤ n + t.2 ∧ n + t.2 ≤ 300 := by omega
      have HX := Lib.hid hnx
      have hw : IntKind.i64.wrap (n + t.2) = n + t.2 := IntWalk.i64_in _ (by omega)
      have HB2 : ∀ o, Hid (Below w.heap.size w (wr.alloc o)) := fun o => Lib.hid (HB.out.alloc HB.out.size o)
      clear hnx hsu hln hx
      go_wp2_with fail
      go_roundw
      case rel => exact ⟨k + 1, n + t.2, by go_num, by omega, rfl, hb1.1, hb1.2, Lib.hid HX.out.symm, HB2 _⟩
      case measure => simp [intOf]; omega
    · obtain rfl : k = ts.length := by omega
      go_wp2_with fail
      go_ret
      exact ⟨ret_int (by rw [HN.out, List.take_length]), HB.out⟩

set_option maxHeartbeats 2000000 in
theorem paidForWorld_any (w : World) (v : Value) (ts : List Qt) (x : Int) (hv : QRd w v ts) (hp : Pays ts) (h6 : ts.length ≤ 6) :
    Calls Try.prog 49 #[v, .int .i64 x] w fun r w' => r = .returned (.int .i64 (onW ts x)) ∧ Below w.heap.size w w' := by
  obtain ⟨A, c, rfl, hl, hm⟩ := hv.form
  have HV := Lib.hid hv
  have HP := Lib.hid hp
  clear hv hp
  go_enter Try.func49, Try.ntmps49
  go_wp2_with fail
  go_loopw [5, 10] (fun s i wr => ∃ (k : Nat) (n : Int), i = .int .i64 (k : Int) ∧ k ≤ ts.length ∧ s = .int .i64 n ∧ 0 ≤ n ∧ n ≤ 300 ∧ Hid (n = onW (ts.take k) x) ∧ Hid (Below w.heap.size w wr)) (fun _ i _ => ts.length - (intOf i).toNat)
  case atStart => exact ⟨0, 0, rfl, Nat.zero_le _, rfl, by omega, by omega, Lib.hid (by simp [onW]), Lib.hid (Below.refl _ _)⟩
  case round =>
    obtain ⟨k, n, rfl, hk, rfl, n0, n3, HN, HB⟩ := hrel
    by_cases hlt : k < ts.length
    · obtain ⟨b, off, t, rfl, -, hx, hc0, hc1⟩ := QRd.at_ (HV.out.keep (SameAt.of_below HB.out)) hlt
      have hb := HP.out t (List.mem_of_getElem? hx)
      have hon := onW_bound (HP.out.take (k + 1)) x
      have hsu := (sum2_bound (HP.out.take (k + 1))).2
      have hln : (ts.take (k + 1)).length ≤ 6 := by rw [List.length_take]; omega
      have hnx := onW_take hx x
      rw [← HN.out] at hnx
      have HB2 : ∀ o, Hid (Below w.heap.size w (wr.alloc o)) := fun o => Lib.hid (HB.out.alloc HB.out.size o)
      by_cases he : t.1 = x
      · rw [if_pos he] at hnx
        have hb1 : 0 ≤ n + t.2 ∧ n + t.2 ≤ 300 := by omega
        have HX := Lib.hid hnx
        have heq : (t.1 == x) = true := by simpa using he
        have hw : IntKind.i64.wrap (n + t.2) = n + t.2 := IntWalk.i64_in _ (by omega)
        clear hnx hon hsu hln hx he
        go_wp2_with fail
        go_roundw
        case rel => exact ⟨k + 1, n + t.2, by go_num, by omega, rfl, hb1.1, hb1.2, Lib.hid HX.out.symm, HB2 _⟩
        case measure => simp [intOf]; omega
      · rw [if_neg he, Int.add_zero] at hnx
        have HX := Lib.hid hnx
        have heq : (t.1 == x) = false := by simpa using he
        clear hnx hon hsu hln hx he
        go_wp2_with fail
        go_roundw
        case rel => exact ⟨k + 1, n, by go_num, by omega, rfl, n0, n3, Lib.hid HX.out.symm, HB2 _⟩
        case measure => simp [intOf]; omega
    · obtain rfl : k = ts.length := by omega
      go_wp2_with fail
      go_ret
      exact ⟨ret_int (by rw [HN.out, List.take_length]), HB.out⟩

set_option maxHeartbeats 2000000 in
theorem implPoolOf_any (w : World) (W : Int) (v : Value) (ts : List Qt) (hv : QRd w v ts) :
    Calls Try.prog 20 #[.int .i64 W, v] w fun r w' => r = .returned (.int .i64 (poolR W ts)) ∧ Below w.heap.size w w' := by
  obtain ⟨A, c, rfl, hl, hm⟩ := hv.form
  have HV := Lib.hid hv
  clear hv
  rcases Bool.eq_false_or_eq_true (tkB W ts) with h | h
  · have HP := Lib.hid (pays_of h)
    have h6 := ((tkB_iff W ts).1 h).2.2.1
    have HR : Hid (poolR W ts = sum2 ts) := Lib.hid (by rw [poolR, if_pos h])
    go_enter Try.func20, Try.ntmps20
    go_wp2_with fail
    refine (implTicketsOk_any w W _ ts HV.out).mono ?_
    rintro r w2 ⟨rfl, b2⟩
    rw [h]
    clear h
    go_wp2_with fail
    refine (paidForAll_any w2 _ ts (HV.out.keep (SameAt.of_below b2)) HP.out h6).mono ?_
    rintro r w3 ⟨rfl, b3⟩
    go_wp2_with fail
    go_ret
    exact ⟨ret_int HR.out.symm, below_step b2 b3 b2.size⟩
  · have HR : Hid (poolR W ts = -1) := Lib.hid (by rw [poolR, h]; rfl)
    go_enter Try.func20, Try.ntmps20
    go_wp2_with fail
    refine (implTicketsOk_any w W _ ts HV.out).mono ?_
    rintro r w2 ⟨rfl, b2⟩
    rw [h]
    clear h
    go_wp2_with fail
    go_ret
    exact ⟨ret_int HR.out.symm, b2⟩

theorem FillRel.below {w wr w' : World} {zs : List Int} {n k : Nat} (h : FillRel w zs n k wr) (b : Below wr.heap.size wr w') : FillRel w zs n k w' := by
  obtain ⟨h1, h2⟩ := h
  refine ⟨⟨h1.1, ?_⟩, below_step h2 b h2.size⟩
  rcases h1.2 with hn | ⟨g, cap, cur, e, hb, hg, rest⟩
  · exact .inl hn
  · exact .inr ⟨g, cap, cur, e, hb, (b.block g (Array.getElem?_eq_some_iff.1 hg).1).trans hg, rest⟩

theorem FillRel.box {w wr : World} {zs : List Int} {n k : Nat} (h : FillRel w zs n k wr) (o : Obj) : FillRel w zs n k (wr.alloc o) := h.below (alloc_b10 wr o)

theorem copied_skip10 {xs : List Int} {k : Nat} (h : xs[k]? = some 0) : copied xs k = copied xs (k + 1) := by
  have hk : k < xs.length := by
    rcases Nat.lt_or_ge k xs.length with h1 | h1
    · exact h1
    · rw [List.getElem?_eq_none h1] at h; cases h
  have hx : xs[k] = 0 := by rw [List.getElem?_eq_getElem hk] at h; exact Option.some.inj h
  unfold copied
  obtain ⟨m, hm⟩ : ∃ m, xs.length - k = m + 1 := ⟨xs.length - k - 1, by omega⟩
  rw [hm, show xs.length - (k + 1) = m from by omega, List.replicate_succ, List.take_succ_eq_append_getElem hk, List.map_append, hx]
  simp

theorem FillRel.skip10 {w wr : World} {zs : List Int} {n k : Nat} (h : FillRel w zs n k wr) (hx : zs[k]? = some 0) : FillRel w zs n (k + 1) wr := ⟨by rw [← copied_skip10 hx]; exact h.1, h.2⟩

set_option maxHeartbeats 4000000 in
theorem implPaidOn_any (w : World) (W : Int) (v : Value) (ts : List Qt) (hv : QRd w v ts) :
    Calls Try.prog 22 #[.int .i64 W, v] w (NewInts (paidR W ts) w) := by
  obtain ⟨A, c, rfl, hl, hm⟩ := hv.form
  have HV : Hid (∀ wr, Below w.heap.size w wr → QRd wr (.slice A ts.length c) ts) := Lib.hid (fun wr hb => hv.keep (SameAt.of_below hb))
  clear hv
  rcases Bool.eq_false_or_eq_true (tkB W ts) with h | h
  · have HP := Lib.hid (pays_of h)
    obtain ⟨w1, w4, h6, -⟩ := (tkB_iff W ts).1 h
    obtain ⟨N, rfl⟩ : ∃ N : Nat, W = N := ⟨W.toNat, by omega⟩
    have HR : Hid (paidR (N : Int) ts = paidL (N : Int) ts) := Lib.hid (by rw [paidR, if_pos h])
    have HZ : Hid ((paidL (N : Int) ts).length = N) := Lib.hid (by rw [paid_len, Int.toNat_natCast])
    obtain ⟨i0, hi, hz0, hz1, hz2⟩ := info_parts Try_intinfo
    go_enter Try.func22, Try.ntmps22
    go_wp2_with fail
    refine (implTicketsOk_any w _ _ ts (HV.out _ (Below.refl _ _))).mono ?_
    rintro r w2 ⟨rfl, b2⟩
    rw [h]
    clear h
    have HB2 := Lib.hid b2
    clear b2
    go_wp2_with (at_make; refine wpList_make_full _ rfl _ _ 31 rfl w2.heap.size 3 i0 (.int .i64 0) 1 Try.underlying31 hi hz0 hz1 .i64 .i64 _ _ N rfl rfl rfl rfl ?b2 ?b3 (Nat.le_refl _) ?_)
    case b2 => rw [hz2]; omega
    case b3 => unfold maxLen; omega
    intro w0 hown0 hgrow0
    have H0 : Hid (FillRel w2 (paidL (N : Int) ts) N 0 w0) := Lib.hid ⟨by rw [copied_zero, HZ.out]; simpa [toList_madeCells_one, Value.cells] using hown0, (Below.refl _ _).grown hgrow0 (Nat.le_refl _) (fun k hk => by cases hk)⟩
    clear hown0 hgrow0 hi hz0 hz1 hz2
    go_wp2_with fail
    go_loopw [15] (fun i wr => ∃ k : Nat, i = .int .i64 (k : Int) ∧ k ≤ N ∧ Hid (FillRel w2 (paidL (N : Int) ts) N k wr)) (fun i _ => N - (intOf i).toNat)
    case atStart => exact ⟨0, rfl, Nat.zero_le _, H0⟩
    case round =>
      obtain ⟨k, rfl, hk, HF⟩ := hrel
      clear H0
      by_cases hlt : k < N
      · have hlt' : (k : Int) < (N : Int) := by omega
        obtain ⟨n, hn⟩ : ∃ n, onW ts (k : Int) = n := ⟨_, rfl⟩
        have HS : Hid ((paidL (N : Int) ts)[k]? = some n) := Lib.hid (by rw [paid_at (by rw [Int.toNat_natCast]; exact hlt), hn])
        go_wp2_with fail
        refine (paidForWorld_any wr _ ts _ (HV.out _ (below_step HB2.out HF.out.2 HB2.out.size)) HP.out h6).mono ?_
        rintro r w3 ⟨rfl, b3⟩
        rw [hn]
        have HF3 := Lib.hid (HF.out.below b3)
        have hfz := HF3.out.1.frozenAt k
        obtain ⟨old, hold⟩ := some_cell HF3.out.1 (k := k) (by omega)
        clear hn b3
        go_wp2_with fail
        go_roundw
        case rel => exact ⟨k + 1, by go_num, by omega, (show Hid _ from HF3.out.step HS.out)⟩
        case measure => simp [intOf]; omega
      · obtain ⟨o1, b1⟩ := HF.out.all HZ.out (by omega)
        have B1 := Lib.hid (below_step HB2.out b1 HB2.out.size)
        have O1 := Lib.hid (o1.base HB2.out.size)
        clear b1 o1
        go_wp2_with fail
        go_ret
        exact ⟨_, rfl, by rw [HR.out]; exact O1.out, B1.out⟩
  · have HR : Hid (paidR W ts = []) := Lib.hid (by rw [paidR, h]; rfl)
    go_enter Try.func22, Try.ntmps22
    go_wp2_with fail
    refine (implTicketsOk_any w _ _ ts (HV.out _ (Below.refl _ _))).mono ?_
    rintro r w2 ⟨rfl, b2⟩
    rw [h]
    clear h
    go_wp2_with fail
    go_ret
    exact ⟨_, rfl, by rw [HR.out]; exact nil_own _ _, b2⟩

theorem out_back {ts : List Qt} {x : Int} (h : onW ts x = 0) : outL ts x = ts.map (·.2) := by
  rw [outL, hand_zero x ts _ _ (by rw [leftI, share_zero h]; omega)]
  unfold shareL
  apply List.map_congr_left
  intro t _
  rw [shareI, if_pos h]

set_option maxHeartbeats 4000000 in
theorem paidBack_any (w : World) (v : Value) (ts : List Qt) (hv : QRd w v ts) (h6 : ts.length ≤ 6) :
    Calls Try.prog 59 #[v] w (NewInts (ts.map (·.2)) w) := by
  obtain ⟨A, c, rfl, hl, hm⟩ := hv.form
  have HV : Hid (∀ wr, Below w.heap.size w wr → QRd wr (.slice A ts.length c) ts) := Lib.hid (fun wr hb => hv.keep (SameAt.of_below hb))
  clear hv
  have HZ : Hid ((ts.map (·.2)).length = ts.length) := Lib.hid (by simp)
  obtain ⟨i0, hi, hz0, hz1, hz2⟩ := info_parts Try_intinfo
  go_enter Try.func59, Try.ntmps59
  go_wp2_with (at_make; refine wpList_make_full _ rfl _ _ 31 rfl w.heap.size 3 i0 (.int .i64 0) 1 Try.underlying31 hi hz0 hz1 .i64 .i64 _ _ ts.length rfl rfl rfl rfl ?b2 ?b3 (Nat.le_refl _) ?_)
  case b2 => rw [hz2]; omega
  case b3 => unfold maxLen; omega
  intro w0 hown0 hgrow0
  have H0 : Hid (FillRel w (ts.map (·.2)) ts.length 0 w0) := Lib.hid ⟨by rw [copied_zero, HZ.out]; simpa [toList_madeCells_one, Value.cells] using hown0, (Below.refl _ _).grown hgrow0 (Nat.le_refl _) (fun k hk => by cases hk)⟩
  clear hown0 hgrow0 hi hz0 hz1 hz2
  go_wp2_with fail
  go_loopw [11] (fun i wr => ∃ k : Nat, i = .int .i64 (k : Int) ∧ k ≤ ts.length ∧ Hid (FillRel w (ts.map (·.2)) ts.length k wr)) (fun i _ => ts.length - (intOf i).toNat)
  case atStart => exact ⟨0, rfl, Nat.zero_le _, H0⟩
  case round =>
    obtain ⟨k, rfl, hk, HF⟩ := hrel
    clear H0
    by_cases hlt : k < ts.length
    · obtain ⟨b, off, t, rfl, -, hx, hc0, hc1⟩ := QRd.at_ (HV.out _ HF.out.2) hlt
      have HS : Hid ((ts.map (·.2))[k]? = some t.2) := Lib.hid (by rw [List.getElem?_map, hx]; rfl)
      have HF3 : ∀ o, Hid (FillRel w (ts.map (·.2)) ts.length k (wr.alloc o)) := fun o => Lib.hid (HF.out.box o)
      have hfz : ∀ o, (wr.alloc o).frozen? ⟨w.heap.size, k, none⟩ = false := fun o => (HF3 o).out.1.frozenAt k
      have hold : ∀ o, ∃ old, (wr.alloc o).cell? ⟨w.heap.size, k, none⟩ = some old := fun o => some_cell (HF3 o).out.1 (k := k) (by omega)
      obtain ⟨wb, hwb⟩ : ∃ wb, wr.alloc (.cells #[.int .i64 t.1, .int .i64 t.2] 35) = wb := ⟨_, rfl⟩
      have hf := hfz (.cells #[.int .i64 t.1, .int .i64 t.2] 35)
      obtain ⟨old, hol⟩ := hold (.cells #[.int .i64 t.1, .int .i64 t.2] 35)
      have HFB := HF3 (.cells #[.int .i64 t.1, .int .i64 t.2] 35)
      clear hx hfz hold HF3
      clear hwb wb
      go_wp2_with fail
      go_roundw
      case rel => exact ⟨k + 1, by go_num, by omega, (show Hid _ from HFB.out.step HS.out)⟩
      case measure => simp [intOf]; omega
    · go_wp2_with fail
      go_ret
      obtain ⟨h1, h2⟩ := HF.out.all HZ.out (by omega)
      exact ⟨_, rfl, h1, h2⟩

-- (gen_yp)
set_option maxRecDepth 100000 in
set_option maxHeartbeats 8000000 in
theorem sharedOut_any (w : World) (v : Value) (ts : List Qt) (x : Int) (hv : QRd w v ts) (hp : Pays ts) (h6 : ts.length ≤ 6) (hon : onW ts x ≠ 0) :
    Calls Try.prog 60 #[v, .int .i64 x] w (NewInts (outL ts x) w) := by
  obtain ⟨A, c, rfl, hl, hm⟩ := hv.form
  have HV : Hid (∀ wr, Below w.heap.size w wr → QRd wr (.slice A ts.length c) ts) := Lib.hid (fun wr hb => hv.keep (SameAt.of_below hb))
  have HP := Lib.hid hp
  clear hv hp
  have hpb := sum2_bound HP.out
  have hob := onW_bound HP.out x
  have HZ := Lib.hid (share_len ts x)
  obtain ⟨P, hP⟩ : ∃ P, sum2 ts = P := ⟨_, rfl⟩
  obtain ⟨O, hO⟩ : ∃ O, onW ts x = O := ⟨_, rfl⟩
  rw [hP] at hpb hob
  rw [hO] at hob hon
  have hPb : 0 ≤ P ∧ P ≤ 300 := by omega
  have hO0 : ¬ (O = 0) := hon
  have hOb : 1 ≤ O ∧ O ≤ 300 := by omega
  have HSH : Hid (∀ k t, ts[k]? = some t → (shareL ts x)[k]? = some (shareI P O x t) ∧ 0 ≤ shareI P O x t ∧ shareI P O x t ≤ 15000) := Lib.hid (fun k t ht => by
    have h1 := share_at (x := x) ht
    have h2 := share_bound HP.out h6 (x := x) (List.mem_of_getElem? ht)
    rw [hP, hO] at h1 h2
    exact ⟨h1, h2⟩)
  have HLF : Hid (leftI ts x = P - (shareL ts x).sum) := Lib.hid (by rw [leftI, hP])
  have HPP := Lib.hid hP
  have HOO := Lib.hid hO
  clear hP hO hpb hon hob
  obtain ⟨i0, hi, hz0, hz1, hz2⟩ := info_parts Try_intinfo
  go_enter Try.func60, Try.ntmps60
  go_wp2_with fail
  refine (paidForAll_any w _ ts (HV.out _ (Below.refl _ _)) HP.out h6).mono ?_
  rintro r w1 ⟨rfl, b1⟩
  rw [HPP.out]
  go_wp2_with fail
  refine (paidForWorld_any w1 _ ts x (HV.out _ b1) HP.out h6).mono ?_
  rintro r w2 ⟨rfl, b2⟩
  rw [HOO.out]
  have HB2 := Lib.hid (below_step b1 b2 b1.size)
  clear b1 b2
  go_wp2_with (at_make; refine wpList_make_full _ rfl _ _ 31 rfl w2.heap.size 3 i0 (.int .i64 0) 1 Try.underlying31 hi hz0 hz1 .i64 .i64 _ _ ts.length rfl rfl rfl rfl ?b2 ?b3 (Nat.le_refl _) ?_)
  case b2 => rw [hz2]; omega
  case b3 => unfold maxLen; omega
  intro w0 hown0 hgrow0
  have H0 : Hid (FillRel w2 (shareL ts x) ts.length 0 w0) := Lib.hid ⟨by rw [copied_zero, HZ.out]; simpa [toList_madeCells_one, Value.cells] using hown0, (Below.refl _ _).grown hgrow0 (Nat.le_refl _) (fun k hk => by cases hk)⟩
  clear hown0 hgrow0 hi hz0 hz1 hz2
  go_wp2_with fail
  go_loopw [8, 24] (fun l i wr => ∃ (k : Nat) (n : Int), i = .int .i64 (k : Int) ∧ k ≤ ts.length ∧ l = .int .i64 n ∧ Hid (n = P - ((shareL ts x).take k).sum ∧ P - 15000 * (k : Int) ≤ n ∧ n ≤ P) ∧ Hid (FillRel w2 (shareL ts x) ts.length k wr)) (fun _ i _ => ts.length - (intOf i).toNat)
  case atStart => exact ⟨0, P, rfl, Nat.zero_le _, rfl, Lib.hid ⟨by simp, by omega, by omega⟩, H0⟩
  case round =>
    obtain ⟨k, n, rfl, hk, rfl, HN, HF⟩ := hrel
    clear H0
    by_cases hlt : k < ts.length
    · have hlt' : (k : Int) < (ts.length : Int) := by omega
      obtain ⟨b, off, t, rfl, -, ht, hc0, hc1⟩ := QRd.at_ (HV.out _ (below_step HB2.out HF.out.2 HB2.out.size)) hlt
      obtain ⟨s1, s2, s3⟩ := HSH.out k t ht
      have htp := HP.out t (List.mem_of_getElem? ht)
      obtain ⟨y, hy⟩ : ∃ y, shareI P O x t = y := ⟨_, rfl⟩
      rw [hy] at s1 s2 s3
      have HS := Lib.hid s1
      obtain ⟨n1, n2, n3⟩ := HN.out
      have hwn : IntKind.i64.wrap (n - y) = n - y := IntWalk.i64_in _ (by omega)
      have HN2 : Hid (n - y = P - ((shareL ts x).take (k + 1)).sum ∧ P - 15000 * ((k + 1 : Nat) : Int) ≤ n - y ∧ n - y ≤ P) := Lib.hid ⟨by rw [sum_take10 HS.out]; omega, by push_cast; omega, by omega⟩
      have HFB := Lib.hid (HF.out.box (.cells #[.int .i64 t.1, .int .i64 t.2] 35))
      have hfz := HFB.out.1.frozenAt k
      obtain ⟨old, hold⟩ := some_cell HFB.out.1 (k := k) (by omega)
      clear ht s1 n1 n2 n3
      by_cases h1 : t.1 = x
      · have h1' : (t.1 == x) = true := by simpa using h1
        have hyt : t.2 * P / O = y := by rw [← hy, shareI, if_neg hO0, if_pos h1]
        have hm : 0 ≤ t.2 * P ∧ t.2 * P ≤ 50 * 300 := ⟨Int.mul_nonneg (by omega) (by omega), Int.mul_le_mul htp.2 hPb.2 hPb.1 (by decide)⟩
        have hwm : IntKind.i64.wrap (t.2 * P) = t.2 * P := IntWalk.i64_in _ (by omega)
        have hq : (t.2 * P).tdiv O = y := by rw [Int.tdiv_eq_ediv_of_nonneg hm.1]; exact hyt
        have hwy : wrap64 y = y := IntWalk.wrap64_in _ (by omega)
        have hwy2 : IntKind.i64.wrap y = y := IntWalk.i64_in _ (by omega)
        clear hy hyt h1 hm
        go_wp2_with fail
        go_roundw
        case rel => exact ⟨k + 1, n - y, by go_num, by omega, rfl, HN2, (show Hid _ from HFB.out.step HS.out)⟩
        case measure => simp [intOf]; omega
      · have h1' : (t.1 == x) = false := by simpa using h1
        have hyt : y = 0 := by rw [← hy, shareI, if_neg hO0, if_neg h1]
        subst hyt
        clear hy h1
        go_wp2_with fail
        go_roundw
        case rel => exact ⟨k + 1, n, by go_num, by omega, rfl, by simpa using HN2, Lib.hid (HFB.out.skip10 HS.out)⟩
        case measure => simp [intOf]; omega
    · obtain rfl : k = ts.length := by omega
      have HLB : Hid (n = leftI ts x ∧ 0 ≤ n ∧ n ≤ cntW ts x) := Lib.hid (by
        have h1 := HN.out.1
        rw [List.take_of_length_le (by rw [HZ.out]; exact Nat.le_refl _), ← HLF.out] at h1
        rw [h1]
        exact ⟨rfl, left_bound HP.out x⟩)
      have HN3 := Lib.hid HN.out.2.2
      have HOL : Hid ((outL ts x).length = (shareL ts x).length) := Lib.hid (by rw [out_len, share_len])
      have HF2 : Hid (IOwn wr w2.heap.size (.slice (some ⟨w2.heap.size, 0, none⟩) ts.length ts.length) (mixL (outL ts x) (shareL ts x) 0) ∧ Below w2.heap.size w2 wr) := Lib.hid (by obtain ⟨o1, b1⟩ := HF.out.all HZ.out rfl; exact ⟨by simpa [mixL] using o1, b1⟩)
      clear HF HN
      go_wp2_with fail
      go_loopw [8, 51] (fun l i wr => ∃ (k : Nat) (m : Int), i = .int .i64 (k : Int) ∧ k ≤ ts.length ∧ l = .int .i64 m ∧ 0 ≤ m ∧ m ≤ 300 ∧ Hid (m = leftI ts x - cntW (ts.take k) x ∨ (m = 0 ∧ leftI ts x - cntW (ts.take k) x ≤ 0)) ∧ Hid (IOwn wr w2.heap.size (.slice (some ⟨w2.heap.size, 0, none⟩) ts.length ts.length) (mixL (outL ts x) (shareL ts x) k) ∧ Below w2.heap.size w2 wr)) (fun _ i _ => ts.length - (intOf i).toNat)
      case atStart => exact ⟨0, n, rfl, Nat.zero_le _, rfl, HLB.out.2.1, by have := HN3.out; omega, Lib.hid (.inl (by simp [cntW]; exact HLB.out.1)), HF2⟩
      case round =>
        obtain ⟨k, m, rfl, hk2, rfl, m0, m3, HM, HQ⟩ := hrel
        clear HF2
        by_cases hlt2 : k < ts.length
        · have hlt2' : (k : Int) < (ts.length : Int) := by omega
          obtain ⟨b, off, t, rfl, -, ht, hc0, hc1⟩ := QRd.at_ (HV.out _ (below_step HB2.out HQ.out.2 HB2.out.size)) hlt2
          obtain ⟨s1, s2, s3⟩ := HSH.out k t ht
          have hot := out_at (x := x) ht
          have hct := cntW_take ht x
          obtain ⟨y, hy⟩ : ∃ y, shareI P O x t = y := ⟨_, rfl⟩
          rw [hy] at s1 s2 s3
          have hsh := share_at (x := x) ht
          rw [s1] at hsh
          have hsh := Option.some.inj hsh
          rw [← hsh] at hot
          have BB := alloc_b10 wr (.cells #[.int .i64 t.1, .int .i64 t.2] 35)
          have HQB : Hid (IOwn (wr.alloc (.cells #[.int .i64 t.1, .int .i64 t.2] 35)) w2.heap.size (.slice (some ⟨w2.heap.size, 0, none⟩) ts.length ts.length) (mixL (outL ts x) (shareL ts x) k) ∧ Below w2.heap.size w2 (wr.alloc (.cells #[.int .i64 t.1, .int .i64 t.2] 35))) := Lib.hid ⟨HQ.out.1.keep (SameAt.of_below BB), below_step HQ.out.2 BB HQ.out.2.size⟩
          clear BB
          by_cases h1 : t.1 = x
          · have h1' : (t.1 == x) = true := by simpa using h1
            rw [if_pos h1] at hct
            by_cases hm0 : 0 < m
            · have hm1 : m = leftI ts x - cntW (ts.take k) x := by rcases HM.out with h | h <;> omega
              rw [if_pos ⟨by omega, h1⟩] at hot
              have hcell : (wr.alloc (.cells #[.int .i64 t.1, .int .i64 t.2] 35)).cell? ⟨w2.heap.size, k, none⟩ = some (.int .i64 y) := IOwn.cellk10 HQB.out.1 (k := k) (x := y) (by rw [mix_at HOL.out (by rw [HZ.out]; exact hlt2)]; exact s1)
              have hfz : (wr.alloc (.cells #[.int .i64 t.1, .int .i64 t.2] 35)).frozen? ⟨w2.heap.size, k, none⟩ = false := IOwn.frozen10 HQB.out.1 k
              have hwy : IntKind.i64.wrap (y + 1) = y + 1 := IntWalk.i64_in _ (by omega)
              have hwm : IntKind.i64.wrap (m - 1) = m - 1 := IntWalk.i64_in _ (by omega)
              have HQ2 : Hid (IOwn ((wr.alloc (.cells #[.int .i64 t.1, .int .i64 t.2] 35)).setCell ⟨w2.heap.size, k, none⟩ (.int .i64 (y + 1))) w2.heap.size (.slice (some ⟨w2.heap.size, 0, none⟩) ts.length ts.length) (mixL (outL ts x) (shareL ts x) (k + 1)) ∧ Below w2.heap.size w2 ((wr.alloc (.cells #[.int .i64 t.1, .int .i64 t.2] 35)).setCell ⟨w2.heap.size, k, none⟩ (.int .i64 (y + 1)))) := Lib.hid ⟨by rw [mix_set HOL.out hot]; exact IOwn.store HQB.out.1 _, HQB.out.2.setCell (p := ⟨w2.heap.size, k, none⟩) (Nat.le_refl _) _⟩
              have HM2 : Hid (m - 1 = leftI ts x - cntW (ts.take (k + 1)) x ∨ (m - 1 = 0 ∧ leftI ts x - cntW (ts.take (k + 1)) x ≤ 0)) := Lib.hid (.inl (by rw [hct]; omega))
              clear ht s1 hot hct hsh hy h1 HQ hm1 HQB
              go_wp2_with fail
              go_roundw
              case rel => exact ⟨k + 1, m - 1, by go_num, by omega, rfl, by omega, by omega, HM2, HQ2⟩
              case measure => simp [intOf]; omega
            · obtain rfl : m = 0 := by omega
              have hle : leftI ts x - cntW (ts.take k) x ≤ 0 := by rcases HM.out with h | h <;> omega
              rw [if_neg (by omega)] at hot
              have HQ2 : Hid (IOwn (wr.alloc (.cells #[.int .i64 t.1, .int .i64 t.2] 35)) w2.heap.size (.slice (some ⟨w2.heap.size, 0, none⟩) ts.length ts.length) (mixL (outL ts x) (shareL ts x) (k + 1)) ∧ Below w2.heap.size w2 (wr.alloc (.cells #[.int .i64 t.1, .int .i64 t.2] 35))) := Lib.hid ⟨by rw [mix_same HOL.out hot s1]; exact HQB.out.1, HQB.out.2⟩
              have HM2 : Hid ((0 : Int) = leftI ts x - cntW (ts.take (k + 1)) x ∨ ((0 : Int) = 0 ∧ leftI ts x - cntW (ts.take (k + 1)) x ≤ 0)) := Lib.hid (.inr ⟨rfl, by rw [hct]; omega⟩)
              clear ht s1 hot hct hsh hy h1 HQ hle HQB
              go_wp2_with fail
              go_roundw
              case rel => exact ⟨k + 1, 0, by go_num, by omega, rfl, by omega, by omega, HM2, HQ2⟩
              case measure => simp [intOf]; omega
          · have h1' : (t.1 == x) = false := by simpa using h1
            rw [if_neg (fun e => h1 e.2)] at hot
            rw [if_neg h1, Int.add_zero] at hct
            have HQ2 : Hid (IOwn (wr.alloc (.cells #[.int .i64 t.1, .int .i64 t.2] 35)) w2.heap.size (.slice (some ⟨w2.heap.size, 0, none⟩) ts.length ts.length) (mixL (outL ts x) (shareL ts x) (k + 1)) ∧ Below w2.heap.size w2 (wr.alloc (.cells #[.int .i64 t.1, .int .i64 t.2] 35))) := Lib.hid ⟨by rw [mix_same HOL.out hot s1]; exact HQB.out.1, HQB.out.2⟩
            have HM2 : Hid (m = leftI ts x - cntW (ts.take (k + 1)) x ∨ (m = 0 ∧ leftI ts x - cntW (ts.take (k + 1)) x ≤ 0)) := Lib.hid (by rw [hct]; exact HM.out)
            clear ht s1 hot hct hsh hy h1 HQ HQB
            go_wp2_with fail
            go_roundw
            case rel => exact ⟨k + 1, m, by go_num, by omega, rfl, m0, m3, HM2, HQ2⟩
            case measure => simp [intOf]; omega
        · obtain rfl : k = ts.length := by omega
          have HE : Hid (mixL (outL ts x) (shareL ts x) ts.length = outL ts x) := Lib.hid (mix_end HOL.out (fun j hj => by rw [List.getElem?_eq_none (by rw [out_len]; exact hj), List.getElem?_eq_none (by rw [share_len]; exact hj)]))
          go_wp2_with fail
          go_ret
          exact ⟨_, rfl, by rw [← HE.out]; exact HQ.out.1.base HB2.out.size, below_step HB2.out HQ.out.2 HB2.out.size⟩

set_option maxHeartbeats 2000000 in
theorem paidOut_any (w : World) (v : Value) (ts : List Qt) (x : Int) (hv : QRd w v ts) (hp : Pays ts) (h6 : ts.length ≤ 6) :
    Calls Try.prog 51 #[v, .int .i64 x] w (NewInts (outL ts x) w) := by
  obtain ⟨A, c, rfl, hl, hm⟩ := hv.form
  have HV : Hid (∀ wr, Below w.heap.size w wr → QRd wr (.slice A ts.length c) ts) := Lib.hid (fun wr hb => hv.keep (SameAt.of_below hb))
  have HP := Lib.hid hp
  clear hv hp
  obtain ⟨O, hO⟩ : ∃ O, onW ts x = O := ⟨_, rfl⟩
  have HO := Lib.hid hO
  clear hO
  by_cases h0 : O = 0
  · have HB : Hid (outL ts x = ts.map (·.2)) := Lib.hid (out_back (HO.out.trans h0))
    have h0' : (O == 0) = true := by simpa using h0
    have HOO : Hid (onW ts x = O) := HO
    clear h0
    go_enter Try.func51, Try.ntmps51
    go_wp2_with fail
    refine (paidForWorld_any w _ ts x (HV.out _ (Below.refl _ _)) HP.out h6).mono ?_
    rintro r w1 ⟨rfl, b1⟩
    rw [HOO.out]
    go_wp2_with fail
    refine (paidBack_any w1 _ ts (HV.out _ b1) h6).mono ?_
    rintro r w2 ⟨vo, rfl, oo, bo⟩
    go_wp2_with fail
    go_ret
    exact ⟨_, rfl, by rw [HB.out]; exact oo.base b1.size, below_step b1 bo b1.size⟩
  · have h0' : (O == 0) = false := by simpa using h0
    have HOO : Hid (onW ts x = O) := HO
    have HNE : Hid (onW ts x ≠ 0) := Lib.hid (by rw [HOO.out]; exact h0)
    clear h0
    go_enter Try.func51, Try.ntmps51
    go_wp2_with fail
    refine (paidForWorld_any w _ ts x (HV.out _ (Below.refl _ _)) HP.out h6).mono ?_
    rintro r w1 ⟨rfl, b1⟩
    rw [HOO.out]
    go_wp2_with fail
    refine (sharedOut_any w1 _ ts x (HV.out _ b1) HP.out h6 HNE.out).mono ?_
    rintro r w2 ⟨vo, rfl, oo, bo⟩
    go_wp2_with fail
    go_ret
    exact ⟨_, rfl, oo.base b1.size, below_step b1 bo b1.size⟩

set_option maxHeartbeats 2000000 in
theorem implPaidOut_any (w : World) (W : Int) (v : Value) (ts : List Qt) (x : Int) (hv : QRd w v ts) :
    Calls Try.prog 27 #[.int .i64 W, v, .int .i64 x] w (NewInts (outR W ts x) w) := by
  obtain ⟨A, c, rfl, hl, hm⟩ := hv.form
  have HV : Hid (∀ wr, Below w.heap.size w wr → QRd wr (.slice A ts.length c) ts) := Lib.hid (fun wr hb => hv.keep (SameAt.of_below hb))
  clear hv
  rcases Bool.eq_false_or_eq_true (tkB W ts) with h | h
  · have HP := Lib.hid (pays_of h)
    obtain ⟨-, -, h6, -⟩ := (tkB_iff W ts).1 h
    rcases Bool.eq_false_or_eq_true (inB x 0 (W - 1)) with hx | hx
    · have HR : Hid (outR W ts x = outL ts x) := Lib.hid (by rw [outR, if_pos (by rw [outB, h, hx]; rfl)])
      go_enter Try.func27, Try.ntmps27
      go_wp2_with fail
      refine (implTicketsOk_any w W _ ts (HV.out _ (Below.refl _ _))).mono ?_
      rintro r w1 ⟨rfl, b1⟩
      rw [h]
      clear h
      go_wp2_with fail
      refine (isWorld_any _ _ _).mono ?_
      rintro r w2 ⟨rfl, rfl⟩
      rw [hx]
      clear hx
      go_wp2_with fail
      refine (paidOut_any w1 _ ts x (HV.out _ b1) HP.out h6).mono ?_
      rintro r w2 ⟨vo, rfl, oo, bo⟩
      go_wp2_with fail
      go_ret
      exact ⟨_, rfl, by rw [HR.out]; exact oo.base b1.size, below_step b1 bo b1.size⟩
    · have HR : Hid (outR W ts x = []) := Lib.hid (by rw [outR, outB, h, hx]; rfl)
      go_enter Try.func27, Try.ntmps27
      go_wp2_with fail
      refine (implTicketsOk_any w W _ ts (HV.out _ (Below.refl _ _))).mono ?_
      rintro r w1 ⟨rfl, b1⟩
      rw [h]
      clear h
      go_wp2_with fail
      refine (isWorld_any _ _ _).mono ?_
      rintro r w2 ⟨rfl, rfl⟩
      rw [hx]
      clear hx
      go_wp2_with fail
      go_ret
      exact ⟨_, rfl, by rw [HR.out]; exact nil_own _ _, b1⟩
  · have HR : Hid (outR W ts x = []) := Lib.hid (by rw [outR, outB, h]; rfl)
    go_enter Try.func27, Try.ntmps27
    go_wp2_with fail
    refine (implTicketsOk_any w W _ ts (HV.out _ (Below.refl _ _))).mono ?_
    rintro r w1 ⟨rfl, b1⟩
    rw [h]
    clear h
    go_wp2_with fail
    go_ret
    exact ⟨_, rfl, by rw [HR.out]; exact nil_own _ _, b1⟩

set_option maxRecDepth 100000 in
set_option maxHeartbeats 8000000 in
theorem implTakenBy_any (w : World) (W : Int) (v : Value) (ts : List Qt) (x : Int) (hv : QRd w v ts) :
    Calls Try.prog 30 #[.int .i64 W, v, .int .i64 x] w (NewInts (takR W ts x) w) := by
  obtain ⟨A, c, rfl, hl, hm⟩ := hv.form
  have HV : Hid (∀ wr, Below w.heap.size w wr → QRd wr (.slice A ts.length c) ts) := Lib.hid (fun wr hb => hv.keep (SameAt.of_below hb))
  clear hv
  rcases Bool.eq_false_or_eq_true (takB W ts x) with h | h
  · obtain ⟨ht, x0, x1⟩ := (takB_iff _ _ _).1 h
    have HR : Hid (takR W ts x = takL W ts x.toNat) := Lib.hid (by rw [takR, if_pos h])
    obtain ⟨a, rfl⟩ : ∃ a : Nat, x = a := ⟨x.toNat, by omega⟩
    rw [Int.toNat_natCast] at HR
    have hal : a < ts.length := by omega
    have hal' : (a : Int) < (ts.length : Int) := by omega
    have ha0 : (0 : Int) ≤ (a : Int) := by omega
    have HP := Lib.hid (pays_of ht)
    obtain ⟨w1, w4, h6, -⟩ := (tkB_iff W ts).1 ht
    obtain ⟨N, rfl⟩ : ∃ N : Nat, W = N := ⟨W.toNat, by omega⟩
    have HZ : Hid ((takL (N : Int) ts a).length = N) := Lib.hid (by rw [tak_len, Int.toNat_natCast])
    have HT := Lib.hid ht
    clear h ht
    obtain ⟨i0, hi, hz0, hz1, hz2⟩ := info_parts Try_intinfo
    go_enter Try.func30, Try.ntmps30
    go_wp2_with fail
    refine (implTicketsOk_any w _ _ ts (HV.out _ (Below.refl _ _))).mono ?_
    rintro r w2 ⟨rfl, b2⟩
    rw [HT.out]
    have HB2 := Lib.hid b2
    clear b2
    go_wp2_with (at_make; refine wpList_make_full _ rfl _ _ 31 rfl w2.heap.size 3 i0 (.int .i64 0) 1 Try.underlying31 hi hz0 hz1 .i64 .i64 _ _ N rfl rfl rfl rfl ?b2 ?b3 (Nat.le_refl _) ?_)
    case b2 => rw [hz2]; omega
    case b3 => unfold maxLen; omega
    intro w0 hown0 hgrow0
    have H0 : Hid (FillRel w2 (takL (N : Int) ts a) N 0 w0) := Lib.hid ⟨by rw [copied_zero, HZ.out]; simpa [toList_madeCells_one, Value.cells] using hown0, (Below.refl _ _).grown hgrow0 (Nat.le_refl _) (fun k hk => by cases hk)⟩
    clear hown0 hgrow0 hi hz0 hz1 hz2
    go_wp2_with fail
    go_loopw [27] (fun i wr => ∃ k : Nat, i = .int .i64 (k : Int) ∧ k ≤ N ∧ Hid (FillRel w2 (takL (N : Int) ts a) N k wr)) (fun i _ => N - (intOf i).toNat)
    case atStart => exact ⟨0, rfl, Nat.zero_le _, H0⟩
    case round =>
      obtain ⟨k, rfl, hk, HF⟩ := hrel
      clear H0
      by_cases hlt : k < N
      · have hlt' : (k : Int) < (N : Int) := by omega
        have hk0 : (0 : Int) ≤ (k : Int) := by omega
        obtain ⟨b, off, t, rfl, -, htt, hc0, hc1⟩ := QRd.at_ (HV.out wr (below_step HB2.out HF.out.2 HB2.out.size)) hal
        have HTT := Lib.hid htt
        have HC : Hid (∀ w', Below w.heap.size w w' → w'.cell? ⟨b, off + a * 2, none⟩ = some (.int .i64 t.1) ∧ w'.cell? ⟨b, off + a * 2 + 1, none⟩ = some (.int .i64 t.2)) := Lib.hid (fun w' hb => QRd.cell (HV.out w' hb) HTT.out)
        obtain ⟨no, hno, no0, -⟩ := out_ge HP.out (x := (k : Int)) htt
        have hno3 := out_le HP.out (k : Int) hno
        have hs3 := sum2_bound HP.out
        have htp := HP.out t (List.mem_of_getElem? htt)
        have HON := Lib.hid hno
        obtain ⟨y, hy⟩ : ∃ y, no - t.2 = y := ⟨_, rfl⟩
        have hwy : IntKind.i64.wrap (no - t.2) = y := by rw [hy]; exact IntWalk.i64_in _ (by omega)
        have HS : Hid ((takL (N : Int) ts a)[k]? = some y) := Lib.hid (by rw [tak_at (by rw [Int.toNat_natCast]; exact hlt), takI_is htt hno, hy])
        clear htt hno hno3 hs3 hy hc0 hc1
        go_wp2_with fail
        have k0 : Below w.heap.size w wr.drew := (below_step HB2.out HF.out.2 HB2.out.size).drew
        refine wp_region_held_drew (S := fun w' => Below w.heap.size w w') (by kernel_rfl) k0 (fun hHeld => ?_)
        refine take_in (i := 0) (v := ?_) rfl (by kernel_rfl) (fun _ _ _ h => h) rfl ?_ hHeld ?_
        rotate_left
        · intro w' hSw; go_simp; all_goals with_reducible rfl
        try simp only [Act.put, List.setIfInBounds_toArray, List.set_cons_zero, List.set_cons_succ]
        refine take_in (i := 1) (v := ?_) rfl (by kernel_rfl) (fun _ _ _ h => h) rfl ?_ hHeld ?_
        rotate_left
        · intro w' hSw; go_simp; all_goals with_reducible rfl
        try simp only [Act.put, List.setIfInBounds_toArray, List.set_cons_zero, List.set_cons_succ]
        refine take_in (i := 2) (v := ?_) rfl (by kernel_rfl) (fun _ _ _ h => h) rfl ?_ hHeld ?_
        rotate_left
        · intro w' hSw; go_simp; all_goals with_reducible rfl
        try simp only [Act.put, List.setIfInBounds_toArray, List.set_cons_zero, List.set_cons_succ]
        refine take_in (i := 3) (v := ?_) rfl (by kernel_rfl) (fun _ _ _ h => h) rfl ?_ hHeld ?_
        rotate_left
        · intro w' hSw; go_simp; all_goals with_reducible rfl
        try simp only [Act.put, List.setIfInBounds_toArray, List.set_cons_zero, List.set_cons_succ]
        refine take_in (i := 5) (v := ?_) rfl (by kernel_rfl) (fun _ _ _ h => h) rfl ?_ hHeld ?_
        rotate_left
        · intro w' hSw; go_simp; all_goals with_reducible rfl
        try simp only [Act.put, List.setIfInBounds_toArray, List.set_cons_zero, List.set_cons_succ]
        refine take_in (i := 8) (v := ?_) rfl (by kernel_rfl) (fun _ _ _ h => h) rfl ?_ hHeld ?_
        rotate_left
        · intro w' hSw; go_simp; all_goals with_reducible rfl
        try simp only [Act.put, List.setIfInBounds_toArray, List.set_cons_zero, List.set_cons_succ]
        refine take_in (i := 9) (v := ?_) rfl (by kernel_rfl) (fun _ _ _ h => h) rfl ?_ hHeld ?_
        rotate_left
        · intro w' hSw; go_simp; all_goals with_reducible rfl
        try simp only [Act.put, List.setIfInBounds_toArray, List.set_cons_zero, List.set_cons_succ]
        refine take_in (i := 10) (v := ?_) rfl (by kernel_rfl) (fun _ _ _ h => h) rfl ?_ hHeld ?_
        rotate_left
        · intro w' hSw; go_simp; all_goals with_reducible rfl
        try simp only [Act.put, List.setIfInBounds_toArray, List.set_cons_zero, List.set_cons_succ]
        refine take_in (i := 11) (v := ?_) rfl (by kernel_rfl) (fun _ _ _ h => h) rfl ?_ hHeld ?_
        rotate_left
        · intro w' hSw; go_simp; all_goals with_reducible rfl
        try simp only [Act.put, List.setIfInBounds_toArray, List.set_cons_zero, List.set_cons_succ]
        refine take_in (i := 12) (v := ?_) rfl (by kernel_rfl) (fun _ _ _ h => h) rfl ?_ hHeld ?_
        rotate_left
        · intro w' hSw; obtain ⟨d0, d1⟩ := HC.out w' hSw; go_simp; all_goals with_reducible rfl
        try simp only [Act.put, List.setIfInBounds_toArray, List.set_cons_zero, List.set_cons_succ]
        refine ready_one (i := 4) rfl (by kernel_rfl) (fun K hK => ?_)
        go_simp
        go_at_call 51
        refine (paidOut_any wr.drew _ ts (k : Int) (HV.out _ k0) HP.out h6).mono ?_
        rintro e x1 ⟨vo, rfl, oo, bo⟩
        have k1 := below_step k0 bo k0.size
        have HF1 := Lib.hid (FillRel.below (HF.out.drew1) bo)
        obtain ⟨go, co, hvo⟩ : ∃ go co, vo = .slice (some ⟨go, 0, none⟩) ts.length co := by
          rcases oo.2 with ⟨-, hz⟩ | ⟨g, cap, cur, e, -⟩
          · rw [out_len] at hz; omega
          · rw [out_len] at e; exact ⟨g, cap, e⟩
        subst hvo
        have hco : x1.cell? ⟨go, a, none⟩ = some (.int .i64 no) := IOwn.cellk10 oo HON.out
        have hfz := HF1.out.1.frozenAt k
        obtain ⟨old, hold⟩ := some_cell HF1.out.1 (k := k) (by omega)
        refine hK.out _ x1 k1 (fun hHeld => ?_)
        clear hK K
        try simp only [Act.put, List.setIfInBounds_toArray, List.set_cons_zero, List.set_cons_succ]
        refine take_in (i := 6) (v := ?_) rfl (by kernel_rfl) (fun _ _ _ h => h) rfl ?_ hHeld ?_
        rotate_left
        · intro w' hSw; go_simp; all_goals with_reducible rfl
        try simp only [Act.put, List.setIfInBounds_toArray, List.set_cons_zero, List.set_cons_succ]
        refine ready_one (i := 7) rfl (by kernel_rfl) (fun K hK => ?_)
        go_simp
        refine hK.out _ x1 k1 (fun hHeld => ?_)
        clear hK K
        try simp only [Act.put, List.setIfInBounds_toArray, List.set_cons_zero, List.set_cons_succ]
        refine take_in (i := 13) (v := ?_) rfl (by kernel_rfl) (fun _ _ _ h => h) rfl ?_ hHeld ?_
        rotate_left
        · intro w' hSw; go_simp; all_goals with_reducible rfl
        try simp only [Act.put, List.setIfInBounds_toArray, List.set_cons_zero, List.set_cons_succ]
        refine take_in (i := 14) (v := ?_) rfl (by kernel_rfl) (fun _ _ _ h => h) rfl ?_ hHeld ?_
        rotate_left
        · intro w' hSw; go_simp; all_goals with_reducible rfl
        try simp only [Act.put, List.setIfInBounds_toArray, List.set_cons_zero, List.set_cons_succ]
        refine ready_one (i := 15) rfl (by kernel_rfl) (fun K hK => ?_)
        go_simp
        have k2 : Below w.heap.size w (x1.setCell ⟨w2.heap.size, k, none⟩ (.int .i64 y)) := k1.setCell (p := ⟨w2.heap.size, k, none⟩) HB2.out.size _
        refine hK.out _ (x1.setCell ⟨w2.heap.size, k, none⟩ (.int .i64 y)) k2 (fun hHeld => ?_)
        clear hK K
        try simp only [Act.put, List.setIfInBounds_toArray, List.set_cons_zero, List.set_cons_succ]
        refine wpAnyH_done (by kernel_rfl) ?_ _
        clear k0 k1 k2 oo bo hco
        go_wp2_with fail
        go_roundw
        case rel => exact ⟨k + 1, by go_num, by omega, (show Hid _ from HF1.out.step HS.out)⟩
        case measure => simp [intOf]; omega
      · obtain ⟨o1, b1⟩ := HF.out.all HZ.out (by omega)
        have B1 := Lib.hid (below_step HB2.out b1 HB2.out.size)
        have O1 := Lib.hid (o1.base HB2.out.size)
        clear b1 o1
        go_wp2_with fail
        go_ret
        exact ⟨_, rfl, by rw [HR.out]; exact O1.out, B1.out⟩
  · have HR : Hid (takR W ts x = []) := Lib.hid (by rw [takR, h]; rfl)
    rcases Bool.eq_false_or_eq_true (tkB W ts) with ht | ht
    · by_cases x0 : x < 0
      · clear h
        go_enter Try.func30, Try.ntmps30
        go_wp2_with fail
        refine (implTicketsOk_any w W _ ts (HV.out _ (Below.refl _ _))).mono ?_
        rintro r w1 ⟨rfl, b1⟩
        rw [ht]
        go_wp2_with fail
        go_ret
        exact ⟨_, rfl, by rw [HR.out]; exact nil_own _ _, b1⟩
      · have hx1 : (ts.length : Int) ≤ x := by
          rcases (show (ts.length : Int) ≤ x ∨ x < (ts.length : Int) from by omega) with h1 | h1
          · exact h1
          · rw [← Bool.not_eq_true, takB_iff] at h; exact absurd ⟨ht, by omega, by omega⟩ h
        have hx0 : 0 ≤ x := by omega
        clear h
        go_enter Try.func30, Try.ntmps30
        go_wp2_with fail
        refine (implTicketsOk_any w W _ ts (HV.out _ (Below.refl _ _))).mono ?_
        rintro r w1 ⟨rfl, b1⟩
        rw [ht]
        go_wp2_with fail
        go_ret
        exact ⟨_, rfl, by rw [HR.out]; exact nil_own _ _, b1⟩
    · clear h
      go_enter Try.func30, Try.ntmps30
      go_wp2_with fail
      refine (implTicketsOk_any w W _ ts (HV.out _ (Below.refl _ _))).mono ?_
      rintro r w1 ⟨rfl, b1⟩
      rw [ht]
      go_wp2_with fail
      go_ret
      exact ⟨_, rfl, by rw [HR.out]; exact nil_own _ _, b1⟩

end Go.Proofs.Yteefbkfhgmbcbaa
