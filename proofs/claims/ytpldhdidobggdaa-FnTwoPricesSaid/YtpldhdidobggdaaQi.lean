/- spec.BalanceOf. Conditions: rows that read as lists. -/
import Derived.Test.YtpldhdidobggdaaQh
namespace Go.Proofs.Ytpldhdidobggdaa
open Go.RowKit
set_option linter.unusedVariables false

theorem bal_next {n : Int} {qs : List Qt} {ss : List Int} {k : Nat} {q : Qt} {s : Int} (h : balB n qs ss = true) (hq : qs[k]? = some q) (hs : ss[k]? = some s) (j : Nat) :
    IntKind.i64.wrap (balI (qs.take k) (ss.take k) j + gainI q s j) = balI (qs.take (k + 1)) (ss.take (k + 1)) j := by
  obtain ⟨h1, h2, h3⟩ := (balB_iff _ _ _).1 h
  obtain ⟨h4, h5, h6⟩ := (bokB_iff _ _).1 h1
  have hb := bal_bound (w := n) (qs := qs.take k) (ss := ss.take k) (fun q hq => h6 q (List.mem_of_mem_take hq)) (fun s hs => h3 s (List.mem_of_mem_take hs)) (by simp [h2]) j
  have hl : (qs.take k).length ≤ 3 := by simp; omega
  have hg := gain_bound (bal_gain h hq hs) j
  rw [balI_take hq hs h2 j]
  exact IntWalk.i64_in _ (by omega)

theorem bal_next64 {n : Int} {qs : List Qt} {ss : List Int} {k : Nat} {q : Qt} {s : Int} (h : balB n qs ss = true) (hq : qs[k]? = some q) (hs : ss[k]? = some s) (j : Nat) :
    wrap64 (balI (qs.take k) (ss.take k) j + gainI q s j) = balI (qs.take (k + 1)) (ss.take (k + 1)) j := by
  obtain ⟨h1, h2, h3⟩ := (balB_iff _ _ _).1 h
  obtain ⟨h4, h5, h6⟩ := (bokB_iff _ _).1 h1
  have hb := bal_bound (w := n) (qs := qs.take k) (ss := ss.take k) (fun q hq => h6 q (List.mem_of_mem_take hq)) (fun s hs => h3 s (List.mem_of_mem_take hs)) (by simp [h2]) j
  have hl : (qs.take k).length ≤ 3 := by simp; omega
  have hg := gain_bound (bal_gain h hq hs) j
  rw [balI_take hq hs h2 j]
  exact IntWalk.wrap64_in _ (by omega)

theorem lit_ret (w : World) (base : Nat) (hb : base ≤ w.heap.size) : IOwn (w.alloc (.cells #[] 3)) base (.slice (some ⟨w.heap.size, 0, none⟩) 0 0) [] := lit_own w base hb

set_option maxHeartbeats 4000000 in
theorem specBalanceOf_any (w : World) (n : Int) (v u : Value) (qs : List Qt) (ss : List Int) (hv : QRd w v qs) (hu : IRd w u ss) :
    Calls Try.prog 45 #[.int .i64 n, v, u] w (RowOk w.heap.size (balR n qs ss) (balB n qs ss) w) := by
  obtain ⟨A, c, rfl, hl, hm⟩ := hv.form
  obtain ⟨A', c', rfl, hl', hm', -⟩ := id hu
  have HV := Lib.hid hv
  have HU := Lib.hid hu
  clear hv hu
  rcases Bool.eq_false_or_eq_true (bokB n qs) with h | h
  · by_cases hlen : ss.length = qs.length
    · have H := Lib.hid h
      have hs1 : ((ss.length : Int) == (qs.length : Int)) = true := by simp; omega
      have hs2 : ((ss.length : Int) != (qs.length : Int)) = false := by simp; omega
      have HL := Lib.hid hlen
      clear hlen
      obtain ⟨i0, hi, hz0, hz1, hz2⟩ := info_parts Try_intinfo
      go_enter Try.func45, Try.ntmps45
      go_wp2_with fail
      refine (specBookOk_any w n _ qs HV.out).mono ?_
      rintro r w2 ⟨rfl, b2⟩
      have HB2 := Lib.hid b2
      rw [h]
      have HV2 := Lib.hid (HV.out.keep (SameAt.of_below b2))
      have HU2 := Lib.hid (HU.out.keep (SameAt.of_below b2))
      clear b2 h
      go_wp2_with fail
      clear hs1 hs2
      go_loop [8] (fun i => ∃ k : Nat, i = .int .i64 k ∧ k ≤ ss.length ∧ Hid (∀ y ∈ ss.take k, stB y = true)) (fun i => ss.length - (intOf i).toNat)
      case atStart => exact ⟨0, rfl, Nat.zero_le _, Lib.hid (by simp)⟩
      case round =>
        obtain ⟨k, rfl, hk, HA⟩ := hrel
        by_cases hlt : k < ss.length
        · obtain ⟨b, off, x, rfl, -, hx, hcx⟩ := HU2.out.at_ hlt
          have HX := Lib.hid hx
          clear hx
          rcases Bool.eq_false_or_eq_true (stB x) with hs | hs
          · have HS := Lib.hid hs
            go_wp2_with fail
            refine (l1In_any x _ _ _).mono ?_
            rintro r w' ⟨rfl, rfl⟩
            rw [inB_stB, hs]
            go_wp2_with fail
            go_round
            case rel => exact ⟨k + 1, by go_num, by omega, Lib.hid (alls_take HX.out HS.out HA.out)⟩
            case measure => simp [intOf]; omega
          · have HS : Hid (balB n qs ss = false) := Lib.hid (balB_no2 H.out (by rw [alls_no HX.out hs]; simp))
            go_wp2_with fail
            refine (l1In_any x _ _ _).mono ?_
            rintro r w' ⟨rfl, rfl⟩
            rw [inB_stB, hs]
            go_wp2_with fail
            go_ret2
            exact rowOk_ret HS.out (balR_no HS.out) (lit_ret w2 _ HB2.out.size) (HB2.out.alloc HB2.out.size _)
        · have HB : Hid (balB n qs ss = true) := Lib.hid (balB_yes H.out (by rw [decide_eq_true HL.out, List.all_eq_true.2 (by have := HA.out; rwa [List.take_of_length_le (by omega)] at this)]; rfl))
          obtain ⟨hw1, hw2⟩ := bal_wok HB.out
          obtain ⟨m, rfl⟩ : ∃ m : Nat, n = m := ⟨n.toNat, by omega⟩
          have HZ : Hid ((balL (m : Int) qs ss).length = m) := Lib.hid (by rw [balL_len, Int.toNat_natCast])
          have HAT : Hid (∀ k, k < m → (balL (m : Int) qs ss)[k]? = some (balI qs ss k)) := Lib.hid (fun k hk => balL_at _ _ _ (by rw [Int.toNat_natCast]; exact hk))
          have H0 : Hid (AppRel w2 (balL (m : Int) qs ss) 0 (.slice (some ⟨w2.heap.size, 0, none⟩) 0 0) (w2.alloc (.cells #[] 3))) := Lib.hid (app_start w2 _)
          clear HA
          go_wp2_with fail
          go_loopw [9, 10] (fun p i wr => ∃ j : Nat, i = .int .i64 j ∧ j ≤ m ∧ Hid (AppRel w2 (balL (m : Int) qs ss) j p wr)) (fun _ i _ => m - (intOf i).toNat)
          case atStart => exact ⟨0, rfl, Nat.zero_le _, H0⟩
          case round =>
            obtain ⟨j, rfl, hj, HF⟩ := hrel
            clear H0
            by_cases hjm : j < m
            · have hjm' : (j : Int) < (m : Int) := by omega
              go_wp2_with fail
              go_loopw [11, 12] (fun t i wr => ∃ k : Nat, i = .int .i64 k ∧ k ≤ qs.length ∧ t = .int .i64 (balI (qs.take k) (ss.take k) j) ∧ Hid (AppRel w2 (balL (m : Int) qs ss) j u9 wr)) (fun _ i _ => qs.length - (intOf i).toNat)
              case atStart => exact ⟨0, rfl, Nat.zero_le _, by simp [balI], HF⟩
              case round =>
                obtain ⟨k, rfl, hk, rfl, HF2⟩ := hrel
                clear HF
                by_cases hlt : k < qs.length
                · have hlt2 : k < ss.length := by have := HL.out; omega
                  obtain ⟨b, off, q, rfl, -, hx, hc0, hc1⟩ := QRd.at_ (HV2.out.keep (SameAt.of_below HF2.out.2)) hlt
                  obtain ⟨b', off', s, rfl, -, hy, hcy⟩ := (HU2.out.keep (SameAt.of_below HF2.out.2)).at_ hlt2
                  have HG := Lib.hid (fit_of (bal_gain HB.out hx hy))
                  have HWR := Lib.hid (bal_next64 HB.out hx hy j)
                  have HWR2 := Lib.hid (bal_next HB.out hx hy j)
                  have hj4 : j < 4 := by omega
                  have HFD : Hid (AppRel w2 (balL (m : Int) qs ss) j u9 wr.drew) := Lib.hid ⟨HF2.out.1, HF2.out.2.drew⟩
                  clear hx hy
                  go_wp2_with fail
                  go_region_with (go_at_call 67; refine (l3Gain_any q s j HG.out hj4 _).mono ?_; rintro r w3 ⟨rfl, b3⟩; have HF3 := Lib.hid (HFD.out.keep b3); clear b3)
                  all_goals
                    go_wp2_with fail
                    go_roundw
                    case rel => exact ⟨k + 1, by go_num, by omega, by first | exact congrArg (Value.int .i64) HWR.out | exact congrArg (Value.int .i64) HWR2.out, HF3⟩
                    case measure => simp [intOf]; omega
                · have HX := Lib.hid (HAT.out j hjm)
                  have hkl : k = qs.length := by omega
                  subst hkl
                  have HE : Hid (balI (qs.take qs.length) (ss.take qs.length) j = balI qs ss j) := Lib.hid (by rw [List.take_length, ← HL.out, List.take_length])
                  rw [HE.out]
                  have hown0 := HF2.out.1
                  unfold IOwn at hown0
                  have hown := Lib.hid (World.ownsRow.alloc (w := wr) hown0 (.cells #[.int .i64 (balI qs ss j)] 3))
                  have hsz := HF2.out.2.size
                  have hl3 : (List.take j (balL (m : Int) qs ss)).length = j := by have := HZ.out; simp; omega
                  clear hown0
                  go_wp2_with (at_builtin; refine wpList_append_own _ rfl _ _ 24 rfl w2.heap.size 3 i0 (.int .i64 0) 1 8 Try.underlying24 hi hz0 hz1 hz2 rfl (by decide) _ _ _ rfl hown.out ⟨wr.heap.size, 0, none⟩ 1 1 [.int .i64 (balI qs ss j)] rfl rfl ?c1 one_int ?c3 ?c4 ?c5 ?_)
                  case c1 => exact one_new wr _ _
                  case c3 => unfold maxLen; omega
                  case c4 => omega
                  case c5 => simp; omega
                  intro v' w' hown' hgrow _
                  have HLL := Lib.hid (HF2.out.step HX.out (show IOwn w' w2.heap.size v' ((balL (m : Int) qs ss).take j ++ [balI qs ss j]) from by simpa [IOwn, hl3] using hown') (grown_after (w := wr) ((Below.refl _ wr).alloc (Nat.le_refl _) _) hgrow))
                  clear hown' hgrow hown hl3
                  go_wp2_with fail
                  go_roundw
                  case rel => exact ⟨j + 1, by go_num, by omega, HLL⟩
                  case measure => simp [intOf]; omega
            · obtain ⟨o1, b1⟩ := HF.out.all (by have := HZ.out; omega)
              have B1 := Lib.hid b1
              have O1 := Lib.hid o1
              clear b1 o1
              go_wp2_with fail
              go_ret2
              exact rowOk_ret HB.out (balR_yes HB.out) (O1.out.base HB2.out.size) (below_step HB2.out B1.out HB2.out.size)
    · have hs1 : ((ss.length : Int) == (qs.length : Int)) = false := by simp; omega
      have hs2 : ((ss.length : Int) != (qs.length : Int)) = true := by simp; omega
      have HN := Lib.hid (balB_no2 (ss := ss) h (stakes_no1 hlen))
      clear hlen
      go_enter Try.func45, Try.ntmps45
      go_wp2_with fail
      refine (specBookOk_any w n _ qs HV.out).mono ?_
      rintro r w2 ⟨rfl, b2⟩
      have HB2 := Lib.hid b2
      rw [h]
      clear b2
      go_wp2_with fail
      go_ret2
      exact rowOk_ret HN.out (balR_no HN.out) (lit_ret w2 _ HB2.out.size) (HB2.out.alloc HB2.out.size _)
  · have HN := Lib.hid (balB_no1 (ss := ss) h)
    go_enter Try.func45, Try.ntmps45
    go_wp2_with fail
    refine (specBookOk_any w n _ qs HV.out).mono ?_
    rintro r w2 ⟨rfl, b2⟩
    have HB2 := Lib.hid b2
    rw [h]
    clear b2
    go_wp2_with fail
    go_ret2
    exact rowOk_ret HN.out (balR_no HN.out) (lit_ret w2 _ HB2.out.size) (HB2.out.alloc HB2.out.size _)

end Go.Proofs.Ytpldhdidobggdaa
