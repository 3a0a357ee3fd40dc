/- Contracts of the program's functions on measures: MeasureOk, grainsOn, GrainsOn, BringsBy. Conditions: rows that read as lists. Contracts of the program's fits, FitsOk. Conditions: stated at each. -/
import Derived.Test.YteljcicdibbhdaaMb
import Derived.Test.YteljcicdibbhdaaQc
namespace Go.Proofs.Yteljcicdibbhdaa
open Go.RowKit
set_option linter.unusedVariables false

/-- what is left of the grains -/
def LeftIs (xs : List Int) (k : Nat) (n : Int) : Prop := (∀ y ∈ xs.take k, 0 ≤ y ∧ y ≤ 36) ∧ n = 36 - (xs.take k).sum ∧ 0 ≤ n ∧ n ≤ 36

theorem LeftIs.step {xs : List Int} {k : Nat} {n x : Int} (h : LeftIs xs k n) (hx : xs[k]? = some x) (h0 : 0 ≤ x) (h1 : x ≤ n) : LeftIs xs (k + 1) (n - x) := by
  obtain ⟨a, b, c, d⟩ := h
  refine ⟨allm_take hx ((inB_iff _ _ _).2 (by omega)) a, ?_, by omega, by omega⟩
  rw [sum_take hx]; omega

theorem take_sum_le {xs : List Int} (h : ∀ y ∈ xs, 0 ≤ y) (k : Nat) : (xs.take k).sum ≤ xs.sum := by
  induction xs generalizing k with
  | nil => simp
  | cons x xs ih =>
    cases k with
    | zero =>
      have h1 := ih (fun y hy => h y (by simp [hy])) 0
      have h2 := h x (by simp)
      simp at h1 ⊢; omega
    | succ k =>
      have h1 := ih (fun y hy => h y (by simp [hy])) k
      simp; omega

theorem left_no {xs : List Int} {k : Nat} {n x : Int} (h : LeftIs xs k n) (hx : xs[k]? = some x) (h0 : x < 0 ∨ n < x) : meaB xs = false := by
  rw [← Bool.not_eq_true, meaB_iff]
  rintro ⟨a, -, -, d⟩
  have h1 := take_sum_le (fun y hy => (a y hy).1) (k + 1)
  rw [sum_take hx] at h1
  have h2 := a x (List.mem_of_getElem? hx)
  obtain ⟨-, b, -, -⟩ := h
  omega

theorem left_all {xs : List Int} {k : Nat} {n : Int} (h : LeftIs xs k n) (hk : xs.length ≤ k) (hw : wokB (xs.length : Int) = true) : meaB xs = (n == 0) := by
  obtain ⟨a, b, -, -⟩ := h
  rw [List.take_of_length_le hk] at a b
  obtain ⟨w1, w2⟩ := (wokB_iff _).1 hw
  apply bool_eq
  rw [meaB_iff, beq_iff_eq]
  exact ⟨fun ⟨_, _, _, d⟩ => by omega, fun e => ⟨a, by omega, by omega, by omega⟩⟩

theorem mea_wok {xs : List Int} (hw : wokB (xs.length : Int) = false) : meaB xs = false := by
  rw [← Bool.not_eq_true, meaB_iff]
  rintro ⟨-, b, c, -⟩
  rw [← Bool.not_eq_true, wokB_iff] at hw
  omega

set_option maxHeartbeats 2000000 in
theorem implMeasureOk_any (w : World) (v : Value) (xs : List Int) (hv : IRd w v xs) :
    Calls Try.prog 89 #[v] w fun r w' => r = .returned (.bool (meaB xs)) ∧ w = w' := by
  obtain ⟨A, c, rfl, hl, hm, -⟩ := id hv
  have HV := Lib.hid hv
  clear hv
  rcases Bool.eq_false_or_eq_true (wokB (xs.length : Int)) with hw | hw
  · have HW := Lib.hid hw
    go_enter Try.func89, Try.ntmps89
    go_wp2_with fail
    refine (worldsOk_any _ _).mono ?_
    rintro r w' ⟨rfl, rfl⟩
    rw [hw]
    clear hw
    go_wp2_with fail
    go_loop [3, 12] (fun t i => ∃ (k : Nat) (n : Int), i = .int .i64 (k : Int) ∧ k ≤ xs.length ∧ t = .int .i64 n ∧ Hid (LeftIs xs k n)) (fun _ i => xs.length - (intOf i).toNat)
    case atStart => exact ⟨0, 36, rfl, Nat.zero_le _, rfl, Lib.hid ⟨by simp, by simp, by omega, by omega⟩⟩
    case round =>
      obtain ⟨k, n, rfl, hk, rfl, HS⟩ := hrel
      by_cases hlt : k < xs.length
      · obtain ⟨b, off, x, rfl, -, hx, hcx⟩ := HV.out.at_ hlt
        have HX := Lib.hid hx
        clear hx
        by_cases h0 : x < 0
        · go_wp2_with fail
          go_ret
          exact ⟨ret_bool (left_no HS.out HX.out (.inl h0)).symm, rfl⟩
        · have h0' : 0 ≤ x := by omega
          clear h0
          by_cases h1 : n < x
          · go_wp2_with fail
            go_ret
            exact ⟨ret_bool (left_no HS.out HX.out (.inr h1)).symm, rfl⟩
          · have h1' : x ≤ n := by omega
            clear h1
            have hn := HS.out.2.2.2
            have HN := Lib.hid (HS.out.step HX.out h0' h1')
            go_wp2_with fail
            go_round
            case rel => exact ⟨k + 1, _, by go_num, by omega, rfl, HN⟩
            case measure => simp [intOf]; omega
      · have HM := Lib.hid (left_all HS.out (by omega) HW.out)
        go_wp2_with fail
        go_ret
        exact ⟨ret_bool HM.out.symm, rfl⟩
  · have HN := Lib.hid (mea_wok hw)
    go_enter Try.func89, Try.ntmps89
    go_wp2_with fail
    refine (worldsOk_any _ _).mono ?_
    rintro r w' ⟨rfl, rfl⟩
    rw [hw]
    go_wp2_with fail
    go_ret
    exact ⟨ret_bool HN.out.symm, rfl⟩

theorem on_next {m : List Int} (hm : Grs m) {k : Nat} {x : Int} (hx : m[k]? = some x) (e : Int) :
    ((bitI e k == 1) = true → onI (m.take k) e + x = onI (m.take (k + 1)) e) ∧ ((bitI e k == 1) = false → onI (m.take k) e = onI (m.take (k + 1)) e) := by
  have h1 := onI_take hx e
  rcases bitI_01 e k with h | h
  · rw [h] at h1; rw [h]
    refine ⟨fun h2 => by simp at h2, fun _ => by rw [h1]; omega⟩
  · rw [h] at h1; rw [h]
    refine ⟨fun _ => by rw [h1]; omega, fun h2 => by simp at h2⟩

set_option maxHeartbeats 2000000 in
theorem implGrains_any (w : World) (v : Value) (m : List Int) (e : Int) (hv : IRd w v m) (hm : Grs m) (e1 : 0 ≤ e) (e2 : e ≤ 15) :
    Calls Try.prog 58 #[v, .int .i64 e] w fun r w' => r = .returned (.int .i64 (onI m e)) ∧ w = w' := by
  obtain ⟨A, c, rfl, hl, hmx, -⟩ := id hv
  have HV := Lib.hid hv
  have HM := Lib.hid hm
  have hm4 := hm.2
  clear hv hm
  go_enter Try.func58, Try.ntmps58
  go_wp2_with fail
  go_loop [5, 10] (fun t i => ∃ (k : Nat) (n : Int), i = .int .i64 (k : Int) ∧ k ≤ m.length ∧ t = .int .i64 n ∧ Hid (n = onI (m.take k) e)) (fun _ i => m.length - (intOf i).toNat)
  case atStart => exact ⟨0, 0, rfl, Nat.zero_le _, rfl, Lib.hid (by simp [onI])⟩
  case round =>
    obtain ⟨k, n, rfl, hk, rfl, HN⟩ := hrel
    by_cases hlt : k < m.length
    · obtain ⟨b, off, x, rfl, -, hx, hcx⟩ := HV.out.at_ hlt
      have HX := Lib.hid (on_next HM.out hx e)
      obtain ⟨x1, x2⟩ := HM.out.1 x (List.mem_of_getElem? hx)
      obtain ⟨n1, n2⟩ : 0 ≤ n ∧ n ≤ 144 := by rw [HN.out]; exact grs_on HM.out e k
      clear hx
      rcases Bool.eq_false_or_eq_true (bitI e k == 1) with hb | hb
      all_goals
        have HB1 := Lib.hid hb
        go_wp2_with (go_at_call 94; refine (hasQ_any _ _ e1 e2 (by omega) _).mono ?_; rintro r w' ⟨rfl, rfl⟩)
        go_round
        case rel => exact ⟨k + 1, _, by go_num, by omega, rfl, Lib.hid (by rw [HN.out]; first | exact HX.out.1 HB1.out | exact HX.out.2 HB1.out)⟩
        case measure => simp [intOf]; omega
    · go_wp2_with fail
      go_ret
      exact ⟨ret_int (by rw [HN.out, List.take_of_length_le (by omega)]), rfl⟩

theorem br_next' {m g : List Int} (hm : Grs m) (hg : gokB g = true) (h : m.length = g.length) {k : Nat} {x y : Int} (hx : m[k]? = some x) (hy : g[k]? = some y) :
    brI (m.take k) (g.take k) + y * x = brI (m.take (k + 1)) (g.take (k + 1)) ∧ wrap64 (brI (m.take k) (g.take k) + y * x) = brI (m.take (k + 1)) (g.take (k + 1)) ∧ IntKind.i64.wrap (brI (m.take k) (g.take k) + y * x) = brI (m.take (k + 1)) (g.take (k + 1)) := by
  rw [Int.mul_comm y x]; exact br_next hm hg h hx hy

set_option maxHeartbeats 4000000 in
theorem implBr_any (w : World) (v u : Value) (m g : List Int) (hv : IRd w v m) (hu : IRd w u g) (hm : Grs m) (hg : gokB g = true) (hlen : m.length = g.length) :
    Calls Try.prog 76 #[v, u] w fun r w' => r = .returned (.int .i64 (brI m g)) ∧ w = w' := by
  obtain ⟨A, c, rfl, hl, hmx, -⟩ := id hv
  obtain ⟨A', c', rfl, hl', hmx', -⟩ := id hu
  have HV := Lib.hid hv
  have HU := Lib.hid hu
  have HG := Lib.hid hm
  have HK := Lib.hid hg
  have HL := Lib.hid hlen
  clear hv hu hm hg hlen
  go_enter Try.func76, Try.ntmps76
  go_wp2_with fail
  go_loop [5, 10] (fun t i => ∃ (k : Nat) (n : Int), i = .int .i64 (k : Int) ∧ k ≤ g.length ∧ t = .int .i64 n ∧ Hid (n = brI (m.take k) (g.take k))) (fun _ i => g.length - (intOf i).toNat)
  case atStart => exact ⟨0, 0, rfl, Nat.zero_le _, rfl, Lib.hid (by simp [brI])⟩
  case round =>
    obtain ⟨k, n, rfl, hk, rfl, HN⟩ := hrel
    by_cases hlt : k < g.length
    · have hlt2 : k < m.length := by have := HL.out; omega
      have hlt3 : (k : Int) < (m.length : Int) := by omega
      obtain ⟨b, off, x, rfl, -, hx, hcx⟩ := HV.out.at_ hlt2
      obtain ⟨b', off', y, rfl, -, hy, hcy⟩ := HU.out.at_ hlt
      have HX := Lib.hid (br_next' HG.out HK.out HL.out hx hy)
      obtain ⟨p1, p2⟩ := mul_36 (HG.out.1 x (List.mem_of_getElem? hx)) (gokB_at HK.out hy)
      rw [Int.mul_comm] at p1 p2
      obtain ⟨n1, n2⟩ : -144000 ≤ n ∧ n ≤ 144000 := by rw [HN.out]; exact br_take_bound HG.out HK.out HL.out k
      have hw1 : IntKind.i64.wrap (y * x) = y * x := IntWalk.i64_in _ (by omega)
      have hw2 : wrap64 (y * x) = y * x := IntWalk.wrap64_in _ (by omega)
      clear hx hy
      go_wp2_with fail
      go_round
      case rel => exact ⟨k + 1, _, by go_num, by omega, rfl, by first | exact Lib.hid (by rw [HN.out]; exact HX.out.1) | exact Lib.hid (by rw [HN.out]; exact HX.out.2.1) | exact Lib.hid (by rw [HN.out]; exact HX.out.2.2)⟩
      case measure => simp [intOf]; omega
    · go_wp2_with fail
      go_ret
      have hkm : k = g.length := by omega
      exact ⟨ret_int (by rw [HN.out, hkm, List.take_length, ← HL.out, List.take_length]), rfl⟩

end Go.Proofs.Yteljcicdibbhdaa

namespace Go.Proofs.Yteljcicdibbhdaa
open Go.RowKit
set_option linter.unusedVariables false

/-- the function value that fits folds with: it has captured the variable at block B -/
def fitF (B : Nat) : Value := .func (.func 97) #[] #[.pointer (some ⟨B, 0, none⟩)]

set_option maxHeartbeats 4000000 in
theorem fit1_any (W : World) (so : Bool) (q : Qt) (B : Nat) (v : Value) (m : List Int) (hB : W.cell? ⟨B, 0, none⟩ = some v) (hv : IRd W v m) (hm : Grs m) (hq : (0 ≤ q.1 ∧ q.1 ≤ 15) ∧ 0 ≤ q.2 ∧ q.2 ≤ 6) :
    Calls Try.prog 97 #[.bool so, qV q, .pointer (some ⟨B, 0, none⟩)] W fun r W' => r = .returned (.bool (so && (onI m q.1 * 6 == q.2 * 36))) ∧ Below W.heap.size W W' := by
  obtain ⟨e, p⟩ := q
  unfold qV
  obtain ⟨⟨e1, e2⟩, p1, p2⟩ := hq
  have e1 : 0 ≤ e := e1
  have e2 : e ≤ 15 := e2
  have p1 : 0 ≤ p := p1
  have p2 : p ≤ 6 := p2
  have hlt : B < W.heap.size := World.block_lt_of_cell? W _ hB
  have HLT := Lib.hid hlt
  have HBw : Hid (Below W.heap.size W (W.alloc (.cells #[.int .i64 e, .int .i64 p] 35))) := Lib.hid ((Below.refl _ _).alloc (Nat.le_refl _) _)
  have HC : Hid ((W.alloc (.cells #[.int .i64 e, .int .i64 p] 35)).cell? ⟨W.heap.size, 0, none⟩ = some (.int .i64 e) ∧ (W.alloc (.cells #[.int .i64 e, .int .i64 p] 35)).cell? ⟨W.heap.size, 1, none⟩ = some (.int .i64 p)) := Lib.hid (box_cells (W := W) (q := (e, p)) (Below.refl _ _))
  have HCB : Hid ((W.alloc (.cells #[.int .i64 e, .int .i64 p] 35)).cell? ⟨B, 0, none⟩ = some v) := Lib.hid ((HBw.out.cell (p := ⟨B, 0, none⟩) hlt).trans hB)
  have HV := Lib.hid (hv.keep (SameAt.of_below HBw.out))
  have HM := Lib.hid hm
  clear hB hv hm hlt
  obtain ⟨N, hN⟩ : ∃ N, onI m e = N := ⟨_, rfl⟩
  obtain ⟨n1, n2⟩ : 0 ≤ N ∧ N ≤ 144 := by
    have := grs_on HM.out e m.length
    rw [List.take_length, hN] at this
    exact this
  have HNN := Lib.hid hN
  clear hN
  have hw6 : IntKind.i64.wrap (N * 6) = N * 6 := IntWalk.i64_in _ (by omega)
  have hw36 : IntKind.i64.wrap (p * 36) = p * 36 := IntWalk.i64_in _ (by omega)
  cases so
  · go_enter Try.func97, Try.ntmps97
    go_wp2_with fail
    generalize W.alloc (.cells #[.int .i64 e, .int .i64 p] 35) = w1 at HBw HC HCB HV ⊢
    go_region
    go_wp2_with fail
    go_ret
    exact ⟨ret_bool rfl, HBw.out.drew⟩
  · rcases Bool.eq_false_or_eq_true (N * 6 == p * 36) with ht | ht
    all_goals
      have HT := Lib.hid ht
      have ht3 := ht
      rw [← hw6, ← hw36] at ht3
      go_enter Try.func97, Try.ntmps97
      go_wp2_with fail
      generalize W.alloc (.cells #[.int .i64 e, .int .i64 p] 35) = w1 at HBw HC HCB HV ⊢
      go_region_held3 (fun w' => w'.cell? ⟨B, 0, none⟩ = some v ∧ w'.cell? ⟨W.heap.size, 0, none⟩ = some (.int .i64 e) ∧ w'.cell? ⟨W.heap.size, 1, none⟩ = some (.int .i64 p)) (exact ⟨HCB.out, HC.out⟩) (first
        | (go_at_call 58; refine (implGrains_any w1.drew _ m e HV.out HM.out e1 e2).mono ?_; rintro r w3 ⟨rfl, rfl⟩; rw [HNN.out]))
      all_goals
        go_wp2_with fail
        go_ret
        exact ⟨ret_bool (by rw [Bool.true_and]; show _ = (onI m e * 6 == p * 36); rw [HNN.out]; exact HT.out.symm), HBw.out.drew⟩

theorem fit_step {m : List Int} {qs : List Qt} {k : Nat} {q : Qt} (hx : qs[k]? = some q) : fitI m (qs.take (k + 1)) = (fitI m (qs.take k) && (onI m q.1 * 6 == q.2 * 36)) := by
  rw [fitI, fitI, List.take_add_one, hx]
  simp

set_option maxHeartbeats 4000000 in
theorem foldFit_any (w : World) (u : Value) (qs : List Qt) (B : Nat) (v : Value) (m : List Int) (hu : QRd w u qs) (hB : w.cell? ⟨B, 0, none⟩ = some v) (hv : IRd w v m) (hm : Grs m) (hq : Qts qs) :
    Calls Try.prog 96 #[u, .bool true, fitF B] w (BoolPost (fitI m qs) w) := by
  obtain ⟨A, c, rfl, hl, hmx⟩ := hu.form
  have hlt : B < w.heap.size := World.block_lt_of_cell? w _ hB
  have HK : Hid (∀ wr o, Below w.heap.size w wr → (wr.alloc o).cell? ⟨B, 0, none⟩ = some v ∧ IRd (wr.alloc o) v m) := Lib.hid (fun wr o hb => by
    have hb2 := hb.alloc hb.size o
    exact ⟨(hb2.cell (p := ⟨B, 0, none⟩) hlt).trans hB, hv.keep (SameAt.of_below hb2)⟩)
  have HU := Lib.hid hu
  have HM := Lib.hid hm
  have HQ := Lib.hid hq
  clear hu hm hq hB hv hlt
  unfold fitF
  go_enter Try.func96, Try.ntmps96
  go_wp2_with fail
  go_loopw [1, 11] (fun t i wr => ∃ (k : Nat) (b : Bool), i = .int .i64 (k : Int) ∧ k ≤ qs.length ∧ t = .bool b ∧ Hid (b = fitI m (qs.take k)) ∧ Hid (Below w.heap.size w wr)) (fun _ i _ => qs.length - (intOf i).toNat)
  case atStart => exact ⟨0, true, rfl, Nat.zero_le _, rfl, Lib.hid (by simp [fitI]), Lib.hid (Below.refl _ _)⟩
  case round =>
    obtain ⟨k, t, rfl, hk, rfl, HN, HB⟩ := hrel
    by_cases hlt : k < qs.length
    · obtain ⟨b, off, ⟨e, p⟩, rfl, -, hx, hc0, hc1⟩ := QRd.at_ (HU.out.keep (SameAt.of_below HB.out)) hlt
      have HX := Lib.hid hx
      clear hx
      have HE := Lib.hid (HQ.out _ (List.mem_of_getElem? HX.out))
      go_wp2_with fail
      refine (fit1_any _ t (e, p) B v m (HK.out wr _ HB.out).1 (HK.out wr _ HB.out).2 HM.out HE.out).mono ?_
      rintro r w2 ⟨rfl, b2⟩
      have HB2 : Hid (Below w.heap.size w w2) := Lib.hid (below_step (HB.out.alloc HB.out.size _) b2 (by simp; have := HB.out.size; omega))
      clear b2 hc0 hc1
      obtain ⟨t2, ht2⟩ : ∃ t2, (t && (onI m (e, p).1 * 6 == (e, p).2 * 36)) = t2 := ⟨_, rfl⟩
      rw [ht2]
      have HT2 := Lib.hid ht2
      clear ht2
      go_wp2_with fail
      go_roundw
      case rel => exact ⟨k + 1, t2, by go_num, by omega, rfl, Lib.hid (by rw [fit_step HX.out, ← HN.out]; exact HT2.out.symm), HB2⟩
      case measure => simp [intOf]; omega
    · go_wp2_with fail
      go_ret
      exact ⟨ret_bool (by have := HN.out; rw [List.take_of_length_le (by omega)] at this; exact this), HB.out⟩

set_option maxHeartbeats 4000000 in
theorem implFits_any (w : World) (v u : Value) (m : List Int) (qs : List Qt) (hv : IRd w v m) (hu : QRd w u qs) (hm : Grs m) (hq : Qts qs) :
    Calls Try.prog 71 #[v, u] w (BoolPost (fitI m qs) w) := by
  obtain ⟨A, c, rfl, hl, hmx, -⟩ := id hv
  have HK : Hid ((w.alloc (.cells #[.slice A m.length c] 41)).cell? ⟨w.heap.size, 0, none⟩ = some (.slice A m.length c) ∧ IRd (w.alloc (.cells #[.slice A m.length c] 41)) (.slice A m.length c) m ∧ QRd (w.alloc (.cells #[.slice A m.length c] 41)) u qs) := Lib.hid ⟨one_new w _ _ 0 _ rfl, hv.keep (SameAt.grow rfl), hu.keep (SameAt.grow rfl)⟩
  have HM := Lib.hid hm
  have HQ := Lib.hid hq
  clear hm hq hv hu
  go_enter Try.func71, Try.ntmps71
  go_wp2_with fail
  refine (foldFit_any _ u qs w.heap.size _ m HK.out.2.2 HK.out.1 HK.out.2.1 HM.out HQ.out).mono ?_
  rintro r w2 ⟨rfl, b2⟩
  have HB2 := Lib.hid (below_step ((Below.refl w.heap.size w).alloc (Nat.le_refl _) _) b2 (by simp))
  clear b2
  go_wp2_with fail
  go_ret
  exact ⟨ret_bool rfl, HB2.out⟩

set_option maxHeartbeats 2000000 in
theorem implFitsOk_any (w : World) (v u : Value) (m : List Int) (qs : List Qt) (hv : IRd w v m) (hu : QRd w u qs) :
    Calls Try.prog 49 #[v, u] w (BoolPost (fitB m qs) w) := by
  obtain ⟨A, c, rfl, hl, hmx, -⟩ := id hv
  have HV := Lib.hid hv
  have HU := Lib.hid hu
  clear hv hu
  rcases Bool.eq_false_or_eq_true (meaB m) with h | h
  · rcases Bool.eq_false_or_eq_true (bokB (m.length : Int) qs) with k | k
    · have HR : Hid (fitB m qs = fitI m qs) := Lib.hid (by rw [fitB, h, k]; rfl)
      have HG := Lib.hid (grs_of h)
      have HQ := Lib.hid (qts_of k)
      go_enter Try.func49, Try.ntmps49
      go_wp2_with fail
      refine (implMeasureOk_any _ _ _ HV.out).mono ?_
      rintro r w' ⟨rfl, rfl⟩
      rw [h]
      go_wp2_with fail
      refine (implBookOk_any _ _ _ _ HU.out).mono ?_
      rintro r w2 ⟨rfl, b2⟩
      rw [k]
      have HB2 := Lib.hid b2
      clear b2
      go_wp2_with fail
      refine (implFits_any _ _ _ m qs (HV.out.keep (SameAt.of_below HB2.out)) (HU.out.keep (SameAt.of_below HB2.out)) HG.out HQ.out).mono ?_
      rintro r w3 ⟨rfl, b3⟩
      have HB3 := Lib.hid (below_step HB2.out b3 HB2.out.size)
      clear b3
      go_wp2_with fail
      go_ret
      exact ⟨ret_bool (by rw [HR.out]), HB3.out⟩
    · have HR : Hid (fitB m qs = false) := Lib.hid (by rw [fitB, h, k]; rfl)
      go_enter Try.func49, Try.ntmps49
      go_wp2_with fail
      refine (implMeasureOk_any _ _ _ HV.out).mono ?_
      rintro r w' ⟨rfl, rfl⟩
      rw [h]
      go_wp2_with fail
      refine (implBookOk_any _ _ _ _ HU.out).mono ?_
      rintro r w2 ⟨rfl, b2⟩
      rw [k]
      have HB2 := Lib.hid b2
      clear b2
      go_wp2_with fail
      go_ret
      exact ⟨ret_bool HR.out.symm, HB2.out⟩
  · have HR : Hid (fitB m qs = false) := Lib.hid (by rw [fitB, h]; rfl)
    go_enter Try.func49, Try.ntmps49
    go_wp2_with fail
    refine (implMeasureOk_any _ _ _ HV.out).mono ?_
    rintro r w' ⟨rfl, rfl⟩
    rw [h]
    go_wp2_with fail
    go_ret
    exact ⟨ret_bool HR.out.symm, Below.refl _ _⟩

end Go.Proofs.Yteljcicdibbhdaa
