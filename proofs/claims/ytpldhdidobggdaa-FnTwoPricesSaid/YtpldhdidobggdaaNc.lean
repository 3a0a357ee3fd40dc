/- Contracts of the program's fits, FitsOk. Conditions: stated at each. -/
import Derived.Test.YtpldhdidobggdaaNa
namespace Go.Proofs.Ytpldhdidobggdaa
open Go.RowKit
set_option linter.unusedVariables false

/-- the function value that fits folds with: it has captured the variable at block B -/
def fitF (B : Nat) : Value := .func (.func 83) #[] #[.pointer (some ⟨B, 0, none⟩)]

set_option maxHeartbeats 4000000 in
theorem fit1_any (W : World) (so : Bool) (q : Qt) (B : Nat) (v : Value) (m : List Int) (hB : W.cell? ⟨B, 0, none⟩ = some v) (hv : IRd W v m) (hm : Grs m) (hq : (0 ≤ q.1 ∧ q.1 ≤ 15) ∧ 0 ≤ q.2 ∧ q.2 ≤ 6) :
    Calls Try.prog 83 #[.bool so, qV q, .pointer (some ⟨B, 0, none⟩)] W fun r W' => r = .returned (.bool (so && (onI m q.1 * 6 == q.2 * 36))) ∧ Below W.heap.size W W' := by
  obtain ⟨e, p⟩ := q
  unfold qV
  obtain ⟨⟨e1, e2⟩, p1, p2⟩ := hq
  have e1 : 0 ≤ e := e1
  have e2 : e ≤ 15 := e2
  have p1 : 0 ≤ p := p1
  have p2 : p ≤ 6 := p2
  have hlt : B < W.heap.size := World.block_lt_of_cell? W _ hB
  have HLT := Lib.hid hlt
  have HBw : Hid (Below W.heap.size W (W.alloc (.cells #[.int .i64 e, .int .i64 p] 39))) := Lib.hid ((Below.refl _ _).alloc (Nat.le_refl _) _)
  have HC : Hid ((W.alloc (.cells #[.int .i64 e, .int .i64 p] 39)).cell? ⟨W.heap.size, 0, none⟩ = some (.int .i64 e) ∧ (W.alloc (.cells #[.int .i64 e, .int .i64 p] 39)).cell? ⟨W.heap.size, 1, none⟩ = some (.int .i64 p)) := Lib.hid (box_cells (W := W) (q := (e, p)) (Below.refl _ _))
  have HCB : Hid ((W.alloc (.cells #[.int .i64 e, .int .i64 p] 39)).cell? ⟨B, 0, none⟩ = some v) := Lib.hid ((HBw.out.cell (p := ⟨B, 0, none⟩) hlt).trans hB)
  have HV := Lib.hid (hv.keep (SameAt.of_below HBw.out))
  have HM := Lib.hid hm
  clear hB hv hm hlt
  obtain ⟨N, hN⟩ : ∃ N, onI m e = N := ⟨_, rfl⟩
  obtain ⟨n1, n2⟩ : 0 ≤ N ∧ N ≤ 144 := by
    have := grs_on HM.out e m.length
    rw [List.take_length, hN] at this
    exact this
  have HNN := Lib.hid hN
  clear hN
  have hw6 : IntKind.i64.wrap (N * 6) = N * 6 := IntWalk.i64_in _ (by omega)
  have hw36 : IntKind.i64.wrap (p * 36) = p * 36 := IntWalk.i64_in _ (by omega)
  cases so
  · go_enter Try.func83, Try.ntmps83
    go_wp2_with fail
    generalize W.alloc (.cells #[.int .i64 e, .int .i64 p] 39) = w1 at HBw HC HCB HV ⊢
    go_region
    go_wp2_with fail
    go_ret
    exact ⟨ret_bool rfl, HBw.out.drew⟩
  · rcases Bool.eq_false_or_eq_true (N * 6 == p * 36) with ht | ht
    all_goals
      have HT := Lib.hid ht
      have ht3 := ht
      rw [← hw6, ← hw36] at ht3
      go_enter Try.func83, Try.ntmps83
      go_wp2_with fail
      generalize W.alloc (.cells #[.int .i64 e, .int .i64 p] 39) = w1 at HBw HC HCB HV ⊢
      go_region_held3 (fun w' => w'.cell? ⟨B, 0, none⟩ = some v ∧ w'.cell? ⟨W.heap.size, 0, none⟩ = some (.int .i64 e) ∧ w'.cell? ⟨W.heap.size, 1, none⟩ = some (.int .i64 p)) (exact ⟨HCB.out, HC.out⟩) (first
        | (go_at_call 84; refine (implGrains_any w1.drew _ m e HV.out HM.out e1 e2).mono ?_; rintro r w3 ⟨rfl, rfl⟩; rw [HNN.out]))
      all_goals
        go_wp2_with fail
        go_ret
        exact ⟨ret_bool (by rw [Bool.true_and]; show _ = (onI m e * 6 == p * 36); rw [HNN.out]; exact HT.out.symm), HBw.out.drew⟩

theorem fit_step {m : List Int} {qs : List Qt} {k : Nat} {q : Qt} (hx : qs[k]? = some q) : fitI m (qs.take (k + 1)) = (fitI m (qs.take k) && (onI m q.1 * 6 == q.2 * 36)) := by
  rw [fitI, fitI, List.take_add_one, hx]
  simp

set_option maxHeartbeats 4000000 in
theorem foldFit_any (w : World) (u : Value) (qs : List Qt) (B : Nat) (v : Value) (m : List Int) (hu : QRd w u qs) (hB : w.cell? ⟨B, 0, none⟩ = some v) (hv : IRd w v m) (hm : Grs m) (hq : Qts qs) :
    Calls Try.prog 82 #[u, .bool true, fitF B] w (BoolPost (fitI m qs) w) := by
  obtain ⟨A, c, rfl, hl, hmx⟩ := hu.form
  have hlt : B < w.heap.size := World.block_lt_of_cell? w _ hB
  have HK : Hid (∀ wr o, Below w.heap.size w wr → (wr.alloc o).cell? ⟨B, 0, none⟩ = some v ∧ IRd (wr.alloc o) v m) := Lib.hid (fun wr o hb => by
    have hb2 := hb.alloc hb.size o
    exact ⟨(hb2.cell (p := ⟨B, 0, none⟩) hlt).trans hB, hv.keep (SameAt.of_below hb2)⟩)
  have HU := Lib.hid hu
  have HM := Lib.hid hm
  have HQ := Lib.hid hq
  clear hu hm hq hB hv hlt
  unfold fitF
  go_enter Try.func82, Try.ntmps82
  go_wp2_with fail
  go_loopw [1, 11] (fun t i wr => ∃ (k : Nat) (b : Bool), i = .int .i64 (k : Int) ∧ k ≤ qs.length ∧ t = .bool b ∧ Hid (b = fitI m (qs.take k)) ∧ Hid (Below w.heap.size w wr)) (fun _ i _ => qs.length - (intOf i).toNat)
  case atStart => exact ⟨0, true, rfl, Nat.zero_le _, rfl, Lib.hid (by simp [fitI]), Lib.hid (Below.refl _ _)⟩
  case round =>
    obtain ⟨k, t, rfl, hk, rfl, HN, HB⟩ := hrel
    by_cases hlt : k < qs.length
    · obtain ⟨b, off, ⟨e, p⟩, rfl, -, hx, hc0, hc1⟩ := QRd.at_ (HU.out.keep (SameAt.of_below HB.out)) hlt
      have HX := Lib.hid hx
      clear hx
      have HE := Lib.hid (HQ.out _ (List.mem_of_getElem? HX.out))
      go_wp2_with fail
      refine (fit1_any _ t (e, p) B v m (HK.out wr _ HB.out).1 (HK.out wr _ HB.out).2 HM.out HE.out).mono ?_
      rintro r w2 ⟨rfl, b2⟩
      have HB2 : Hid (Below w.heap.size w w2) := Lib.hid (below_step (HB.out.alloc HB.out.size _) b2 (by simp; have := HB.out.size; omega))
      clear b2 hc0 hc1
      obtain ⟨t2, ht2⟩ : ∃ t2, (t && (onI m (e, p).1 * 6 == (e, p).2 * 36)) = t2 := ⟨_, rfl⟩
      rw [ht2]
      have HT2 := Lib.hid ht2
      clear ht2
      go_wp2_with fail
      go_roundw
      case rel => exact ⟨k + 1, t2, by go_num, by omega, rfl, Lib.hid (by rw [fit_step HX.out, ← HN.out]; exact HT2.out.symm), HB2⟩
      case measure => simp [intOf]; omega
    · go_wp2_with fail
      go_ret
      exact ⟨ret_bool (by have := HN.out; rw [List.take_of_length_le (by omega)] at this; exact this), HB.out⟩

set_option maxHeartbeats 4000000 in
theorem implFits_any (w : World) (v u : Value) (m : List Int) (qs : List Qt) (hv : IRd w v m) (hu : QRd w u qs) (hm : Grs m) (hq : Qts qs) :
    Calls Try.prog 74 #[v, u] w (BoolPost (fitI m qs) w) := by
  obtain ⟨A, c, rfl, hl, hmx, -⟩ := id hv
  have HK : Hid ((w.alloc (.cells #[.slice A m.length c] 24)).cell? ⟨w.heap.size, 0, none⟩ = some (.slice A m.length c) ∧ IRd (w.alloc (.cells #[.slice A m.length c] 24)) (.slice A m.length c) m ∧ QRd (w.alloc (.cells #[.slice A m.length c] 24)) u qs) := Lib.hid ⟨one_new w _ _ 0 _ rfl, hv.keep (SameAt.grow rfl), hu.keep (SameAt.grow rfl)⟩
  have HM := Lib.hid hm
  have HQ := Lib.hid hq
  clear hm hq hv hu
  go_enter Try.func74, Try.ntmps74
  go_wp2_with fail
  refine (foldFit_any _ u qs w.heap.size _ m HK.out.2.2 HK.out.1 HK.out.2.1 HM.out HQ.out).mono ?_
  rintro r w2 ⟨rfl, b2⟩
  have HB2 := Lib.hid (below_step ((Below.refl w.heap.size w).alloc (Nat.le_refl _) _) b2 (by simp))
  clear b2
  go_wp2_with fail
  go_ret
  exact ⟨ret_bool rfl, HB2.out⟩

end Go.Proofs.Ytpldhdidobggdaa
