/- The walk of the law of LearnedAll. Conditions: rows of bytes that came in. (gen_hq.py) -/
import Derived.Test.YtbjmhbkpeglpkaaHn
import Derived.Maps.AppendAt
import Derived.Deep.DeepCutAuto
namespace Go.Proofs.Ytbjmhbkpeglpkaa
open Go.RowKit
set_option linter.unusedVariables false

/-- the row's values, and what they read as -/
def URd (w : World) (v : Value) (us : List Value) (zss : List (List Int)) : Prop := us.length = zss.length ∧ GRd 1 sV w v us ∧ ∀ (k : Nat) (u : Value) (zs : List Int), us[k]? = some u → zss[k]? = some zs → IRd w u zs

theorem URd.srd {w : World} {v : Value} {us : List Value} {zss : List (List Int)} (h : URd w v us zss) : SRd w v zss := ⟨us, h⟩

theorem URd.below {w w' : World} {v : Value} {us : List Value} {zss : List (List Int)} (h : URd w v us zss) (hb : Below w.heap.size w w') : URd w' v us zss :=
  ⟨h.1, h.2.1.keep (SameAt.of_below hb), fun k u zs h1 h2 => (h.2.2 k u zs h1 h2).keep (SameAt.of_below hb)⟩

theorem URd.one {w : World} {v : Value} {us : List Value} {zss : List (List Int)} (h : URd w v us zss) : ∀ u ∈ us, u.oneCell' = true := by
  intro u hu
  obtain ⟨k, hk⟩ := List.getElem?_of_mem hu
  have hkl : k < us.length := (List.getElem?_eq_some_iff.1 hk).1
  obtain ⟨A, c, rfl, -⟩ := h.2.2 k u _ hk (List.getElem?_eq_getElem (by have := h.1; omega))
  rfl

theorem VOwn.grd {w : World} {base : Nat} {v : Value} {us : List Value} (h : VOwn w base v us) : GRd 1 sV w v us := by
  have h2 : GOwn 23 1 sV w base v us := by unfold GOwn; rw [flat_sV]; exact h
  exact h2.rd sV_len

/-- the cells of a row of rows, as what is laid behind another one -/
theorem vnews12 {w : World} {b off n c : Nat} {us : List Value} (h : GRd 1 sV w (.slice (some ⟨b, off, none⟩) n c) us) : ∀ j u, us[j]? = some u → w.cell? ((⟨b, off, none⟩ : Addr).add j) = some u := by
  intro j u hj
  have hn : n = us.length := by obtain ⟨A', c', e, -⟩ := h; injection e
  have hjl : j < us.length := (List.getElem?_eq_some_iff.1 hj).1
  obtain ⟨b', off', x, hA, -, hx, hc⟩ := h.at_ (k := j) (by omega)
  injection hA with hA
  injection hA with e1 e2
  subst e1; subst e2
  have := hc 0 x rfl
  rw [Nat.mul_one, Nat.add_zero] at this
  rw [addr_add, this]
  exact hx.symm.trans hj

theorem wp_app_back {ops : Array Oper} {rest : List Oper} {o : Oper} {a : Act} {Q : Exit → Act → World → Prop} (hgd : o.guard = none) (s x : Operand)
    (ho : o.op = .call { callee := .builtin .append, args := #[s, x], argTypes := #[37, 37] }) (w : World) (base : Nat) (u : Value) (g k cp : Nat) (vs : List Value) (hk : vs.length = k)
    (hs : a.eval s = .slice (some ⟨w.heap.size, 0, none⟩) 1 1) (hx : a.eval x = .slice (some ⟨g, 0, none⟩) k cp) (hown : VOwn w base (.slice (some ⟨g, 0, none⟩) k cp) vs)
    (h1 : k ≤ 1000000) (hb : base ≤ w.heap.size) (hvs : ∀ y ∈ vs, y.oneCell' = true)
    (h : ∀ g' c' w', VOwn w' base (.slice (some ⟨g', 0, none⟩) (k + 1) c') (u :: vs) → Below w.heap.size w w' → wpList Try.prog ops Q rest (a.put o.dst (.slice (some ⟨g', 0, none⟩) (k + 1) c')) w') :
    wpList Try.prog ops Q (o :: rest) a (w.alloc (.cells #[u] 23)) := by
  subst hk
  obtain ⟨i0, hi, hz0, hz1, hz2⟩ := info_parts Try_rowinfo
  have hB : Below w.heap.size w (w.alloc (.cells #[u] 23)) := (Below.refl _ _).alloc (Nat.le_refl _) _
  have hlit : (w.alloc (.cells #[u] 23)).ownsRow w.heap.size 23 1 (.slice (some ⟨w.heap.size, 0, none⟩) 1 1) 1 [u] := World.ownsRow_lit w #[u] 1 (Nat.le_refl _) (by unfold maxLen; omega) rfl
  have hn := vnews12 (hown.grd.keep (SameAt.of_below hB))
  refine wpList_append_own_at _ hgd s x 37 ho w.heap.size 23 i0 (.slice none 0 0) 1 24 Try.underlying37 hi hz0 hz1 hz2 rfl (by decide) _ 1 [u] hs hlit ⟨g, 0, none⟩ vs.length cp vs hx (by omega) hn hvs (by unfold maxLen; omega) (by omega) (by simp) ?_
  intro v' w' k1 k2 k3 k4
  obtain ⟨g', c', rfl⟩ : ∃ g' c', v' = .slice (some ⟨g', 0, none⟩) (vs.length + 1) c' := by
    rcases k1.2 with ⟨-, hz⟩ | ⟨g', cap, cur, e, -⟩
    · omega
    · exact ⟨g', cap, by rw [e, Nat.add_comm]⟩
  refine h g' c' w' ?_ (hB.grown k2 hB.size (fun g hg => (World.ownsRow.lt hlit g hg).1))
  have k5 : w'.ownsRow w.heap.size 23 1 (.slice (some ⟨g', 0, none⟩) (vs.length + 1) c') (vs.length + 1) (u :: vs) := by rw [Nat.add_comm 1] at k1; exact k1
  have k6 : GOwn 23 1 sV w' w.heap.size (.slice (some ⟨g', 0, none⟩) (vs.length + 1) c') (u :: vs) := by unfold GOwn; rw [flat_sV, List.length_cons]; exact k5
  have k7 := k6.base hb
  unfold GOwn at k7
  rw [flat_sV] at k7
  exact k7

/-- behind k rounds: the first k values, the last of them first -/
def BackRel (w : World) (us : List Value) (k : Nat) (p : Value) (wr : World) : Prop := VOwn wr w.heap.size p (us.take k).reverse ∧ Below w.heap.size w wr ∧ ∃ g c, p = .slice (some ⟨g, 0, none⟩) k c

theorem back_start (w : World) (us : List Value) : BackRel w us 0 (.slice (some ⟨w.heap.size, 0, none⟩) 0 0) (w.alloc (.cells #[] 23)) :=
  ⟨World.ownsRow_lit w #[] 0 (Nat.le_refl _) (by unfold maxLen; omega) rfl, (Below.refl _ _).alloc (Nat.le_refl _) _, _, _, rfl⟩

theorem BackRel.step {w wr w' : World} {us : List Value} {k g c : Nat} {p u : Value} (h : BackRel w us k p wr) (hu : us[k]? = some u) (ho : VOwn w' w.heap.size (.slice (some ⟨g, 0, none⟩) (k + 1) c) (u :: (us.take k).reverse)) (hb : Below wr.heap.size wr w') :
    BackRel w us (k + 1) (.slice (some ⟨g, 0, none⟩) (k + 1) c) w' := by
  refine ⟨?_, below_step h.2.1 hb h.2.1.size, _, _, rfl⟩
  rw [List.take_add_one, hu, Option.toList_some, List.reverse_append, List.reverse_singleton]
  exact ho

theorem rev_read {w : World} {us : List Value} {rs : List (List Int)} (hl : us.length = rs.length) (h : ∀ (k : Nat) (u : Value) (zs : List Int), us[k]? = some u → rs[k]? = some zs → IRd w u zs) :
    ∀ (k : Nat) (u : Value) (zs : List Int), us.reverse[k]? = some u → rs.reverse[k]? = some zs → IRd w u zs := by
  intro k u zs h1 h2
  have hk : k < us.length := by have := (List.getElem?_eq_some_iff.1 h1).1; rwa [List.length_reverse] at this
  rw [List.getElem?_reverse hk] at h1
  rw [List.getElem?_reverse (by omega), ← hl] at h2
  exact h _ u zs h1 h2

theorem rot_read {w : World} {us : List Value} {rs : List (List Int)} (hl : us.length = rs.length) (h : ∀ (k : Nat) (u : Value) (zs : List Int), us[k]? = some u → rs[k]? = some zs → IRd w u zs) :
    ∀ (k : Nat) (u : Value) (zs : List Int), (us.drop 1 ++ us.take 1)[k]? = some u → (rs.drop 1 ++ rs.take 1)[k]? = some zs → IRd w u zs := by
  intro k u zs h1 h2
  cases us with
  | nil => simp at h1
  | cons x us =>
    cases rs with
    | nil => simp at hl
    | cons r rs =>
      simp only [List.length_cons, Nat.add_right_cancel_iff] at hl
      simp only [List.drop_succ_cons, List.drop_zero, List.take_succ_cons, List.take_zero] at h1 h2
      rcases Nat.lt_or_ge k us.length with hk | hk
      · rw [List.getElem?_append_left hk] at h1
        rw [List.getElem?_append_left (by omega)] at h2
        exact h (k + 1) u zs (by simpa using h1) (by simpa using h2)
      · have hk2 : k = us.length := by
          have := (List.getElem?_eq_some_iff.1 h1).1
          simp at this; omega
        subst hk2
        rw [List.getElem?_append_right (Nat.le_refl _), Nat.sub_self] at h1
        rw [List.getElem?_append_right (by omega), hl, Nat.sub_self] at h2
        exact h 0 u zs (by simpa using h1) (by simpa using h2)

theorem rot_perm (rs : List (List Int)) : (rs.drop 1 ++ rs.take 1).Perm rs := by
  refine List.perm_append_comm.trans ?_
  rw [List.take_append_drop]

theorem la_rev (xs : List Int) (rs : List (List Int)) : laB xs rs.reverse = laB xs rs ∧ laR xs rs.reverse = laR xs rs := la_perm (List.reverse_perm rs)

theorem la_rot (xs : List Int) (rs : List (List Int)) : laB xs (rs.drop 1 ++ rs.take 1) = laB xs rs ∧ laR xs (rs.drop 1 ++ rs.take 1) = laR xs rs := la_perm (rot_perm rs)

theorem VOwn.below12 {w w' : World} {base : Nat} {v : Value} {us : List Value} (h : VOwn w base v us) (hb : Below w.heap.size w w') : VOwn w' base v us := own_below h hb

theorem vempty12 (w : World) (base : Nat) (hb : base ≤ w.heap.size) : (w.alloc (.cells #[] 23)).ownsRow base 23 1 (.slice (some ⟨w.heap.size, 0, none⟩) 0 0) 0 [] := World.ownsRow_lit w #[] 0 hb (by unfold maxLen; omega) rfl

theorem vone12 {wr : World} {g : Nat} {u : Value} (h : Blk wr g 23 #[u]) : ∀ j x, [u][j]? = some x → wr.cell? ((⟨g, 0, none⟩ : Addr).add j) = some x := by
  intro j x hx
  match j, hx with
  | 0, hx => obtain rfl := Option.some.inj hx; exact h.cell 0
  | j + 1, hx => cases hx

theorem GRd.drop12 {w : World} {b off n cp : Nat} {us : List Value} (h : GRd 1 sV w (.slice (some ⟨b, off, none⟩) n cp) us) {m : Nat} (hk : n = 1 + m) : GRd 1 sV w (.slice (some ⟨b, off + 1, none⟩) m (cp - 1)) (us.drop 1) := by
  obtain ⟨A', cp', e, hl, hm, hc⟩ := h
  injection e with e1 e2 e3
  subst e1
  subst e3
  have hlen : (us.drop 1).length = m := by rw [List.length_drop]; omega
  refine ⟨some ⟨b, off + 1, none⟩, cp - 1, by rw [hlen], by omega, by omega, fun h0 => ?_⟩
  obtain ⟨b', off', e, hb, hcell⟩ := hc (by omega)
  injection e with e
  injection e with e4 e5
  subst e4; subst e5
  refine ⟨b, off + 1, rfl, hb, fun i x hx j u hu => ?_⟩
  rw [List.getElem?_drop] at hx
  have := hcell (1 + i) x hx j u hu
  rwa [show off + (1 + i) * 1 + j = off + 1 + i * 1 + j by omega] at this

set_option maxRecDepth 100000 in
set_option maxHeartbeats 8000000 in
theorem FnLearnedAll_walk (a0 : Option Addr) (len0 cap0 : Nat) (z0 : List Int) (w : World) (w0 : IsRowC .u8 w a0 len0 cap0 z0) :
    Calls Try.prog 7 #[.slice a0 len0 cap0] w fun e w' => e = .returned (.bool true) ∧ Below w.heap.size w w' := by
  by_cases hlen : 1048576 < len0
  · clear w0
    go_enter Try.func7, Try.ntmps7
    go_wp2
    go_ret
    exact ⟨rfl, Below.refl _ _⟩
  · have hlen' : decide (1048576 < len0) = false := by simpa using hlen
    go_enter Try.func7, Try.ntmps7
    go_wp2_with fail
    refine (drawLearnedAll_any _ _ _ _ _ w0).mono ?_
    rintro e w1 ⟨v, u, xs, rs, rfl, ord, our, hl4, hl6, B1⟩
    have HB1 := Lib.hid B1
    have C1 := Lib.hid (Below.refl w1.heap.size w1)
    obtain ⟨A, c, rfl, hl, hmx, -⟩ := id ord
    have HV : Hid (∀ wr, Below w1.heap.size w1 wr → IRd wr (.slice A xs.length c) xs) := Lib.hid (fun wr hb => ord.keep (SameAt.of_below hb))
    obtain ⟨A2, c2, rfl, hl2, hmx2⟩ := our.form
    obtain ⟨us, hur⟩ : ∃ us, URd w1 (.slice A2 rs.length c2) us rs := our
    have HU : Hid (∀ wr, Below w1.heap.size w1 wr → URd wr (.slice A2 rs.length c2) us rs) := Lib.hid (fun wr hb => hur.below hb)
    have HUL : Hid (us.length = rs.length) := Lib.hid hur.1
    obtain ⟨v1, v2⟩ := la_rev xs rs
    obtain ⟨v3, v4⟩ := la_rot xs rs
    rcases Bool.eq_false_or_eq_true (laB xs rs) with h | h
    · obtain ⟨y, hy⟩ : ∃ y, laR xs rs = y := ⟨_, rfl⟩
      have HB := Lib.hid h
      have HR := Lib.hid hy
      have HRV : Hid (laB xs rs.reverse = true ∧ laR xs rs.reverse = y) := Lib.hid ⟨v1.trans h, v2.trans hy⟩
      have HRO : Hid (laB xs (rs.drop 1 ++ rs.take 1) = true ∧ laR xs (rs.drop 1 ++ rs.take 1) = y) := Lib.hid ⟨v3.trans h, v4.trans hy⟩
      clear h hy v1 v2 v3 v4 hur ord B1 w0
      go_wp2_with fail
      refine (implLearnedAll_any w1 _ _ xs rs (HV.out w1 C1.out) (HU.out w1 C1.out).srd).mono ?_
      rintro e w2 ⟨vx, rfl, ovx, b2⟩
      rw [HB.out]
      rw [HR.out] at ovx
      have C2 := Lib.hid (below_step C1.out b2 C1.out.size)
      have S2 := Lib.hid b2
      obtain ⟨Avx, cvx, rfl⟩ := ird_form12 ovx.rd rfl
      have Hvx := Lib.hid (fun wr (hb : Below w2.heap.size w2 wr) => ovx.rd.keep (SameAt.of_below hb))
      clear ovx b2
      go_wp2_with fail
      refine (specLearnedAll_any w2 _ _ xs rs (HV.out w2 C2.out) (HU.out w2 C2.out).srd).mono ?_
      rintro e w3 ⟨vs, rfl, ovs, b3⟩
      rw [HB.out]
      rw [HR.out] at ovs
      have C3 := Lib.hid (below_step C2.out b3 C2.out.size)
      have S3 := Lib.hid b3
      obtain ⟨Avs, cvs, rfl⟩ := ird_form12 ovs.rd rfl
      have Hvs := Lib.hid (fun wr (hb : Below w3.heap.size w3 wr) => ovs.rd.keep (SameAt.of_below hb))
      clear ovs b3
      go_wp2_with fail
      refine (sameInts_any w3 _ _ _ _ (Hvx.out w3 S3.out) (Hvs.out w3 (Below.refl _ _))).mono ?_
      rintro e w4 ⟨q4, rfl, hw4⟩
      rw [decide_self]
      have S4 : Hid (Below w3.heap.size w3 w4) := Lib.hid (by rw [hw4]; exact below_drewN (Below.refl _ _) q4)
      have C4 := Lib.hid (below_step C3.out S4.out C3.out.size)
      clear hw4
      have D4 := Lib.hid (below_step S3.out S4.out S3.out.size)
      clear S2 S3 S4 Hvs
      have H0 : Hid (BackRel w4 us 0 (.slice (some ⟨w4.heap.size, 0, none⟩) 0 0) (w4.alloc (.cells #[] 23))) := Lib.hid (back_start w4 us)
      go_wp2_with fail
      go_loopw [9, 10] (fun p i wr => ∃ k : Nat, i = .int .i64 (k : Int) ∧ k ≤ rs.length ∧ Hid (BackRel w4 us k p wr)) (fun _ i _ => rs.length - (intOf i).toNat)
      case atStart => exact ⟨0, rfl, Nat.zero_le _, H0⟩
      case round =>
        obtain ⟨k, rfl, hk, HF⟩ := hrel
        obtain ⟨g0, c0, rfl⟩ := HF.out.2.2
        clear H0
        have hk6 : k ≤ 6 := by omega
        have K4 := Lib.hid (below_step C4.out HF.out.2.1 C4.out.size)
        by_cases hlt : k < rs.length
        · have hlt' : (k : Int) < (rs.length : Int) := by omega
          have hk0 : (0 : Int) ≤ (k : Int) := by omega
          obtain ⟨b, off, ux, rfl, -, hux, hcx⟩ := (HU.out wr K4.out).2.1.at_ hlt
          obtain ⟨zs, hzs⟩ : ∃ zs, rs[k]? = some zs := ⟨_, List.getElem?_eq_getElem hlt⟩
          obtain ⟨A7, c7, rfl, -, -, -⟩ := id ((HU.out wr K4.out).2.2 k ux zs hux hzs)
          have hcell : wr.cell? ⟨b, off + k, none⟩ = some (.slice A7 zs.length c7) := by have := hcx 0 _ rfl; rwa [Nat.mul_one, Nat.add_zero] at this
          have HUX := Lib.hid hux
          have hlk : Hid ((us.take k).reverse.length = k) := Lib.hid (by rw [List.length_reverse, List.length_take]; have := HUL.out; omega)
          have HON : Hid (∀ y ∈ (us.take k).reverse, y.oneCell' = true) := Lib.hid (fun y hy => (HU.out wr K4.out).one y (List.mem_of_mem_take (List.mem_reverse.1 hy)))
          clear hux hzs hcx
          go_wp2_with (at_builtin; refine wp_app_back rfl _ _ rfl wr w4.heap.size _ _ k _ (us.take k).reverse hlk.out (by rfl) (by rfl) HF.out.1 (by omega) HF.out.2.1.size HON.out ?_)
          intro g c2 w' hown' hbel'
          have HL := Lib.hid (HF.out.step HUX.out hown' hbel')
          clear hown' hbel' HF hlk HON
          go_wp2_with fail
          go_roundw
          case rel => exact ⟨k + 1, by go_num, by omega, HL⟩
          case measure => simp [intOf]; omega
        · obtain rfl : k = rs.length := by omega
          have hlt' : decide ((rs.length : Int) < (rs.length : Int)) = false := by simp
          have L4 := Lib.hid (below_step D4.out HF.out.2.1 D4.out.size)
          have HBK : Hid (SRd wr (.slice (some ⟨g0, 0, none⟩) rs.length c0) rs.reverse) := Lib.hid (by
            have h := HF.out.1
            rw [← HUL.out, List.take_length, HUL.out] at h
            exact ⟨us.reverse, by rw [List.length_reverse, List.length_reverse, HUL.out], h.grd, rev_read HUL.out (HU.out wr K4.out).2.2⟩)
          clear HF hk hk6
          go_wp2_with fail
          refine (implLearnedAll_any wr _ _ xs rs.reverse (HV.out wr K4.out) HBK.out).mono ?_
          rintro e w5 ⟨va, rfl, ova, b5⟩
          rw [HRV.out.1]
          rw [HRV.out.2] at ova
          have C5 := Lib.hid (below_step K4.out b5 K4.out.size)
          have L5 := Lib.hid (below_step L4.out b5 L4.out.size)
          obtain ⟨Ava, cva, rfl⟩ := ird_form12 ova.rd rfl
          have Hva := Lib.hid (fun wr (hb : Below w5.heap.size w5 wr) => ova.rd.keep (SameAt.of_below hb))
          clear ova b5 HBK
          rcases Nat.eq_zero_or_pos rs.length with hz | hz
          · obtain rfl : rs = [] := List.eq_nil_of_length_eq_zero hz
            simp only [List.length_nil]
            clear hz hlt hlt'
            go_wp2_with fail
            refine (implLearnedAll_any w5 _ _ xs [] (HV.out w5 C5.out) (HU.out w5 C5.out).srd).mono ?_
            rintro e w7 ⟨vb, rfl, ovb, b7⟩
            rw [HB.out]
            rw [HR.out] at ovb
            have C7 := Lib.hid (below_step C5.out b7 C5.out.size)
            have L7 := Lib.hid (below_step L5.out b7 L5.out.size)
            have M7 := Lib.hid b7
            obtain ⟨Avb, cvb, rfl⟩ := ird_form12 ovb.rd rfl
            have Hvb := Lib.hid (fun wr (hb : Below w7.heap.size w7 wr) => ovb.rd.keep (SameAt.of_below hb))
            clear ovb b7
            go_wp2_with fail
            refine (sameInts_any w7 _ _ _ _ (Hva.out w7 M7.out) (Hvx.out w7 L7.out)).mono ?_
            rintro e w8 ⟨q8, rfl, hw8⟩
            rw [decide_self]
            have S8 : Hid (Below w7.heap.size w7 w8) := Lib.hid (by rw [hw8]; exact below_drewN (Below.refl _ _) q8)
            have C8 := Lib.hid (below_step C7.out S8.out C7.out.size)
            clear hw8
            have L8 := Lib.hid (below_step L7.out S8.out L7.out.size)
            go_wp2_with fail
            refine (sameInts_any w8 _ _ _ _ (Hvb.out w8 S8.out) (Hvx.out w8 L8.out)).mono ?_
            rintro e w9 ⟨q9, rfl, hw9⟩
            rw [decide_self]
            have S9 : Hid (Below w8.heap.size w8 w9) := Lib.hid (by rw [hw9]; exact below_drewN (Below.refl _ _) q9)
            have C9 := Lib.hid (below_step C8.out S9.out C8.out.size)
            clear hw9
            go_wp2_with fail
            refine (alive_any _).mono ?_
            rintro e w' ⟨rfl, rfl⟩
            go_wp2_with fail
            go_ret
            exact ⟨rfl, below_step HB1.out C9.out HB1.out.size⟩
          · have hzi : (0 : Int) < (rs.length : Int) := by omega
            go_upto_region 16 with fail
            go_cut [13] (fun s13 wx => VOwn wx w5.heap.size s13 (us.drop 1 ++ us.take 1) ∧ Below w5.heap.size w5 wx)
            case first =>
              obtain ⟨b, off, u0, rfl, hbb, hu0, hcx⟩ := (HU.out w5 C5.out).2.1.at_ hz
              obtain ⟨zs, hzs⟩ : ∃ zs, rs[0]? = some zs := ⟨_, List.getElem?_eq_getElem hz⟩
              obtain ⟨A7, c7, rfl, -, -, -⟩ := id ((HU.out w5 C5.out).2.2 0 u0 zs hu0 hzs)
              have HC0 : Hid (∀ w', Below w5.heap.size w5 w' → w'.cell? ⟨b, off, none⟩ = some (Value.slice A7 zs.length c7)) := Lib.hid (fun w' h => (h.cell (p := ⟨b, off, none⟩) hbb).trans (hcx 0 _ rfl))
              have HO1 : Hid (∀ x ∈ [Value.slice A7 zs.length c7], x.oneCell' = true) := Lib.hid (fun x hx => by rw [List.mem_singleton] at hx; subst hx; rfl)
              have HON : Hid (∀ x ∈ us.drop 1, x.oneCell' = true) := Lib.hid (fun x hx => (HU.out w5 C5.out).one x (List.mem_of_mem_drop hx))
              have HT1 : Hid (us.take 1 = [Value.slice A7 zs.length c7]) := Lib.hid (by rw [List.take_add_one, hu0]; simp)
              have HG : Hid (GRd 1 sV w5 (.slice (some ⟨b, off, none⟩) rs.length c2) us) := Lib.hid (HU.out w5 C5.out).2.1
              have HRL := Lib.hid hz
              clear hu0 hcx hzs
              obtain ⟨i0, hi, hz0, hz1, hz2⟩ := info_parts Try_rowinfo
              by_cases hc1 : c2 = 1
              · have hl1 : rs.length = 1 := by omega
                have HLL := Lib.hid hl1
                have HDN : Hid (us.drop 1 = []) := Lib.hid (List.drop_eq_nil_of_le (by rw [HUL.out]; omega))
                have HDL : Hid ((us.drop 1).length = 0) := Lib.hid (by rw [HDN.out]; rfl)
                have HNW : Hid (∀ X, Below w5.heap.size w5 X → ∀ j x, (us.drop 1)[j]? = some x → X.cell? ((⟨b, off, none⟩ : Addr).add j) = some x) := Lib.hid (fun X _ j x hj => by rw [HDN.out] at hj; simp at hj)
                have h1n : (1 : Int) ≤ (rs.length : Int) := by omega
                subst hc1
                clear hl1
                have hb0 : Below w5.heap.size w5 w5.drew := (Below.refl _ _).drew
                refine wp_region_held_drew (S := fun w' => Below w5.heap.size w5 w') (by kernel_rfl) hb0 (fun hHeld => ?_)
                refine take_in (i := 1) (v := ?_) rfl (by kernel_rfl) (fun _ _ _ h => h) rfl ?_ hHeld ?_
                rotate_left
                · intro w hSw; go_simp; all_goals with_reducible rfl
                try simp only [Act.put, List.setIfInBounds_toArray, List.set_cons_zero, List.set_cons_succ]
                refine take_in (i := 2) (v := ?_) rfl (by kernel_rfl) (fun _ _ _ h => h) rfl ?_ hHeld ?_
                rotate_left
                · intro w hSw; go_simp; all_goals with_reducible rfl
                try simp only [Act.put, List.setIfInBounds_toArray, List.set_cons_zero, List.set_cons_succ]
                refine take_in (i := 4) (v := ?_) rfl (by kernel_rfl) (fun _ _ _ h => h) rfl ?_ hHeld ?_
                rotate_left
                · intro w hSw; go_simp; all_goals with_reducible rfl
                try simp only [Act.put, List.setIfInBounds_toArray, List.set_cons_zero, List.set_cons_succ]
                refine take_in (i := 5) (v := ?_) rfl (by kernel_rfl) (fun _ _ _ h => h) rfl ?_ hHeld ?_
                rotate_left
                · intro w hSw; go_simp; all_goals with_reducible rfl
                try simp only [Act.put, List.setIfInBounds_toArray, List.set_cons_zero, List.set_cons_succ]
                refine take_in (i := 6) (v := ?_) rfl (by kernel_rfl) (fun _ _ _ h => h) rfl ?_ hHeld ?_
                rotate_left
                · intro w hSw; have d0 := HC0.out w hSw; go_simp; all_goals with_reducible rfl
                try simp only [Act.put, List.setIfInBounds_toArray, List.set_cons_zero, List.set_cons_succ]
                refine ready_two (i := 0) (j := 7) rfl rfl (by kernel_rfl) (fun K hK => ?_) (fun K hK => ?_)
                · go_simp
                  have ek1 : (w5.drew.alloc (.cells #[] 23)).ownsRow w5.heap.size 23 1 (.slice (some ⟨w5.heap.size, 0, none⟩) 0 0) 0 [] := by have h := vempty12 w5.drew _ hb0.size; rwa [show w5.drew.heap.size = w5.heap.size by simp] at h
                  have bk1 : Below w5.heap.size w5 (w5.drew.alloc (.cells #[] 23)) := hb0.alloc hb0.size _
                  refine hK.out _ (w5.drew.alloc (.cells #[] 23)) bk1 (fun hHeld => ?_)
                  clear hK K
                  try simp only [Act.put, List.setIfInBounds_toArray, List.set_cons_zero, List.set_cons_succ]
                  refine ready_two (i := 3) (j := 7) rfl rfl (by kernel_rfl) (fun K hK => ?_) (fun K hK => ?_)
                  · obtain ⟨vk2, xk2, rnk2, rk2, grk2, -, -⟩ := run_append_own_at (P := Try.prog) _ w5.heap.size 37 37 23 i0 (.slice none 0 0) 1 24 Try.underlying37 hi hz0 hz1 hz2 rfl (by decide) _ 0 [] ek1 ⟨b, off, none⟩ 0 0 (us.drop 1) (by have := HDL.out; omega) (HNW.out _ bk1) HON.out (by unfold maxLen; omega) (by omega) bk1.size
                    refine step_append (s := .tmp 69) (x := .tmp 71) rfl rfl rnk2 ?_
                    have rk2 : xk2.ownsRow w5.heap.size 23 1 vk2 (us.drop 1).length (us.drop 1) := by have h := rk2; rw [Nat.zero_add, ← HDL.out, List.nil_append] at h; exact h
                    have bk2 : Below w5.heap.size w5 xk2 := bk1.grown grk2 bk1.size (fun g hg => (World.ownsRow.lt ek1 g hg).1)
                    refine hK.out _ xk2 bk2 (fun hHeld => ?_)
                    clear hK K
                    try simp only [Act.put, List.setIfInBounds_toArray, List.set_cons_zero, List.set_cons_succ]
                    refine ready_one (i := 7) rfl (by kernel_rfl) (fun K hK => ?_)
                    go_simp
                    have bk3 : Below w5.heap.size w5 (xk2.alloc (.cells #[Value.slice A7 zs.length c7] 23)) := bk2.alloc bk2.size _
                    have nk3 : Blk (xk2.alloc (.cells #[Value.slice A7 zs.length c7] 23)) (xk2.heap.size) 23 #[Value.slice A7 zs.length c7] := by have h := blk_alloc xk2 #[Value.slice A7 zs.length c7] 23; rwa [show xk2.heap.size = xk2.heap.size by simp] at h
                    have rk3 : (xk2.alloc (.cells #[Value.slice A7 zs.length c7] 23)).ownsRow w5.heap.size 23 1 vk2 (us.drop 1).length (us.drop 1) := World.ownsRow.alloc rk2 _
                    refine hK.out _ (xk2.alloc (.cells #[Value.slice A7 zs.length c7] 23)) bk3 (fun hHeld => ?_)
                    clear hK K
                    try simp only [Act.put, List.setIfInBounds_toArray, List.set_cons_zero, List.set_cons_succ]
                    refine ready_one (i := 8) rfl (by kernel_rfl) (fun K hK => ?_)
                    obtain ⟨vk4, xk4, rnk4, rk4, grk4, -, -⟩ := run_append_own_at (P := Try.prog) _ w5.heap.size 37 37 23 i0 (.slice none 0 0) 1 24 Try.underlying37 hi hz0 hz1 hz2 rfl (by decide) _ (us.drop 1).length (us.drop 1) rk3 ⟨xk2.heap.size, 0, none⟩ 1 1 [Value.slice A7 zs.length c7] rfl (vone12 nk3) HO1.out (by have := HDL.out; unfold maxLen; omega) (by have := HDL.out; omega) bk3.size
                    refine step_append (s := .tmp 72) (x := .tmp 76) rfl rfl rnk4 ?_
                    have bk4 : Below w5.heap.size w5 xk4 := bk3.grown grk4 bk3.size (fun g hg => (World.ownsRow.lt rk3 g hg).1)
                    have qk4 : VOwn xk4 w5.heap.size vk4 (us.drop 1 ++ us.take 1) := by rw [HT1.out]; unfold VOwn; rw [List.length_append]; exact rk4
                    refine hK.out _ xk4 bk4 (fun hHeld => ?_)
                    clear hK K
                    try simp only [Act.put, List.setIfInBounds_toArray, List.set_cons_zero, List.set_cons_succ]
                    refine take_in (i := 9) (v := ?_) rfl (by kernel_rfl) (fun _ _ _ h => h) rfl ?_ hHeld ?_
                    rotate_left
                    · intro w hSw; go_simp; all_goals with_reducible rfl
                    try simp only [Act.put, List.setIfInBounds_toArray, List.set_cons_zero, List.set_cons_succ]
                    refine wpAnyH_done (by kernel_rfl) ?_ _
                    go_wp2
                    go_meet
                    exact ⟨qk4, bk4⟩
                  · go_simp
                    have bk6 : Below w5.heap.size w5 ((w5.drew.alloc (.cells #[] 23)).alloc (.cells #[Value.slice A7 zs.length c7] 23)) := bk1.alloc bk1.size _
                    have nk6 : Blk ((w5.drew.alloc (.cells #[] 23)).alloc (.cells #[Value.slice A7 zs.length c7] 23)) (w5.heap.size + 1) 23 #[Value.slice A7 zs.length c7] := by have h := blk_alloc (w5.drew.alloc (.cells #[] 23)) #[Value.slice A7 zs.length c7] 23; rwa [show (w5.drew.alloc (.cells #[] 23)).heap.size = w5.heap.size + 1 by simp] at h
                    have ek6 : ((w5.drew.alloc (.cells #[] 23)).alloc (.cells #[Value.slice A7 zs.length c7] 23)).ownsRow w5.heap.size 23 1 (.slice (some ⟨w5.heap.size, 0, none⟩) 0 0) 0 [] := World.ownsRow.alloc ek1 _
                    refine hK.out _ ((w5.drew.alloc (.cells #[] 23)).alloc (.cells #[Value.slice A7 zs.length c7] 23)) bk6 (fun hHeld => ?_)
                    clear hK K
                    try simp only [Act.put, List.setIfInBounds_toArray, List.set_cons_zero, List.set_cons_succ]
                    refine ready_one (i := 3) rfl (by kernel_rfl) (fun K hK => ?_)
                    obtain ⟨vk7, xk7, rnk7, rk7, grk7, -, -⟩ := run_append_own_at (P := Try.prog) _ w5.heap.size 37 37 23 i0 (.slice none 0 0) 1 24 Try.underlying37 hi hz0 hz1 hz2 rfl (by decide) _ 0 [] ek6 ⟨b, off, none⟩ 0 0 (us.drop 1) (by have := HDL.out; omega) (HNW.out _ bk6) HON.out (by unfold maxLen; omega) (by omega) bk6.size
                    refine step_append (s := .tmp 69) (x := .tmp 71) rfl rfl rnk7 ?_
                    have rk7 : xk7.ownsRow w5.heap.size 23 1 vk7 (us.drop 1).length (us.drop 1) := by have h := rk7; rw [Nat.zero_add, ← HDL.out, List.nil_append] at h; exact h
                    have bk7 : Below w5.heap.size w5 xk7 := bk6.grown grk7 bk6.size (fun g hg => (World.ownsRow.lt ek6 g hg).1)
                    have nk7 : Blk xk7 (w5.heap.size + 1) 23 #[Value.slice A7 zs.length c7] := nk6.more (grk7.block _ nk6.lt (fun e => by have h1 : w5.heap.size + 1 = w5.heap.size := Option.some.inj e; omega))
                    refine hK.out _ xk7 bk7 (fun hHeld => ?_)
                    clear hK K
                    try simp only [Act.put, List.setIfInBounds_toArray, List.set_cons_zero, List.set_cons_succ]
                    refine ready_one (i := 8) rfl (by kernel_rfl) (fun K hK => ?_)
                    obtain ⟨vk8, xk8, rnk8, rk8, grk8, -, -⟩ := run_append_own_at (P := Try.prog) _ w5.heap.size 37 37 23 i0 (.slice none 0 0) 1 24 Try.underlying37 hi hz0 hz1 hz2 rfl (by decide) _ (us.drop 1).length (us.drop 1) rk7 ⟨w5.heap.size + 1, 0, none⟩ 1 1 [Value.slice A7 zs.length c7] rfl (vone12 nk7) HO1.out (by have := HDL.out; unfold maxLen; omega) (by have := HDL.out; omega) bk7.size
                    refine step_append (s := .tmp 72) (x := .tmp 76) rfl rfl rnk8 ?_
                    have bk8 : Below w5.heap.size w5 xk8 := bk7.grown grk8 bk7.size (fun g hg => (World.ownsRow.lt rk7 g hg).1)
                    have qk8 : VOwn xk8 w5.heap.size vk8 (us.drop 1 ++ us.take 1) := by rw [HT1.out]; unfold VOwn; rw [List.length_append]; exact rk8
                    refine hK.out _ xk8 bk8 (fun hHeld => ?_)
                    clear hK K
                    try simp only [Act.put, List.setIfInBounds_toArray, List.set_cons_zero, List.set_cons_succ]
                    refine take_in (i := 9) (v := ?_) rfl (by kernel_rfl) (fun _ _ _ h => h) rfl ?_ hHeld ?_
                    rotate_left
                    · intro w hSw; go_simp; all_goals with_reducible rfl
                    try simp only [Act.put, List.setIfInBounds_toArray, List.set_cons_zero, List.set_cons_succ]
                    refine wpAnyH_done (by kernel_rfl) ?_ _
                    go_wp2
                    go_meet
                    exact ⟨qk8, bk8⟩
                · go_simp
                  have bk9 : Below w5.heap.size w5 (w5.drew.alloc (.cells #[Value.slice A7 zs.length c7] 23)) := hb0.alloc hb0.size _
                  have nk9 : Blk (w5.drew.alloc (.cells #[Value.slice A7 zs.length c7] 23)) (w5.heap.size) 23 #[Value.slice A7 zs.length c7] := by have h := blk_alloc w5.drew #[Value.slice A7 zs.length c7] 23; rwa [show w5.drew.heap.size = w5.heap.size by simp] at h
                  refine hK.out _ (w5.drew.alloc (.cells #[Value.slice A7 zs.length c7] 23)) bk9 (fun hHeld => ?_)
                  clear hK K
                  try simp only [Act.put, List.setIfInBounds_toArray, List.set_cons_zero, List.set_cons_succ]
                  refine ready_one (i := 0) rfl (by kernel_rfl) (fun K hK => ?_)
                  go_simp
                  have ek10 : ((w5.drew.alloc (.cells #[Value.slice A7 zs.length c7] 23)).alloc (.cells #[] 23)).ownsRow w5.heap.size 23 1 (.slice (some ⟨w5.heap.size + 1, 0, none⟩) 0 0) 0 [] := by have h := vempty12 (w5.drew.alloc (.cells #[Value.slice A7 zs.length c7] 23)) _ bk9.size; rwa [show (w5.drew.alloc (.cells #[Value.slice A7 zs.length c7] 23)).heap.size = w5.heap.size + 1 by simp] at h
                  have bk10 : Below w5.heap.size w5 ((w5.drew.alloc (.cells #[Value.slice A7 zs.length c7] 23)).alloc (.cells #[] 23)) := bk9.alloc bk9.size _
                  have nk10 : Blk ((w5.drew.alloc (.cells #[Value.slice A7 zs.length c7] 23)).alloc (.cells #[] 23)) (w5.heap.size) 23 #[Value.slice A7 zs.length c7] := nk9.alloc _
                  refine hK.out _ ((w5.drew.alloc (.cells #[Value.slice A7 zs.length c7] 23)).alloc (.cells #[] 23)) bk10 (fun hHeld => ?_)
                  clear hK K
                  try simp only [Act.put, List.setIfInBounds_toArray, List.set_cons_zero, List.set_cons_succ]
                  refine ready_one (i := 3) rfl (by kernel_rfl) (fun K hK => ?_)
                  obtain ⟨vk11, xk11, rnk11, rk11, grk11, -, -⟩ := run_append_own_at (P := Try.prog) _ w5.heap.size 37 37 23 i0 (.slice none 0 0) 1 24 Try.underlying37 hi hz0 hz1 hz2 rfl (by decide) _ 0 [] ek10 ⟨b, off, none⟩ 0 0 (us.drop 1) (by have := HDL.out; omega) (HNW.out _ bk10) HON.out (by unfold maxLen; omega) (by omega) bk10.size
                  refine step_append (s := .tmp 69) (x := .tmp 71) rfl rfl rnk11 ?_
                  have rk11 : xk11.ownsRow w5.heap.size 23 1 vk11 (us.drop 1).length (us.drop 1) := by have h := rk11; rw [Nat.zero_add, ← HDL.out, List.nil_append] at h; exact h
                  have bk11 : Below w5.heap.size w5 xk11 := bk10.grown grk11 bk10.size (fun g hg => (World.ownsRow.lt ek10 g hg).1)
                  have nk11 : Blk xk11 (w5.heap.size) 23 #[Value.slice A7 zs.length c7] := nk10.more (grk11.block _ nk10.lt (fun e => by have h1 : w5.heap.size = w5.heap.size + 1 := Option.some.inj e; omega))
                  refine hK.out _ xk11 bk11 (fun hHeld => ?_)
                  clear hK K
                  try simp only [Act.put, List.setIfInBounds_toArray, List.set_cons_zero, List.set_cons_succ]
                  refine ready_one (i := 8) rfl (by kernel_rfl) (fun K hK => ?_)
                  obtain ⟨vk12, xk12, rnk12, rk12, grk12, -, -⟩ := run_append_own_at (P := Try.prog) _ w5.heap.size 37 37 23 i0 (.slice none 0 0) 1 24 Try.underlying37 hi hz0 hz1 hz2 rfl (by decide) _ (us.drop 1).length (us.drop 1) rk11 ⟨w5.heap.size, 0, none⟩ 1 1 [Value.slice A7 zs.length c7] rfl (vone12 nk11) HO1.out (by have := HDL.out; unfold maxLen; omega) (by have := HDL.out; omega) bk11.size
                  refine step_append (s := .tmp 72) (x := .tmp 76) rfl rfl rnk12 ?_
                  have bk12 : Below w5.heap.size w5 xk12 := bk11.grown grk12 bk11.size (fun g hg => (World.ownsRow.lt rk11 g hg).1)
                  have qk12 : VOwn xk12 w5.heap.size vk12 (us.drop 1 ++ us.take 1) := by rw [HT1.out]; unfold VOwn; rw [List.length_append]; exact rk12
                  refine hK.out _ xk12 bk12 (fun hHeld => ?_)
                  clear hK K
                  try simp only [Act.put, List.setIfInBounds_toArray, List.set_cons_zero, List.set_cons_succ]
                  refine take_in (i := 9) (v := ?_) rfl (by kernel_rfl) (fun _ _ _ h => h) rfl ?_ hHeld ?_
                  rotate_left
                  · intro w hSw; go_simp; all_goals with_reducible rfl
                  try simp only [Act.put, List.setIfInBounds_toArray, List.set_cons_zero, List.set_cons_succ]
                  refine wpAnyH_done (by kernel_rfl) ?_ _
                  go_wp2
                  go_meet
                  exact ⟨qk12, bk12⟩
              · obtain ⟨M, hM0⟩ : ∃ M, rs.length = 1 + M := ⟨rs.length - 1, by omega⟩
                have HDL : Hid ((us.drop 1).length = rs.length - 1) := Lib.hid (by rw [List.length_drop, HUL.out])
                have HNW : Hid (∀ X, Below w5.heap.size w5 X → ∀ j x, (us.drop 1)[j]? = some x → X.cell? ((⟨b, off + 1, none⟩ : Addr).add j) = some x) := Lib.hid (fun X h j x hj => vnews12 ((HG.out.keep (SameAt.of_below h)).drop12 hM0) j x hj)
                have hM6 : M ≤ 6 := by omega
                have h1c : 1 ≤ c2 := by omega
                have h1c' : (1 : Int) ≤ (c2 : Int) := by omega
                have h1n : (1 : Int) ≤ (rs.length : Int) := by omega
                have HSUB : Hid (rs.length - 1 = M) := Lib.hid (by omega)
                have hc1' : ¬ ((c2 : Int) = 1) := by omega
                clear hM0
                have hb0 : Below w5.heap.size w5 w5.drew := (Below.refl _ _).drew
                refine wp_region_held_drew (S := fun w' => Below w5.heap.size w5 w') (by kernel_rfl) hb0 (fun hHeld => ?_)
                refine take_in (i := 1) (v := ?_) rfl (by kernel_rfl) (fun _ _ _ h => h) rfl ?_ hHeld ?_
                rotate_left
                · intro w hSw; go_simp; all_goals with_reducible rfl
                try simp only [Act.put, List.setIfInBounds_toArray, List.set_cons_zero, List.set_cons_succ]
                refine take_in (i := 2) (v := ?_) rfl (by kernel_rfl) (fun _ _ _ h => h) rfl ?_ hHeld ?_
                rotate_left
                · intro w hSw; go_simp; all_goals with_reducible rfl
                try simp only [Act.put, List.setIfInBounds_toArray, List.set_cons_zero, List.set_cons_succ]
                refine take_in (i := 4) (v := ?_) rfl (by kernel_rfl) (fun _ _ _ h => h) rfl ?_ hHeld ?_
                rotate_left
                · intro w hSw; go_simp; all_goals with_reducible rfl
                try simp only [Act.put, List.setIfInBounds_toArray, List.set_cons_zero, List.set_cons_succ]
                refine take_in (i := 5) (v := ?_) rfl (by kernel_rfl) (fun _ _ _ h => h) rfl ?_ hHeld ?_
                rotate_left
                · intro w hSw; go_simp; all_goals with_reducible rfl
                try simp only [Act.put, List.setIfInBounds_toArray, List.set_cons_zero, List.set_cons_succ]
                refine take_in (i := 6) (v := ?_) rfl (by kernel_rfl) (fun _ _ _ h => h) rfl ?_ hHeld ?_
                rotate_left
                · intro w hSw; have d0 := HC0.out w hSw; go_simp; all_goals with_reducible rfl
                try simp only [Act.put, List.setIfInBounds_toArray, List.set_cons_zero, List.set_cons_succ]
                refine ready_two (i := 0) (j := 7) rfl rfl (by kernel_rfl) (fun K hK => ?_) (fun K hK => ?_)
                · go_simp
                  have ek13 : (w5.drew.alloc (.cells #[] 23)).ownsRow w5.heap.size 23 1 (.slice (some ⟨w5.heap.size, 0, none⟩) 0 0) 0 [] := by have h := vempty12 w5.drew _ hb0.size; rwa [show w5.drew.heap.size = w5.heap.size by simp] at h
                  have bk13 : Below w5.heap.size w5 (w5.drew.alloc (.cells #[] 23)) := hb0.alloc hb0.size _
                  refine hK.out _ (w5.drew.alloc (.cells #[] 23)) bk13 (fun hHeld => ?_)
                  clear hK K
                  try simp only [Act.put, List.setIfInBounds_toArray, List.set_cons_zero, List.set_cons_succ]
                  refine ready_two (i := 3) (j := 7) rfl rfl (by kernel_rfl) (fun K hK => ?_) (fun K hK => ?_)
                  · obtain ⟨vk14, xk14, rnk14, rk14, grk14, -, -⟩ := run_append_own_at (P := Try.prog) _ w5.heap.size 37 37 23 i0 (.slice none 0 0) 1 24 Try.underlying37 hi hz0 hz1 hz2 rfl (by decide) _ 0 [] ek13 ⟨b, off + 1, none⟩ (rs.length - 1) (c2 - 1) (us.drop 1) (by have := HDL.out; omega) (HNW.out _ bk13) HON.out (by unfold maxLen; omega) (by omega) bk13.size
                    refine step_append (s := .tmp 69) (x := .tmp 71) rfl rfl rnk14 ?_
                    have rk14 : xk14.ownsRow w5.heap.size 23 1 vk14 (us.drop 1).length (us.drop 1) := by have h := rk14; rw [Nat.zero_add, ← HDL.out, List.nil_append] at h; exact h
                    have bk14 : Below w5.heap.size w5 xk14 := bk13.grown grk14 bk13.size (fun g hg => (World.ownsRow.lt ek13 g hg).1)
                    refine hK.out _ xk14 bk14 (fun hHeld => ?_)
                    clear hK K
                    try simp only [Act.put, List.setIfInBounds_toArray, List.set_cons_zero, List.set_cons_succ]
                    refine ready_one (i := 7) rfl (by kernel_rfl) (fun K hK => ?_)
                    go_simp
                    have bk15 : Below w5.heap.size w5 (xk14.alloc (.cells #[Value.slice A7 zs.length c7] 23)) := bk14.alloc bk14.size _
                    have nk15 : Blk (xk14.alloc (.cells #[Value.slice A7 zs.length c7] 23)) (xk14.heap.size) 23 #[Value.slice A7 zs.length c7] := by have h := blk_alloc xk14 #[Value.slice A7 zs.length c7] 23; rwa [show xk14.heap.size = xk14.heap.size by simp] at h
                    have rk15 : (xk14.alloc (.cells #[Value.slice A7 zs.length c7] 23)).ownsRow w5.heap.size 23 1 vk14 (us.drop 1).length (us.drop 1) := World.ownsRow.alloc rk14 _
                    refine hK.out _ (xk14.alloc (.cells #[Value.slice A7 zs.length c7] 23)) bk15 (fun hHeld => ?_)
                    clear hK K
                    try simp only [Act.put, List.setIfInBounds_toArray, List.set_cons_zero, List.set_cons_succ]
                    refine ready_one (i := 8) rfl (by kernel_rfl) (fun K hK => ?_)
                    obtain ⟨vk16, xk16, rnk16, rk16, grk16, -, -⟩ := run_append_own_at (P := Try.prog) _ w5.heap.size 37 37 23 i0 (.slice none 0 0) 1 24 Try.underlying37 hi hz0 hz1 hz2 rfl (by decide) _ (us.drop 1).length (us.drop 1) rk15 ⟨xk14.heap.size, 0, none⟩ 1 1 [Value.slice A7 zs.length c7] rfl (vone12 nk15) HO1.out (by have := HDL.out; unfold maxLen; omega) (by have := HDL.out; omega) bk15.size
                    refine step_append (s := .tmp 72) (x := .tmp 76) rfl rfl rnk16 ?_
                    have bk16 : Below w5.heap.size w5 xk16 := bk15.grown grk16 bk15.size (fun g hg => (World.ownsRow.lt rk15 g hg).1)
                    have qk16 : VOwn xk16 w5.heap.size vk16 (us.drop 1 ++ us.take 1) := by rw [HT1.out]; unfold VOwn; rw [List.length_append]; exact rk16
                    refine hK.out _ xk16 bk16 (fun hHeld => ?_)
                    clear hK K
                    try simp only [Act.put, List.setIfInBounds_toArray, List.set_cons_zero, List.set_cons_succ]
                    refine take_in (i := 9) (v := ?_) rfl (by kernel_rfl) (fun _ _ _ h => h) rfl ?_ hHeld ?_
                    rotate_left
                    · intro w hSw; go_simp; all_goals with_reducible rfl
                    try simp only [Act.put, List.setIfInBounds_toArray, List.set_cons_zero, List.set_cons_succ]
                    refine wpAnyH_done (by kernel_rfl) ?_ _
                    go_wp2
                    go_meet
                    exact ⟨qk16, bk16⟩
                  · go_simp
                    have bk18 : Below w5.heap.size w5 ((w5.drew.alloc (.cells #[] 23)).alloc (.cells #[Value.slice A7 zs.length c7] 23)) := bk13.alloc bk13.size _
                    have nk18 : Blk ((w5.drew.alloc (.cells #[] 23)).alloc (.cells #[Value.slice A7 zs.length c7] 23)) (w5.heap.size + 1) 23 #[Value.slice A7 zs.length c7] := by have h := blk_alloc (w5.drew.alloc (.cells #[] 23)) #[Value.slice A7 zs.length c7] 23; rwa [show (w5.drew.alloc (.cells #[] 23)).heap.size = w5.heap.size + 1 by simp] at h
                    have ek18 : ((w5.drew.alloc (.cells #[] 23)).alloc (.cells #[Value.slice A7 zs.length c7] 23)).ownsRow w5.heap.size 23 1 (.slice (some ⟨w5.heap.size, 0, none⟩) 0 0) 0 [] := World.ownsRow.alloc ek13 _
                    refine hK.out _ ((w5.drew.alloc (.cells #[] 23)).alloc (.cells #[Value.slice A7 zs.length c7] 23)) bk18 (fun hHeld => ?_)
                    clear hK K
                    try simp only [Act.put, List.setIfInBounds_toArray, List.set_cons_zero, List.set_cons_succ]
                    refine ready_one (i := 3) rfl (by kernel_rfl) (fun K hK => ?_)
                    obtain ⟨vk19, xk19, rnk19, rk19, grk19, -, -⟩ := run_append_own_at (P := Try.prog) _ w5.heap.size 37 37 23 i0 (.slice none 0 0) 1 24 Try.underlying37 hi hz0 hz1 hz2 rfl (by decide) _ 0 [] ek18 ⟨b, off + 1, none⟩ (rs.length - 1) (c2 - 1) (us.drop 1) (by have := HDL.out; omega) (HNW.out _ bk18) HON.out (by unfold maxLen; omega) (by omega) bk18.size
                    refine step_append (s := .tmp 69) (x := .tmp 71) rfl rfl rnk19 ?_
                    have rk19 : xk19.ownsRow w5.heap.size 23 1 vk19 (us.drop 1).length (us.drop 1) := by have h := rk19; rw [Nat.zero_add, ← HDL.out, List.nil_append] at h; exact h
                    have bk19 : Below w5.heap.size w5 xk19 := bk18.grown grk19 bk18.size (fun g hg => (World.ownsRow.lt ek18 g hg).1)
                    have nk19 : Blk xk19 (w5.heap.size + 1) 23 #[Value.slice A7 zs.length c7] := nk18.more (grk19.block _ nk18.lt (fun e => by have h1 : w5.heap.size + 1 = w5.heap.size := Option.some.inj e; omega))
                    refine hK.out _ xk19 bk19 (fun hHeld => ?_)
                    clear hK K
                    try simp only [Act.put, List.setIfInBounds_toArray, List.set_cons_zero, List.set_cons_succ]
                    refine ready_one (i := 8) rfl (by kernel_rfl) (fun K hK => ?_)
                    obtain ⟨vk20, xk20, rnk20, rk20, grk20, -, -⟩ := run_append_own_at (P := Try.prog) _ w5.heap.size 37 37 23 i0 (.slice none 0 0) 1 24 Try.underlying37 hi hz0 hz1 hz2 rfl (by decide) _ (us.drop 1).length (us.drop 1) rk19 ⟨w5.heap.size + 1, 0, none⟩ 1 1 [Value.slice A7 zs.length c7] rfl (vone12 nk19) HO1.out (by have := HDL.out; unfold maxLen; omega) (by have := HDL.out; omega) bk19.size
                    refine step_append (s := .tmp 72) (x := .tmp 76) rfl rfl rnk20 ?_
                    have bk20 : Below w5.heap.size w5 xk20 := bk19.grown grk20 bk19.size (fun g hg => (World.ownsRow.lt rk19 g hg).1)
                    have qk20 : VOwn xk20 w5.heap.size vk20 (us.drop 1 ++ us.take 1) := by rw [HT1.out]; unfold VOwn; rw [List.length_append]; exact rk20
                    refine hK.out _ xk20 bk20 (fun hHeld => ?_)
                    clear hK K
                    try simp only [Act.put, List.setIfInBounds_toArray, List.set_cons_zero, List.set_cons_succ]
                    refine take_in (i := 9) (v := ?_) rfl (by kernel_rfl) (fun _ _ _ h => h) rfl ?_ hHeld ?_
                    rotate_left
                    · intro w hSw; go_simp; all_goals with_reducible rfl
                    try simp only [Act.put, List.setIfInBounds_toArray, List.set_cons_zero, List.set_cons_succ]
                    refine wpAnyH_done (by kernel_rfl) ?_ _
                    go_wp2
                    go_meet
                    exact ⟨qk20, bk20⟩
                · go_simp
                  have bk21 : Below w5.heap.size w5 (w5.drew.alloc (.cells #[Value.slice A7 zs.length c7] 23)) := hb0.alloc hb0.size _
                  have nk21 : Blk (w5.drew.alloc (.cells #[Value.slice A7 zs.length c7] 23)) (w5.heap.size) 23 #[Value.slice A7 zs.length c7] := by have h := blk_alloc w5.drew #[Value.slice A7 zs.length c7] 23; rwa [show w5.drew.heap.size = w5.heap.size by simp] at h
                  refine hK.out _ (w5.drew.alloc (.cells #[Value.slice A7 zs.length c7] 23)) bk21 (fun hHeld => ?_)
                  clear hK K
                  try simp only [Act.put, List.setIfInBounds_toArray, List.set_cons_zero, List.set_cons_succ]
                  refine ready_one (i := 0) rfl (by kernel_rfl) (fun K hK => ?_)
                  go_simp
                  have ek22 : ((w5.drew.alloc (.cells #[Value.slice A7 zs.length c7] 23)).alloc (.cells #[] 23)).ownsRow w5.heap.size 23 1 (.slice (some ⟨w5.heap.size + 1, 0, none⟩) 0 0) 0 [] := by have h := vempty12 (w5.drew.alloc (.cells #[Value.slice A7 zs.length c7] 23)) _ bk21.size; rwa [show (w5.drew.alloc (.cells #[Value.slice A7 zs.length c7] 23)).heap.size = w5.heap.size + 1 by simp] at h
                  have bk22 : Below w5.heap.size w5 ((w5.drew.alloc (.cells #[Value.slice A7 zs.length c7] 23)).alloc (.cells #[] 23)) := bk21.alloc bk21.size _
                  have nk22 : Blk ((w5.drew.alloc (.cells #[Value.slice A7 zs.length c7] 23)).alloc (.cells #[] 23)) (w5.heap.size) 23 #[Value.slice A7 zs.length c7] := nk21.alloc _
                  refine hK.out _ ((w5.drew.alloc (.cells #[Value.slice A7 zs.length c7] 23)).alloc (.cells #[] 23)) bk22 (fun hHeld => ?_)
                  clear hK K
                  try simp only [Act.put, List.setIfInBounds_toArray, List.set_cons_zero, List.set_cons_succ]
                  refine ready_one (i := 3) rfl (by kernel_rfl) (fun K hK => ?_)
                  obtain ⟨vk23, xk23, rnk23, rk23, grk23, -, -⟩ := run_append_own_at (P := Try.prog) _ w5.heap.size 37 37 23 i0 (.slice none 0 0) 1 24 Try.underlying37 hi hz0 hz1 hz2 rfl (by decide) _ 0 [] ek22 ⟨b, off + 1, none⟩ (rs.length - 1) (c2 - 1) (us.drop 1) (by have := HDL.out; omega) (HNW.out _ bk22) HON.out (by unfold maxLen; omega) (by omega) bk22.size
                  refine step_append (s := .tmp 69) (x := .tmp 71) rfl rfl rnk23 ?_
                  have rk23 : xk23.ownsRow w5.heap.size 23 1 vk23 (us.drop 1).length (us.drop 1) := by have h := rk23; rw [Nat.zero_add, ← HDL.out, List.nil_append] at h; exact h
                  have bk23 : Below w5.heap.size w5 xk23 := bk22.grown grk23 bk22.size (fun g hg => (World.ownsRow.lt ek22 g hg).1)
                  have nk23 : Blk xk23 (w5.heap.size) 23 #[Value.slice A7 zs.length c7] := nk22.more (grk23.block _ nk22.lt (fun e => by have h1 : w5.heap.size = w5.heap.size + 1 := Option.some.inj e; omega))
                  refine hK.out _ xk23 bk23 (fun hHeld => ?_)
                  clear hK K
                  try simp only [Act.put, List.setIfInBounds_toArray, List.set_cons_zero, List.set_cons_succ]
                  refine ready_one (i := 8) rfl (by kernel_rfl) (fun K hK => ?_)
                  obtain ⟨vk24, xk24, rnk24, rk24, grk24, -, -⟩ := run_append_own_at (P := Try.prog) _ w5.heap.size 37 37 23 i0 (.slice none 0 0) 1 24 Try.underlying37 hi hz0 hz1 hz2 rfl (by decide) _ (us.drop 1).length (us.drop 1) rk23 ⟨w5.heap.size, 0, none⟩ 1 1 [Value.slice A7 zs.length c7] rfl (vone12 nk23) HO1.out (by have := HDL.out; unfold maxLen; omega) (by have := HDL.out; omega) bk23.size
                  refine step_append (s := .tmp 72) (x := .tmp 76) rfl rfl rnk24 ?_
                  have bk24 : Below w5.heap.size w5 xk24 := bk23.grown grk24 bk23.size (fun g hg => (World.ownsRow.lt rk23 g hg).1)
                  have qk24 : VOwn xk24 w5.heap.size vk24 (us.drop 1 ++ us.take 1) := by rw [HT1.out]; unfold VOwn; rw [List.length_append]; exact rk24
                  refine hK.out _ xk24 bk24 (fun hHeld => ?_)
                  clear hK K
                  try simp only [Act.put, List.setIfInBounds_toArray, List.set_cons_zero, List.set_cons_succ]
                  refine take_in (i := 9) (v := ?_) rfl (by kernel_rfl) (fun _ _ _ h => h) rfl ?_ hHeld ?_
                  rotate_left
                  · intro w hSw; go_simp; all_goals with_reducible rfl
                  try simp only [Act.put, List.setIfInBounds_toArray, List.set_cons_zero, List.set_cons_succ]
                  refine wpAnyH_done (by kernel_rfl) ?_ _
                  go_wp2
                  go_meet
                  exact ⟨qk24, bk24⟩
            case rest =>
              obtain ⟨oq, bq⟩ := hcut
              have C6 := Lib.hid (below_step C5.out bq C5.out.size)
              have L6 := Lib.hid (below_step L5.out bq L5.out.size)
              have S6 := Lib.hid bq
              have HLT := Lib.hid (show SRd wc _ (rs.drop 1 ++ rs.take 1) from ⟨us.drop 1 ++ us.take 1, by simp only [List.length_append, List.length_drop, List.length_take, HUL.out], oq.grd, rot_read HUL.out (HU.out wc C6.out).2.2⟩)
              clear oq bq
              go_wp2_with fail
              refine (implLearnedAll_any wc _ _ xs (rs.drop 1 ++ rs.take 1) (HV.out wc C6.out) HLT.out).mono ?_
              rintro e w7 ⟨vb, rfl, ovb, b7⟩
              rw [HRO.out.1]
              rw [HRO.out.2] at ovb
              have C7 := Lib.hid (below_step C6.out b7 C6.out.size)
              have L7 := Lib.hid (below_step L6.out b7 L6.out.size)
              have M7 := Lib.hid (below_step S6.out b7 S6.out.size)
              obtain ⟨Avb, cvb, rfl⟩ := ird_form12 ovb.rd rfl
              have Hvb := Lib.hid (fun wr (hb : Below w7.heap.size w7 wr) => ovb.rd.keep (SameAt.of_below hb))
              clear ovb b7
              go_wp2_with fail
              refine (sameInts_any w7 _ _ _ _ (Hva.out w7 M7.out) (Hvx.out w7 L7.out)).mono ?_
              rintro e w8 ⟨q8, rfl, hw8⟩
              rw [decide_self]
              have S8 : Hid (Below w7.heap.size w7 w8) := Lib.hid (by rw [hw8]; exact below_drewN (Below.refl _ _) q8)
              have C8 := Lib.hid (below_step C7.out S8.out C7.out.size)
              clear hw8
              have L8 := Lib.hid (below_step L7.out S8.out L7.out.size)
              go_wp2_with fail
              refine (sameInts_any w8 _ _ _ _ (Hvb.out w8 S8.out) (Hvx.out w8 L8.out)).mono ?_
              rintro e w9 ⟨q9, rfl, hw9⟩
              rw [decide_self]
              have S9 : Hid (Below w8.heap.size w8 w9) := Lib.hid (by rw [hw9]; exact below_drewN (Below.refl _ _) q9)
              have C9 := Lib.hid (below_step C8.out S9.out C8.out.size)
              clear hw9
              go_wp2_with fail
              refine (alive_any _).mono ?_
              rintro e w' ⟨rfl, rfl⟩
              go_wp2_with fail
              go_ret
              exact ⟨rfl, below_step HB1.out C9.out HB1.out.size⟩
    · have hy : laR xs rs = [] := by rw [laR, h]; rfl
      have HB := Lib.hid h
      have HR := Lib.hid hy
      have HRV : Hid (laB xs rs.reverse = false ∧ laR xs rs.reverse = []) := Lib.hid ⟨v1.trans h, v2.trans hy⟩
      have HRO : Hid (laB xs (rs.drop 1 ++ rs.take 1) = false ∧ laR xs (rs.drop 1 ++ rs.take 1) = []) := Lib.hid ⟨v3.trans h, v4.trans hy⟩
      clear h hy v1 v2 v3 v4 hur ord B1 w0
      go_wp2_with fail
      refine (implLearnedAll_any w1 _ _ xs rs (HV.out w1 C1.out) (HU.out w1 C1.out).srd).mono ?_
      rintro e w2 ⟨vx, rfl, ovx, b2⟩
      rw [HB.out]
      rw [HR.out] at ovx
      have C2 := Lib.hid (below_step C1.out b2 C1.out.size)
      have S2 := Lib.hid b2
      obtain ⟨Avx, cvx, rfl⟩ := ird_form12 ovx.rd (n := 0) rfl
      have Hvx := Lib.hid (fun wr (hb : Below w2.heap.size w2 wr) => ovx.rd.keep (SameAt.of_below hb))
      clear ovx b2
      go_wp2_with fail
      refine (specLearnedAll_any w2 _ _ xs rs (HV.out w2 C2.out) (HU.out w2 C2.out).srd).mono ?_
      rintro e w3 ⟨vs, rfl, ovs, b3⟩
      rw [HB.out]
      rw [HR.out] at ovs
      have C3 := Lib.hid (below_step C2.out b3 C2.out.size)
      have S3 := Lib.hid b3
      obtain ⟨Avs, cvs, rfl⟩ := ird_form12 ovs.rd (n := 0) rfl
      have Hvs := Lib.hid (fun wr (hb : Below w3.heap.size w3 wr) => ovs.rd.keep (SameAt.of_below hb))
      clear ovs b3
      go_wp2_with fail
      refine (sameInts_any w3 _ _ _ _ (Hvx.out w3 S3.out) (Hvs.out w3 (Below.refl _ _))).mono ?_
      rintro e w4 ⟨q4, rfl, hw4⟩
      rw [decide_self]
      have S4 : Hid (Below w3.heap.size w3 w4) := Lib.hid (by rw [hw4]; exact below_drewN (Below.refl _ _) q4)
      have C4 := Lib.hid (below_step C3.out S4.out C3.out.size)
      clear hw4
      have D4 := Lib.hid (below_step S3.out S4.out S3.out.size)
      clear S2 S3 S4 Hvs
      have H0 : Hid (BackRel w4 us 0 (.slice (some ⟨w4.heap.size, 0, none⟩) 0 0) (w4.alloc (.cells #[] 23))) := Lib.hid (back_start w4 us)
      go_wp2_with fail
      go_loopw [9, 10] (fun p i wr => ∃ k : Nat, i = .int .i64 (k : Int) ∧ k ≤ rs.length ∧ Hid (BackRel w4 us k p wr)) (fun _ i _ => rs.length - (intOf i).toNat)
      case atStart => exact ⟨0, rfl, Nat.zero_le _, H0⟩
      case round =>
        obtain ⟨k, rfl, hk, HF⟩ := hrel
        obtain ⟨g0, c0, rfl⟩ := HF.out.2.2
        clear H0
        have hk6 : k ≤ 6 := by omega
        have K4 := Lib.hid (below_step C4.out HF.out.2.1 C4.out.size)
        by_cases hlt : k < rs.length
        · have hlt' : (k : Int) < (rs.length : Int) := by omega
          have hk0 : (0 : Int) ≤ (k : Int) := by omega
          obtain ⟨b, off, ux, rfl, -, hux, hcx⟩ := (HU.out wr K4.out).2.1.at_ hlt
          obtain ⟨zs, hzs⟩ : ∃ zs, rs[k]? = some zs := ⟨_, List.getElem?_eq_getElem hlt⟩
          obtain ⟨A7, c7, rfl, -, -, -⟩ := id ((HU.out wr K4.out).2.2 k ux zs hux hzs)
          have hcell : wr.cell? ⟨b, off + k, none⟩ = some (.slice A7 zs.length c7) := by have := hcx 0 _ rfl; rwa [Nat.mul_one, Nat.add_zero] at this
          have HUX := Lib.hid hux
          have hlk : Hid ((us.take k).reverse.length = k) := Lib.hid (by rw [List.length_reverse, List.length_take]; have := HUL.out; omega)
          have HON : Hid (∀ y ∈ (us.take k).reverse, y.oneCell' = true) := Lib.hid (fun y hy => (HU.out wr K4.out).one y (List.mem_of_mem_take (List.mem_reverse.1 hy)))
          clear hux hzs hcx
          go_wp2_with (at_builtin; refine wp_app_back rfl _ _ rfl wr w4.heap.size _ _ k _ (us.take k).reverse hlk.out (by rfl) (by rfl) HF.out.1 (by omega) HF.out.2.1.size HON.out ?_)
          intro g c2 w' hown' hbel'
          have HL := Lib.hid (HF.out.step HUX.out hown' hbel')
          clear hown' hbel' HF hlk HON
          go_wp2_with fail
          go_roundw
          case rel => exact ⟨k + 1, by go_num, by omega, HL⟩
          case measure => simp [intOf]; omega
        · obtain rfl : k = rs.length := by omega
          have hlt' : decide ((rs.length : Int) < (rs.length : Int)) = false := by simp
          have L4 := Lib.hid (below_step D4.out HF.out.2.1 D4.out.size)
          have HBK : Hid (SRd wr (.slice (some ⟨g0, 0, none⟩) rs.length c0) rs.reverse) := Lib.hid (by
            have h := HF.out.1
            rw [← HUL.out, List.take_length, HUL.out] at h
            exact ⟨us.reverse, by rw [List.length_reverse, List.length_reverse, HUL.out], h.grd, rev_read HUL.out (HU.out wr K4.out).2.2⟩)
          clear HF hk hk6
          go_wp2_with fail
          refine (implLearnedAll_any wr _ _ xs rs.reverse (HV.out wr K4.out) HBK.out).mono ?_
          rintro e w5 ⟨va, rfl, ova, b5⟩
          rw [HRV.out.1]
          rw [HRV.out.2] at ova
          have C5 := Lib.hid (below_step K4.out b5 K4.out.size)
          have L5 := Lib.hid (below_step L4.out b5 L4.out.size)
          obtain ⟨Ava, cva, rfl⟩ := ird_form12 ova.rd (n := 0) rfl
          have Hva := Lib.hid (fun wr (hb : Below w5.heap.size w5 wr) => ova.rd.keep (SameAt.of_below hb))
          clear ova b5 HBK
          rcases Nat.eq_zero_or_pos rs.length with hz | hz
          · obtain rfl : rs = [] := List.eq_nil_of_length_eq_zero hz
            simp only [List.length_nil]
            clear hz hlt hlt'
            go_wp2_with fail
            refine (implLearnedAll_any w5 _ _ xs [] (HV.out w5 C5.out) (HU.out w5 C5.out).srd).mono ?_
            rintro e w7 ⟨vb, rfl, ovb, b7⟩
            rw [HB.out]
            rw [HR.out] at ovb
            have C7 := Lib.hid (below_step C5.out b7 C5.out.size)
            have L7 := Lib.hid (below_step L5.out b7 L5.out.size)
            have M7 := Lib.hid b7
            obtain ⟨Avb, cvb, rfl⟩ := ird_form12 ovb.rd (n := 0) rfl
            have Hvb := Lib.hid (fun wr (hb : Below w7.heap.size w7 wr) => ovb.rd.keep (SameAt.of_below hb))
            clear ovb b7
            go_wp2_with fail
            refine (sameInts_any w7 _ _ _ _ (Hva.out w7 M7.out) (Hvx.out w7 L7.out)).mono ?_
            rintro e w8 ⟨q8, rfl, hw8⟩
            rw [decide_self]
            have S8 : Hid (Below w7.heap.size w7 w8) := Lib.hid (by rw [hw8]; exact below_drewN (Below.refl _ _) q8)
            have C8 := Lib.hid (below_step C7.out S8.out C7.out.size)
            clear hw8
            have L8 := Lib.hid (below_step L7.out S8.out L7.out.size)
            go_wp2_with fail
            refine (sameInts_any w8 _ _ _ _ (Hvb.out w8 S8.out) (Hvx.out w8 L8.out)).mono ?_
            rintro e w9 ⟨q9, rfl, hw9⟩
            rw [decide_self]
            have S9 : Hid (Below w8.heap.size w8 w9) := Lib.hid (by rw [hw9]; exact below_drewN (Below.refl _ _) q9)
            have C9 := Lib.hid (below_step C8.out S9.out C8.out.size)
            clear hw9
            go_wp2_with fail
            refine (alive_any _).mono ?_
            rintro e w' ⟨rfl, rfl⟩
            go_wp2_with fail
            go_ret
            exact ⟨rfl, below_step HB1.out C9.out HB1.out.size⟩
          · have hzi : (0 : Int) < (rs.length : Int) := by omega
            go_upto_region 16 with fail
            go_cut [13] (fun s13 wx => VOwn wx w5.heap.size s13 (us.drop 1 ++ us.take 1) ∧ Below w5.heap.size w5 wx)
            case first =>
              obtain ⟨b, off, u0, rfl, hbb, hu0, hcx⟩ := (HU.out w5 C5.out).2.1.at_ hz
              obtain ⟨zs, hzs⟩ : ∃ zs, rs[0]? = some zs := ⟨_, List.getElem?_eq_getElem hz⟩
              obtain ⟨A7, c7, rfl, -, -, -⟩ := id ((HU.out w5 C5.out).2.2 0 u0 zs hu0 hzs)
              have HC0 : Hid (∀ w', Below w5.heap.size w5 w' → w'.cell? ⟨b, off, none⟩ = some (Value.slice A7 zs.length c7)) := Lib.hid (fun w' h => (h.cell (p := ⟨b, off, none⟩) hbb).trans (hcx 0 _ rfl))
              have HO1 : Hid (∀ x ∈ [Value.slice A7 zs.length c7], x.oneCell' = true) := Lib.hid (fun x hx => by rw [List.mem_singleton] at hx; subst hx; rfl)
              have HON : Hid (∀ x ∈ us.drop 1, x.oneCell' = true) := Lib.hid (fun x hx => (HU.out w5 C5.out).one x (List.mem_of_mem_drop hx))
              have HT1 : Hid (us.take 1 = [Value.slice A7 zs.length c7]) := Lib.hid (by rw [List.take_add_one, hu0]; simp)
              have HG : Hid (GRd 1 sV w5 (.slice (some ⟨b, off, none⟩) rs.length c2) us) := Lib.hid (HU.out w5 C5.out).2.1
              have HRL := Lib.hid hz
              clear hu0 hcx hzs
              obtain ⟨i0, hi, hz0, hz1, hz2⟩ := info_parts Try_rowinfo
              by_cases hc1 : c2 = 1
              · have hl1 : rs.length = 1 := by omega
                have HLL := Lib.hid hl1
                have HDN : Hid (us.drop 1 = []) := Lib.hid (List.drop_eq_nil_of_le (by rw [HUL.out]; omega))
                have HDL : Hid ((us.drop 1).length = 0) := Lib.hid (by rw [HDN.out]; rfl)
                have HNW : Hid (∀ X, Below w5.heap.size w5 X → ∀ j x, (us.drop 1)[j]? = some x → X.cell? ((⟨b, off, none⟩ : Addr).add j) = some x) := Lib.hid (fun X _ j x hj => by rw [HDN.out] at hj; simp at hj)
                have h1n : (1 : Int) ≤ (rs.length : Int) := by omega
                subst hc1
                clear hl1
                have hb0 : Below w5.heap.size w5 w5.drew := (Below.refl _ _).drew
                refine wp_region_held_drew (S := fun w' => Below w5.heap.size w5 w') (by kernel_rfl) hb0 (fun hHeld => ?_)
                refine take_in (i := 1) (v := ?_) rfl (by kernel_rfl) (fun _ _ _ h => h) rfl ?_ hHeld ?_
                rotate_left
                · intro w hSw; go_simp; all_goals with_reducible rfl
                try simp only [Act.put, List.setIfInBounds_toArray, List.set_cons_zero, List.set_cons_succ]
                refine take_in (i := 2) (v := ?_) rfl (by kernel_rfl) (fun _ _ _ h => h) rfl ?_ hHeld ?_
                rotate_left
                · intro w hSw; go_simp; all_goals with_reducible rfl
                try simp only [Act.put, List.setIfInBounds_toArray, List.set_cons_zero, List.set_cons_succ]
                refine take_in (i := 4) (v := ?_) rfl (by kernel_rfl) (fun _ _ _ h => h) rfl ?_ hHeld ?_
                rotate_left
                · intro w hSw; go_simp; all_goals with_reducible rfl
                try simp only [Act.put, List.setIfInBounds_toArray, List.set_cons_zero, List.set_cons_succ]
                refine take_in (i := 5) (v := ?_) rfl (by kernel_rfl) (fun _ _ _ h => h) rfl ?_ hHeld ?_
                rotate_left
                · intro w hSw; go_simp; all_goals with_reducible rfl
                try simp only [Act.put, List.setIfInBounds_toArray, List.set_cons_zero, List.set_cons_succ]
                refine take_in (i := 6) (v := ?_) rfl (by kernel_rfl) (fun _ _ _ h => h) rfl ?_ hHeld ?_
                rotate_left
                · intro w hSw; have d0 := HC0.out w hSw; go_simp; all_goals with_reducible rfl
                try simp only [Act.put, List.setIfInBounds_toArray, List.set_cons_zero, List.set_cons_succ]
                refine ready_two (i := 0) (j := 7) rfl rfl (by kernel_rfl) (fun K hK => ?_) (fun K hK => ?_)
                · go_simp
                  have ek25 : (w5.drew.alloc (.cells #[] 23)).ownsRow w5.heap.size 23 1 (.slice (some ⟨w5.heap.size, 0, none⟩) 0 0) 0 [] := by have h := vempty12 w5.drew _ hb0.size; rwa [show w5.drew.heap.size = w5.heap.size by simp] at h
                  have bk25 : Below w5.heap.size w5 (w5.drew.alloc (.cells #[] 23)) := hb0.alloc hb0.size _
                  refine hK.out _ (w5.drew.alloc (.cells #[] 23)) bk25 (fun hHeld => ?_)
                  clear hK K
                  try simp only [Act.put, List.setIfInBounds_toArray, List.set_cons_zero, List.set_cons_succ]
                  refine ready_two (i := 3) (j := 7) rfl rfl (by kernel_rfl) (fun K hK => ?_) (fun K hK => ?_)
                  · obtain ⟨vk26, xk26, rnk26, rk26, grk26, -, -⟩ := run_append_own_at (P := Try.prog) _ w5.heap.size 37 37 23 i0 (.slice none 0 0) 1 24 Try.underlying37 hi hz0 hz1 hz2 rfl (by decide) _ 0 [] ek25 ⟨b, off, none⟩ 0 0 (us.drop 1) (by have := HDL.out; omega) (HNW.out _ bk25) HON.out (by unfold maxLen; omega) (by omega) bk25.size
                    refine step_append (s := .tmp 69) (x := .tmp 71) rfl rfl rnk26 ?_
                    have rk26 : xk26.ownsRow w5.heap.size 23 1 vk26 (us.drop 1).length (us.drop 1) := by have h := rk26; rw [Nat.zero_add, ← HDL.out, List.nil_append] at h; exact h
                    have bk26 : Below w5.heap.size w5 xk26 := bk25.grown grk26 bk25.size (fun g hg => (World.ownsRow.lt ek25 g hg).1)
                    refine hK.out _ xk26 bk26 (fun hHeld => ?_)
                    clear hK K
                    try simp only [Act.put, List.setIfInBounds_toArray, List.set_cons_zero, List.set_cons_succ]
                    refine ready_one (i := 7) rfl (by kernel_rfl) (fun K hK => ?_)
                    go_simp
                    have bk27 : Below w5.heap.size w5 (xk26.alloc (.cells #[Value.slice A7 zs.length c7] 23)) := bk26.alloc bk26.size _
                    have nk27 : Blk (xk26.alloc (.cells #[Value.slice A7 zs.length c7] 23)) (xk26.heap.size) 23 #[Value.slice A7 zs.length c7] := by have h := blk_alloc xk26 #[Value.slice A7 zs.length c7] 23; rwa [show xk26.heap.size = xk26.heap.size by simp] at h
                    have rk27 : (xk26.alloc (.cells #[Value.slice A7 zs.length c7] 23)).ownsRow w5.heap.size 23 1 vk26 (us.drop 1).length (us.drop 1) := World.ownsRow.alloc rk26 _
                    refine hK.out _ (xk26.alloc (.cells #[Value.slice A7 zs.length c7] 23)) bk27 (fun hHeld => ?_)
                    clear hK K
                    try simp only [Act.put, List.setIfInBounds_toArray, List.set_cons_zero, List.set_cons_succ]
                    refine ready_one (i := 8) rfl (by kernel_rfl) (fun K hK => ?_)
                    obtain ⟨vk28, xk28, rnk28, rk28, grk28, -, -⟩ := run_append_own_at (P := Try.prog) _ w5.heap.size 37 37 23 i0 (.slice none 0 0) 1 24 Try.underlying37 hi hz0 hz1 hz2 rfl (by decide) _ (us.drop 1).length (us.drop 1) rk27 ⟨xk26.heap.size, 0, none⟩ 1 1 [Value.slice A7 zs.length c7] rfl (vone12 nk27) HO1.out (by have := HDL.out; unfold maxLen; omega) (by have := HDL.out; omega) bk27.size
                    refine step_append (s := .tmp 72) (x := .tmp 76) rfl rfl rnk28 ?_
                    have bk28 : Below w5.heap.size w5 xk28 := bk27.grown grk28 bk27.size (fun g hg => (World.ownsRow.lt rk27 g hg).1)
                    have qk28 : VOwn xk28 w5.heap.size vk28 (us.drop 1 ++ us.take 1) := by rw [HT1.out]; unfold VOwn; rw [List.length_append]; exact rk28
                    refine hK.out _ xk28 bk28 (fun hHeld => ?_)
                    clear hK K
                    try simp only [Act.put, List.setIfInBounds_toArray, List.set_cons_zero, List.set_cons_succ]
                    refine take_in (i := 9) (v := ?_) rfl (by kernel_rfl) (fun _ _ _ h => h) rfl ?_ hHeld ?_
                    rotate_left
                    · intro w hSw; go_simp; all_goals with_reducible rfl
                    try simp only [Act.put, List.setIfInBounds_toArray, List.set_cons_zero, List.set_cons_succ]
                    refine wpAnyH_done (by kernel_rfl) ?_ _
                    go_wp2
                    go_meet
                    exact ⟨qk28, bk28⟩
                  · go_simp
                    have bk30 : Below w5.heap.size w5 ((w5.drew.alloc (.cells #[] 23)).alloc (.cells #[Value.slice A7 zs.length c7] 23)) := bk25.alloc bk25.size _
                    have nk30 : Blk ((w5.drew.alloc (.cells #[] 23)).alloc (.cells #[Value.slice A7 zs.length c7] 23)) (w5.heap.size + 1) 23 #[Value.slice A7 zs.length c7] := by have h := blk_alloc (w5.drew.alloc (.cells #[] 23)) #[Value.slice A7 zs.length c7] 23; rwa [show (w5.drew.alloc (.cells #[] 23)).heap.size = w5.heap.size + 1 by simp] at h
                    have ek30 : ((w5.drew.alloc (.cells #[] 23)).alloc (.cells #[Value.slice A7 zs.length c7] 23)).ownsRow w5.heap.size 23 1 (.slice (some ⟨w5.heap.size, 0, none⟩) 0 0) 0 [] := World.ownsRow.alloc ek25 _
                    refine hK.out _ ((w5.drew.alloc (.cells #[] 23)).alloc (.cells #[Value.slice A7 zs.length c7] 23)) bk30 (fun hHeld => ?_)
                    clear hK K
                    try simp only [Act.put, List.setIfInBounds_toArray, List.set_cons_zero, List.set_cons_succ]
                    refine ready_one (i := 3) rfl (by kernel_rfl) (fun K hK => ?_)
                    obtain ⟨vk31, xk31, rnk31, rk31, grk31, -, -⟩ := run_append_own_at (P := Try.prog) _ w5.heap.size 37 37 23 i0 (.slice none 0 0) 1 24 Try.underlying37 hi hz0 hz1 hz2 rfl (by decide) _ 0 [] ek30 ⟨b, off, none⟩ 0 0 (us.drop 1) (by have := HDL.out; omega) (HNW.out _ bk30) HON.out (by unfold maxLen; omega) (by omega) bk30.size
                    refine step_append (s := .tmp 69) (x := .tmp 71) rfl rfl rnk31 ?_
                    have rk31 : xk31.ownsRow w5.heap.size 23 1 vk31 (us.drop 1).length (us.drop 1) := by have h := rk31; rw [Nat.zero_add, ← HDL.out, List.nil_append] at h; exact h
                    have bk31 : Below w5.heap.size w5 xk31 := bk30.grown grk31 bk30.size (fun g hg => (World.ownsRow.lt ek30 g hg).1)
                    have nk31 : Blk xk31 (w5.heap.size + 1) 23 #[Value.slice A7 zs.length c7] := nk30.more (grk31.block _ nk30.lt (fun e => by have h1 : w5.heap.size + 1 = w5.heap.size := Option.some.inj e; omega))
                    refine hK.out _ xk31 bk31 (fun hHeld => ?_)
                    clear hK K
                    try simp only [Act.put, List.setIfInBounds_toArray, List.set_cons_zero, List.set_cons_succ]
                    refine ready_one (i := 8) rfl (by kernel_rfl) (fun K hK => ?_)
                    obtain ⟨vk32, xk32, rnk32, rk32, grk32, -, -⟩ := run_append_own_at (P := Try.prog) _ w5.heap.size 37 37 23 i0 (.slice none 0 0) 1 24 Try.underlying37 hi hz0 hz1 hz2 rfl (by decide) _ (us.drop 1).length (us.drop 1) rk31 ⟨w5.heap.size + 1, 0, none⟩ 1 1 [Value.slice A7 zs.length c7] rfl (vone12 nk31) HO1.out (by have := HDL.out; unfold maxLen; omega) (by have := HDL.out; omega) bk31.size
                    refine step_append (s := .tmp 72) (x := .tmp 76) rfl rfl rnk32 ?_
                    have bk32 : Below w5.heap.size w5 xk32 := bk31.grown grk32 bk31.size (fun g hg => (World.ownsRow.lt rk31 g hg).1)
                    have qk32 : VOwn xk32 w5.heap.size vk32 (us.drop 1 ++ us.take 1) := by rw [HT1.out]; unfold VOwn; rw [List.length_append]; exact rk32
                    refine hK.out _ xk32 bk32 (fun hHeld => ?_)
                    clear hK K
                    try simp only [Act.put, List.setIfInBounds_toArray, List.set_cons_zero, List.set_cons_succ]
                    refine take_in (i := 9) (v := ?_) rfl (by kernel_rfl) (fun _ _ _ h => h) rfl ?_ hHeld ?_
                    rotate_left
                    · intro w hSw; go_simp; all_goals with_reducible rfl
                    try simp only [Act.put, List.setIfInBounds_toArray, List.set_cons_zero, List.set_cons_succ]
                    refine wpAnyH_done (by kernel_rfl) ?_ _
                    go_wp2
                    go_meet
                    exact ⟨qk32, bk32⟩
                · go_simp
                  have bk33 : Below w5.heap.size w5 (w5.drew.alloc (.cells #[Value.slice A7 zs.length c7] 23)) := hb0.alloc hb0.size _
                  have nk33 : Blk (w5.drew.alloc (.cells #[Value.slice A7 zs.length c7] 23)) (w5.heap.size) 23 #[Value.slice A7 zs.length c7] := by have h := blk_alloc w5.drew #[Value.slice A7 zs.length c7] 23; rwa [show w5.drew.heap.size = w5.heap.size by simp] at h
                  refine hK.out _ (w5.drew.alloc (.cells #[Value.slice A7 zs.length c7] 23)) bk33 (fun hHeld => ?_)
                  clear hK K
                  try simp only [Act.put, List.setIfInBounds_toArray, List.set_cons_zero, List.set_cons_succ]
                  refine ready_one (i := 0) rfl (by kernel_rfl) (fun K hK => ?_)
                  go_simp
                  have ek34 : ((w5.drew.alloc (.cells #[Value.slice A7 zs.length c7] 23)).alloc (.cells #[] 23)).ownsRow w5.heap.size 23 1 (.slice (some ⟨w5.heap.size + 1, 0, none⟩) 0 0) 0 [] := by have h := vempty12 (w5.drew.alloc (.cells #[Value.slice A7 zs.length c7] 23)) _ bk33.size; rwa [show (w5.drew.alloc (.cells #[Value.slice A7 zs.length c7] 23)).heap.size = w5.heap.size + 1 by simp] at h
                  have bk34 : Below w5.heap.size w5 ((w5.drew.alloc (.cells #[Value.slice A7 zs.length c7] 23)).alloc (.cells #[] 23)) := bk33.alloc bk33.size _
                  have nk34 : Blk ((w5.drew.alloc (.cells #[Value.slice A7 zs.length c7] 23)).alloc (.cells #[] 23)) (w5.heap.size) 23 #[Value.slice A7 zs.length c7] := nk33.alloc _
                  refine hK.out _ ((w5.drew.alloc (.cells #[Value.slice A7 zs.length c7] 23)).alloc (.cells #[] 23)) bk34 (fun hHeld => ?_)
                  clear hK K
                  try simp only [Act.put, List.setIfInBounds_toArray, List.set_cons_zero, List.set_cons_succ]
                  refine ready_one (i := 3) rfl (by kernel_rfl) (fun K hK => ?_)
                  obtain ⟨vk35, xk35, rnk35, rk35, grk35, -, -⟩ := run_append_own_at (P := Try.prog) _ w5.heap.size 37 37 23 i0 (.slice none 0 0) 1 24 Try.underlying37 hi hz0 hz1 hz2 rfl (by decide) _ 0 [] ek34 ⟨b, off, none⟩ 0 0 (us.drop 1) (by have := HDL.out; omega) (HNW.out _ bk34) HON.out (by unfold maxLen; omega) (by omega) bk34.size
                  refine step_append (s := .tmp 69) (x := .tmp 71) rfl rfl rnk35 ?_
                  have rk35 : xk35.ownsRow w5.heap.size 23 1 vk35 (us.drop 1).length (us.drop 1) := by have h := rk35; rw [Nat.zero_add, ← HDL.out, List.nil_append] at h; exact h
                  have bk35 : Below w5.heap.size w5 xk35 := bk34.grown grk35 bk34.size (fun g hg => (World.ownsRow.lt ek34 g hg).1)
                  have nk35 : Blk xk35 (w5.heap.size) 23 #[Value.slice A7 zs.length c7] := nk34.more (grk35.block _ nk34.lt (fun e => by have h1 : w5.heap.size = w5.heap.size + 1 := Option.some.inj e; omega))
                  refine hK.out _ xk35 bk35 (fun hHeld => ?_)
                  clear hK K
                  try simp only [Act.put, List.setIfInBounds_toArray, List.set_cons_zero, List.set_cons_succ]
                  refine ready_one (i := 8) rfl (by kernel_rfl) (fun K hK => ?_)
                  obtain ⟨vk36, xk36, rnk36, rk36, grk36, -, -⟩ := run_append_own_at (P := Try.prog) _ w5.heap.size 37 37 23 i0 (.slice none 0 0) 1 24 Try.underlying37 hi hz0 hz1 hz2 rfl (by decide) _ (us.drop 1).length (us.drop 1) rk35 ⟨w5.heap.size, 0, none⟩ 1 1 [Value.slice A7 zs.length c7] rfl (vone12 nk35) HO1.out (by have := HDL.out; unfold maxLen; omega) (by have := HDL.out; omega) bk35.size
                  refine step_append (s := .tmp 72) (x := .tmp 76) rfl rfl rnk36 ?_
                  have bk36 : Below w5.heap.size w5 xk36 := bk35.grown grk36 bk35.size (fun g hg => (World.ownsRow.lt rk35 g hg).1)
                  have qk36 : VOwn xk36 w5.heap.size vk36 (us.drop 1 ++ us.take 1) := by rw [HT1.out]; unfold VOwn; rw [List.length_append]; exact rk36
                  refine hK.out _ xk36 bk36 (fun hHeld => ?_)
                  clear hK K
                  try simp only [Act.put, List.setIfInBounds_toArray, List.set_cons_zero, List.set_cons_succ]
                  refine take_in (i := 9) (v := ?_) rfl (by kernel_rfl) (fun _ _ _ h => h) rfl ?_ hHeld ?_
                  rotate_left
                  · intro w hSw; go_simp; all_goals with_reducible rfl
                  try simp only [Act.put, List.setIfInBounds_toArray, List.set_cons_zero, List.set_cons_succ]
                  refine wpAnyH_done (by kernel_rfl) ?_ _
                  go_wp2
                  go_meet
                  exact ⟨qk36, bk36⟩
              · obtain ⟨M, hM0⟩ : ∃ M, rs.length = 1 + M := ⟨rs.length - 1, by omega⟩
                have HDL : Hid ((us.drop 1).length = rs.length - 1) := Lib.hid (by rw [List.length_drop, HUL.out])
                have HNW : Hid (∀ X, Below w5.heap.size w5 X → ∀ j x, (us.drop 1)[j]? = some x → X.cell? ((⟨b, off + 1, none⟩ : Addr).add j) = some x) := Lib.hid (fun X h j x hj => vnews12 ((HG.out.keep (SameAt.of_below h)).drop12 hM0) j x hj)
                have hM6 : M ≤ 6 := by omega
                have h1c : 1 ≤ c2 := by omega
                have h1c' : (1 : Int) ≤ (c2 : Int) := by omega
                have h1n : (1 : Int) ≤ (rs.length : Int) := by omega
                have HSUB : Hid (rs.length - 1 = M) := Lib.hid (by omega)
                have hc1' : ¬ ((c2 : Int) = 1) := by omega
                clear hM0
                have hb0 : Below w5.heap.size w5 w5.drew := (Below.refl _ _).drew
                refine wp_region_held_drew (S := fun w' => Below w5.heap.size w5 w') (by kernel_rfl) hb0 (fun hHeld => ?_)
                refine take_in (i := 1) (v := ?_) rfl (by kernel_rfl) (fun _ _ _ h => h) rfl ?_ hHeld ?_
                rotate_left
                · intro w hSw; go_simp; all_goals with_reducible rfl
                try simp only [Act.put, List.setIfInBounds_toArray, List.set_cons_zero, List.set_cons_succ]
                refine take_in (i := 2) (v := ?_) rfl (by kernel_rfl) (fun _ _ _ h => h) rfl ?_ hHeld ?_
                rotate_left
                · intro w hSw; go_simp; all_goals with_reducible rfl
                try simp only [Act.put, List.setIfInBounds_toArray, List.set_cons_zero, List.set_cons_succ]
                refine take_in (i := 4) (v := ?_) rfl (by kernel_rfl) (fun _ _ _ h => h) rfl ?_ hHeld ?_
                rotate_left
                · intro w hSw; go_simp; all_goals with_reducible rfl
                try simp only [Act.put, List.setIfInBounds_toArray, List.set_cons_zero, List.set_cons_succ]
                refine take_in (i := 5) (v := ?_) rfl (by kernel_rfl) (fun _ _ _ h => h) rfl ?_ hHeld ?_
                rotate_left
                · intro w hSw; go_simp; all_goals with_reducible rfl
                try simp only [Act.put, List.setIfInBounds_toArray, List.set_cons_zero, List.set_cons_succ]
                refine take_in (i := 6) (v := ?_) rfl (by kernel_rfl) (fun _ _ _ h => h) rfl ?_ hHeld ?_
                rotate_left
                · intro w hSw; have d0 := HC0.out w hSw; go_simp; all_goals with_reducible rfl
                try simp only [Act.put, List.setIfInBounds_toArray, List.set_cons_zero, List.set_cons_succ]
                refine ready_two (i := 0) (j := 7) rfl rfl (by kernel_rfl) (fun K hK => ?_) (fun K hK => ?_)
                · go_simp
                  have ek37 : (w5.drew.alloc (.cells #[] 23)).ownsRow w5.heap.size 23 1 (.slice (some ⟨w5.heap.size, 0, none⟩) 0 0) 0 [] := by have h := vempty12 w5.drew _ hb0.size; rwa [show w5.drew.heap.size = w5.heap.size by simp] at h
                  have bk37 : Below w5.heap.size w5 (w5.drew.alloc (.cells #[] 23)) := hb0.alloc hb0.size _
                  refine hK.out _ (w5.drew.alloc (.cells #[] 23)) bk37 (fun hHeld => ?_)
                  clear hK K
                  try simp only [Act.put, List.setIfInBounds_toArray, List.set_cons_zero, List.set_cons_succ]
                  refine ready_two (i := 3) (j := 7) rfl rfl (by kernel_rfl) (fun K hK => ?_) (fun K hK => ?_)
                  · obtain ⟨vk38, xk38, rnk38, rk38, grk38, -, -⟩ := run_append_own_at (P := Try.prog) _ w5.heap.size 37 37 23 i0 (.slice none 0 0) 1 24 Try.underlying37 hi hz0 hz1 hz2 rfl (by decide) _ 0 [] ek37 ⟨b, off + 1, none⟩ (rs.length - 1) (c2 - 1) (us.drop 1) (by have := HDL.out; omega) (HNW.out _ bk37) HON.out (by unfold maxLen; omega) (by omega) bk37.size
                    refine step_append (s := .tmp 69) (x := .tmp 71) rfl rfl rnk38 ?_
                    have rk38 : xk38.ownsRow w5.heap.size 23 1 vk38 (us.drop 1).length (us.drop 1) := by have h := rk38; rw [Nat.zero_add, ← HDL.out, List.nil_append] at h; exact h
                    have bk38 : Below w5.heap.size w5 xk38 := bk37.grown grk38 bk37.size (fun g hg => (World.ownsRow.lt ek37 g hg).1)
                    refine hK.out _ xk38 bk38 (fun hHeld => ?_)
                    clear hK K
                    try simp only [Act.put, List.setIfInBounds_toArray, List.set_cons_zero, List.set_cons_succ]
                    refine ready_one (i := 7) rfl (by kernel_rfl) (fun K hK => ?_)
                    go_simp
                    have bk39 : Below w5.heap.size w5 (xk38.alloc (.cells #[Value.slice A7 zs.length c7] 23)) := bk38.alloc bk38.size _
                    have nk39 : Blk (xk38.alloc (.cells #[Value.slice A7 zs.length c7] 23)) (xk38.heap.size) 23 #[Value.slice A7 zs.length c7] := by have h := blk_alloc xk38 #[Value.slice A7 zs.length c7] 23; rwa [show xk38.heap.size = xk38.heap.size by simp] at h
                    have rk39 : (xk38.alloc (.cells #[Value.slice A7 zs.length c7] 23)).ownsRow w5.heap.size 23 1 vk38 (us.drop 1).length (us.drop 1) := World.ownsRow.alloc rk38 _
                    refine hK.out _ (xk38.alloc (.cells #[Value.slice A7 zs.length c7] 23)) bk39 (fun hHeld => ?_)
                    clear hK K
                    try simp only [Act.put, List.setIfInBounds_toArray, List.set_cons_zero, List.set_cons_succ]
                    refine ready_one (i := 8) rfl (by kernel_rfl) (fun K hK => ?_)
                    obtain ⟨vk40, xk40, rnk40, rk40, grk40, -, -⟩ := run_append_own_at (P := Try.prog) _ w5.heap.size 37 37 23 i0 (.slice none 0 0) 1 24 Try.underlying37 hi hz0 hz1 hz2 rfl (by decide) _ (us.drop 1).length (us.drop 1) rk39 ⟨xk38.heap.size, 0, none⟩ 1 1 [Value.slice A7 zs.length c7] rfl (vone12 nk39) HO1.out (by have := HDL.out; unfold maxLen; omega) (by have := HDL.out; omega) bk39.size
                    refine step_append (s := .tmp 72) (x := .tmp 76) rfl rfl rnk40 ?_
                    have bk40 : Below w5.heap.size w5 xk40 := bk39.grown grk40 bk39.size (fun g hg => (World.ownsRow.lt rk39 g hg).1)
                    have qk40 : VOwn xk40 w5.heap.size vk40 (us.drop 1 ++ us.take 1) := by rw [HT1.out]; unfold VOwn; rw [List.length_append]; exact rk40
                    refine hK.out _ xk40 bk40 (fun hHeld => ?_)
                    clear hK K
                    try simp only [Act.put, List.setIfInBounds_toArray, List.set_cons_zero, List.set_cons_succ]
                    refine take_in (i := 9) (v := ?_) rfl (by kernel_rfl) (fun _ _ _ h => h) rfl ?_ hHeld ?_
                    rotate_left
                    · intro w hSw; go_simp; all_goals with_reducible rfl
                    try simp only [Act.put, List.setIfInBounds_toArray, List.set_cons_zero, List.set_cons_succ]
                    refine wpAnyH_done (by kernel_rfl) ?_ _
                    go_wp2
                    go_meet
                    exact ⟨qk40, bk40⟩
                  · go_simp
                    have bk42 : Below w5.heap.size w5 ((w5.drew.alloc (.cells #[] 23)).alloc (.cells #[Value.slice A7 zs.length c7] 23)) := bk37.alloc bk37.size _
                    have nk42 : Blk ((w5.drew.alloc (.cells #[] 23)).alloc (.cells #[Value.slice A7 zs.length c7] 23)) (w5.heap.size + 1) 23 #[Value.slice A7 zs.length c7] := by have h := blk_alloc (w5.drew.alloc (.cells #[] 23)) #[Value.slice A7 zs.length c7] 23; rwa [show (w5.drew.alloc (.cells #[] 23)).heap.size = w5.heap.size + 1 by simp] at h
                    have ek42 : ((w5.drew.alloc (.cells #[] 23)).alloc (.cells #[Value.slice A7 zs.length c7] 23)).ownsRow w5.heap.size 23 1 (.slice (some ⟨w5.heap.size, 0, none⟩) 0 0) 0 [] := World.ownsRow.alloc ek37 _
                    refine hK.out _ ((w5.drew.alloc (.cells #[] 23)).alloc (.cells #[Value.slice A7 zs.length c7] 23)) bk42 (fun hHeld => ?_)
                    clear hK K
                    try simp only [Act.put, List.setIfInBounds_toArray, List.set_cons_zero, List.set_cons_succ]
                    refine ready_one (i := 3) rfl (by kernel_rfl) (fun K hK => ?_)
                    obtain ⟨vk43, xk43, rnk43, rk43, grk43, -, -⟩ := run_append_own_at (P := Try.prog) _ w5.heap.size 37 37 23 i0 (.slice none 0 0) 1 24 Try.underlying37 hi hz0 hz1 hz2 rfl (by decide) _ 0 [] ek42 ⟨b, off + 1, none⟩ (rs.length - 1) (c2 - 1) (us.drop 1) (by have := HDL.out; omega) (HNW.out _ bk42) HON.out (by unfold maxLen; omega) (by omega) bk42.size
                    refine step_append (s := .tmp 69) (x := .tmp 71) rfl rfl rnk43 ?_
                    have rk43 : xk43.ownsRow w5.heap.size 23 1 vk43 (us.drop 1).length (us.drop 1) := by have h := rk43; rw [Nat.zero_add, ← HDL.out, List.nil_append] at h; exact h
                    have bk43 : Below w5.heap.size w5 xk43 := bk42.grown grk43 bk42.size (fun g hg => (World.ownsRow.lt ek42 g hg).1)
                    have nk43 : Blk xk43 (w5.heap.size + 1) 23 #[Value.slice A7 zs.length c7] := nk42.more (grk43.block _ nk42.lt (fun e => by have h1 : w5.heap.size + 1 = w5.heap.size := Option.some.inj e; omega))
                    refine hK.out _ xk43 bk43 (fun hHeld => ?_)
                    clear hK K
                    try simp only [Act.put, List.setIfInBounds_toArray, List.set_cons_zero, List.set_cons_succ]
                    refine ready_one (i := 8) rfl (by kernel_rfl) (fun K hK => ?_)
                    obtain ⟨vk44, xk44, rnk44, rk44, grk44, -, -⟩ := run_append_own_at (P := Try.prog) _ w5.heap.size 37 37 23 i0 (.slice none 0 0) 1 24 Try.underlying37 hi hz0 hz1 hz2 rfl (by decide) _ (us.drop 1).length (us.drop 1) rk43 ⟨w5.heap.size + 1, 0, none⟩ 1 1 [Value.slice A7 zs.length c7] rfl (vone12 nk43) HO1.out (by have := HDL.out; unfold maxLen; omega) (by have := HDL.out; omega) bk43.size
                    refine step_append (s := .tmp 72) (x := .tmp 76) rfl rfl rnk44 ?_
                    have bk44 : Below w5.heap.size w5 xk44 := bk43.grown grk44 bk43.size (fun g hg => (World.ownsRow.lt rk43 g hg).1)
                    have qk44 : VOwn xk44 w5.heap.size vk44 (us.drop 1 ++ us.take 1) := by rw [HT1.out]; unfold VOwn; rw [List.length_append]; exact rk44
                    refine hK.out _ xk44 bk44 (fun hHeld => ?_)
                    clear hK K
                    try simp only [Act.put, List.setIfInBounds_toArray, List.set_cons_zero, List.set_cons_succ]
                    refine take_in (i := 9) (v := ?_) rfl (by kernel_rfl) (fun _ _ _ h => h) rfl ?_ hHeld ?_
                    rotate_left
                    · intro w hSw; go_simp; all_goals with_reducible rfl
                    try simp only [Act.put, List.setIfInBounds_toArray, List.set_cons_zero, List.set_cons_succ]
                    refine wpAnyH_done (by kernel_rfl) ?_ _
                    go_wp2
                    go_meet
                    exact ⟨qk44, bk44⟩
                · go_simp
                  have bk45 : Below w5.heap.size w5 (w5.drew.alloc (.cells #[Value.slice A7 zs.length c7] 23)) := hb0.alloc hb0.size _
                  have nk45 : Blk (w5.drew.alloc (.cells #[Value.slice A7 zs.length c7] 23)) (w5.heap.size) 23 #[Value.slice A7 zs.length c7] := by have h := blk_alloc w5.drew #[Value.slice A7 zs.length c7] 23; rwa [show w5.drew.heap.size = w5.heap.size by simp] at h
                  refine hK.out _ (w5.drew.alloc (.cells #[Value.slice A7 zs.length c7] 23)) bk45 (fun hHeld => ?_)
                  clear hK K
                  try simp only [Act.put, List.setIfInBounds_toArray, List.set_cons_zero, List.set_cons_succ]
                  refine ready_one (i := 0) rfl (by kernel_rfl) (fun K hK => ?_)
                  go_simp
                  have ek46 : ((w5.drew.alloc (.cells #[Value.slice A7 zs.length c7] 23)).alloc (.cells #[] 23)).ownsRow w5.heap.size 23 1 (.slice (some ⟨w5.heap.size + 1, 0, none⟩) 0 0) 0 [] := by have h := vempty12 (w5.drew.alloc (.cells #[Value.slice A7 zs.length c7] 23)) _ bk45.size; rwa [show (w5.drew.alloc (.cells #[Value.slice A7 zs.length c7] 23)).heap.size = w5.heap.size + 1 by simp] at h
                  have bk46 : Below w5.heap.size w5 ((w5.drew.alloc (.cells #[Value.slice A7 zs.length c7] 23)).alloc (.cells #[] 23)) := bk45.alloc bk45.size _
                  have nk46 : Blk ((w5.drew.alloc (.cells #[Value.slice A7 zs.length c7] 23)).alloc (.cells #[] 23)) (w5.heap.size) 23 #[Value.slice A7 zs.length c7] := nk45.alloc _
                  refine hK.out _ ((w5.drew.alloc (.cells #[Value.slice A7 zs.length c7] 23)).alloc (.cells #[] 23)) bk46 (fun hHeld => ?_)
                  clear hK K
                  try simp only [Act.put, List.setIfInBounds_toArray, List.set_cons_zero, List.set_cons_succ]
                  refine ready_one (i := 3) rfl (by kernel_rfl) (fun K hK => ?_)
                  obtain ⟨vk47, xk47, rnk47, rk47, grk47, -, -⟩ := run_append_own_at (P := Try.prog) _ w5.heap.size 37 37 23 i0 (.slice none 0 0) 1 24 Try.underlying37 hi hz0 hz1 hz2 rfl (by decide) _ 0 [] ek46 ⟨b, off + 1, none⟩ (rs.length - 1) (c2 - 1) (us.drop 1) (by have := HDL.out; omega) (HNW.out _ bk46) HON.out (by unfold maxLen; omega) (by omega) bk46.size
                  refine step_append (s := .tmp 69) (x := .tmp 71) rfl rfl rnk47 ?_
                  have rk47 : xk47.ownsRow w5.heap.size 23 1 vk47 (us.drop 1).length (us.drop 1) := by have h := rk47; rw [Nat.zero_add, ← HDL.out, List.nil_append] at h; exact h
                  have bk47 : Below w5.heap.size w5 xk47 := bk46.grown grk47 bk46.size (fun g hg => (World.ownsRow.lt ek46 g hg).1)
                  have nk47 : Blk xk47 (w5.heap.size) 23 #[Value.slice A7 zs.length c7] := nk46.more (grk47.block _ nk46.lt (fun e => by have h1 : w5.heap.size = w5.heap.size + 1 := Option.some.inj e; omega))
                  refine hK.out _ xk47 bk47 (fun hHeld => ?_)
                  clear hK K
                  try simp only [Act.put, List.setIfInBounds_toArray, List.set_cons_zero, List.set_cons_succ]
                  refine ready_one (i := 8) rfl (by kernel_rfl) (fun K hK => ?_)
                  obtain ⟨vk48, xk48, rnk48, rk48, grk48, -, -⟩ := run_append_own_at (P := Try.prog) _ w5.heap.size 37 37 23 i0 (.slice none 0 0) 1 24 Try.underlying37 hi hz0 hz1 hz2 rfl (by decide) _ (us.drop 1).length (us.drop 1) rk47 ⟨w5.heap.size, 0, none⟩ 1 1 [Value.slice A7 zs.length c7] rfl (vone12 nk47) HO1.out (by have := HDL.out; unfold maxLen; omega) (by have := HDL.out; omega) bk47.size
                  refine step_append (s := .tmp 72) (x := .tmp 76) rfl rfl rnk48 ?_
                  have bk48 : Below w5.heap.size w5 xk48 := bk47.grown grk48 bk47.size (fun g hg => (World.ownsRow.lt rk47 g hg).1)
                  have qk48 : VOwn xk48 w5.heap.size vk48 (us.drop 1 ++ us.take 1) := by rw [HT1.out]; unfold VOwn; rw [List.length_append]; exact rk48
                  refine hK.out _ xk48 bk48 (fun hHeld => ?_)
                  clear hK K
                  try simp only [Act.put, List.setIfInBounds_toArray, List.set_cons_zero, List.set_cons_succ]
                  refine take_in (i := 9) (v := ?_) rfl (by kernel_rfl) (fun _ _ _ h => h) rfl ?_ hHeld ?_
                  rotate_left
                  · intro w hSw; go_simp; all_goals with_reducible rfl
                  try simp only [Act.put, List.setIfInBounds_toArray, List.set_cons_zero, List.set_cons_succ]
                  refine wpAnyH_done (by kernel_rfl) ?_ _
                  go_wp2
                  go_meet
                  exact ⟨qk48, bk48⟩
            case rest =>
              obtain ⟨oq, bq⟩ := hcut
              have C6 := Lib.hid (below_step C5.out bq C5.out.size)
              have L6 := Lib.hid (below_step L5.out bq L5.out.size)
              have S6 := Lib.hid bq
              have HLT := Lib.hid (show SRd wc _ (rs.drop 1 ++ rs.take 1) from ⟨us.drop 1 ++ us.take 1, by simp only [List.length_append, List.length_drop, List.length_take, HUL.out], oq.grd, rot_read HUL.out (HU.out wc C6.out).2.2⟩)
              clear oq bq
              go_wp2_with fail
              refine (implLearnedAll_any wc _ _ xs (rs.drop 1 ++ rs.take 1) (HV.out wc C6.out) HLT.out).mono ?_
              rintro e w7 ⟨vb, rfl, ovb, b7⟩
              rw [HRO.out.1]
              rw [HRO.out.2] at ovb
              have C7 := Lib.hid (below_step C6.out b7 C6.out.size)
              have L7 := Lib.hid (below_step L6.out b7 L6.out.size)
              have M7 := Lib.hid (below_step S6.out b7 S6.out.size)
              obtain ⟨Avb, cvb, rfl⟩ := ird_form12 ovb.rd (n := 0) rfl
              have Hvb := Lib.hid (fun wr (hb : Below w7.heap.size w7 wr) => ovb.rd.keep (SameAt.of_below hb))
              clear ovb b7
              go_wp2_with fail
              refine (sameInts_any w7 _ _ _ _ (Hva.out w7 M7.out) (Hvx.out w7 L7.out)).mono ?_
              rintro e w8 ⟨q8, rfl, hw8⟩
              rw [decide_self]
              have S8 : Hid (Below w7.heap.size w7 w8) := Lib.hid (by rw [hw8]; exact below_drewN (Below.refl _ _) q8)
              have C8 := Lib.hid (below_step C7.out S8.out C7.out.size)
              clear hw8
              have L8 := Lib.hid (below_step L7.out S8.out L7.out.size)
              go_wp2_with fail
              refine (sameInts_any w8 _ _ _ _ (Hvb.out w8 S8.out) (Hvx.out w8 L8.out)).mono ?_
              rintro e w9 ⟨q9, rfl, hw9⟩
              rw [decide_self]
              have S9 : Hid (Below w8.heap.size w8 w9) := Lib.hid (by rw [hw9]; exact below_drewN (Below.refl _ _) q9)
              have C9 := Lib.hid (below_step C8.out S9.out C8.out.size)
              clear hw9
              go_wp2_with fail
              refine (alive_any _).mono ?_
              rintro e w' ⟨rfl, rfl⟩
              go_wp2_with fail
              go_ret
              exact ⟨rfl, below_step HB1.out C9.out HB1.out.size⟩

end Go.Proofs.Ytbjmhbkpeglpkaa
