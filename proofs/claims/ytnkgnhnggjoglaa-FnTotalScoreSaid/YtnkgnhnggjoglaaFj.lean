/- The walk of the law of TotalScore. Conditions: rows of bytes that came in. (gen_fh.py) -/
import Derived.Test.YtnkgnhnggjoglaaFh
import Derived.Test.YtnkgnhnggjoglaaRh
import Derived.Maps.AppendAt
namespace Go.Proofs.Ytnkgnhnggjoglaa
open Go.RowKit
set_option linter.unusedVariables false

theorem IRd.take11 {w : World} {A : Option Addr} {n c : Nat} {xs : List Int} (h : IRd w (.slice A n c) xs) {k : Nat} (hk : k ≤ n) : IRd w (.slice A k c) (xs.take k) := by
  obtain ⟨A', c', e, hl, hm, hc⟩ := h
  injection e with e1 e2 e3
  subst e1
  subst e2
  subst e3
  have hlen : (xs.take k).length = k := by simp; omega
  refine ⟨A, c, by rw [hlen], by omega, hm, fun h0 => ?_⟩
  obtain ⟨b, off, hA, hb, hcell⟩ := hc (by omega)
  refine ⟨b, off, hA, hb, fun i x hx => hcell i x ?_⟩
  rw [List.getElem?_take] at hx
  split at hx
  · exact hx
  · cases hx

theorem IRd.drop11 {w : World} {b off n c : Nat} {xs : List Int} (h : IRd w (.slice (some ⟨b, off, none⟩) n c) xs) {k m : Nat} (hk : n = k + m) : IRd w (.slice (some ⟨b, off + k, none⟩) m (c - k)) (xs.drop k) := by
  obtain ⟨A', c', e, hl, hm, hc⟩ := h
  injection e with e1 e2 e3
  subst e1
  subst e3
  have hlen : (xs.drop k).length = m := by rw [List.length_drop]; omega
  refine ⟨_, _, by rw [hlen], by omega, by omega, fun h0 => ?_⟩
  obtain ⟨b', off', hA, hb, hcell⟩ := hc (by omega)
  injection hA with hA
  injection hA with hb' ho'
  subst hb' ho'
  refine ⟨b, off + k, rfl, hb, fun i x hx => ?_⟩
  rw [List.getElem?_drop] at hx
  have := hcell (k + i) x hx
  rwa [← Nat.add_assoc] at this

theorem IRd.none11 {w : World} {A : Option Addr} {c : Nat} (h : c ≤ 9223372036854775807) : IRd w (.slice A 0 c) [] := ⟨A, c, rfl, Nat.zero_le _, h, fun h => absurd h (by simp)⟩

theorem tot_law {m ss : List Int} (h : totB m ss = true) : totR m ss = totI m ss ∧ totR m ss.reverse = totI m ss ∧ ∀ k, totR m (ss.take k) = totI m (ss.take k) ∧ totR m (ss.drop k) = totI m (ss.drop k) := by
  obtain ⟨h1, h2, h3⟩ := (totB_iff m ss).1 h
  refine ⟨by rw [totR, if_pos h], ?_, fun k => ⟨?_, ?_⟩⟩
  · rw [totR, if_pos ((totB_iff m _).2 ⟨h1, by simpa using h2, fun x hx => h3 x (by simpa using hx)⟩), tot_rev]
  · rw [totR, if_pos ((totB_iff m _).2 ⟨h1, by rw [List.length_take]; omega, fun x hx => h3 x (List.mem_of_mem_take hx)⟩)]
  · rw [totR, if_pos ((totB_iff m _).2 ⟨h1, by rw [List.length_drop]; omega, fun x hx => h3 x (List.mem_of_mem_drop hx)⟩)]

theorem rev_take {ss : List Int} {k : Nat} {x : Int} (h : ss[k]? = some x) : (ss.take (k + 1)).reverse = [x] ++ (ss.take k).reverse := by
  rw [List.take_add_one, h, Option.toList_some, List.reverse_append]; rfl

set_option maxRecDepth 100000 in
set_option maxHeartbeats 8000000 in
theorem FnTotalScore_walk (a0 : Option Addr) (len0 cap0 : Nat) (z0 : List Int) (w : World) (w0 : IsRowC .u8 w a0 len0 cap0 z0) :
    Calls Try.prog 7 #[.slice a0 len0 cap0] w fun e w' => e = .returned (.bool true) ∧ Below w.heap.size w w' := by
  by_cases hlen : 1048576 < len0
  · clear w0
    go_enter Try.func7, Try.ntmps7
    go_wp2
    go_ret
    exact ⟨rfl, Below.refl _ _⟩
  · have hlen' : decide (1048576 < len0) = false := by simpa using hlen
    go_enter Try.func7, Try.ntmps7
    go_wp2_with fail
    refine (drawTotalScore_any _ _ _ _ _ w0).mono ?_
    rintro e w1 ⟨v, u, xs, ss, rfl, ov, ou, hl4, hl5, B1⟩
    have HB1 := Lib.hid B1
    have ord := ov.rd
    obtain ⟨A, c, rfl, hl, hmx, -⟩ := id ord
    have HV : Hid (∀ wr, Below w1.heap.size w1 wr → IRd wr (.slice A xs.length c) xs) := Lib.hid (fun wr hb => ord.keep (SameAt.of_below hb))
    have HUF : Hid ((u = .slice none 0 0 ∧ ss = []) ∨ ∃ g cap, u = .slice (some ⟨g, 0, none⟩) ss.length cap ∧ ss.length ≤ cap) := Lib.hid (by
      rcases ou.2 with ⟨e, h0⟩ | ⟨g, cap, cur, e, -, -, hc, -⟩
      · exact .inl ⟨e, List.eq_nil_of_length_eq_zero h0⟩
      · exact .inr ⟨g, cap, e, hc⟩)
    have HU : Hid (∀ wr, Below w1.heap.size w1 wr → IRd wr u ss) := Lib.hid (fun wr hb => ou.rd.keep (SameAt.of_below hb))
    obtain ⟨A2, c2, rfl, hl2, hmx2, -⟩ := id ou.rd
    clear ord ov ou B1 w0
    rcases Bool.eq_false_or_eq_true (totB xs ss) with h | h
    · have HLAW := Lib.hid (tot_law h)
      obtain ⟨h1, h2, -⟩ := (totB_iff xs ss).1 h
      clear h
      obtain ⟨h, hh⟩ : ∃ h : Nat, ss.length / 2 = h := ⟨_, rfl⟩
      have h12 : (h : Int) ≤ 12 := by omega
      have hhd : ((ss.length : Int)) / 2 = (h : Int) := by omega
      have hhq : ((ss.length : Int)).tdiv 2 = (h : Int) := by rw [Int.tdiv_eq_ediv_of_nonneg (by clear hhd h12; omega)]; exact hhd
      have HW1 : Hid (wrap64 (h : Int) = (h : Int)) := Lib.hid (IntWalk.wrap64_in _ (by clear hhd hhq; omega))
      have HW2 : Hid (IntKind.i64.wrap (h : Int) = (h : Int)) := Lib.hid (IntWalk.i64_in _ (by clear hhd hhq; omega))
      have HHD := Lib.hid hhd
      have HHQ := Lib.hid hhq
      clear hhd hhq
      obtain ⟨t1, t2, t3⟩ := HLAW.out
      obtain ⟨t4, t5⟩ := t3 h
      have t6 := tot_parts xs ss h
      have b1 := tot_near (grs_of h1) ss
      have b2 := tot_near (grs_of h1) (ss.take h)
      have b3 := tot_near (grs_of h1) (ss.drop h)
      rw [List.length_take] at b2
      rw [List.length_drop] at b3
      obtain ⟨N, hN⟩ : ∃ N, totI xs ss = N := ⟨_, rfl⟩
      obtain ⟨p, hp⟩ : ∃ p, totI xs (ss.take h) = p := ⟨_, rfl⟩
      obtain ⟨q, hq⟩ : ∃ q, totI xs (ss.drop h) = q := ⟨_, rfl⟩
      have HR : Hid (totR xs ss = N) := Lib.hid (by rw [t1, hN])
      have HT1 : Hid (totR xs ss.reverse = N) := Lib.hid (by rw [t2, hN])
      have HT2 : Hid (totR xs (ss.take h) = p) := Lib.hid (by rw [t4, hp])
      have HT3 : Hid (totR xs (ss.drop h) = q) := Lib.hid (by rw [t5, hq])
      rw [hN, hp, hq] at t6
      rw [hN] at b1
      rw [hp] at b2
      rw [hq] at b3
      have hpq : IntKind.i64.wrap (p + q) = N := by rw [← t6]; exact IntWalk.i64_in _ (by omega)
      have HPQ := Lib.hid hpq
      have n0 : 0 ≤ N := by clear hpq; omega
      clear hpq
      have HH := Lib.hid hh
      clear t1 t2 t3 t4 t5 t6 h1 hN hp hq hh b1 b2 b3 HLAW
      have C1 := Lib.hid (Below.refl w1.heap.size w1)
      go_wp2_with fail
      refine (implTotalScore_any w1 _ _ xs ss (HV.out w1 C1.out) (HU.out w1 C1.out)).mono ?_
      rintro e w2 ⟨rfl, b2⟩
      rw [HR.out]
      have C2 := Lib.hid (below_step C1.out b2 C1.out.size)
      clear b2
      go_wp2_with fail
      refine (specTotalScore_any w2 _ _ xs ss (HV.out w2 C2.out) (HU.out w2 C2.out)).mono ?_
      rintro e w' ⟨rfl, rfl⟩
      rw [HR.out]
      go_wp2_with fail
      have HF0 : Hid (IOwn (w2.alloc (.cells #[] 3)) w2.heap.size (.slice (some ⟨w2.heap.size, 0, none⟩) 0 0) ((ss.take 0).reverse) ∧ Below w2.heap.size w2 (w2.alloc (.cells #[] 3))) := Lib.hid ⟨by rw [List.take_zero]; exact lit11 w2 _ (Nat.le_refl _), alloc_b11 w2 _⟩
      obtain ⟨i0, hi, hz0, hz1, hz2⟩ := info_parts Try_intinfo
      go_loopw [6, 7] (fun p i wr => ∃ (k g c : Nat), p = .slice (some ⟨g, 0, none⟩) k c ∧ i = .int .i64 (k : Int) ∧ k ≤ ss.length ∧ Hid (IOwn wr w2.heap.size (.slice (some ⟨g, 0, none⟩) k c) ((ss.take k).reverse) ∧ Below w2.heap.size w2 wr)) (fun _ i _ => ss.length - (intOf i).toNat)
      case atStart => exact ⟨0, _, _, rfl, rfl, Nat.zero_le _, HF0⟩
      case round =>
        obtain ⟨k, g, c3, rfl, rfl, hk, HF⟩ := hrel
        clear HF0
        by_cases hlt : k < ss.length
        · have hlt' : (k : Int) < (ss.length : Int) := by omega
          obtain ⟨b, off, x, rfl, -, hx, hcx⟩ := (HU.out wr (below_step C2.out HF.out.2 C2.out.size)).at_ hlt
          have HX := Lib.hid hx
          obtain ⟨R, hR⟩ : ∃ R, (ss.take k).reverse = R := ⟨_, rfl⟩
          have hlr : Hid (R.length = k) := Lib.hid (by rw [← hR, List.length_reverse, List.length_take]; omega)
          have HRT : Hid ((ss.take (k + 1)).reverse = [x] ++ R) := Lib.hid (by rw [rev_take hx, hR])
          rw [hR] at HF
          clear hR
          have hcs : ∀ (j : Nat) (y : Value), (R.map (Value.int .i64))[j]? = some y → (wr.alloc (.cells #[.int .i64 x] 3)).cell? ((⟨g, 0, none⟩ : Addr).add j) = some y := fun j y hy => World.ownsRow.cells (World.ownsRow.alloc (show wr.ownsRow w2.heap.size 3 1 (.slice (some ⟨g, 0, none⟩) k c3) _ (R.map (Value.int .i64)) from HF.out.1) (.cells #[.int .i64 x] 3)) rfl j y hy
          have HN := Lib.hid (World.ownsRow_lit wr #[.int .i64 x] 1 (base := w2.heap.size) (e := 3) (size := 1) HF.out.2.size (by unfold maxLen; omega) rfl)
          have hsz := HF.out.2.size
          clear hx
          go_wp2_with (at_builtin; refine wpList_append_own_at _ rfl _ _ 23 rfl w2.heap.size 3 i0 (.int .i64 0) 1 8 Try.underlying23 hi hz0 hz1 hz2 rfl (by decide) _ 1 [.int .i64 x] rfl HN.out ⟨g, 0, none⟩ k c3 (R.map (Value.int .i64)) rfl ?d1 hcs ?d3 ?d4 ?d5 ?d6 ?_)
          case d1 => first | exact hlr.out | rw [List.length_map, hlr.out, Nat.mul_one]
          case d3 =>
            first
              | (intro y hy; rfl)
              | (intro y hy; obtain ⟨x, -, rfl⟩ := List.mem_map.1 hy; rfl)
          case d4 => unfold maxLen; omega
          case d5 => omega
          case d6 => first | omega | (simp; omega)
          intro v7 w7 k1 k2 k3 k4
          have B7 : Below wr.heap.size wr w7 := (alloc_b11 wr _).grown k2 (by simp) (fun g' hg => by have e : some wr.heap.size = some g' := hg; injection e with e; omega)
          have O7 : IOwn w7 w2.heap.size v7 ((ss.take (k + 1)).reverse) := by
            rw [HRT.out]
            show w7.ownsRow w2.heap.size 3 1 v7 ([x] ++ R).length _
            rw [show ([x] ++ R).length = 1 + k from by rw [List.length_append, hlr.out]; rfl]
            exact k1
          obtain ⟨g7, c7, rfl⟩ : ∃ g7 c7, v7 = .slice (some ⟨g7, 0, none⟩) (k + 1) c7 := by
            rcases k1.2 with ⟨-, hz⟩ | ⟨g7, cap, cur, e, -⟩
            · omega
            · exact ⟨g7, cap, by rw [e, Nat.add_comm]⟩
          have HF7 : Hid (IOwn w7 w2.heap.size (.slice (some ⟨g7, 0, none⟩) (k + 1) c7) ((ss.take (k + 1)).reverse) ∧ Below w2.heap.size w2 w7) := Lib.hid ⟨O7, below_step HF.out.2 B7 HF.out.2.size⟩
          clear k1 k2 k3 k4 B7 O7 hcs HF
          go_wp2_with fail
          go_roundw
          case rel => exact ⟨k + 1, g7, c7, rfl, by go_num, by omega, HF7⟩
          case measure => simp [intOf]; omega
        · obtain rfl : k = ss.length := by omega
          have hlt' : decide ((ss.length : Int) < (ss.length : Int)) = false := by simp
          have HBK : Hid (IRd wr (.slice (some ⟨g, 0, none⟩) ss.length c3) ss.reverse) := Lib.hid (by have := HF.out.1.rd; rwa [List.take_length] at this)
          have HW : Hid (Below w2.heap.size w2 wr) := Lib.hid HF.out.2
          clear HF hi hz0 hz1 hz2
          rcases Nat.eq_zero_or_pos ss.length with hz | hz
          · obtain rfl : ss = [] := List.eq_nil_of_length_eq_zero hz
            obtain rfl : h = 0 := HH.out.symm
            have HT1' : Hid (totR xs [] = N) := HT1
            have HT2' : Hid (totR xs [] = p) := HT2
            have HT3' : Hid (totR xs [] = q) := HT3
            have HU' : Hid (∀ wr, Below w1.heap.size w1 wr → IRd wr (.slice A2 0 c2) []) := HU
            have HBK' : Hid (IRd wr (.slice (some ⟨g, 0, none⟩) 0 c3) []) := HBK
            clear HT1 HT2 HT3 HU HBK
            have HT1 := HT1'
            have HT2 := HT2'
            have HT3 := HT3'
            have HU := HU'
            have HBK := HBK'
            clear HT1' HT2' HT3' HU' HBK'
            simp only [List.length_nil]
            rcases HUF.out with ⟨e, -⟩ | ⟨g', cap, e, hc'⟩
            · injection e with e1 e2 e3
              subst e1; subst e3
              clear HUF hz hl2 hmx2
              go_wp2_with fail
              have s0 : Below w2.heap.size w2 wr.drew := HW.out.drew
              refine wp_region_held_drew (S := fun w' => Below w2.heap.size w2 w') (by kernel_rfl) s0 (fun hHeld => ?_)
              refine take_in (i := 0) (v := ?_) rfl (by kernel_rfl) (fun _ _ _ h => h) rfl ?_ hHeld ?_
              rotate_left
              · intro w' hSw; go_simp; all_goals with_reducible rfl
              try simp only [Act.put, List.setIfInBounds_toArray, List.set_cons_zero, List.set_cons_succ]
              refine take_in (i := 1) (v := ?_) rfl (by kernel_rfl) (fun _ _ _ h => h) rfl ?_ hHeld ?_
              rotate_left
              · intro w' hSw; go_simp; all_goals with_reducible rfl
              try simp only [Act.put, List.setIfInBounds_toArray, List.set_cons_zero, List.set_cons_succ]
              refine take_in (i := 3) (v := ?_) rfl (by kernel_rfl) (fun _ _ _ h => h) rfl ?_ hHeld ?_
              rotate_left
              · intro w' hSw; go_simp; all_goals with_reducible rfl
              try simp only [Act.put, List.setIfInBounds_toArray, List.set_cons_zero, List.set_cons_succ]
              refine ready_one (i := 2) rfl (by kernel_rfl) (fun K hK => ?_)
              go_simp
              go_at_call 34
              refine (implTotalScore_any wr.drew _ _ xs [] (HV.out _ (below_step C2.out s0 C2.out.size)) (HBK.out.keep (SameAt.of_below (Below.refl _ _).drew))).mono ?_
              rintro e x1 ⟨rfl, y1⟩
              rw [HT1.out]
              have s1 := below_step s0 y1 s0.size
              refine hK.out _ x1 s1 (fun hHeld => ?_)
              clear hK K
              try simp only [Act.put, List.setIfInBounds_toArray, List.set_cons_zero, List.set_cons_succ]
              refine take_in (i := 4) (v := ?_) rfl (by kernel_rfl) (fun _ _ _ h => h) rfl ?_ hHeld ?_
              rotate_left
              · intro w' hSw; go_simp; all_goals with_reducible rfl
              try simp only [Act.put, List.setIfInBounds_toArray, List.set_cons_zero, List.set_cons_succ]
              refine take_in (i := 5) (v := ?_) rfl (by kernel_rfl) (fun _ _ _ h => h) rfl ?_ hHeld ?_
              rotate_left
              · intro w' hSw; go_simp; all_goals with_reducible rfl
              try simp only [Act.put, List.setIfInBounds_toArray, List.set_cons_zero, List.set_cons_succ]
              refine take_in (i := 6) (v := ?_) rfl (by kernel_rfl) (fun _ _ _ h => h) rfl ?_ hHeld ?_
              rotate_left
              · intro w' hSw; go_simp; all_goals with_reducible rfl
              try simp only [Act.put, List.setIfInBounds_toArray, List.set_cons_zero, List.set_cons_succ]
              refine take_in (i := 7) (v := ?_) rfl (by kernel_rfl) (fun _ _ _ h => h) rfl ?_ hHeld ?_
              rotate_left
              · intro w' hSw; go_simp; all_goals with_reducible rfl
              try simp only [Act.put, List.setIfInBounds_toArray, List.set_cons_zero, List.set_cons_succ]
              refine take_in (i := 8) (v := ?_) rfl (by kernel_rfl) (fun _ _ _ h => h) rfl ?_ hHeld ?_
              rotate_left
              · intro w' hSw; go_simp; all_goals with_reducible rfl
              try simp only [Act.put, List.setIfInBounds_toArray, List.set_cons_zero, List.set_cons_succ]
              refine take_in (i := 9) (v := ?_) rfl (by kernel_rfl) (fun _ _ _ h => h) rfl ?_ hHeld ?_
              rotate_left
              · intro w' hSw; go_simp; all_goals with_reducible rfl
              try simp only [Act.put, List.setIfInBounds_toArray, List.set_cons_zero, List.set_cons_succ]
              refine take_in (i := 11) (v := ?_) rfl (by kernel_rfl) (fun _ _ _ h => h) rfl ?_ hHeld ?_
              rotate_left
              · intro w' hSw; go_simp; all_goals with_reducible rfl
              try simp only [Act.put, List.setIfInBounds_toArray, List.set_cons_zero, List.set_cons_succ]
              refine take_in (i := 12) (v := ?_) rfl (by kernel_rfl) (fun _ _ _ h => h) rfl ?_ hHeld ?_
              rotate_left
              · intro w' hSw; go_simp; all_goals with_reducible rfl
              try simp only [Act.put, List.setIfInBounds_toArray, List.set_cons_zero, List.set_cons_succ]
              refine take_in (i := 13) (v := ?_) rfl (by kernel_rfl) (fun _ _ _ h => h) rfl ?_ hHeld ?_
              rotate_left
              · intro w' hSw; go_simp; all_goals with_reducible rfl
              try simp only [Act.put, List.setIfInBounds_toArray, List.set_cons_zero, List.set_cons_succ]
              refine take_in (i := 14) (v := ?_) rfl (by kernel_rfl) (fun _ _ _ h => h) rfl ?_ hHeld ?_
              rotate_left
              · intro w' hSw; go_simp; all_goals with_reducible rfl
              try simp only [Act.put, List.setIfInBounds_toArray, List.set_cons_zero, List.set_cons_succ]
              refine take_in (i := 17) (v := ?_) rfl (by kernel_rfl) (fun _ _ _ h => h) rfl ?_ hHeld ?_
              rotate_left
              · intro w' hSw; go_simp; all_goals with_reducible rfl
              try simp only [Act.put, List.setIfInBounds_toArray, List.set_cons_zero, List.set_cons_succ]
              refine ready_one (i := 10) rfl (by kernel_rfl) (fun K hK => ?_)
              go_simp
              go_at_call 34
              refine (implTotalScore_any x1 _ _ xs [] (HV.out _ (below_step C2.out s1 C2.out.size)) (IRd.none11 (by omega))).mono ?_
              rintro e x2 ⟨rfl, y2⟩
              rw [HT2.out]
              have s2 := below_step s1 y2 s1.size
              refine hK.out _ x2 s2 (fun hHeld => ?_)
              clear hK K
              try simp only [Act.put, List.setIfInBounds_toArray, List.set_cons_zero, List.set_cons_succ]
              refine ready_one (i := 15) rfl (by kernel_rfl) (fun K hK => ?_)
              go_simp
              go_at_call 34
              refine (implTotalScore_any x2 _ _ xs [] (HV.out _ (below_step C2.out s2 C2.out.size)) (IRd.none11 (by omega))).mono ?_
              rintro e x3 ⟨rfl, y3⟩
              rw [HT3.out]
              have s3 := below_step s2 y3 s2.size
              refine hK.out _ x3 s3 (fun hHeld => ?_)
              clear hK K
              try simp only [Act.put, List.setIfInBounds_toArray, List.set_cons_zero, List.set_cons_succ]
              have hpq := HPQ.out
              refine take_in (i := 16) (v := ?_) rfl (by kernel_rfl) (fun _ _ _ h => h) rfl ?_ hHeld ?_
              rotate_left
              · intro w' hSw; go_simp; all_goals with_reducible rfl
              try simp only [Act.put, List.setIfInBounds_toArray, List.set_cons_zero, List.set_cons_succ]
              clear hpq
              refine take_in (i := 18) (v := ?_) rfl (by kernel_rfl) (fun _ _ _ h => h) rfl ?_ hHeld ?_
              rotate_left
              · intro w' hSw; go_simp; all_goals with_reducible rfl
              try simp only [Act.put, List.setIfInBounds_toArray, List.set_cons_zero, List.set_cons_succ]
              refine take_in (i := 19) (v := ?_) rfl (by kernel_rfl) (fun _ _ _ h => h) rfl ?_ hHeld ?_
              rotate_left
              · intro w' hSw; go_simp; all_goals with_reducible rfl
              try simp only [Act.put, List.setIfInBounds_toArray, List.set_cons_zero, List.set_cons_succ]
              refine take_in (i := 20) (v := ?_) rfl (by kernel_rfl) (fun _ _ _ h => h) rfl ?_ hHeld ?_
              rotate_left
              · intro w' hSw; go_simp; all_goals with_reducible rfl
              try simp only [Act.put, List.setIfInBounds_toArray, List.set_cons_zero, List.set_cons_succ]
              refine ready_one (i := 21) rfl (by kernel_rfl) (fun K hK => ?_)
              go_simp
              go_at_call 21
              refine (alive_any _).mono ?_
              rintro e w' ⟨rfl, rfl⟩
              refine hK.out _ x3 s3 (fun hHeld => ?_)
              clear hK K
              try simp only [Act.put, List.setIfInBounds_toArray, List.set_cons_zero, List.set_cons_succ]
              refine take_in (i := 22) (v := ?_) rfl (by kernel_rfl) (fun _ _ _ h => h) rfl ?_ hHeld ?_
              rotate_left
              · intro w' hSw; go_simp; all_goals with_reducible rfl
              try simp only [Act.put, List.setIfInBounds_toArray, List.set_cons_zero, List.set_cons_succ]
              refine take_in (i := 23) (v := ?_) rfl (by kernel_rfl) (fun _ _ _ h => h) rfl ?_ hHeld ?_
              rotate_left
              · intro w' hSw; go_simp; all_goals with_reducible rfl
              try simp only [Act.put, List.setIfInBounds_toArray, List.set_cons_zero, List.set_cons_succ]
              refine wpAnyH_done (by kernel_rfl) ?_ _
              have SF := Lib.hid s3
              clear s0 s1 s2 s3 y1 y2 y3
              go_wp2_with fail
              go_ret
              exact ⟨rfl, below_step HB1.out (below_step C2.out SF.out C2.out.size) HB1.out.size⟩
            · injection e with e1 e2 e3
              subst e1; subst e3
              clear HUF hz
              by_cases hc0 : c2 = 0
              · subst hc0
                clear hc' hl2 hmx2
                go_wp2_with fail
                have s0 : Below w2.heap.size w2 wr.drew := HW.out.drew
                refine wp_region_held_drew (S := fun w' => Below w2.heap.size w2 w') (by kernel_rfl) s0 (fun hHeld => ?_)
                refine take_in (i := 0) (v := ?_) rfl (by kernel_rfl) (fun _ _ _ h => h) rfl ?_ hHeld ?_
                rotate_left
                · intro w' hSw; go_simp; all_goals with_reducible rfl
                try simp only [Act.put, List.setIfInBounds_toArray, List.set_cons_zero, List.set_cons_succ]
                refine take_in (i := 1) (v := ?_) rfl (by kernel_rfl) (fun _ _ _ h => h) rfl ?_ hHeld ?_
                rotate_left
                · intro w' hSw; go_simp; all_goals with_reducible rfl
                try simp only [Act.put, List.setIfInBounds_toArray, List.set_cons_zero, List.set_cons_succ]
                refine take_in (i := 3) (v := ?_) rfl (by kernel_rfl) (fun _ _ _ h => h) rfl ?_ hHeld ?_
                rotate_left
                · intro w' hSw; go_simp; all_goals with_reducible rfl
                try simp only [Act.put, List.setIfInBounds_toArray, List.set_cons_zero, List.set_cons_succ]
                refine ready_one (i := 2) rfl (by kernel_rfl) (fun K hK => ?_)
                go_simp
                go_at_call 34
                refine (implTotalScore_any wr.drew _ _ xs [] (HV.out _ (below_step C2.out s0 C2.out.size)) (HBK.out.keep (SameAt.of_below (Below.refl _ _).drew))).mono ?_
                rintro e x1 ⟨rfl, y1⟩
                rw [HT1.out]
                have s1 := below_step s0 y1 s0.size
                refine hK.out _ x1 s1 (fun hHeld => ?_)
                clear hK K
                try simp only [Act.put, List.setIfInBounds_toArray, List.set_cons_zero, List.set_cons_succ]
                refine take_in (i := 4) (v := ?_) rfl (by kernel_rfl) (fun _ _ _ h => h) rfl ?_ hHeld ?_
                rotate_left
                · intro w' hSw; go_simp; all_goals with_reducible rfl
                try simp only [Act.put, List.setIfInBounds_toArray, List.set_cons_zero, List.set_cons_succ]
                refine take_in (i := 5) (v := ?_) rfl (by kernel_rfl) (fun _ _ _ h => h) rfl ?_ hHeld ?_
                rotate_left
                · intro w' hSw; go_simp; all_goals with_reducible rfl
                try simp only [Act.put, List.setIfInBounds_toArray, List.set_cons_zero, List.set_cons_succ]
                refine take_in (i := 6) (v := ?_) rfl (by kernel_rfl) (fun _ _ _ h => h) rfl ?_ hHeld ?_
                rotate_left
                · intro w' hSw; go_simp; all_goals with_reducible rfl
                try simp only [Act.put, List.setIfInBounds_toArray, List.set_cons_zero, List.set_cons_succ]
                refine take_in (i := 7) (v := ?_) rfl (by kernel_rfl) (fun _ _ _ h => h) rfl ?_ hHeld ?_
                rotate_left
                · intro w' hSw; go_simp; all_goals with_reducible rfl
                try simp only [Act.put, List.setIfInBounds_toArray, List.set_cons_zero, List.set_cons_succ]
                refine take_in (i := 8) (v := ?_) rfl (by kernel_rfl) (fun _ _ _ h => h) rfl ?_ hHeld ?_
                rotate_left
                · intro w' hSw; go_simp; all_goals with_reducible rfl
                try simp only [Act.put, List.setIfInBounds_toArray, List.set_cons_zero, List.set_cons_succ]
                refine take_in (i := 9) (v := ?_) rfl (by kernel_rfl) (fun _ _ _ h => h) rfl ?_ hHeld ?_
                rotate_left
                · intro w' hSw; go_simp; all_goals with_reducible rfl
                try simp only [Act.put, List.setIfInBounds_toArray, List.set_cons_zero, List.set_cons_succ]
                refine take_in (i := 11) (v := ?_) rfl (by kernel_rfl) (fun _ _ _ h => h) rfl ?_ hHeld ?_
                rotate_left
                · intro w' hSw; go_simp; all_goals with_reducible rfl
                try simp only [Act.put, List.setIfInBounds_toArray, List.set_cons_zero, List.set_cons_succ]
                refine take_in (i := 12) (v := ?_) rfl (by kernel_rfl) (fun _ _ _ h => h) rfl ?_ hHeld ?_
                rotate_left
                · intro w' hSw; go_simp; all_goals with_reducible rfl
                try simp only [Act.put, List.setIfInBounds_toArray, List.set_cons_zero, List.set_cons_succ]
                refine take_in (i := 13) (v := ?_) rfl (by kernel_rfl) (fun _ _ _ h => h) rfl ?_ hHeld ?_
                rotate_left
                · intro w' hSw; go_simp; all_goals with_reducible rfl
                try simp only [Act.put, List.setIfInBounds_toArray, List.set_cons_zero, List.set_cons_succ]
                refine take_in (i := 14) (v := ?_) rfl (by kernel_rfl) (fun _ _ _ h => h) rfl ?_ hHeld ?_
                rotate_left
                · intro w' hSw; go_simp; all_goals with_reducible rfl
                try simp only [Act.put, List.setIfInBounds_toArray, List.set_cons_zero, List.set_cons_succ]
                refine take_in (i := 17) (v := ?_) rfl (by kernel_rfl) (fun _ _ _ h => h) rfl ?_ hHeld ?_
                rotate_left
                · intro w' hSw; go_simp; all_goals with_reducible rfl
                try simp only [Act.put, List.setIfInBounds_toArray, List.set_cons_zero, List.set_cons_succ]
                refine ready_one (i := 10) rfl (by kernel_rfl) (fun K hK => ?_)
                go_simp
                go_at_call 34
                refine (implTotalScore_any x1 _ _ xs [] (HV.out _ (below_step C2.out s1 C2.out.size)) (IRd.none11 (by omega))).mono ?_
                rintro e x2 ⟨rfl, y2⟩
                rw [HT2.out]
                have s2 := below_step s1 y2 s1.size
                refine hK.out _ x2 s2 (fun hHeld => ?_)
                clear hK K
                try simp only [Act.put, List.setIfInBounds_toArray, List.set_cons_zero, List.set_cons_succ]
                refine ready_one (i := 15) rfl (by kernel_rfl) (fun K hK => ?_)
                go_simp
                go_at_call 34
                refine (implTotalScore_any x2 _ _ xs [] (HV.out _ (below_step C2.out s2 C2.out.size)) (IRd.none11 (by omega))).mono ?_
                rintro e x3 ⟨rfl, y3⟩
                rw [HT3.out]
                have s3 := below_step s2 y3 s2.size
                refine hK.out _ x3 s3 (fun hHeld => ?_)
                clear hK K
                try simp only [Act.put, List.setIfInBounds_toArray, List.set_cons_zero, List.set_cons_succ]
                have hpq := HPQ.out
                refine take_in (i := 16) (v := ?_) rfl (by kernel_rfl) (fun _ _ _ h => h) rfl ?_ hHeld ?_
                rotate_left
                · intro w' hSw; go_simp; all_goals with_reducible rfl
                try simp only [Act.put, List.setIfInBounds_toArray, List.set_cons_zero, List.set_cons_succ]
                clear hpq
                refine take_in (i := 18) (v := ?_) rfl (by kernel_rfl) (fun _ _ _ h => h) rfl ?_ hHeld ?_
                rotate_left
                · intro w' hSw; go_simp; all_goals with_reducible rfl
                try simp only [Act.put, List.setIfInBounds_toArray, List.set_cons_zero, List.set_cons_succ]
                refine take_in (i := 19) (v := ?_) rfl (by kernel_rfl) (fun _ _ _ h => h) rfl ?_ hHeld ?_
                rotate_left
                · intro w' hSw; go_simp; all_goals with_reducible rfl
                try simp only [Act.put, List.setIfInBounds_toArray, List.set_cons_zero, List.set_cons_succ]
                refine take_in (i := 20) (v := ?_) rfl (by kernel_rfl) (fun _ _ _ h => h) rfl ?_ hHeld ?_
                rotate_left
                · intro w' hSw; go_simp; all_goals with_reducible rfl
                try simp only [Act.put, List.setIfInBounds_toArray, List.set_cons_zero, List.set_cons_succ]
                refine ready_one (i := 21) rfl (by kernel_rfl) (fun K hK => ?_)
                go_simp
                go_at_call 21
                refine (alive_any _).mono ?_
                rintro e w' ⟨rfl, rfl⟩
                refine hK.out _ x3 s3 (fun hHeld => ?_)
                clear hK K
                try simp only [Act.put, List.setIfInBounds_toArray, List.set_cons_zero, List.set_cons_succ]
                refine take_in (i := 22) (v := ?_) rfl (by kernel_rfl) (fun _ _ _ h => h) rfl ?_ hHeld ?_
                rotate_left
                · intro w' hSw; go_simp; all_goals with_reducible rfl
                try simp only [Act.put, List.setIfInBounds_toArray, List.set_cons_zero, List.set_cons_succ]
                refine take_in (i := 23) (v := ?_) rfl (by kernel_rfl) (fun _ _ _ h => h) rfl ?_ hHeld ?_
                rotate_left
                · intro w' hSw; go_simp; all_goals with_reducible rfl
                try simp only [Act.put, List.setIfInBounds_toArray, List.set_cons_zero, List.set_cons_succ]
                refine wpAnyH_done (by kernel_rfl) ?_ _
                have SF := Lib.hid s3
                clear s0 s1 s2 s3 y1 y2 y3
                go_wp2_with fail
                go_ret
                exact ⟨rfl, below_step HB1.out (below_step C2.out SF.out C2.out.size) HB1.out.size⟩
              · have hc1 : (0 : Int) < (c2 : Int) := by omega
                have hc3 : ¬ (0 = c2) := by omega
                go_wp2_with fail
                have s0 : Below w2.heap.size w2 wr.drew := HW.out.drew
                refine wp_region_held_drew (S := fun w' => Below w2.heap.size w2 w') (by kernel_rfl) s0 (fun hHeld => ?_)
                refine take_in (i := 0) (v := ?_) rfl (by kernel_rfl) (fun _ _ _ h => h) rfl ?_ hHeld ?_
                rotate_left
                · intro w' hSw; go_simp; all_goals with_reducible rfl
                try simp only [Act.put, List.setIfInBounds_toArray, List.set_cons_zero, List.set_cons_succ]
                refine take_in (i := 1) (v := ?_) rfl (by kernel_rfl) (fun _ _ _ h => h) rfl ?_ hHeld ?_
                rotate_left
                · intro w' hSw; go_simp; all_goals with_reducible rfl
                try simp only [Act.put, List.setIfInBounds_toArray, List.set_cons_zero, List.set_cons_succ]
                refine take_in (i := 3) (v := ?_) rfl (by kernel_rfl) (fun _ _ _ h => h) rfl ?_ hHeld ?_
                rotate_left
                · intro w' hSw; go_simp; all_goals with_reducible rfl
                try simp only [Act.put, List.setIfInBounds_toArray, List.set_cons_zero, List.set_cons_succ]
                refine ready_one (i := 2) rfl (by kernel_rfl) (fun K hK => ?_)
                go_simp
                go_at_call 34
                refine (implTotalScore_any wr.drew _ _ xs [] (HV.out _ (below_step C2.out s0 C2.out.size)) (HBK.out.keep (SameAt.of_below (Below.refl _ _).drew))).mono ?_
                rintro e x1 ⟨rfl, y1⟩
                rw [HT1.out]
                have s1 := below_step s0 y1 s0.size
                refine hK.out _ x1 s1 (fun hHeld => ?_)
                clear hK K
                try simp only [Act.put, List.setIfInBounds_toArray, List.set_cons_zero, List.set_cons_succ]
                refine take_in (i := 4) (v := ?_) rfl (by kernel_rfl) (fun _ _ _ h => h) rfl ?_ hHeld ?_
                rotate_left
                · intro w' hSw; go_simp; all_goals with_reducible rfl
                try simp only [Act.put, List.setIfInBounds_toArray, List.set_cons_zero, List.set_cons_succ]
                refine take_in (i := 5) (v := ?_) rfl (by kernel_rfl) (fun _ _ _ h => h) rfl ?_ hHeld ?_
                rotate_left
                · intro w' hSw; go_simp; all_goals with_reducible rfl
                try simp only [Act.put, List.setIfInBounds_toArray, List.set_cons_zero, List.set_cons_succ]
                refine take_in (i := 6) (v := ?_) rfl (by kernel_rfl) (fun _ _ _ h => h) rfl ?_ hHeld ?_
                rotate_left
                · intro w' hSw; go_simp; all_goals with_reducible rfl
                try simp only [Act.put, List.setIfInBounds_toArray, List.set_cons_zero, List.set_cons_succ]
                refine take_in (i := 7) (v := ?_) rfl (by kernel_rfl) (fun _ _ _ h => h) rfl ?_ hHeld ?_
                rotate_left
                · intro w' hSw; go_simp; all_goals with_reducible rfl
                try simp only [Act.put, List.setIfInBounds_toArray, List.set_cons_zero, List.set_cons_succ]
                refine take_in (i := 8) (v := ?_) rfl (by kernel_rfl) (fun _ _ _ h => h) rfl ?_ hHeld ?_
                rotate_left
                · intro w' hSw; go_simp; all_goals with_reducible rfl
                try simp only [Act.put, List.setIfInBounds_toArray, List.set_cons_zero, List.set_cons_succ]
                refine take_in (i := 9) (v := ?_) rfl (by kernel_rfl) (fun _ _ _ h => h) rfl ?_ hHeld ?_
                rotate_left
                · intro w' hSw; go_simp; all_goals with_reducible rfl
                try simp only [Act.put, List.setIfInBounds_toArray, List.set_cons_zero, List.set_cons_succ]
                refine take_in (i := 11) (v := ?_) rfl (by kernel_rfl) (fun _ _ _ h => h) rfl ?_ hHeld ?_
                rotate_left
                · intro w' hSw; go_simp; all_goals with_reducible rfl
                try simp only [Act.put, List.setIfInBounds_toArray, List.set_cons_zero, List.set_cons_succ]
                refine take_in (i := 12) (v := ?_) rfl (by kernel_rfl) (fun _ _ _ h => h) rfl ?_ hHeld ?_
                rotate_left
                · intro w' hSw; go_simp; all_goals with_reducible rfl
                try simp only [Act.put, List.setIfInBounds_toArray, List.set_cons_zero, List.set_cons_succ]
                refine take_in (i := 13) (v := ?_) rfl (by kernel_rfl) (fun _ _ _ h => h) rfl ?_ hHeld ?_
                rotate_left
                · intro w' hSw; go_simp; all_goals with_reducible rfl
                try simp only [Act.put, List.setIfInBounds_toArray, List.set_cons_zero, List.set_cons_succ]
                refine take_in (i := 14) (v := ?_) rfl (by kernel_rfl) (fun _ _ _ h => h) rfl ?_ hHeld ?_
                rotate_left
                · intro w' hSw; go_simp; all_goals with_reducible rfl
                try simp only [Act.put, List.setIfInBounds_toArray, List.set_cons_zero, List.set_cons_succ]
                refine take_in (i := 17) (v := ?_) rfl (by kernel_rfl) (fun _ _ _ h => h) rfl ?_ hHeld ?_
                rotate_left
                · intro w' hSw; go_simp; all_goals with_reducible rfl
                try simp only [Act.put, List.setIfInBounds_toArray, List.set_cons_zero, List.set_cons_succ]
                refine ready_one (i := 10) rfl (by kernel_rfl) (fun K hK => ?_)
                go_simp
                go_at_call 34
                refine (implTotalScore_any x1 _ _ xs [] (HV.out _ (below_step C2.out s1 C2.out.size)) (IRd.none11 (by omega))).mono ?_
                rintro e x2 ⟨rfl, y2⟩
                rw [HT2.out]
                have s2 := below_step s1 y2 s1.size
                refine hK.out _ x2 s2 (fun hHeld => ?_)
                clear hK K
                try simp only [Act.put, List.setIfInBounds_toArray, List.set_cons_zero, List.set_cons_succ]
                refine ready_one (i := 15) rfl (by kernel_rfl) (fun K hK => ?_)
                go_simp
                go_at_call 34
                refine (implTotalScore_any x2 _ _ xs [] (HV.out _ (below_step C2.out s2 C2.out.size)) (IRd.none11 (by omega))).mono ?_
                rintro e x3 ⟨rfl, y3⟩
                rw [HT3.out]
                have s3 := below_step s2 y3 s2.size
                refine hK.out _ x3 s3 (fun hHeld => ?_)
                clear hK K
                try simp only [Act.put, List.setIfInBounds_toArray, List.set_cons_zero, List.set_cons_succ]
                have hpq := HPQ.out
                refine take_in (i := 16) (v := ?_) rfl (by kernel_rfl) (fun _ _ _ h => h) rfl ?_ hHeld ?_
                rotate_left
                · intro w' hSw; go_simp; all_goals with_reducible rfl
                try simp only [Act.put, List.setIfInBounds_toArray, List.set_cons_zero, List.set_cons_succ]
                clear hpq
                refine take_in (i := 18) (v := ?_) rfl (by kernel_rfl) (fun _ _ _ h => h) rfl ?_ hHeld ?_
                rotate_left
                · intro w' hSw; go_simp; all_goals with_reducible rfl
                try simp only [Act.put, List.setIfInBounds_toArray, List.set_cons_zero, List.set_cons_succ]
                refine take_in (i := 19) (v := ?_) rfl (by kernel_rfl) (fun _ _ _ h => h) rfl ?_ hHeld ?_
                rotate_left
                · intro w' hSw; go_simp; all_goals with_reducible rfl
                try simp only [Act.put, List.setIfInBounds_toArray, List.set_cons_zero, List.set_cons_succ]
                refine take_in (i := 20) (v := ?_) rfl (by kernel_rfl) (fun _ _ _ h => h) rfl ?_ hHeld ?_
                rotate_left
                · intro w' hSw; go_simp; all_goals with_reducible rfl
                try simp only [Act.put, List.setIfInBounds_toArray, List.set_cons_zero, List.set_cons_succ]
                refine ready_one (i := 21) rfl (by kernel_rfl) (fun K hK => ?_)
                go_simp
                go_at_call 21
                refine (alive_any _).mono ?_
                rintro e w' ⟨rfl, rfl⟩
                refine hK.out _ x3 s3 (fun hHeld => ?_)
                clear hK K
                try simp only [Act.put, List.setIfInBounds_toArray, List.set_cons_zero, List.set_cons_succ]
                refine take_in (i := 22) (v := ?_) rfl (by kernel_rfl) (fun _ _ _ h => h) rfl ?_ hHeld ?_
                rotate_left
                · intro w' hSw; go_simp; all_goals with_reducible rfl
                try simp only [Act.put, List.setIfInBounds_toArray, List.set_cons_zero, List.set_cons_succ]
                refine take_in (i := 23) (v := ?_) rfl (by kernel_rfl) (fun _ _ _ h => h) rfl ?_ hHeld ?_
                rotate_left
                · intro w' hSw; go_simp; all_goals with_reducible rfl
                try simp only [Act.put, List.setIfInBounds_toArray, List.set_cons_zero, List.set_cons_succ]
                refine wpAnyH_done (by kernel_rfl) ?_ _
                have SF := Lib.hid s3
                clear s0 s1 s2 s3 y1 y2 y3
                go_wp2_with fail
                go_ret
                exact ⟨rfl, below_step HB1.out (below_step C2.out SF.out C2.out.size) HB1.out.size⟩
          · obtain ⟨b, off, x, rfl, -, -, -⟩ := (HU.out wr (below_step C2.out HW.out C2.out.size)).at_ hz
            have i0 : h < ss.length := by have := HH.out; omega
            have i1 : (0 : Int) ≤ (h : Int) := by omega
            have i2 : (h : Int) ≤ (ss.length : Int) := by omega
            have i3 : h ≤ ss.length := by omega
            have i4 : (h : Int) < (c2 : Int) := by omega
            have i5 : h < c2 := by omega
            have i6 : (h : Int) < (ss.length : Int) := by omega
            have i7 : h ≠ c2 := by omega
            have i8 : h ≤ c2 := by omega
            have i10 : ¬ (c2 = h) := by omega
            have i9 : (h : Int) ≤ (c2 : Int) := by omega
            have hhw := HW1.out
            have hhw2 := HW2.out
            have hhd := HHD.out
            have hhq := HHQ.out
            go_wp2_with fail
            clear hhw hhw2 hhd hhq
            have s0 : Below w2.heap.size w2 wr.drew := HW.out.drew
            refine wp_region_held_drew (S := fun w' => Below w2.heap.size w2 w') (by kernel_rfl) s0 (fun hHeld => ?_)
            refine take_in (i := 0) (v := ?_) rfl (by kernel_rfl) (fun _ _ _ h => h) rfl ?_ hHeld ?_
            rotate_left
            · intro w' hSw; go_simp; all_goals with_reducible rfl
            try simp only [Act.put, List.setIfInBounds_toArray, List.set_cons_zero, List.set_cons_succ]
            refine take_in (i := 1) (v := ?_) rfl (by kernel_rfl) (fun _ _ _ h => h) rfl ?_ hHeld ?_
            rotate_left
            · intro w' hSw; go_simp; all_goals with_reducible rfl
            try simp only [Act.put, List.setIfInBounds_toArray, List.set_cons_zero, List.set_cons_succ]
            refine take_in (i := 3) (v := ?_) rfl (by kernel_rfl) (fun _ _ _ h => h) rfl ?_ hHeld ?_
            rotate_left
            · intro w' hSw; go_simp; all_goals with_reducible rfl
            try simp only [Act.put, List.setIfInBounds_toArray, List.set_cons_zero, List.set_cons_succ]
            refine ready_one (i := 2) rfl (by kernel_rfl) (fun K hK => ?_)
            go_simp
            go_at_call 34
            refine (implTotalScore_any wr.drew _ _ xs ss.reverse (HV.out _ (below_step C2.out s0 C2.out.size)) (HBK.out.keep (SameAt.of_below (Below.refl _ _).drew))).mono ?_
            rintro e x1 ⟨rfl, y1⟩
            rw [HT1.out]
            have s1 := below_step s0 y1 s0.size
            refine hK.out _ x1 s1 (fun hHeld => ?_)
            clear hK K
            try simp only [Act.put, List.setIfInBounds_toArray, List.set_cons_zero, List.set_cons_succ]
            refine take_in (i := 4) (v := ?_) rfl (by kernel_rfl) (fun _ _ _ h => h) rfl ?_ hHeld ?_
            rotate_left
            · intro w' hSw; go_simp; all_goals with_reducible rfl
            try simp only [Act.put, List.setIfInBounds_toArray, List.set_cons_zero, List.set_cons_succ]
            refine take_in (i := 5) (v := ?_) rfl (by kernel_rfl) (fun _ _ _ h => h) rfl ?_ hHeld ?_
            rotate_left
            · intro w' hSw; go_simp; all_goals with_reducible rfl
            try simp only [Act.put, List.setIfInBounds_toArray, List.set_cons_zero, List.set_cons_succ]
            refine take_in (i := 6) (v := ?_) rfl (by kernel_rfl) (fun _ _ _ h => h) rfl ?_ hHeld ?_
            rotate_left
            · intro w' hSw; go_simp; all_goals with_reducible rfl
            try simp only [Act.put, List.setIfInBounds_toArray, List.set_cons_zero, List.set_cons_succ]
            refine take_in (i := 7) (v := ?_) rfl (by kernel_rfl) (fun _ _ _ h => h) rfl ?_ hHeld ?_
            rotate_left
            · intro w' hSw; go_simp; all_goals with_reducible rfl
            try simp only [Act.put, List.setIfInBounds_toArray, List.set_cons_zero, List.set_cons_succ]
            refine take_in (i := 8) (v := ?_) rfl (by kernel_rfl) (fun _ _ _ h => h) rfl ?_ hHeld ?_
            rotate_left
            · intro w' hSw; go_simp; all_goals with_reducible rfl
            try simp only [Act.put, List.setIfInBounds_toArray, List.set_cons_zero, List.set_cons_succ]
            refine take_in (i := 9) (v := ?_) rfl (by kernel_rfl) (fun _ _ _ h => h) rfl ?_ hHeld ?_
            rotate_left
            · intro w' hSw; go_simp; all_goals with_reducible rfl
            try simp only [Act.put, List.setIfInBounds_toArray, List.set_cons_zero, List.set_cons_succ]
            refine take_in (i := 11) (v := ?_) rfl (by kernel_rfl) (fun _ _ _ h => h) rfl ?_ hHeld ?_
            rotate_left
            · intro w' hSw; go_simp; all_goals with_reducible rfl
            try simp only [Act.put, List.setIfInBounds_toArray, List.set_cons_zero, List.set_cons_succ]
            refine take_in (i := 12) (v := ?_) rfl (by kernel_rfl) (fun _ _ _ h => h) rfl ?_ hHeld ?_
            rotate_left
            · intro w' hSw; go_simp; all_goals with_reducible rfl
            try simp only [Act.put, List.setIfInBounds_toArray, List.set_cons_zero, List.set_cons_succ]
            refine take_in (i := 13) (v := ?_) rfl (by kernel_rfl) (fun _ _ _ h => h) rfl ?_ hHeld ?_
            rotate_left
            · intro w' hSw; go_simp; all_goals with_reducible rfl
            try simp only [Act.put, List.setIfInBounds_toArray, List.set_cons_zero, List.set_cons_succ]
            refine take_in (i := 14) (v := ?_) rfl (by kernel_rfl) (fun _ _ _ h => h) rfl ?_ hHeld ?_
            rotate_left
            · intro w' hSw; go_simp; all_goals with_reducible rfl
            try simp only [Act.put, List.setIfInBounds_toArray, List.set_cons_zero, List.set_cons_succ]
            refine take_in (i := 17) (v := ?_) rfl (by kernel_rfl) (fun _ _ _ h => h) rfl ?_ hHeld ?_
            rotate_left
            · intro w' hSw; go_simp; all_goals with_reducible rfl
            try simp only [Act.put, List.setIfInBounds_toArray, List.set_cons_zero, List.set_cons_succ]
            refine ready_one (i := 10) rfl (by kernel_rfl) (fun K hK => ?_)
            go_simp
            go_at_call 34
            refine (implTotalScore_any x1 _ _ xs (ss.take h) (HV.out _ (below_step C2.out s1 C2.out.size)) (IRd.take11 (HU.out x1 (below_step C2.out s1 C2.out.size)) i3)).mono ?_
            rintro e x2 ⟨rfl, y2⟩
            rw [HT2.out]
            have s2 := below_step s1 y2 s1.size
            refine hK.out _ x2 s2 (fun hHeld => ?_)
            clear hK K
            try simp only [Act.put, List.setIfInBounds_toArray, List.set_cons_zero, List.set_cons_succ]
            refine ready_one (i := 15) rfl (by kernel_rfl) (fun K hK => ?_)
            go_simp
            go_at_call 34
            refine (implTotalScore_any x2 _ _ xs (ss.drop h) (HV.out _ (below_step C2.out s2 C2.out.size)) (IRd.drop11 (HU.out x2 (below_step C2.out s2 C2.out.size)) (by omega))).mono ?_
            rintro e x3 ⟨rfl, y3⟩
            rw [HT3.out]
            have s3 := below_step s2 y3 s2.size
            refine hK.out _ x3 s3 (fun hHeld => ?_)
            clear hK K
            try simp only [Act.put, List.setIfInBounds_toArray, List.set_cons_zero, List.set_cons_succ]
            have hpq := HPQ.out
            refine take_in (i := 16) (v := ?_) rfl (by kernel_rfl) (fun _ _ _ h => h) rfl ?_ hHeld ?_
            rotate_left
            · intro w' hSw; go_simp; all_goals with_reducible rfl
            try simp only [Act.put, List.setIfInBounds_toArray, List.set_cons_zero, List.set_cons_succ]
            clear hpq
            refine take_in (i := 18) (v := ?_) rfl (by kernel_rfl) (fun _ _ _ h => h) rfl ?_ hHeld ?_
            rotate_left
            · intro w' hSw; go_simp; all_goals with_reducible rfl
            try simp only [Act.put, List.setIfInBounds_toArray, List.set_cons_zero, List.set_cons_succ]
            refine take_in (i := 19) (v := ?_) rfl (by kernel_rfl) (fun _ _ _ h => h) rfl ?_ hHeld ?_
            rotate_left
            · intro w' hSw; go_simp; all_goals with_reducible rfl
            try simp only [Act.put, List.setIfInBounds_toArray, List.set_cons_zero, List.set_cons_succ]
            refine take_in (i := 20) (v := ?_) rfl (by kernel_rfl) (fun _ _ _ h => h) rfl ?_ hHeld ?_
            rotate_left
            · intro w' hSw; go_simp; all_goals with_reducible rfl
            try simp only [Act.put, List.setIfInBounds_toArray, List.set_cons_zero, List.set_cons_succ]
            refine ready_one (i := 21) rfl (by kernel_rfl) (fun K hK => ?_)
            go_simp
            go_at_call 21
            refine (alive_any _).mono ?_
            rintro e w' ⟨rfl, rfl⟩
            refine hK.out _ x3 s3 (fun hHeld => ?_)
            clear hK K
            try simp only [Act.put, List.setIfInBounds_toArray, List.set_cons_zero, List.set_cons_succ]
            refine take_in (i := 22) (v := ?_) rfl (by kernel_rfl) (fun _ _ _ h => h) rfl ?_ hHeld ?_
            rotate_left
            · intro w' hSw; go_simp; all_goals with_reducible rfl
            try simp only [Act.put, List.setIfInBounds_toArray, List.set_cons_zero, List.set_cons_succ]
            refine take_in (i := 23) (v := ?_) rfl (by kernel_rfl) (fun _ _ _ h => h) rfl ?_ hHeld ?_
            rotate_left
            · intro w' hSw; go_simp; all_goals with_reducible rfl
            try simp only [Act.put, List.setIfInBounds_toArray, List.set_cons_zero, List.set_cons_succ]
            refine wpAnyH_done (by kernel_rfl) ?_ _
            have SF := Lib.hid s3
            clear s0 s1 s2 s3 y1 y2 y3
            go_wp2_with fail
            go_ret
            exact ⟨rfl, below_step HB1.out (below_step C2.out SF.out C2.out.size) HB1.out.size⟩
    · have HR : Hid (totR xs ss = -1) := Lib.hid (by rw [totR, h]; rfl)
      clear h
      have C1 := Lib.hid (Below.refl w1.heap.size w1)
      go_wp2_with fail
      refine (implTotalScore_any w1 _ _ xs ss (HV.out w1 C1.out) (HU.out w1 C1.out)).mono ?_
      rintro e w2 ⟨rfl, b2⟩
      rw [HR.out]
      have C2 := Lib.hid (below_step C1.out b2 C1.out.size)
      clear b2
      go_wp2_with fail
      refine (specTotalScore_any w2 _ _ xs ss (HV.out w2 C2.out) (HU.out w2 C2.out)).mono ?_
      rintro e w' ⟨rfl, rfl⟩
      rw [HR.out]
      go_wp2_with fail
      refine (alive_any _).mono ?_
      rintro e w' ⟨rfl, rfl⟩

      go_wp2_with fail
      go_ret
      exact ⟨rfl, below_step HB1.out C2.out HB1.out.size⟩

end Go.Proofs.Ytnkgnhnggjoglaa
