/- Contracts of the program's LosesBy, LosingStakes, SafeOk, SureLossOf. Conditions: a row of quotes, a row of stakes that read as lists. -/
import Derived.Test.YtpldhdidobggdaaDx
import Derived.Test.YtpldhdidobggdaaNj
import Derived.Test.YtpldhdidobggdaaSk
namespace Go.Proofs.Ytpldhdidobggdaa
open Go.RowKit Go.Shelf
set_option linter.unusedVariables false
attribute [local go_sem] Oper.semAt_some

set_option maxHeartbeats 2000000 in
theorem implLosesBy_any (w : World) (n : Int) (v u : Value) (qs : List Qt) (ss : List Int) (hv : QRd w v qs) (hu : IRd w u ss) :
    Calls Try.prog 13 #[.int .i64 n, v, u] w (BoolPost (lossB n qs ss) w) := by
  have HV := Lib.hid hv
  have HU := Lib.hid hu
  clear hv hu
  rcases Bool.eq_false_or_eq_true (balB n qs ss) with h | h
  · have HE : Hid (lossB n qs ss = losesB (balR n qs ss)) := Lib.hid (by rw [lossB, h, Bool.true_and, balR_yes h])
    go_enter Try.func13, Try.ntmps13
    go_wp2_with fail
    refine (implBalanceOf_any _ _ _ _ _ _ HV.out HU.out).mono ?_
    rintro r w2 ⟨x, rfl, o2, b2⟩
    have HO := Lib.hid o2.rd
    have HB := Lib.hid b2
    rw [h]
    clear o2 b2 h
    go_wp2_with fail
    refine (implLosesOk_any _ _ _ HO.out).mono ?_
    rintro e w' ⟨rfl, rfl⟩
    go_wp2_with fail
    go_ret
    exact ⟨ret_bool HE.out.symm, HB.out⟩
  · have HE : Hid (lossB n qs ss = false) := Lib.hid (by rw [lossB, h, Bool.false_and])
    go_enter Try.func13, Try.ntmps13
    go_wp2_with fail
    refine (implBalanceOf_any _ _ _ _ _ _ HV.out HU.out).mono ?_
    rintro r w2 ⟨x, rfl, o2, b2⟩
    have HB := Lib.hid b2
    rw [h]
    clear o2 b2 h
    go_wp2_with fail
    go_ret
    exact ⟨ret_bool HE.out.symm, HB.out⟩

theorem calls_round {l n : Nat} {P : Program} {f : FuncId} {args : Array Value} {w : World} {R : Ending → World → Prop} (h : Calls P f args w R) : CallsIn (Fence.wide.inRound l) n P f args w R :=
  callsIn_wide.2 h

theorem kept_below {C l : Nat} {A B : World} (h : Below A.heap.size A B) : KeptBut C l A B := ⟨h.size, fun k hk _ _ => h.block k hk⟩

theorem others_below {A B : World} (h : Below A.heap.size A B) : KeepsOthers A B :=
  ⟨h.size, fun k o hk _ => (h.block k (Array.getElem?_eq_some_iff.1 hk).1).trans hk⟩

/-- no row that has come loses -/
def LosI (n : Int) (qs : List Qt) (w : World) (pre : List (List Int)) (A : World) : Prop := (∀ y ∈ pre, lossB n qs y = false) ∧ ResI w (.slice none 0 0) false A

/-- the row that came last loses, and none before it: the body has returned it -/
def LosX (n : Int) (qs : List Qt) (w : World) (c : Code) (pre : List (List Int)) (A : World) : Prop :=
  c = .ret ∧ ∃ ys x v, pre = ys ++ [x] ∧ (∀ y ∈ ys, lossB n qs y = false) ∧ lossB n qs x = true ∧ ResI w v true A ∧ IOwn A w.heap.size v x

theorem los_stays {n : Int} {qs : List Qt} {w : World} {B : Nat} (hB : w.heap.size + 2 ≤ B) : Stays B (LosI n qs w) := by
  rintro pre A A' ⟨h1, h2⟩ hb
  exact ⟨h1, res_below h2 hb hB⟩

theorem los_put {n : Int} {qs : List Qt} {w A : World} {c : Code} {pre : List (List Int)} {l : Nat} {o : Obj} (o' : Obj) (h : LosX n qs w c pre A) (hl : w.heap.size + 2 ≤ l) (ho : A.heap[l]? = some o) (hc : o.isCells = false) : LosX n qs w c pre (A.putObj l o') := by
  obtain ⟨h1, ys, x, v, h2, h3, h4, h5, h6⟩ := h
  exact ⟨h1, ys, x, v, h2, h3, h4, res_below h5 (below_put o' (Array.getElem?_eq_some_iff.1 ho).1 (Nat.le_refl _)) hl, own_putc o' h6 ho hc⟩

set_option maxRecDepth 100000 in
set_option maxHeartbeats 8000000 in
theorem implLosingStakes_any (w : World) (n : Int) (v : Value) (qs : List Qt) (hv : QRd w v qs) :
    Calls Try.prog 18 #[.int .i64 n, v] w (RowOk w.heap.size (lossR n qs) (lossOk n qs) w) := by
  obtain ⟨A, c, rfl, hl, hmx⟩ := hv.form
  obtain ⟨w1, hw1⟩ : ∃ w1, (w.alloc (.cells #[.int .i64 n] 3)).alloc (.cells #[.slice A qs.length c] 23) = w1 := ⟨_, rfl⟩
  have hsz1 : w1.heap.size = w.heap.size + 2 := by rw [← hw1]; simp
  have hBw : Below w.heap.size w w1 := by rw [← hw1]; exact ((Below.refl _ _).alloc (Nat.le_refl _) _).alloc (by simp) _
  have hn0 : w1.cell? ⟨w.heap.size, 0, none⟩ = some (.int .i64 n) := by
    rw [← hw1]; exact old_cell _ (new_cell w (.int .i64 n) 3).1
  have hn1 : w1.cell? ⟨w.heap.size + 1, 0, none⟩ = some (.slice A qs.length c) := by
    have h1 := new_cell (w.alloc (.cells #[.int .i64 n] 3)) (.slice A qs.length c) 23
    rw [World.size_alloc] at h1
    rw [← hw1]; exact h1.1
  obtain ⟨w3, hw3⟩ : ∃ w3, (w1.alloc (.cells #[.slice none 0 0] 24)).alloc (.cells #[.bool false] 4) = w3 := ⟨_, rfl⟩
  have hsz3 : w3.heap.size = w1.heap.size + 2 := by rw [← hw3]; simp
  have hB3 : Below w1.heap.size w1 w3 := by rw [← hw3]; exact ((Below.refl _ _).alloc (Nat.le_refl _) _).alloc (by simp) _
  have hR3 : ResI w1 (.slice none 0 0) false w3 := by
    have h1 := new_cell w1 (.slice none 0 0) 24
    have h2 := new_cell (w1.alloc (.cells #[.slice none 0 0] 24)) (.bool false) 4
    rw [World.size_alloc] at h2
    refine ⟨?_, ?_, ?_, ?_, hB3⟩
    · rw [← hw3]; exact old_cell _ h1.1
    · rw [← hw3]; exact h2.1
    · rw [← hw3]; exact old_frz _ h1.1 h1.2
    · rw [← hw3]; exact h2.2
  -- the arguments' cells, and the book, wherever the results' cells lie
  have HARG : Hid (∀ x t B, ResI w1 x t B → B.cell? ⟨w.heap.size, 0, none⟩ = some (.int .i64 n) ∧ B.cell? ⟨w.heap.size + 1, 0, none⟩ = some (.slice A qs.length c) ∧ QRd B (.slice A qs.length c) qs ∧ Below w.heap.size w B) := Lib.hid (fun x t B h => by
    have hb := h.2.2.2.2
    exact ⟨(hb.cell (p := ⟨w.heap.size, 0, none⟩) (show w.heap.size < w1.heap.size by omega)).trans hn0, (hb.cell (p := ⟨w.heap.size + 1, 0, none⟩) (show w.heap.size + 1 < w1.heap.size by omega)).trans hn1,
      (hv.keep (SameAt.of_below hBw)).keep (SameAt.of_below hb), hBw.trans (hb.mono (by omega))⟩)
  have HR3 := Lib.hid hR3
  have HS1 := Lib.hid hsz1
  have HS3 := Lib.hid hsz3
  have hs1 : (w.alloc (.cells #[.int .i64 n] 3)).heap.size = w.heap.size + 1 := by simp
  have HP : Hid (w.heap.size + 1 + 1 = w1.heap.size) := Lib.hid hsz1.symm
  have HW1 := Lib.hid hw1
  have HW3 := Lib.hid hw3
  clear hv hsz1 hBw hn0 hn1 hsz3 hB3 hR3 hw1 hw3
  rcases Bool.eq_false_or_eq_true (bokB n qs) with h | h
  · have H := Lib.hid h
    have hq3 : qs.length ≤ 3 := ((bokB_iff _ _).1 h).2.1
    refine (callsIn_wide (n := 4)).1 ?_
    refine callsIn_of_wp_marks Try.func18 rfl trivial ?_ rfl
    simp only [Try.ntmps18, List.size_toArray, List.length_cons, List.length_nil, Nat.reduceAdd, Nat.reduceSub, Array.replicate_succ, Array.replicate_zero, List.push_toArray, List.append_toArray, List.nil_append, List.cons_append]
    gi_wp2_with fail
    rw [HW1.out, HW3.out, HP.out]
    refine ⟨trivial, (callsIn_wide.2 (implBookOk_any _ _ _ _ (HARG.out _ _ _ HR3.out).2.2.1)).mono ?_⟩
    rintro e w2 ⟨rfl, b2⟩
    rw [h]
    have HR2 := Lib.hid (res_below HR3.out b2 (by have := HS3.out; omega))
    have HSW : Hid (w1.heap.size + 2 ≤ w2.heap.size) := Lib.hid (by have := HS3.out; have := b2.size; omega)
    obtain ⟨hc0, hc1, -, -⟩ := HARG.out _ _ _ HR2.out
    clear b2 h
    gi_wp2_with fail
    refine ⟨trivial, (callsIn_wide.2 (stakesInOrder_any _ _)).mono ?_⟩
    rintro e w5 ⟨rfl, hw5⟩
    have hsz5 : w5.heap.size = w2.heap.size + 1 := by rw [← hw5]; simp
    have hB5 : Below w2.heap.size w2 w5 := by rw [← hw5]; exact (Below.refl _ _).alloc (Nat.le_refl _) _
    have hc5 : w5.cell? ⟨w2.heap.size, 0, none⟩ = some (.int .i64 (qs.length : Int)) := by
      rw [← hw5]
      exact (new_cell w2 (.int .i64 (qs.length : Int)) 3).1
    have HS5 := Lib.hid hsz5
    have HR5 := Lib.hid (res_below HR2.out hB5 HSW.out)
    have HW := Lib.hid (stWalk_any 3 w1.heap.size w2.heap.size qs.length w5 (by have := HSW.out; omega) hc5 hq3)
    clear hw5 hsz5 hB5 hc5 hc0 hc1
    gi_wp2_with fail
    refine wpIn_rows (by omega) (gf := 69) (lb := #[.pointer (some ⟨w2.heap.size, 0, none⟩)]) rfl (enters_of Try.func69 (by kernel_rfl) rfl) HW.out (by have := HS5.out; have := HSW.out; omega) rfl
      (LosI n qs w1) (LosX n qs w1) (los_stays (by have := HS5.out; have := HSW.out; omega)) (fun _ _ _ _ _ o' hx hl ho hc => los_put o' hx (by have := HS5.out; have := HSW.out; omega) ho hc) ⟨fun y hy => (by cases hy), HR5.out⟩ ?round ?done ?stop
    case round =>
      intro l pre x v W hpre
      clear hpre
      gi_wp2_with fail
      refine ⟨trivial, ?_⟩
      rintro B ⟨hno, hr⟩ hs ho
      obtain ⟨A2, n2, c3, rfl⟩ := own_slice ho
      have HNO := Lib.hid hno
      have HR := Lib.hid hr
      have HO := Lib.hid ho
      obtain ⟨hc0, hc1, hv0, -⟩ := HARG.out _ _ _ hr
      have HV := Lib.hid hv0
      obtain ⟨t, ht⟩ : ∃ t, lossB n qs x = t := ⟨_, rfl⟩
      have HT := Lib.hid ht
      have HSB : Hid (w1.heap.size + 2 ≤ B.heap.size) := Lib.hid (by have := HS5.out; have := HSW.out; omega)
      clear hno hr ho hs hv0 ht
      gi_wp2_with fail
      refine ⟨trivial, (calls_round (implLosesBy_any _ _ _ _ _ _ HV.out HO.out.rd)).mono ?_⟩
      rintro e B2 ⟨rfl, b2⟩
      rw [HT.out]
      have HB2 := Lib.hid b2
      have HR2 := Lib.hid (res_below HR.out b2 HSB.out)
      clear b2 hc0 hc1
      cases t
      · gi_wp2_with fail
        refine ⟨kept_below HB2.out, fun y hy => ?_, HR2.out⟩
        rcases List.mem_append.1 hy with hy | hy
        · exact HNO.out y hy
        · obtain rfl := List.mem_singleton.1 hy; exact HT.out
      · have HO2 := Lib.hid (HO.out.keep (SameAt.of_below HB2.out))
        obtain ⟨c1, c2, f1, f2, hb⟩ := id HR2.out
        have c2' : (B2.setCell ⟨w1.heap.size, 0, none⟩ (.slice A2 n2 c3)).cell? ⟨w1.heap.size + 1, 0, none⟩ = some (.bool false) := ofs_cell c2 (by omega)
        have f2' : (B2.setCell ⟨w1.heap.size, 0, none⟩ (.slice A2 n2 c3)).frozen? ⟨w1.heap.size + 1, 0, none⟩ = false := by rw [World.frozen?_setCell]; exact f2
        clear hb
        gi_wp2_with fail
        refine ⟨(others_below HB2.out).trans ((KeepsOthers.setCell _ _ _).trans (KeepsOthers.setCell _ _ _)), rfl, pre, x, _, rfl, HNO.out, HT.out, res_set HR2.out _ true, ?_⟩
        exact own_far2 HO2.out ⟨by have := HS5.out; have := HSW.out; omega, by have := HS5.out; have := HSW.out; omega⟩ (by have := HS5.out; have := HSW.out; omega)
    case done =>
      rintro D W hD ⟨hall, hr⟩ hK
      have HN := Lib.hid (all_miss H.out hall)
      have HR := Lib.hid hr
      obtain ⟨c1, c2, f1, f2, hb⟩ := id hr
      have c2' : (W.setCell ⟨w1.heap.size, 0, none⟩ (.slice none 0 0)).cell? ⟨w1.heap.size + 1, 0, none⟩ = some (.bool false) := ofs_cell c2 (by omega)
      have f2' : (W.setCell ⟨w1.heap.size, 0, none⟩ (.slice none 0 0)).frozen? ⟨w1.heap.size + 1, 0, none⟩ = false := by rw [World.frozen?_setCell]; exact f2
      clear hb hr hall
      gi_wp2_with fail
      have hK2 := ((KeepsOthers.setCell W ⟨w1.heap.size, 0, none⟩ (.slice none 0 0)).trans (KeepsOthers.setCell _ ⟨w1.heap.size + 1, 0, none⟩ (.bool false))).same D _ hK rfl
      refine ⟨by simp, .inl ⟨_, _, rfl, run_takeDeferred hK2, ?_⟩⟩
      have hR := res_below (res_set HR.out (.slice none 0 0) false) (below_put (B := D) (.deferred none) (Array.getElem?_eq_some_iff.1 hK2).1 (Nat.le_refl _)) (by have := HS5.out; have := HSW.out; omega)
      obtain ⟨d1, d2, -, -, -⟩ := id hR
      refine ⟨.tuple #[.slice none 0 0, .bool false], by simp [results, Try.f18, go_sem, d1, d2], rowOk_ret HN.out.1 HN.out.2 (nil_own _ _) (HARG.out _ _ _ hR).2.2.2⟩
    case stop =>
      rintro D c pre W hD hpre ⟨rfl, ys, x, v, rfl, hno, hx, hr, ho⟩ hK
      have HN := Lib.hid (all_hit H.out hpre hno hx)
      have HR := Lib.hid hr
      have HO := Lib.hid ho
      clear hr ho hpre hno hx
      gi_wp2_with fail
      refine ⟨by simp, .inl ⟨_, _, rfl, run_takeDeferred hK, ?_⟩⟩
      have hR := res_below HR.out (below_put (B := D) (.deferred none) (Array.getElem?_eq_some_iff.1 hK).1 (Nat.le_refl _)) (by have := HS5.out; have := HSW.out; omega)
      obtain ⟨d1, d2, -, -, -⟩ := id hR
      refine ⟨.tuple #[v, .bool true], by simp [results, Try.f18, go_sem, d1, d2], rowOk_ret HN.out.1 HN.out.2 ((own_putc _ HO.out hK rfl).base (by have := HS1.out; omega)) (HARG.out _ _ _ hR).2.2.2⟩
  · have HN := Lib.hid (loss_no h)
    refine (callsIn_wide (n := 4)).1 ?_
    refine callsIn_of_wp_marks Try.func18 rfl trivial ?_ rfl
    simp only [Try.ntmps18, List.size_toArray, List.length_cons, List.length_nil, Nat.reduceAdd, Nat.reduceSub, Array.replicate_succ, Array.replicate_zero, List.push_toArray, List.append_toArray, List.nil_append, List.cons_append]
    gi_wp2_with fail
    rw [HW1.out, HW3.out, HP.out]
    refine ⟨trivial, (callsIn_wide.2 (implBookOk_any _ _ _ _ (HARG.out _ _ _ HR3.out).2.2.1)).mono ?_⟩
    rintro e w2 ⟨rfl, b2⟩
    rw [h]
    have HR2 := Lib.hid (res_below HR3.out b2 (by have := HS3.out; omega))
    clear b2
    obtain ⟨c1, c2, f1, f2, hb⟩ := id HR2.out
    have c2' : (w2.setCell ⟨w1.heap.size, 0, none⟩ (.slice none 0 0)).cell? ⟨w1.heap.size + 1, 0, none⟩ = some (.bool false) := ofs_cell c2 (by omega)
    have f2' : (w2.setCell ⟨w1.heap.size, 0, none⟩ (.slice none 0 0)).frozen? ⟨w1.heap.size + 1, 0, none⟩ = false := by rw [World.frozen?_setCell]; exact f2
    clear hb
    gi_wp2_with fail
    have hR := res_set HR2.out (.slice none 0 0) false
    obtain ⟨d1, d2, -, -, -⟩ := id hR
    refine ⟨.tuple #[.slice none 0 0, .bool false], by simp [results, Try.f18, go_sem, d1, d2], rowOk_ret HN.out.2 HN.out.1 (nil_own _ _) (HARG.out _ _ _ hR).2.2.2⟩

set_option maxHeartbeats 2000000 in
theorem implSafeOk_any (w : World) (n : Int) (v : Value) (qs : List Qt) (hv : QRd w v qs) :
    Calls Try.prog 24 #[.int .i64 n, v] w (BoolPost (safeB n qs) w) := by
  have HV := Lib.hid hv
  clear hv
  obtain ⟨b, hb⟩ : ∃ b, bokB n qs = b := ⟨_, rfl⟩
  obtain ⟨l, hl⟩ : ∃ l, lossOk n qs = l := ⟨_, rfl⟩
  have HS : Hid (safeB n qs = (b && !l)) := Lib.hid (by rw [safeB, hb, hl])
  have H := Lib.hid hb
  have HL := Lib.hid hl
  clear hb hl
  go_enter Try.func24, Try.ntmps24
  go_wp2_with fail
  refine (implBookOk_any _ _ _ _ HV.out).mono ?_
  rintro r w3 ⟨rfl, b3⟩
  rw [H.out]
  have HB3 := Lib.hid b3
  clear b3
  cases b
  · go_wp2_with fail
    go_ret
    exact ⟨ret_bool (by rw [HS.out]; rfl), HB3.out⟩
  · go_wp2_with fail
    refine (implLosingStakes_any _ _ _ _ (HV.out.keep (SameAt.of_below HB3.out))).mono ?_
    rintro r w2 ⟨x, rfl, -, b2⟩
    rw [HL.out]
    have HB2 := Lib.hid (below_step HB3.out b2 HB3.out.size)
    clear b2
    cases l
    all_goals
      go_wp2_with fail
      go_ret
      exact ⟨ret_bool (by rw [HS.out]; rfl), HB2.out⟩

set_option maxHeartbeats 4000000 in
theorem implSureLossOf_any (w : World) (n : Int) (v : Value) (qs : List Qt) (hv : QRd w v qs) :
    Calls Try.prog 27 #[.int .i64 n, v] w (NumPost (sureI n qs) (lossOk n qs) w) := by
  have HV := Lib.hid hv
  clear hv
  rcases Bool.eq_false_or_eq_true (lossOk n qs) with h | h
  · have H := Lib.hid h
    have HBB := Lib.hid (loss_bal h)
    have HBR := Lib.hid (balR_yes (loss_bal h))
    have HGK := Lib.hid (bal_gok (loss_bal h))
    obtain ⟨t, ht⟩ : ∃ t, bestI (balL n qs (lossR n qs)) = t := ⟨_, rfl⟩
    have hts := best_small (bal_gok (loss_bal h))
    rw [ht] at hts
    have HS : Hid (sureI n qs = -t) := Lib.hid (by rw [sureI, if_pos h, ht])
    have HT := Lib.hid ht
    clear h ht
    obtain ⟨t1, t2⟩ := hts
    go_enter Try.func27, Try.ntmps27
    go_wp2_with fail
    refine (implLosingStakes_any _ _ _ _ HV.out).mono ?_
    rintro r w2 ⟨x, rfl, o2, b2⟩
    rw [H.out]
    have HB2 := Lib.hid b2
    have HO2 := Lib.hid o2.rd
    clear b2 o2
    go_wp2_with fail
    refine (implBalanceOf_any _ _ _ _ _ _ (HV.out.keep (SameAt.of_below HB2.out)) HO2.out).mono ?_
    rintro r w3 ⟨y, rfl, o3, b3⟩
    rw [HBR.out] at o3
    rw [HBB.out]
    have HB3 := Lib.hid (below_step HB2.out b3 HB2.out.size)
    have HO3 := Lib.hid o3.rd
    clear b3 o3
    go_wp2_with fail
    refine (implBestOf_any _ _ _ HO3.out).mono ?_
    rintro e w' ⟨rfl, rfl⟩
    rw [HT.out, HGK.out]
    go_wp2_with fail
    go_ret2
    exact numPost_ret HS.out H.out HB3.out
  · have H := Lib.hid h
    have HS : Hid (sureI n qs = 0) := Lib.hid (by rw [sureI, h]; rfl)
    clear h
    go_enter Try.func27, Try.ntmps27
    go_wp2_with fail
    refine (implLosingStakes_any _ _ _ _ HV.out).mono ?_
    rintro r w2 ⟨x, rfl, o2, b2⟩
    rw [H.out]
    have HB2 := Lib.hid b2
    clear b2 o2
    go_wp2_with fail
    go_ret2
    exact numPost_ret HS.out H.out HB2.out

end Go.Proofs.Ytpldhdidobggdaa
