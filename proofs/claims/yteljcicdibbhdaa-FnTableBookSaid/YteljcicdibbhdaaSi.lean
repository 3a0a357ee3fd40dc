/- All stakes in their order: the first that lose. Contracts of the program's LosesBy, LosingStakes, SafeOk, SureLossOf. Conditions: a row of quotes, a row of stakes that read as lists. (LosingStakes: gen_jp.py) -/
import Derived.Test.YteljcicdibbhdaaSc
import Derived.Test.YteljcicdibbhdaaSo
import Derived.Test.YteljcicdibbhdaaDx
namespace Go.Proofs.Yteljcicdibbhdaa
open Go.RowKit
set_option linter.unusedVariables false

theorem find_in {n : Int} {qs : List Qt} (hb : bokB n qs = true) (sum : Nat) : (stks qs.length sum).find? (lossB n qs) = loseIn n qs sum := by
  rw [loseIn]
  have h : ∀ l : List (List Int), (∀ ss ∈ l, ss ∈ stks qs.length sum) → l.find? (lossB n qs) = l.find? fun ss => losesB (balL n qs ss) := by
    intro l hl
    induction l with
    | nil => rfl
    | cons a l ih =>
      obtain ⟨h1, h2, -⟩ := (mem_stks _ _ _).1 (hl a (by simp))
      rw [List.find?_cons, List.find?_cons, loss_two hb h1 h2, ih (fun ss hs => hl ss (by simp [hs]))]
  exact h _ (fun _ h => h)

/-- stakes of nothing lose nothing -/
theorem lose_zero {n : Int} {qs : List Qt} (hb : bokB n qs = true) : loseIn n qs 0 = none := by
  cases h : loseIn n qs 0 with
  | none => rfl
  | some ss =>
    obtain ⟨h1, h2, h3, h4⟩ := loseIn_some h
    have := zero_loses (balB_two hb h1 h2) h3
    rw [h4] at this; cases this

theorem losing_all {n : Int} {qs : List Qt} (hb : bokB n qs = true) : losing n qs = (stAll qs.length).find? (lossB n qs) := by
  have hq3 : qs.length ≤ 3 := ((bokB_iff _ _).1 hb).2.1
  have ht := all_tab ⟨qs.length, by omega⟩
  have ht : stAll qs.length = (List.range 7).flatMap fun s => stks qs.length s := ht
  have hr : List.range 7 = [0, 1, 2, 3, 4, 5, 6] := rfl
  rw [ht, loss_yes hb, List.find?_flatMap, hr]
  have hf : (fun s => (stks qs.length s).find? (lossB n qs)) = loseIn n qs := funext fun s => find_in hb s
  rw [hf]
  simp only [List.findSome?_cons, lose_zero hb, List.findSome?_nil, loseFrom, Nat.reduceAdd]
  cases loseIn n qs 1 <;> cases loseIn n qs 2 <;> cases loseIn n qs 3 <;> cases loseIn n qs 4 <;> cases loseIn n qs 5 <;> cases loseIn n qs 6 <;> rfl

theorem all_hit {n : Int} {qs : List Qt} (hb : bokB n qs = true) {pre : List (List Int)} {x : List Int} (h : (pre ++ [x]) <+: stAll qs.length) (hp : ∀ y ∈ pre, lossB n qs y = false) (hx : lossB n qs x = true) :
    lossOk n qs = true ∧ lossR n qs = x := by
  obtain ⟨r, hr⟩ := h
  have hl : losing n qs = some x := by
    rw [losing_all hb, ← hr, List.append_assoc, List.find?_append, List.find?_eq_none.2 (fun y hy => by rw [hp y hy]; simp)]
    simp [hx]
  rw [lossOk, lossR, hl]
  exact ⟨rfl, rfl⟩

theorem all_miss {n : Int} {qs : List Qt} (hb : bokB n qs = true) (hp : ∀ y ∈ stAll qs.length, lossB n qs y = false) : lossOk n qs = false ∧ lossR n qs = [] := by
  have hl : losing n qs = none := by
    rw [losing_all hb]
    exact List.find?_eq_none.2 (fun y hy => by rw [hp y hy]; simp)
  rw [lossOk, lossR, hl]
  exact ⟨rfl, rfl⟩

end Go.Proofs.Yteljcicdibbhdaa

namespace Go.Proofs.Yteljcicdibbhdaa
open Go.RowKit Go.Shelf
set_option linter.unusedVariables false
attribute [local go_sem] Oper.semAt_some

set_option maxHeartbeats 2000000 in
theorem implLosesBy_any (w : World) (n : Int) (v u : Value) (qs : List Qt) (ss : List Int) (hv : QRd w v qs) (hu : IRd w u ss) :
    Calls Try.prog 110 #[.int .i64 n, v, u] w (BoolPost (lossB n qs ss) w) := by
  have HV := Lib.hid hv
  have HU := Lib.hid hu
  clear hv hu
  rcases Bool.eq_false_or_eq_true (balB n qs ss) with h | h
  · have HE : Hid (lossB n qs ss = losesB (balR n qs ss)) := Lib.hid (by rw [lossB, h, Bool.true_and, balR_yes h])
    go_enter Try.func110, Try.ntmps110
    go_wp2_with fail
    refine (implBalanceOf_any _ _ _ _ _ _ HV.out HU.out).mono ?_
    rintro r w2 ⟨x, rfl, o2, b2⟩
    have HO := Lib.hid o2.rd
    have HB := Lib.hid b2
    rw [h]
    clear o2 b2 h
    go_wp2_with fail
    refine (implLosesOk_any _ _ _ HO.out).mono ?_
    rintro e w' ⟨rfl, rfl⟩
    go_wp2_with fail
    go_ret
    exact ⟨ret_bool HE.out.symm, HB.out⟩
  · have HE : Hid (lossB n qs ss = false) := Lib.hid (by rw [lossB, h, Bool.false_and])
    go_enter Try.func110, Try.ntmps110
    go_wp2_with fail
    refine (implBalanceOf_any _ _ _ _ _ _ HV.out HU.out).mono ?_
    rintro r w2 ⟨x, rfl, o2, b2⟩
    have HB := Lib.hid b2
    rw [h]
    clear o2 b2 h
    go_wp2_with fail
    go_ret
    exact ⟨ret_bool HE.out.symm, HB.out⟩

/-- what the test of LosingStakes$1 answers, wherever the two variables lie -/
def Tests_LosingStakes (w : World) (b : Nat) (P : List Int → Bool) : Prop :=
  ∀ A v x, Below w.heap.size w A → IRd A v x → Calls Try.prog 109 #[v, .pointer (some ⟨b, 0, none⟩), .pointer (some ⟨b + 1, 0, none⟩)] A (BoolPost (P x) A)

set_option maxRecDepth 100000 in
set_option maxHeartbeats 8000000 in
theorem firstStakes_LosingStakes (w : World) (c b : Nat) (P : List Int → Bool) (c3 : c ≤ 3) (hT : Tests_LosingStakes w b P) :
    Calls Try.prog 108 #[.int .i64 (c : Int), .func (.func 109) #[] #[.pointer (some ⟨b, 0, none⟩), .pointer (some ⟨b + 1, 0, none⟩)]] w (RowOk w.heap.size (((stAll c).find? P).getD []) ((stAll c).find? P).isSome w) := by
  obtain ⟨w1, hw1⟩ : ∃ w1, w.alloc (.cells #[.func (.func 109) #[] #[.pointer (some ⟨b, 0, none⟩), .pointer (some ⟨b + 1, 0, none⟩)]] 75) = w1 := ⟨_, rfl⟩
  have hsz1 : w1.heap.size = w.heap.size + 1 := by rw [← hw1]; simp
  have hBw : Below w.heap.size w w1 := by rw [← hw1]; exact (Below.refl _ _).alloc (Nat.le_refl _) _
  have hn0 : w1.cell? ⟨w.heap.size, 0, none⟩ = some (.func (.func 109) #[] #[.pointer (some ⟨b, 0, none⟩), .pointer (some ⟨b + 1, 0, none⟩)]) := by
    rw [← hw1]; exact (new_cell w _ 75).1
  obtain ⟨w3, hw3⟩ : ∃ w3, (w1.alloc (.cells #[.slice none 0 0] 41)).alloc (.cells #[.bool false] 4) = w3 := ⟨_, rfl⟩
  have hsz3 : w3.heap.size = w1.heap.size + 2 := by rw [← hw3]; simp
  have hB3 : Below w1.heap.size w1 w3 := by rw [← hw3]; exact ((Below.refl _ _).alloc (Nat.le_refl _) _).alloc (by simp) _
  have hR3 : ResI w1 (.slice none 0 0) false w3 := by
    have h1 := new_cell w1 (.slice none 0 0) 41
    have h2 := new_cell (w1.alloc (.cells #[.slice none 0 0] 41)) (.bool false) 4
    rw [World.size_alloc] at h2
    refine ⟨?_, ?_, ?_, ?_, hB3⟩
    · rw [← hw3]; exact old_cell _ h1.1
    · rw [← hw3]; exact h2.1
    · rw [← hw3]; exact old_frz _ h1.1 h1.2
    · rw [← hw3]; exact h2.2
  -- the test's cell, wherever the results' cells lie
  have HARG : Hid (∀ x t B, ResI w1 x t B → B.cell? ⟨w.heap.size, 0, none⟩ = some (.func (.func 109) #[] #[.pointer (some ⟨b, 0, none⟩), .pointer (some ⟨b + 1, 0, none⟩)]) ∧ Below w.heap.size w B) := Lib.hid (fun x t B h => by
    have hb := h.2.2.2.2
    exact ⟨(hb.cell (p := ⟨w.heap.size, 0, none⟩) (show w.heap.size < w1.heap.size by omega)).trans hn0, hBw.trans (hb.mono (by omega))⟩)
  have HR3 := Lib.hid hR3
  have HS1 := Lib.hid hsz1
  have HS3 := Lib.hid hsz3
  have HP : Hid (w.heap.size + 1 = w1.heap.size) := Lib.hid hsz1.symm
  have HW1 := Lib.hid hw1
  have HW3 := Lib.hid hw3
  have HT := Lib.hid hT
  clear hsz1 hBw hn0 hsz3 hB3 hR3 hw1 hw3 hT
  refine (callsIn_wide (n := 4)).1 ?_
  refine callsIn_of_wp_marks Try.func108 rfl trivial ?_ rfl
  simp only [Try.ntmps108, List.size_toArray, List.length_cons, List.length_nil, Nat.reduceAdd, Nat.reduceSub, Array.replicate_succ, Array.replicate_zero, List.push_toArray, List.append_toArray, List.nil_append, List.cons_append]
  gi_wp2_with fail
  rw [HW1.out, HW3.out]
  refine ⟨trivial, (callsIn_wide.2 (stakesInOrder_any _ _)).mono ?_⟩
  rintro e w5 ⟨rfl, hw5⟩
  have hsz5 : w5.heap.size = w3.heap.size + 1 := by rw [← hw5]; simp
  have hB5 : Below w3.heap.size w3 w5 := by rw [← hw5]; exact (Below.refl _ _).alloc (Nat.le_refl _) _
  have hc5 : w5.cell? ⟨w3.heap.size, 0, none⟩ = some (.int .i64 (c : Int)) := by
    rw [← hw5]
    exact (new_cell w3 (.int .i64 (c : Int)) 3).1
  have HS5 := Lib.hid hsz5
  have HR5 := Lib.hid (res_below HR3.out hB5 (by have := HS3.out; omega))
  have HW := Lib.hid (stWalk_any 3 w1.heap.size w3.heap.size c w5 (by have := HS3.out; omega) hc5 c3)
  have HPS := HP.out
  clear hw5 hsz5 hB5 hc5
  gi_wp2_with fail
  try rw [HP.out]
  refine wpIn_rows (by omega) (gf := 117) (lb := #[.pointer (some ⟨w3.heap.size, 0, none⟩)]) rfl (enters_of Try.func117 (by kernel_rfl) rfl) HW.out (by have := HS5.out; have := HS3.out; omega) rfl
    (TstI P w1) (TstX P w1) (tst_stays (by have := HS5.out; have := HS3.out; omega)) (fun _ _ _ _ _ o' hx hl ho hc => tst_put o' hx (by have := HS5.out; have := HS3.out; omega) ho hc) ⟨fun y hy => (by cases hy), HR5.out⟩ ?round ?done ?stop
  case round =>
    intro l pre x v W hpre
    clear hpre
    gi_wp2_with fail
    refine ⟨trivial, ?_⟩
    rintro B ⟨hno, hr⟩ hs ho
    obtain ⟨A2, n2, c3, rfl⟩ := own_slice ho
    have HNO := Lib.hid hno
    have HR := Lib.hid hr
    have HO := Lib.hid ho
    obtain ⟨hc0, hbw⟩ := HARG.out _ _ _ hr
    have HTC := Lib.hid (HT.out B _ x hbw ho.rd)
    obtain ⟨t, ht⟩ : ∃ t, P x = t := ⟨_, rfl⟩
    rw [ht] at HTC
    have HTT := Lib.hid ht
    have HSB : Hid (w1.heap.size + 2 ≤ B.heap.size) := Lib.hid (by have := HS5.out; have := HS3.out; omega)
    clear hno hr ho hs hbw ht
    gi_wp2_with fail
    refine ⟨trivial, (calls_round HTC.out).mono ?_⟩
    rintro e B2 ⟨rfl, b2⟩
    have HB2 := Lib.hid b2
    have HR2 := Lib.hid (res_below HR.out b2 HSB.out)
    clear b2 hc0
    cases t
    · gi_wp2_with fail
      refine ⟨kept_below HB2.out, fun y hy => ?_, HR2.out⟩
      rcases List.mem_append.1 hy with hy | hy
      · exact HNO.out y hy
      · obtain rfl := List.mem_singleton.1 hy; exact HTT.out
    · have HO2 := Lib.hid (HO.out.keep (SameAt.of_below HB2.out))
      obtain ⟨c1, c2, f1, f2, hb⟩ := id HR2.out
      have c2' : (B2.setCell ⟨w1.heap.size, 0, none⟩ (.slice A2 n2 c3)).cell? ⟨w1.heap.size + 1, 0, none⟩ = some (.bool false) := ofs_cell c2 (by omega)
      have f2' : (B2.setCell ⟨w1.heap.size, 0, none⟩ (.slice A2 n2 c3)).frozen? ⟨w1.heap.size + 1, 0, none⟩ = false := by rw [World.frozen?_setCell]; exact f2
      clear hb
      gi_wp2_with fail
      refine ⟨(others_below HB2.out).trans ((KeepsOthers.setCell _ _ _).trans (KeepsOthers.setCell _ _ _)), rfl, pre, x, _, rfl, HNO.out, HTT.out, res_set HR2.out _ true, ?_⟩
      exact own_far2 HO2.out ⟨by have := HS5.out; have := HS3.out; omega, by have := HS5.out; have := HS3.out; omega⟩ (by have := HS5.out; have := HS3.out; omega)
  case done =>
    rintro D W hD ⟨hall, hr⟩ hK
    have HN := Lib.hid (tst_miss hall)
    have HR := Lib.hid hr
    obtain ⟨c1, c2, f1, f2, hb⟩ := id hr
    have c2' : (W.setCell ⟨w1.heap.size, 0, none⟩ (.slice none 0 0)).cell? ⟨w1.heap.size + 1, 0, none⟩ = some (.bool false) := ofs_cell c2 (by omega)
    have f2' : (W.setCell ⟨w1.heap.size, 0, none⟩ (.slice none 0 0)).frozen? ⟨w1.heap.size + 1, 0, none⟩ = false := by rw [World.frozen?_setCell]; exact f2
    clear hb hr hall
    gi_wp2_with fail
    have hK2 := ((KeepsOthers.setCell W ⟨w1.heap.size, 0, none⟩ (.slice none 0 0)).trans (KeepsOthers.setCell _ ⟨w1.heap.size + 1, 0, none⟩ (.bool false))).same D _ hK rfl
    refine ⟨by simp, .inl ⟨_, _, rfl, run_takeDeferred hK2, ?_⟩⟩
    have hR := res_below (res_set HR.out (.slice none 0 0) false) (below_put (B := D) (.deferred none) (Array.getElem?_eq_some_iff.1 hK2).1 (Nat.le_refl _)) (by have := HS5.out; have := HS3.out; omega)
    obtain ⟨d1, d2, -, -, -⟩ := id hR
    refine ⟨.tuple #[.slice none 0 0, .bool false], by simp [results, Try.f108, go_sem, d1, d2], rowOk_ret HN.out.1 HN.out.2 (nil_own _ _) (HARG.out _ _ _ hR).2⟩
  case stop =>
    rintro D c pre W hD hpre ⟨rfl, ys, x, v, rfl, hno, hx, hr, ho⟩ hK
    have HN := Lib.hid (tst_hit hpre hno hx)
    have HR := Lib.hid hr
    have HO := Lib.hid ho
    clear hr ho hpre hno hx
    gi_wp2_with fail
    refine ⟨by simp, .inl ⟨_, _, rfl, run_takeDeferred hK, ?_⟩⟩
    have hR := res_below HR.out (below_put (B := D) (.deferred none) (Array.getElem?_eq_some_iff.1 hK).1 (Nat.le_refl _)) (by have := HS5.out; have := HS3.out; omega)
    obtain ⟨d1, d2, -, -, -⟩ := id hR
    refine ⟨.tuple #[v, .bool true], by simp [results, Try.f108, go_sem, d1, d2], rowOk_ret HN.out.1 HN.out.2 ((own_putc _ HO.out hK rfl).base (by have := HS1.out; omega)) (HARG.out _ _ _ hR).2⟩

set_option maxHeartbeats 1000000 in
theorem losingTest_any (W : World) (n : Int) (v u : Value) (qs : List Qt) (ss : List Int) (b : Nat) (h0 : W.cell? ⟨b, 0, none⟩ = some (.int .i64 n)) (h1 : W.cell? ⟨b + 1, 0, none⟩ = some v) (hv : QRd W v qs) (hu : IRd W u ss) :
    Calls Try.prog 109 #[u, .pointer (some ⟨b, 0, none⟩), .pointer (some ⟨b + 1, 0, none⟩)] W (BoolPost (lossB n qs ss) W) := by
  obtain ⟨A, c, rfl, hl, hmx⟩ := hv.form
  obtain ⟨A', c', rfl, hl', hm', -⟩ := id hu
  have HV := Lib.hid hv
  have HU := Lib.hid hu
  clear hv hu
  go_enter Try.func109, Try.ntmps109
  go_wp2_with fail
  refine (implLosesBy_any _ _ _ _ _ _ HV.out HU.out).mono ?_
  rintro r w2 ⟨rfl, b2⟩
  have HB2 := Lib.hid b2
  clear b2
  go_wp2_with fail
  go_ret
  exact ⟨ret_bool rfl, HB2.out⟩

theorem lossR_find {n : Int} {qs : List Qt} (h : bokB n qs = true) : lossR n qs = ((stAll qs.length).find? (lossB n qs)).getD [] ∧ lossOk n qs = ((stAll qs.length).find? (lossB n qs)).isSome := by
  rw [← losing_all h]
  exact ⟨rfl, rfl⟩

set_option maxRecDepth 100000 in
set_option maxHeartbeats 8000000 in
theorem implLosingStakes_any (w : World) (n : Int) (v : Value) (qs : List Qt) (hv : QRd w v qs) :
    Calls Try.prog 90 #[.int .i64 n, v] w (RowOk w.heap.size (lossR n qs) (lossOk n qs) w) := by
  obtain ⟨A, c, rfl, hl, hmx⟩ := hv.form
  obtain ⟨w1, hw1⟩ : ∃ w1, (w.alloc (.cells #[.int .i64 n] 3)).alloc (.cells #[.slice A qs.length c] 23) = w1 := ⟨_, rfl⟩
  have hsz1 : w1.heap.size = w.heap.size + 2 := by rw [← hw1]; simp
  have hBw : Below w.heap.size w w1 := by rw [← hw1]; exact ((Below.refl _ _).alloc (Nat.le_refl _) _).alloc (by simp) _
  have hn0 : w1.cell? ⟨w.heap.size, 0, none⟩ = some (.int .i64 n) := by
    rw [← hw1]; exact old_cell _ (new_cell w (.int .i64 n) 3).1
  have hn1 : w1.cell? ⟨w.heap.size + 1, 0, none⟩ = some (.slice A qs.length c) := by
    have h1 := new_cell (w.alloc (.cells #[.int .i64 n] 3)) (.slice A qs.length c) 23
    rw [World.size_alloc] at h1
    rw [← hw1]; exact h1.1
  have HARG : Hid (∀ B, Below w1.heap.size w1 B → B.cell? ⟨w.heap.size, 0, none⟩ = some (.int .i64 n) ∧ B.cell? ⟨w.heap.size + 1, 0, none⟩ = some (.slice A qs.length c) ∧ QRd B (.slice A qs.length c) qs ∧ Below w.heap.size w B) := Lib.hid (fun B hb =>
    ⟨(hb.cell (p := ⟨w.heap.size, 0, none⟩) (show w.heap.size < w1.heap.size by omega)).trans hn0, (hb.cell (p := ⟨w.heap.size + 1, 0, none⟩) (show w.heap.size + 1 < w1.heap.size by omega)).trans hn1,
      (hv.keep (SameAt.of_below hBw)).keep (SameAt.of_below hb), hBw.trans (hb.mono (by omega))⟩)
  have HS1 := Lib.hid hsz1
  have HW1 := Lib.hid hw1
  clear hv hsz1 hBw hn0 hn1 hw1
  have hs1 : (w.alloc (.cells #[.int .i64 n] 3)).heap.size = w.heap.size + 1 := by simp
  obtain ⟨hc0, hc1, hv0, -⟩ := HARG.out w1 (Below.refl _ _)
  have HV0 := Lib.hid hv0
  clear hv0
  rcases Bool.eq_false_or_eq_true (bokB n qs) with h | h
  · have H := Lib.hid (lossR_find h)
    have hq3 : qs.length ≤ 3 := ((bokB_iff _ _).1 h).2.1
    go_enter Try.func90, Try.ntmps90
    go_wp2_with fail
    rw [HW1.out]
    refine (implBookOk_any _ _ _ _ HV0.out).mono ?_
    rintro e w2 ⟨rfl, b2⟩
    rw [h]
    have HB2 := Lib.hid b2
    obtain ⟨hc2, hc3, hv2, hb2⟩ := HARG.out w2 b2
    have HBW := Lib.hid hb2
    clear b2 h hc0 hc1 hv2 hb2
    go_wp2_with fail
    refine (firstStakes_LosingStakes w2 qs.length w.heap.size (lossB n qs) hq3 (fun A' u x hA hx => ?_)).mono ?_
    · obtain ⟨k0, k1, k2, -⟩ := HARG.out A' (HB2.out.trans (hA.mono HB2.out.size))
      exact losingTest_any A' n _ u qs x _ k0 k1 k2 hx
    rintro r w3 ⟨x, rfl, o3, b3⟩
    have HO3 := Lib.hid (o3.base HBW.out.size)
    have HB3 := Lib.hid (below_step HBW.out b3 HBW.out.size)
    clear b3 o3 hc2 hc3
    go_wp2_with fail
    go_ret2
    exact rowOk_ret H.out.2 H.out.1 HO3.out HB3.out
  · have HN := Lib.hid (loss_no h)
    go_enter Try.func90, Try.ntmps90
    go_wp2_with fail
    rw [HW1.out]
    refine (implBookOk_any _ _ _ _ HV0.out).mono ?_
    rintro e w2 ⟨rfl, b2⟩
    rw [h]
    have HB2 := Lib.hid (HARG.out w2 b2).2.2.2
    clear b2 h hc0 hc1
    go_wp2_with fail
    go_ret2
    exact rowOk_ret HN.out.2 HN.out.1 (nil_own _ _) HB2.out

set_option maxHeartbeats 2000000 in
theorem implSafeOk_any (w : World) (n : Int) (v : Value) (qs : List Qt) (hv : QRd w v qs) :
    Calls Try.prog 50 #[.int .i64 n, v] w (BoolPost (safeB n qs) w) := by
  have HV := Lib.hid hv
  clear hv
  obtain ⟨b, hb⟩ : ∃ b, bokB n qs = b := ⟨_, rfl⟩
  obtain ⟨l, hl⟩ : ∃ l, lossOk n qs = l := ⟨_, rfl⟩
  have HS : Hid (safeB n qs = (b && !l)) := Lib.hid (by rw [safeB, hb, hl])
  have H := Lib.hid hb
  have HL := Lib.hid hl
  clear hb hl
  go_enter Try.func50, Try.ntmps50
  go_wp2_with fail
  refine (implBookOk_any _ _ _ _ HV.out).mono ?_
  rintro r w3 ⟨rfl, b3⟩
  rw [H.out]
  have HB3 := Lib.hid b3
  clear b3
  cases b
  · go_wp2_with fail
    go_ret
    exact ⟨ret_bool (by rw [HS.out]; rfl), HB3.out⟩
  · go_wp2_with fail
    refine (implLosingStakes_any _ _ _ _ (HV.out.keep (SameAt.of_below HB3.out))).mono ?_
    rintro r w2 ⟨x, rfl, -, b2⟩
    rw [HL.out]
    have HB2 := Lib.hid (below_step HB3.out b2 HB3.out.size)
    clear b2
    cases l
    all_goals
      go_wp2_with fail
      go_ret
      exact ⟨ret_bool (by rw [HS.out]; rfl), HB2.out⟩

end Go.Proofs.Yteljcicdibbhdaa
