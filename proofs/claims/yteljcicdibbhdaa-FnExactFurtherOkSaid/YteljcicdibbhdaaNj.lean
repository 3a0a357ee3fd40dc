/- Contracts of the program's fitting, CountMeasures. Conditions: a row of quotes that reads as a list. Contracts of the program's FirstMeasure, FairOk. Conditions: a row of quotes that reads as a list. Contract of the program's FairOk. Conditions: a row of quotes that reads as a list. -/
import Derived.Test.YteljcicdibbhdaaNg
import Derived.Test.YteljcicdibbhdaaMg
namespace Go.Proofs.Yteljcicdibbhdaa
open Go.RowKit Go.Shelf
set_option linter.unusedVariables false
attribute [local go_sem] Oper.semAt_some

theorem count_all {m : Nat} {qs : List Qt} (h : bokB (m : Int) qs = true) : countI m qs = ((fitAll m qs).length : Nat) := by
  rw [countI, if_pos h, Int.toNat_natCast, fitAll, List.length_map]; rfl

theorem pre_len {m : Nat} {qs : List Qt} {pre : List (List Int)} {x : List Int} (m1 : 1 ≤ m) (m4 : m ≤ 4) (h : (pre ++ [x]) <+: fitAll m qs) : pre.length ≤ 9139 := by
  have h1 := h.length_le
  have h2 := count_le m1 m4 qs
  have h3 : (fitAll m qs).length = countFit m qs := by rw [fitAll, List.length_map]; rfl
  simp at h1
  omega

/-- what holds between two rounds of the count -/
def CntI (w : World) (C : Nat) (pre : List (List Int)) (A : World) : Prop := A.cell? ⟨C, 0, none⟩ = some (.int .i64 (pre.length : Nat)) ∧ A.frozen? ⟨C, 0, none⟩ = false ∧ Below w.heap.size w A

theorem cnt_stays {w : World} {C B : Nat} (hC : C < B) (hB : w.heap.size ≤ B) : Stays B (CntI w C) := by
  rintro pre A A' ⟨h1, h2, h3⟩ hb
  exact ⟨(hb.cell (p := ⟨C, 0, none⟩) hC).trans h1, (hb.frozen (p := ⟨C, 0, none⟩) hC).trans h2, h3.trans (hb.mono hB)⟩

theorem kept_set (C : Nat) (A : World) (u : Value) : KeptBut C C A (A.setCell ⟨C, 0, none⟩ u) :=
  ⟨by simp [World.setCell], fun k _ hk _ => Below.heap_setCell A ⟨C, 0, none⟩ u k hk⟩

set_option maxRecDepth 100000 in
set_option maxHeartbeats 8000000 in
theorem implCountMeasures_any (w : World) (n : Int) (v : Value) (qs : List Qt) (hv : QRd w v qs) :
    Calls Try.prog 29 #[.int .i64 n, v] w (IntPost (countI n qs) w) := by
  obtain ⟨A, c, rfl, hl, hmx⟩ := hv.form
  have HV := Lib.hid hv
  clear hv
  rcases Bool.eq_false_or_eq_true (bokB n qs) with h | h
  · have H := Lib.hid h
    have HQ := Lib.hid (qts_of h)
    have hw1 : 1 ≤ n := ((bokB_iff _ _).1 h).1.1
    have hw2 : n ≤ 4 := ((bokB_iff _ _).1 h).1.2
    obtain ⟨m, rfl⟩ : ∃ m : Nat, n = m := ⟨n.toNat, by omega⟩
    have hm1 : 1 ≤ m := by omega
    have hm4 : m ≤ 4 := by omega
    refine (callsIn_wide (n := 4)).1 ?_
    refine callsIn_of_wp_marks Try.func29 rfl trivial ?_ rfl
    simp only [Try.ntmps29, List.size_toArray, List.length_cons, List.length_nil, Nat.reduceAdd, Nat.reduceSub, Array.replicate_succ, Array.replicate_zero, List.push_toArray, List.append_toArray, List.nil_append, List.cons_append]
    gi_wp2_with fail
    refine ⟨trivial, (callsIn_wide.2 (implBookOk_any _ _ _ _ HV.out)).mono ?_⟩
    rintro e w2 ⟨rfl, b2⟩
    rw [h]
    have HB2 := Lib.hid b2
    have HV2 := Lib.hid (HV.out.keep (SameAt.of_below b2))
    clear b2 h
    gi_wp2_with fail
    refine ⟨trivial, (callsIn_wide.2 (fitting_any _ _ A _ c)).mono ?_⟩
    rintro e w5 ⟨rfl, hw5⟩
    obtain ⟨hBx, hsz5, hq0, hq1, hq2⟩ := hw5
    rw [World.size_alloc] at hBx hsz5 hq0 hq1 hq2
    have hB5 : Below w2.heap.size w2 w5 := ((Below.refl _ _).alloc (Nat.le_refl _) _).trans (hBx.mono (by omega))
    have hc0 : w5.cell? ⟨w2.heap.size, 0, none⟩ = some (.int .i64 0) ∧ w5.frozen? ⟨w2.heap.size, 0, none⟩ = false := by
      have h1 := new_cell w2 (.int .i64 0) 3
      exact ⟨(hBx.cell (p := ⟨w2.heap.size, 0, none⟩) (show w2.heap.size < w2.heap.size + 1 by omega)).trans h1.1, (hBx.frozen (p := ⟨w2.heap.size, 0, none⟩) (show w2.heap.size < w2.heap.size + 1 by omega)).trans h1.2⟩
    have HW := Lib.hid (fitWalk_any 3 w2.heap.size (w2.heap.size + 1) m (.slice A qs.length c) qs w5 (by omega) (by omega) (by omega) (by omega) ⟨hq0, hq1, hq2⟩ (fun A hA => HV2.out.keep ⟨by have := hA.1; omega, fun g _ hlt => (hA.2 g (by omega) (by omega)).trans (hB5.block g hlt)⟩) HQ.out hm1 hm4)
    have HS := Lib.hid hsz5
    have H0 : Hid (CntI w w2.heap.size [] w5) := Lib.hid ⟨hc0.1, hc0.2, below_step HB2.out hB5 HB2.out.size⟩
    have HSW := Lib.hid HB2.out.size
    have HCA := Lib.hid (count_all H.out)
    clear hBx hsz5 hB5 hc0 hq0 hq1 hq2
    gi_wp2_with fail
    refine wpIn_rows (by omega) (gf := 111) (lb := #[.pointer (some ⟨w2.heap.size + 1 + 1, 0, none⟩), .pointer (some ⟨w2.heap.size + 1 + 1 + 1, 0, none⟩)]) rfl (enters_of Try.func111 (by kernel_rfl) rfl) HW.out (by have := HS.out; omega) rfl
      (CntI w w2.heap.size) (fun _ _ _ => False) (cnt_stays (by have := HS.out; omega) (by have := HS.out; have := HSW.out; omega)) (fun _ _ _ _ _ _ h => h.elim) H0.out ?round ?done ?stop
    case round =>
      intro l pre x v W hpre
      have hlen := pre_len hm1 hm4 hpre
      clear hpre
      gi_wp2_with fail
      refine ⟨trivial, ?_⟩
      rintro B ⟨hc, hf, hb⟩ hs ho
      have HB := Lib.hid hb
      clear hb hs ho
      gi_wp2_with fail
      refine ⟨kept_set _ _ _, ?_, ?_, HB.out.setCell (p := ⟨w2.heap.size, 0, none⟩) HSW.out _⟩
      · rw [World.cell?_setCell_same' _ _ _ (by rw [hc]; rfl)]; simp
      · rw [World.frozen?_setCell]; exact hf
    case done =>
      rintro D W hD ⟨hc, hf, hb⟩ hK
      have HB := Lib.hid hb
      clear hb hf
      gi_wp2_with fail
      refine ⟨by simp, .inl ⟨_, _, rfl, run_takeDeferred hK, ?_⟩⟩
      refine ⟨_, results_tmp rfl _ _ _, ?_, ?_⟩
      · rw [HCA.out]; rfl
      · exact HB.out.trans (below_put _ (Array.getElem?_eq_some_iff.1 hK).1 (by have := HS.out; have := HSW.out; omega))
    case stop =>
      rintro D c pre W _ _ h _
      exact h.elim
  · have HN := Lib.hid (count_no h)
    refine (callsIn_wide (n := 4)).1 ?_
    refine callsIn_of_wp_marks Try.func29 rfl trivial ?_ rfl
    simp only [Try.ntmps29, List.size_toArray, List.length_cons, List.length_nil, Nat.reduceAdd, Nat.reduceSub, Array.replicate_succ, Array.replicate_zero, List.push_toArray, List.append_toArray, List.nil_append, List.cons_append]
    gi_wp2_with fail
    refine ⟨trivial, (callsIn_wide.2 (implBookOk_any _ _ _ _ HV.out)).mono ?_⟩
    rintro e w2 ⟨rfl, b2⟩
    rw [h]
    have HB2 := Lib.hid b2
    clear b2
    gi_wp2_with fail
    refine ⟨_, results_tmp rfl _ _ _, ?_, HB2.out⟩
    rw [HN.out]; rfl

end Go.Proofs.Yteljcicdibbhdaa

namespace Go.Proofs.Yteljcicdibbhdaa
open Go.RowKit Go.Shelf
set_option linter.unusedVariables false
attribute [local go_sem] Oper.semAt_some

theorem first_head {m : Nat} {qs : List Qt} {x : List Int} (h : [x] <+: fitAll m qs) : ∃ l, firstFit m qs = some l ∧ x = natL l := by
  obtain ⟨r, hr⟩ := h
  have h1 : (fitAll m qs).head? = some x := by rw [← hr]; rfl
  rw [fitAll, List.head?_map, List.head?_filter] at h1
  cases hf : (lay m 36).find? (fun l => fitI (natL l) qs) with
  | none => rw [hf] at h1; cases h1
  | some l => rw [hf] at h1; exact ⟨l, hf, (Option.some.inj h1).symm⟩

theorem first_empty {m : Nat} {qs : List Qt} (h : fitAll m qs = []) : firstFit m qs = none := by
  have h1 : (fitAll m qs).head? = none := by rw [h]; rfl
  rw [fitAll, List.head?_map, List.head?_filter] at h1
  cases hf : (lay m 36).find? (fun l => fitI (natL l) qs) with
  | none => exact hf
  | some l => rw [hf] at h1; cases h1

theorem first_is {n : Nat} {qs : List Qt} (h : bokB (n : Int) qs = true) {x : List Int} (hx : [x] <+: fitAll n qs) : firstB n qs = true ∧ firstR n qs = x := by
  obtain ⟨l, h1, rfl⟩ := first_head hx
  rw [firstB, firstR, h, Int.toNat_natCast, h1]
  exact ⟨rfl, rfl⟩

theorem first_isnt {n : Nat} {qs : List Qt} (h : bokB (n : Int) qs = true) (hx : fitAll n qs = []) : firstB n qs = false ∧ firstR n qs = [] := by
  rw [firstB, firstR, h, Int.toNat_natCast, first_empty hx]
  exact ⟨rfl, rfl⟩

/-- the two variables that hold the results -/
def ResI (w : World) (x : Value) (t : Bool) (A : World) : Prop := A.cell? ⟨w.heap.size, 0, none⟩ = some x ∧ A.cell? ⟨w.heap.size + 1, 0, none⟩ = some (.bool t) ∧ A.frozen? ⟨w.heap.size, 0, none⟩ = false ∧ A.frozen? ⟨w.heap.size + 1, 0, none⟩ = false ∧ Below w.heap.size w A

/-- nothing has come -/
def FirI (w : World) (pre : List (List Int)) (A : World) : Prop := pre = [] ∧ ResI w (.slice none 0 0) false A

/-- the first has come: the body has returned it -/
def FirX (w : World) (c : Code) (pre : List (List Int)) (A : World) : Prop := c = .ret ∧ ∃ x v, pre = [x] ∧ ResI w v true A ∧ IOwn A w.heap.size v x

theorem res_below {w A A' : World} {x : Value} {t : Bool} {B : Nat} (h : ResI w x t A) (hb : Below B A A') (hB : w.heap.size + 2 ≤ B) : ResI w x t A' := by
  obtain ⟨h1, h2, h3, h4, h5⟩ := h
  exact ⟨(hb.cell (p := ⟨w.heap.size, 0, none⟩) (show w.heap.size < B by omega)).trans h1, (hb.cell (p := ⟨w.heap.size + 1, 0, none⟩) (show w.heap.size + 1 < B by omega)).trans h2, (hb.frozen (p := ⟨w.heap.size, 0, none⟩) (show w.heap.size < B by omega)).trans h3, (hb.frozen (p := ⟨w.heap.size + 1, 0, none⟩) (show w.heap.size + 1 < B by omega)).trans h4, h5.trans (hb.mono (by omega))⟩

theorem fir_stays {w : World} {B : Nat} (hB : w.heap.size + 2 ≤ B) : Stays B (FirI w) := by
  rintro pre A A' ⟨h1, h2⟩ hb
  exact ⟨h1, res_below h2 hb hB⟩

/-- a row of ints lies in cells -/
theorem own_cells {A : World} {base g : Nat} {v : Value} {x : List Int} (h : IOwn A base v x) (hg : v.ownBlock = some g) : ∃ o, A.heap[g]? = some o ∧ o.isCells = true := by
  rcases h.2 with ⟨rfl, h0⟩ | ⟨g', cap, cur, rfl, hlt, hh, -⟩
  · cases hg
  · obtain rfl : g' = g := Option.some.inj hg
    exact ⟨_, hh, rfl⟩

theorem own_putc {A : World} {base l : Nat} {v : Value} {x : List Int} {o : Obj} (o' : Obj) (h : IOwn A base v x) (hl : A.heap[l]? = some o) (ho : o.isCells = false) : IOwn (A.putObj l o') base v x :=
  h.keep ⟨by simp, fun g hg hlt => World.putObj_heap_other (by
    intro e; subst e
    obtain ⟨o2, h1, h2⟩ := own_cells h hg
    rw [hl] at h1
    obtain rfl := Option.some.inj h1
    rw [ho] at h2; cases h2)⟩

theorem fir_put {w A : World} {c : Code} {pre : List (List Int)} {l : Nat} {o : Obj} (o' : Obj) (h : FirX w c pre A) (hl : w.heap.size + 2 ≤ l) (ho : A.heap[l]? = some o) (hc : o.isCells = false) : FirX w c pre (A.putObj l o') := by
  obtain ⟨h1, x, v, h2, h3, h4⟩ := h
  exact ⟨h1, x, v, h2, res_below h3 (below_put o' (Array.getElem?_eq_some_iff.1 ho).1 (Nat.le_refl _)) hl, own_putc o' h4 ho hc⟩

theorem ofs_cell {W : World} {b : Nat} {v : Value} {u : Value} {b' : Nat} (h : W.cell? ⟨b, 0, none⟩ = some v) (hne : b ≠ b') : (W.setCell ⟨b', 0, none⟩ u).cell? ⟨b, 0, none⟩ = some v :=
  (World.cell?_of_block (w := W) (Below.heap_setCell W ⟨b', 0, none⟩ u b hne)).trans h

theorem own_slice {A : World} {base : Nat} {v : Value} {x : List Int} (h : IOwn A base v x) : ∃ a n c, v = .slice a n c := by
  rcases h.2 with ⟨rfl, h0⟩ | ⟨g', cap, cur, rfl, hlt, hh, -⟩
  · exact ⟨_, _, _, rfl⟩
  · exact ⟨_, _, _, rfl⟩

theorem own_far2 {A : World} {base b1 b2 B : Nat} {v y z : Value} {x : List Int} (h : IOwn A base v x) (h1 : b1 < base ∧ b2 < base) (hB : B ≤ base) : IOwn ((A.setCell ⟨b1, 0, none⟩ y).setCell ⟨b2, 0, none⟩ z) B v x :=
  (h.keep ⟨by simp [World.setCell], fun g hg hlt => by
    have := (h.ge g hg).1
    rw [Below.heap_setCell _ _ _ _ (show g ≠ b2 by omega), Below.heap_setCell _ _ _ _ (show g ≠ b1 by omega)]⟩).base hB

theorem res_set {w A : World} {x : Value} {t : Bool} (h : ResI w x t A) (y : Value) (s : Bool) : ResI w y s ((A.setCell ⟨w.heap.size, 0, none⟩ y).setCell ⟨w.heap.size + 1, 0, none⟩ (.bool s)) := by
  obtain ⟨h1, h2, h3, h4, h5⟩ := h
  have k1 : (A.setCell ⟨w.heap.size, 0, none⟩ y).cell? ⟨w.heap.size, 0, none⟩ = some y := World.cell?_setCell_same' _ _ _ (by rw [h1]; rfl)
  have k2 := ofs_cell (u := y) (b' := w.heap.size) h2 (by omega)
  refine ⟨ofs_cell k1 (by omega), World.cell?_setCell_same' _ _ _ (by rw [k2]; rfl), ?_, ?_, (h5.setCell (p := ⟨w.heap.size, 0, none⟩) (Nat.le_refl _) _).setCell (p := ⟨w.heap.size + 1, 0, none⟩) (Nat.le_succ _) _⟩
  · rw [World.frozen?_setCell, World.frozen?_setCell]; exact h3
  · rw [World.frozen?_setCell, World.frozen?_setCell]; exact h4

set_option maxRecDepth 100000 in
set_option maxHeartbeats 8000000 in
theorem implFirstMeasure_any (w : World) (n : Int) (v : Value) (qs : List Qt) (hv : QRd w v qs) :
    Calls Try.prog 64 #[.int .i64 n, v] w (RowOk w.heap.size (firstR n qs) (firstB n qs) w) := by
  obtain ⟨A, c, rfl, hl, hmx⟩ := hv.form
  obtain ⟨w1, hw1⟩ : ∃ w1, (w.alloc (.cells #[.slice none 0 0] 41)).alloc (.cells #[.bool false] 4) = w1 := ⟨_, rfl⟩
  have hsz1 : w1.heap.size = w.heap.size + 2 := by rw [← hw1]; simp
  have hB1 : Below w.heap.size w w1 := by rw [← hw1]; exact ((Below.refl _ _).alloc (Nat.le_refl _) _).alloc (by simp) _
  have hR1 : ResI w (.slice none 0 0) false w1 := by
    have h1 := new_cell w (.slice none 0 0) 41
    have h2 := new_cell (w.alloc (.cells #[.slice none 0 0] 41)) (.bool false) 4
    rw [World.size_alloc] at h2
    refine ⟨?_, ?_, ?_, ?_, hB1⟩
    · rw [← hw1]; exact old_cell _ h1.1
    · rw [← hw1]; exact h2.1
    · rw [← hw1]; exact old_frz _ h1.1 h1.2
    · rw [← hw1]; exact h2.2
  have HV := Lib.hid (hv.keep (SameAt.of_below hB1))
  have HV0 : Hid (∀ A', w.heap.size ≤ A'.heap.size → (∀ g, g < w.heap.size → A'.heap[g]? = w.heap[g]?) → QRd A' (.slice A qs.length c) qs) := Lib.hid (fun A' h1 h2 => hv.keep ⟨h1, fun g _ hlt => h2 g hlt⟩)
  have HB1 := Lib.hid hB1
  have HS1 := Lib.hid hsz1
  have HR1 := Lib.hid hR1
  have HW1 := Lib.hid hw1
  clear hv hsz1 hB1 hR1 hw1
  rcases Bool.eq_false_or_eq_true (bokB n qs) with h | h
  · have H := Lib.hid h
    have HQ := Lib.hid (qts_of h)
    have hw1 : 1 ≤ n := ((bokB_iff _ _).1 h).1.1
    have hw2 : n ≤ 4 := ((bokB_iff _ _).1 h).1.2
    obtain ⟨m, rfl⟩ : ∃ m : Nat, n = m := ⟨n.toNat, by omega⟩
    have hm1 : 1 ≤ m := by omega
    have hm4 : m ≤ 4 := by omega
    refine (callsIn_wide (n := 4)).1 ?_
    refine callsIn_of_wp_marks Try.func64 rfl trivial ?_ rfl
    simp only [Try.ntmps64, List.size_toArray, List.length_cons, List.length_nil, Nat.reduceAdd, Nat.reduceSub, Array.replicate_succ, Array.replicate_zero, List.push_toArray, List.append_toArray, List.nil_append, List.cons_append]
    gi_wp2_with fail
    rw [HW1.out]
    refine ⟨trivial, (callsIn_wide.2 (implBookOk_any _ _ _ _ HV.out)).mono ?_⟩
    rintro e w2 ⟨rfl, b2⟩
    rw [h]
    have HR2 := Lib.hid (res_below HR1.out b2 (by have := HS1.out; omega))
    have HB2 := Lib.hid b2.size
    have HBW := Lib.hid (HB1.out.trans (b2.mono HB1.out.size))
    have HV2 := Lib.hid (HV.out.keep (SameAt.of_below b2))
    clear b2 h
    gi_wp2_with fail
    refine ⟨trivial, (callsIn_wide.2 (fitting_any _ _ A _ c)).mono ?_⟩
    rintro e w5 ⟨rfl, hw5⟩
    obtain ⟨hB5, hsz5, hq0, hq1, hq2⟩ := hw5
    have HSW : Hid (w.heap.size + 2 ≤ w2.heap.size) := Lib.hid (by have := HS1.out; have := HB2.out; omega)
    have HS := Lib.hid hsz5
    have HR5 := Lib.hid (res_below HR2.out hB5 HSW.out)
    have HVX : Hid (∀ A', Held w5 w.heap.size A' → QRd A' (.slice A qs.length c) qs) := Lib.hid (fun A' hA => HV0.out A' (by have := hA.1; have := HS.out; have := HSW.out; omega) (fun g hg => by
      have h1 := hA.2 g (by have := HS.out; have := HSW.out; omega) (by omega)
      rw [h1, hB5.block g (by have := HSW.out; omega)]
      exact HBW.out.block g hg))
    have HW := Lib.hid (fitWalk_any 3 w.heap.size w2.heap.size m (.slice A qs.length c) qs w5 (by have := HSW.out; omega) (by have := HSW.out; omega) (by have := HSW.out; omega) (by have := HSW.out; omega) ⟨hq0, hq1, hq2⟩ (fun A' hA => HVX.out A' hA) HQ.out hm1 hm4)
    clear hsz5 hB5 hq0 hq1 hq2
    gi_wp2_with fail
    refine wpIn_rows (by omega) (gf := 111) (lb := #[.pointer (some ⟨w2.heap.size + 1, 0, none⟩), .pointer (some ⟨w2.heap.size + 1 + 1, 0, none⟩)]) rfl (enters_of Try.func111 (by kernel_rfl) rfl) HW.out (by have := HS.out; have := HSW.out; omega) rfl
      (FirI w) (FirX w) (fir_stays (by have := HS.out; have := HSW.out; omega)) (fun _ _ _ _ _ o' hx hl ho hc => fir_put o' hx (by have := HS.out; have := HSW.out; omega) ho hc) ⟨rfl, HR5.out⟩ ?round ?done ?stop
    case round =>
      intro l pre x v W hpre
      clear hpre
      gi_wp2_with fail
      refine ⟨trivial, ?_⟩
      rintro B ⟨rfl, hr⟩ hs ho
      obtain ⟨A2, n2, c3, rfl⟩ := own_slice ho
      have HR := Lib.hid hr
      have HO := Lib.hid ho
      obtain ⟨c1, c2, f1, f2, hb⟩ := id hr
      have c2' : (B.setCell ⟨w.heap.size, 0, none⟩ (.slice A2 n2 c3)).cell? ⟨w.heap.size + 1, 0, none⟩ = some (.bool false) := ofs_cell c2 (by omega)
      have f2' : (B.setCell ⟨w.heap.size, 0, none⟩ (.slice A2 n2 c3)).frozen? ⟨w.heap.size + 1, 0, none⟩ = false := by rw [World.frozen?_setCell]; exact f2
      clear hb hr ho hs
      gi_wp2_with fail
      refine ⟨(KeepsOthers.setCell _ _ _).trans (KeepsOthers.setCell _ _ _), rfl, x, _, rfl, res_set HR.out _ true, ?_⟩
      exact own_far2 HO.out ⟨by have := HS.out; have := HSW.out; omega, by have := HS.out; have := HSW.out; omega⟩ (by have := HS.out; have := HSW.out; omega)
    case done =>
      rintro D W hD ⟨hall, hr⟩ hK
      have HN := Lib.hid (first_isnt H.out hall)
      have HR := Lib.hid hr
      obtain ⟨c1, c2, f1, f2, hb⟩ := id hr
      have c2' : (W.setCell ⟨w.heap.size, 0, none⟩ (.slice none 0 0)).cell? ⟨w.heap.size + 1, 0, none⟩ = some (.bool false) := ofs_cell c2 (by omega)
      have f2' : (W.setCell ⟨w.heap.size, 0, none⟩ (.slice none 0 0)).frozen? ⟨w.heap.size + 1, 0, none⟩ = false := by rw [World.frozen?_setCell]; exact f2
      clear hb hr hall
      gi_wp2_with fail
      have hK2 := ((KeepsOthers.setCell W ⟨w.heap.size, 0, none⟩ (.slice none 0 0)).trans (KeepsOthers.setCell _ ⟨w.heap.size + 1, 0, none⟩ (.bool false))).same D _ hK rfl
      refine ⟨by simp, .inl ⟨_, _, rfl, run_takeDeferred hK2, ?_⟩⟩
      have hR := res_below (res_set HR.out (.slice none 0 0) false) (below_put (B := D) (.deferred none) (Array.getElem?_eq_some_iff.1 hK2).1 (Nat.le_refl _)) (by have := HS.out; have := HSW.out; omega)
      obtain ⟨d1, d2, -, -, hb⟩ := id hR
      refine ⟨.tuple #[.slice none 0 0, .bool false], by simp [results, Try.f64, go_sem, d1, d2], rowOk_ret HN.out.1 HN.out.2 (nil_own _ _) hb⟩
    case stop =>
      rintro D c pre W hD hpre ⟨rfl, x, v, rfl, hr, ho⟩ hK
      have HN := Lib.hid (first_is H.out hpre)
      have HR := Lib.hid hr
      have HO := Lib.hid ho
      clear hr ho hpre
      gi_wp2_with fail
      refine ⟨by simp, .inl ⟨_, _, rfl, run_takeDeferred hK, ?_⟩⟩
      have hR := res_below HR.out (below_put (B := D) (.deferred none) (Array.getElem?_eq_some_iff.1 hK).1 (Nat.le_refl _)) (by have := HS.out; have := HSW.out; omega)
      obtain ⟨d1, d2, -, -, hb⟩ := id hR
      refine ⟨.tuple #[v, .bool true], by simp [results, Try.f64, go_sem, d1, d2], rowOk_ret HN.out.1 HN.out.2 (own_putc _ HO.out hK rfl) hb⟩
  · have HN := Lib.hid (first_no h)
    refine (callsIn_wide (n := 4)).1 ?_
    refine callsIn_of_wp_marks Try.func64 rfl trivial ?_ rfl
    simp only [Try.ntmps64, List.size_toArray, List.length_cons, List.length_nil, Nat.reduceAdd, Nat.reduceSub, Array.replicate_succ, Array.replicate_zero, List.push_toArray, List.append_toArray, List.nil_append, List.cons_append]
    gi_wp2_with fail
    rw [HW1.out]
    refine ⟨trivial, (callsIn_wide.2 (implBookOk_any _ _ _ _ HV.out)).mono ?_⟩
    rintro e w2 ⟨rfl, b2⟩
    rw [h]
    have HR2 := Lib.hid (res_below HR1.out b2 (by have := HS1.out; omega))
    clear b2
    obtain ⟨c1, c2, f1, f2, hb⟩ := id HR2.out
    have c2' : (w2.setCell ⟨w.heap.size, 0, none⟩ (.slice none 0 0)).cell? ⟨w.heap.size + 1, 0, none⟩ = some (.bool false) := ofs_cell c2 (by omega)
    have f2' : (w2.setCell ⟨w.heap.size, 0, none⟩ (.slice none 0 0)).frozen? ⟨w.heap.size + 1, 0, none⟩ = false := by rw [World.frozen?_setCell]; exact f2
    clear hb
    gi_wp2_with fail
    have hR := res_set HR2.out (.slice none 0 0) false
    obtain ⟨d1, d2, -, -, hb⟩ := id hR
    refine ⟨.tuple #[.slice none 0 0, .bool false], by simp [results, Try.f64, go_sem, d1, d2], rowOk_ret HN.out.1 HN.out.2 (nil_own _ _) hb⟩

end Go.Proofs.Yteljcicdibbhdaa

namespace Go.Proofs.Yteljcicdibbhdaa
open Go.RowKit
set_option linter.unusedVariables false

theorem first_fair (n : Int) (qs : List Qt) : firstB n qs = fairB n qs := by
  rw [firstB, fairB, first_any]

set_option maxHeartbeats 1000000 in
theorem implFairOk_any (w : World) (n : Int) (v : Value) (qs : List Qt) (hv : QRd w v qs) :
    Calls Try.prog 21 #[.int .i64 n, v] w (BoolPost (fairB n qs) w) := by
  obtain ⟨A, c, rfl, hl, hmx⟩ := hv.form
  have HV := Lib.hid hv
  clear hv
  go_enter Try.func21, Try.ntmps21
  go_wp2_with fail
  refine (implFirstMeasure_any w n _ qs HV.out).mono ?_
  rintro r w2 ⟨u, rfl, o2, b2⟩
  have HB := Lib.hid b2
  clear b2 o2
  rw [first_fair]
  obtain ⟨t, ht⟩ : ∃ t, fairB n qs = t := ⟨_, rfl⟩
  rw [ht]
  have HT := Lib.hid ht
  clear ht
  go_wp2_with fail
  go_ret
  exact ⟨ret_bool HT.out.symm, HB.out⟩

end Go.Proofs.Yteljcicdibbhdaa
