/- Contracts of the program's fitting, CountMeasures. Conditions: a row of quotes that reads as a list. -/
import Derived.Test.YtfdgelikmhaagaaNg
import Derived.Test.YtfdgelikmhaagaaMg
namespace Go.Proofs.Ytfdgelikmhaagaa
open Go.RowKit Go.Shelf
set_option linter.unusedVariables false
attribute [local go_sem] Oper.semAt_some

/-- the walk as a function value: it has captured the variables at b and b + 1 -/
def fitV (b : Nat) : Value := .func (.func 104) #[] #[.pointer (some ⟨b, 0, none⟩), .pointer (some ⟨b + 1, 0, none⟩)]

set_option maxHeartbeats 1000000 in
theorem fitting_any (W : World) (m : Int) (A : Option Addr) (len c : Nat) :
    Calls Try.prog 92 #[.int .i64 m, .slice A len c] W fun r W' => r = .returned (fitV W.heap.size) ∧ (W.alloc (.cells #[.int .i64 m] 3)).alloc (.cells #[.slice A len c] 39) = W' := by
  go_enter Try.func92, Try.ntmps92
  go_wp2
  go_ret
  exact ⟨rfl, rfl⟩

theorem count_all {m : Nat} {qs : List Qt} (h : bokB (m : Int) qs = true) : countI m qs = ((fitAll m qs).length : Nat) := by
  rw [countI, if_pos h, Int.toNat_natCast, fitAll, List.length_map]; rfl

theorem pre_len {m : Nat} {qs : List Qt} {pre : List (List Int)} {x : List Int} (m1 : 1 ≤ m) (m4 : m ≤ 4) (h : (pre ++ [x]) <+: fitAll m qs) : pre.length ≤ 9139 := by
  have h1 := h.length_le
  have h2 := count_le m1 m4 qs
  have h3 : (fitAll m qs).length = countFit m qs := by rw [fitAll, List.length_map]; rfl
  simp at h1
  omega

/-- what holds between two rounds of the count -/
def CntI (w : World) (C : Nat) (pre : List (List Int)) (A : World) : Prop := A.cell? ⟨C, 0, none⟩ = some (.int .i64 (pre.length : Nat)) ∧ A.frozen? ⟨C, 0, none⟩ = false ∧ Below w.heap.size w A

theorem cnt_stays {w : World} {C B : Nat} (hC : C < B) (hB : w.heap.size ≤ B) : Stays B (CntI w C) := by
  rintro pre A A' ⟨h1, h2, h3⟩ hb
  exact ⟨(hb.cell (p := ⟨C, 0, none⟩) hC).trans h1, (hb.frozen (p := ⟨C, 0, none⟩) hC).trans h2, h3.trans (hb.mono hB)⟩

theorem kept_set (C : Nat) (A : World) (u : Value) : KeptBut C C A (A.setCell ⟨C, 0, none⟩ u) :=
  ⟨by simp [World.setCell], fun k _ hk _ => Below.heap_setCell A ⟨C, 0, none⟩ u k hk⟩

theorem new_cell (W : World) (v : Value) (t : TypeId) : (W.alloc (.cells #[v] t)).cell? ⟨W.heap.size, 0, none⟩ = some v ∧ (W.alloc (.cells #[v] t)).frozen? ⟨W.heap.size, 0, none⟩ = false := ⟨by simp, by simp⟩

theorem old_cell {W : World} {b : Nat} {v : Value} (o : Obj) (h : W.cell? ⟨b, 0, none⟩ = some v) : (W.alloc o).cell? ⟨b, 0, none⟩ = some v :=
  (((Below.refl _ W).alloc (Nat.le_refl _) o).cell (p := ⟨b, 0, none⟩) (World.block_lt_of_cell? W _ h)).trans h

theorem old_frz {W : World} {b : Nat} {v : Value} (o : Obj) (h : W.cell? ⟨b, 0, none⟩ = some v) (hf : W.frozen? ⟨b, 0, none⟩ = false) : (W.alloc o).frozen? ⟨b, 0, none⟩ = false :=
  (((Below.refl _ W).alloc (Nat.le_refl _) o).frozen (p := ⟨b, 0, none⟩) (World.block_lt_of_cell? W _ h)).trans hf

set_option maxRecDepth 100000 in
set_option maxHeartbeats 8000000 in
theorem implCountMeasures_any (w : World) (n : Int) (v : Value) (qs : List Qt) (hv : QRd w v qs) :
    Calls Try.prog 49 #[.int .i64 n, v] w (IntPost (countI n qs) w) := by
  obtain ⟨A, c, rfl, hl, hmx⟩ := hv.form
  have HV := Lib.hid hv
  clear hv
  rcases Bool.eq_false_or_eq_true (bokB n qs) with h | h
  · have H := Lib.hid h
    have HQ := Lib.hid (qts_of h)
    have hw1 : 1 ≤ n := ((bokB_iff _ _).1 h).1.1
    have hw2 : n ≤ 4 := ((bokB_iff _ _).1 h).1.2
    obtain ⟨m, rfl⟩ : ∃ m : Nat, n = m := ⟨n.toNat, by omega⟩
    have hm1 : 1 ≤ m := by omega
    have hm4 : m ≤ 4 := by omega
    refine (callsIn_wide (n := 4)).1 ?_
    refine callsIn_of_wp_marks Try.func49 rfl trivial ?_ rfl
    simp only [Try.ntmps49, List.size_toArray, List.length_cons, List.length_nil, Nat.reduceAdd, Nat.reduceSub, Array.replicate_succ, Array.replicate_zero, List.push_toArray, List.append_toArray, List.nil_append, List.cons_append]
    gi_wp2_with fail
    refine ⟨trivial, (callsIn_wide.2 (implBookOk_any _ _ _ _ HV.out)).mono ?_⟩
    rintro e w2 ⟨rfl, b2⟩
    rw [h]
    have HB2 := Lib.hid b2
    have HV2 := Lib.hid (HV.out.keep (SameAt.of_below b2))
    clear b2 h
    gi_wp2_with fail
    refine ⟨trivial, (callsIn_wide.2 (fitting_any _ _ A _ c)).mono ?_⟩
    rintro e w5 ⟨rfl, hw5⟩
    have hsz5 : w5.heap.size = w2.heap.size + 3 := by rw [← hw5]; simp
    have hB5 : Below w2.heap.size w2 w5 := by rw [← hw5]; exact (((Below.refl _ _).alloc (Nat.le_refl _) _).alloc (by simp) _).alloc (by simp; omega) _
    have hc0 : w5.cell? ⟨w2.heap.size, 0, none⟩ = some (.int .i64 0) ∧ w5.frozen? ⟨w2.heap.size, 0, none⟩ = false := by
      rw [← hw5]
      have h1 := new_cell w2 (.int .i64 0) 3
      exact ⟨old_cell _ (old_cell _ h1.1), old_frz _ (old_cell _ h1.1) (old_frz _ h1.1 h1.2)⟩
    have hc1 : w5.cell? ⟨w2.heap.size + 1, 0, none⟩ = some (.int .i64 (m : Int)) := by
      rw [← hw5]
      have h1 := new_cell (w2.alloc (.cells #[.int .i64 0] 3)) (.int .i64 (m : Int)) 3
      rw [World.size_alloc] at h1
      exact old_cell _ h1.1
    have hc2 : w5.cell? ⟨w2.heap.size + 1 + 1, 0, none⟩ = some (.slice A qs.length c) := by
      rw [← hw5]
      have h1 := new_cell ((w2.alloc (.cells #[.int .i64 0] 3)).alloc (.cells #[.int .i64 (m : Int)] 3)) (.slice A qs.length c) 39
      rw [World.size_alloc, World.size_alloc] at h1
      exact h1.1
    have HW := Lib.hid (fitWalk_any 3 w2.heap.size (w2.heap.size + 1) (w2.heap.size + 1 + 1) m (.slice A qs.length c) qs w5 (by omega) (by omega) (by omega) hc1 hc2 (fun A hA => HV2.out.keep ⟨by have := hA.1; omega, fun g _ hlt => (hA.2 g (by omega) (by omega)).trans (hB5.block g hlt)⟩) HQ.out hm1 hm4)
    have HS := Lib.hid hsz5
    have H0 : Hid (CntI w w2.heap.size [] w5) := Lib.hid ⟨hc0.1, hc0.2, below_step HB2.out hB5 HB2.out.size⟩
    have HSW := Lib.hid HB2.out.size
    have HCA := Lib.hid (count_all H.out)
    clear hw5 hsz5 hB5 hc0 hc1 hc2
    gi_wp2_with fail
    refine wpIn_rows (by omega) (gf := 104) (lb := #[.pointer (some ⟨w2.heap.size + 1, 0, none⟩), .pointer (some ⟨w2.heap.size + 1 + 1, 0, none⟩)]) rfl (enters_of Try.func104 (by kernel_rfl) rfl) HW.out (by have := HS.out; omega) rfl
      (CntI w w2.heap.size) (fun _ _ _ => False) (cnt_stays (by have := HS.out; omega) (by have := HS.out; have := HSW.out; omega)) (fun _ _ _ _ _ _ h => h.elim) H0.out ?round ?done ?stop
    case round =>
      intro l pre x v W hpre
      have hlen := pre_len hm1 hm4 hpre
      clear hpre
      gi_wp2_with fail
      refine ⟨trivial, ?_⟩
      rintro B ⟨hc, hf, hb⟩ hs ho
      have HB := Lib.hid hb
      clear hb hs ho
      gi_wp2_with fail
      refine ⟨kept_set _ _ _, ?_, ?_, HB.out.setCell (p := ⟨w2.heap.size, 0, none⟩) HSW.out _⟩
      · rw [World.cell?_setCell_same' _ _ _ (by rw [hc]; rfl)]; simp
      · rw [World.frozen?_setCell]; exact hf
    case done =>
      rintro D W hD ⟨hc, hf, hb⟩ hK
      have HB := Lib.hid hb
      clear hb hf
      gi_wp2_with fail
      refine ⟨by simp, .inl ⟨_, _, rfl, run_takeDeferred hK, ?_⟩⟩
      refine ⟨_, results_tmp rfl _ _ _, ?_, ?_⟩
      · rw [HCA.out]; rfl
      · exact HB.out.trans (below_put _ (Array.getElem?_eq_some_iff.1 hK).1 (by have := HS.out; have := HSW.out; omega))
    case stop =>
      rintro D c pre W _ _ h _
      exact h.elim
  · have HN := Lib.hid (count_no h)
    refine (callsIn_wide (n := 4)).1 ?_
    refine callsIn_of_wp_marks Try.func49 rfl trivial ?_ rfl
    simp only [Try.ntmps49, List.size_toArray, List.length_cons, List.length_nil, Nat.reduceAdd, Nat.reduceSub, Array.replicate_succ, Array.replicate_zero, List.push_toArray, List.append_toArray, List.nil_append, List.cons_append]
    gi_wp2_with fail
    refine ⟨trivial, (callsIn_wide.2 (implBookOk_any _ _ _ _ HV.out)).mono ?_⟩
    rintro e w2 ⟨rfl, b2⟩
    rw [h]
    have HB2 := Lib.hid b2
    clear b2
    gi_wp2_with fail
    refine ⟨_, results_tmp rfl _ _ _, ?_, HB2.out⟩
    rw [HN.out]; rfl

end Go.Proofs.Ytfdgelikmhaagaa
