/- Contracts of the program's functions of chapter 6: LeastOn, MostOn, PinnedOk, FurtherOk, LeastBrings. Conditions: a row of quotes that reads as a list. -/
import Derived.Test.YteljcicdibbhdaaNj
import Derived.Test.YteljcicdibbhdaaTa
import Derived.Test.YteljcicdibbhdaaTb
import Derived.Test.YteljcicdibbhdaaRh
namespace Go.Proofs.Yteljcicdibbhdaa
open Go.RowKit Go.Shelf
set_option linter.unusedVariables false
attribute [local go_sem] Oper.semAt_some

theorem calls_round6 {l n : Nat} {P : Program} {f : FuncId} {args : Array Value} {w : World} {R : Ending → World → Prop} (h : Calls P f args w R) : CallsIn (Fence.wide.inRound l) n P f args w R :=
  callsIn_wide.2 h

/-- what holds between two rounds of a fold: the value so far lies in the second cell, the step in the first -/
def FoI (w : World) (V : List (List Int) → Value) (sv : Value) (pre : List (List Int)) (A : World) : Prop :=
  A.cell? ⟨w.heap.size + 1, 0, none⟩ = some (V pre) ∧ A.frozen? ⟨w.heap.size + 1, 0, none⟩ = false ∧ A.cell? ⟨w.heap.size, 0, none⟩ = some sv ∧ Below w.heap.size w A

theorem fo_stays {w : World} {V : List (List Int) → Value} {sv : Value} {B : Nat} (hB : w.heap.size + 2 ≤ B) : Stays B (FoI w V sv) := by
  rintro pre A A' ⟨h1, h2, h3, h4⟩ hb
  exact ⟨(hb.cell (p := ⟨w.heap.size + 1, 0, none⟩) (show w.heap.size + 1 < B by omega)).trans h1, (hb.frozen (p := ⟨w.heap.size + 1, 0, none⟩) (show w.heap.size + 1 < B by omega)).trans h2, (hb.cell (p := ⟨w.heap.size, 0, none⟩) (show w.heap.size < B by omega)).trans h3, h4.trans (hb.mono (by omega))⟩

theorem kept_fold {C : Nat} {B B2 : World} (h : Below B.heap.size B B2) (u : Value) : KeptBut C C B (B2.setCell ⟨C, 0, none⟩ u) :=
  ⟨by simp [World.setCell]; exact h.size, fun k hk hC _ => (Below.heap_setCell B2 ⟨C, 0, none⟩ u k hC).trans (h.block k hk)⟩

/-- a measure that comes fits, and is one of the ways to lay the grains -/
theorem pre_mem {m : Nat} {qs : List Qt} {pre : List (List Int)} {x : List Int} (h : (pre ++ [x]) <+: fitAll m qs) : ∃ l, FitL m qs l ∧ x = natL l := by
  have hx : x ∈ fitAll m qs := h.subset (by simp)
  obtain ⟨l, hl, rfl⟩ := List.mem_map.1 hx
  obtain ⟨h1, h2⟩ := List.mem_filter.1 hl
  exact ⟨l, ⟨h1, h2⟩, rfl⟩

theorem grs_fit {m : Nat} {qs : List Qt} {l : List Nat} (h1 : 1 ≤ m) (h4 : m ≤ 4) (h : FitL m qs l) : Grs (natL l) := by
  obtain ⟨e1, e2⟩ := fit_len h1 h
  exact grs_of ((mea_lay _).2 ⟨⟨by rw [natL_len]; omega, by rw [natL_len]; omega⟩, l, by rw [natL_len, e1]; exact h.1, rfl⟩)

theorem mem_all {m : Nat} {qs : List Qt} {l : List Nat} (h : FitL m qs l) : natL l ∈ fitAll m qs :=
  List.mem_map.2 ⟨l, List.mem_filter.2 ⟨h.1, h.2⟩, rfl⟩

theorem of_all {m : Nat} {qs : List Qt} {x : List Int} (h : x ∈ fitAll m qs) : ∃ l, FitL m qs l ∧ x = natL l := by
  obtain ⟨l, hl, rfl⟩ := List.mem_map.1 h
  obtain ⟨h1, h2⟩ := List.mem_filter.1 hl
  exact ⟨l, ⟨h1, h2⟩, rfl⟩

/-- the least of a seed and what is told of the rows -/
theorem min_rows (f : List Int → Int) (L : List (List Int)) (b : Int) :
    (L.foldl (fun s x => minI s (f x)) b = b ∨ ∃ x ∈ L, L.foldl (fun s x => minI s (f x)) b = f x) ∧ (∀ x ∈ L, L.foldl (fun s x => minI s (f x)) b ≤ f x) ∧ L.foldl (fun s x => minI s (f x)) b ≤ b := by
  induction L generalizing b with
  | nil => exact ⟨.inl rfl, fun l hl => (by cases hl), Int.le_refl _⟩
  | cons x L ih =>
    obtain ⟨h1, h2, h3⟩ := ih (minI b (f x))
    simp only [List.foldl_cons]
    have hb : minI b (f x) ≤ b ∧ minI b (f x) ≤ f x ∧ (minI b (f x) = b ∨ minI b (f x) = f x) := by unfold minI; split <;> omega
    refine ⟨?_, fun l hl => ?_, by omega⟩
    · rcases h1 with h1 | ⟨l, hl, h1⟩
      · rcases hb.2.2 with h4 | h4
        · exact .inl (h1.trans h4)
        · exact .inr ⟨x, by simp, h1.trans h4⟩
      · exact .inr ⟨l, by simp [hl], h1⟩
    · rcases List.mem_cons.1 hl with rfl | hl
      · omega
      · exact h2 l hl

/-- the most of a seed and what is told of the rows -/
theorem max_rows (f : List Int → Int) (L : List (List Int)) (b : Int) :
    (L.foldl (fun s x => maxI s (f x)) b = b ∨ ∃ x ∈ L, L.foldl (fun s x => maxI s (f x)) b = f x) ∧ (∀ x ∈ L, f x ≤ L.foldl (fun s x => maxI s (f x)) b) ∧ b ≤ L.foldl (fun s x => maxI s (f x)) b := by
  induction L generalizing b with
  | nil => exact ⟨.inl rfl, fun l hl => (by cases hl), Int.le_refl _⟩
  | cons x L ih =>
    obtain ⟨h1, h2, h3⟩ := ih (maxI b (f x))
    simp only [List.foldl_cons]
    have hb : b ≤ maxI b (f x) ∧ f x ≤ maxI b (f x) ∧ (maxI b (f x) = b ∨ maxI b (f x) = f x) := by unfold maxI; split <;> omega
    refine ⟨?_, fun l hl => ?_, by omega⟩
    · rcases h1 with h1 | ⟨l, hl, h1⟩
      · rcases hb.2.2 with h4 | h4
        · exact .inl (h1.trans h4)
        · exact .inr ⟨x, by simp, h1.trans h4⟩
      · exact .inr ⟨l, by simp [hl], h1⟩
    · rcases List.mem_cons.1 hl with rfl | hl
      · omega
      · exact h2 l hl

theorem any_rows (f : List Int → Bool) (L : List (List Int)) (b : Bool) : L.foldl (fun s x => s || f x) b = (b || L.any f) := by
  induction L generalizing b with
  | nil => simp
  | cons x L ih => simp only [List.foldl_cons, List.any_cons]; rw [ih, Bool.or_assoc]

/-- the steps -/
def leastS (e : Int) (s : Int) (x : List Int) : Int := minI s (onI x e)

def mostS (e : Int) (s : Int) (x : List Int) : Int := maxI s (onI x e)

def lbS (g : List Int) (s : Int) (x : List Int) : Int := minI s (brI x g)

def furS (q : Qt) (s : Bool) (x : List Int) : Bool := s || fitI x [q]

theorem all_nil {m : Nat} {qs : List Qt} (h : anyFit m qs = false) : fitAll m qs = [] := by
  rcases hL : fitAll m qs with _ | ⟨x, L⟩
  · rfl
  · obtain ⟨l, hl, -⟩ := of_all (m := m) (qs := qs) (x := x) (by rw [hL]; simp)
    rw [(any_iff m qs).2 ⟨l, hl⟩] at h; cases h

theorem on_36 {m : Nat} {qs : List Qt} {l : List Nat} (h1 : 1 ≤ m) (h : FitL m qs l) (e : Int) : 0 ≤ onI (natL l) e ∧ onI (natL l) e ≤ 36 := by
  obtain ⟨-, e2⟩ := fit_len h1 h
  have := onI_bound (natL_nonneg l) e
  rw [natL_sum, e2] at this
  exact this

/-- the program's fold tells the least -/
theorem least_is {m : Nat} {qs : List Qt} (h1 : 1 ≤ m) (e : Int) : ((fitAll m qs).foldl (leastS e) 37 = 37 ∧ leastI m qs e = -1) ∨ ((fitAll m qs).foldl (leastS e) 37 = leastI m qs e ∧ 0 ≤ leastI m qs e ∧ leastI m qs e ≤ 36) := by
  rcases Bool.eq_false_or_eq_true (anyFit m qs) with h | h
  · right
    obtain ⟨⟨l, hl, el⟩, hmin, h0⟩ := least_some h e
    obtain ⟨k1, k2, k3⟩ := min_rows (fun x => onI x e) (fitAll m qs) 37
    have hle := k2 _ (mem_all hl)
    have hl36 := on_36 h1 hl e
    change (fitAll m qs).foldl (leastS e) 37 = 37 ∨ _ at k1
    change (fitAll m qs).foldl (leastS e) 37 ≤ onI (natL l) e at hle
    refine ⟨?_, h0, by omega⟩
    rcases k1 with k1 | ⟨x, hx, k1⟩
    · omega
    · obtain ⟨l2, hl2, rfl⟩ := of_all hx
      have h5 := hmin l2 hl2
      change (fitAll m qs).foldl (leastS e) 37 = onI (natL l2) e at k1
      omega
  · left
    rw [all_nil h, least_none h]
    exact ⟨rfl, rfl⟩

/-- the program's fold tells the most -/
theorem most_is {m : Nat} {qs : List Qt} (e : Int) : (fitAll m qs).foldl (mostS e) (-1) = mostI m qs e := by
  rcases Bool.eq_false_or_eq_true (anyFit m qs) with h | h
  · obtain ⟨⟨l, hl, el⟩, hmax⟩ := most_some h e
    obtain ⟨k1, k2, k3⟩ := max_rows (fun x => onI x e) (fitAll m qs) (-1)
    have hle := k2 _ (mem_all hl)
    have hl0 := on_nonneg l e
    change (fitAll m qs).foldl (mostS e) (-1) = -1 ∨ _ at k1
    change onI (natL l) e ≤ (fitAll m qs).foldl (mostS e) (-1) at hle
    rcases k1 with k1 | ⟨x, hx, k1⟩
    · omega
    · obtain ⟨l2, hl2, rfl⟩ := of_all hx
      have h5 := hmax l2 hl2
      change (fitAll m qs).foldl (mostS e) (-1) = onI (natL l2) e at k1
      omega
  · rw [all_nil h, most_none h]
    rfl

theorem br_36000 {m : Nat} {qs : List Qt} {l : List Nat} {g : List Int} (h1 : 1 ≤ m) (h4 : m ≤ 4) (h : FitL m qs l) (hg : gokB g = true) (hlen : (g.length : Int) = m) : brI (natL l) g ≤ 36000 ∧ (natL l).length = g.length := by
  obtain ⟨e1, e2⟩ := fit_len h1 h
  have hm : meaB (natL l) = true := (mea_lay _).2 ⟨⟨by rw [natL_len]; omega, by rw [natL_len]; omega⟩, l, by rw [natL_len, e1]; exact h.1, rfl⟩
  have hl : (natL l).length = g.length := by rw [natL_len]; omega
  have h2 := (br_between hm hg hl).2
  have h3 := (best_bounds hg).2
  exact ⟨by omega, hl⟩

/-- the program's fold tells what a gamble brings at least -/
theorem lb_is {m : Nat} {qs : List Qt} {g : List Int} (h1 : 1 ≤ m) (h4 : m ≤ 4) (hg : gokB g = true) (hlen : (g.length : Int) = m) : ((fitAll m qs).foldl (lbS g) 36001 = 36001 ∧ leastBr m qs g = (0, false)) ∨ ((fitAll m qs).foldl (lbS g) 36001 = (leastBr m qs g).1 ∧ (leastBr m qs g).2 = true ∧ (leastBr m qs g).1 ≤ 36000) := by
  rcases Bool.eq_false_or_eq_true (anyFit m qs) with h | h
  · right
    obtain ⟨ht, ⟨l, hl, el⟩, hmin⟩ := leastBr_some h g
    obtain ⟨k1, k2, k3⟩ := min_rows (fun x => brI x g) (fitAll m qs) 36001
    have hle := k2 _ (mem_all hl)
    have hl36 := (br_36000 h1 h4 hl hg hlen).1
    change (fitAll m qs).foldl (lbS g) 36001 = 36001 ∨ _ at k1
    change (fitAll m qs).foldl (lbS g) 36001 ≤ brI (natL l) g at hle
    refine ⟨?_, ht, by omega⟩
    rcases k1 with k1 | ⟨x, hx, k1⟩
    · omega
    · obtain ⟨l2, hl2, rfl⟩ := of_all hx
      have h5 := hmin l2 hl2
      change (fitAll m qs).foldl (lbS g) 36001 = brI (natL l2) g at k1
      omega
  · left
    rw [all_nil h, leastBr_none h]
    exact ⟨rfl, rfl⟩

/-- the program's fold tells whether a further price fits -/
theorem fur_is {m : Nat} {qs : List Qt} {q : Qt} (h : bokB (m : Int) qs = true) (k : qokB (m : Int) q = true) : (fitAll m qs).foldl (furS q) false = furB m qs q := by
  have h1 : (fitAll m qs).foldl (furS q) false = (false || (fitAll m qs).any fun x => fitI x [q]) := any_rows (fun x => fitI x [q]) (fitAll m qs) false
  rw [h1, furB, h, k, Int.toNat_natCast, Bool.false_or, Bool.true_and, Bool.true_and, fitAll, List.any_map, List.any_filter]
  rfl

set_option maxHeartbeats 1000000 in
theorem leastStep_any (W : World) (s : Int) (v : Value) (x : List Int) (e : Int) (B : Nat) (hB : W.cell? ⟨B, 0, none⟩ = some (.int .i64 e)) (hv : IRd W v x) (hm : Grs x) (e1 : 0 ≤ e) (e2 : e ≤ 15) :
    Calls Try.prog 57 #[.int .i64 s, v, .pointer (some ⟨B, 0, none⟩)] W fun r W' => r = .returned (.int .i64 (leastS e s x)) ∧ Below W.heap.size W W' := by
  have HV := Lib.hid hv
  have HM := Lib.hid hm
  clear hv hm
  obtain ⟨N, hN⟩ : ∃ N, onI x e = N := ⟨_, rfl⟩
  have HNN := Lib.hid hN
  clear hN
  by_cases h : N < s
  · go_enter Try.func57, Try.ntmps57
    go_wp2_with fail
    refine (implGrains_any _ _ x e HV.out HM.out e1 e2).mono ?_
    rintro r w' ⟨rfl, rfl⟩
    rw [HNN.out]
    go_wp2_with fail
    go_ret
    exact ⟨ret_int (by rw [leastS, HNN.out]; unfold minI; split <;> omega), by first | exact Below.refl _ _ | exact (Below.refl _ _).drew⟩
  · have h2 : s ≤ N := by omega
    go_enter Try.func57, Try.ntmps57
    go_wp2_with fail
    refine (implGrains_any _ _ x e HV.out HM.out e1 e2).mono ?_
    rintro r w' ⟨rfl, rfl⟩
    rw [HNN.out]
    go_wp2_with fail
    go_ret
    exact ⟨ret_int (by rw [leastS, HNN.out]; unfold minI; split <;> omega), by first | exact Below.refl _ _ | exact (Below.refl _ _).drew⟩

set_option maxHeartbeats 1000000 in
theorem mostStep_any (W : World) (s : Int) (v : Value) (x : List Int) (e : Int) (B : Nat) (hB : W.cell? ⟨B, 0, none⟩ = some (.int .i64 e)) (hv : IRd W v x) (hm : Grs x) (e1 : 0 ≤ e) (e2 : e ≤ 15) :
    Calls Try.prog 65 #[.int .i64 s, v, .pointer (some ⟨B, 0, none⟩)] W fun r W' => r = .returned (.int .i64 (mostS e s x)) ∧ Below W.heap.size W W' := by
  have HV := Lib.hid hv
  have HM := Lib.hid hm
  clear hv hm
  obtain ⟨N, hN⟩ : ∃ N, onI x e = N := ⟨_, rfl⟩
  have HNN := Lib.hid hN
  clear hN
  by_cases h : s < N
  · go_enter Try.func65, Try.ntmps65
    go_wp2_with fail
    refine (implGrains_any _ _ x e HV.out HM.out e1 e2).mono ?_
    rintro r w' ⟨rfl, rfl⟩
    rw [HNN.out]
    go_wp2_with fail
    go_ret
    exact ⟨ret_int (by rw [mostS, HNN.out]; unfold maxI; split <;> omega), by first | exact Below.refl _ _ | exact (Below.refl _ _).drew⟩
  · have h2 : N ≤ s := by omega
    go_enter Try.func65, Try.ntmps65
    go_wp2_with fail
    refine (implGrains_any _ _ x e HV.out HM.out e1 e2).mono ?_
    rintro r w' ⟨rfl, rfl⟩
    rw [HNN.out]
    go_wp2_with fail
    go_ret
    exact ⟨ret_int (by rw [mostS, HNN.out]; unfold maxI; split <;> omega), by first | exact Below.refl _ _ | exact (Below.refl _ _).drew⟩

set_option maxHeartbeats 1000000 in
theorem lbStep_any (W : World) (s : Int) (v : Value) (x : List Int) (u : Value) (g : List Int) (B : Nat) (hB : W.cell? ⟨B, 0, none⟩ = some u) (hv : IRd W v x) (hu : IRd W u g) (hm : Grs x) (hg : gokB g = true) (hlen : x.length = g.length) :
    Calls Try.prog 75 #[.int .i64 s, v, .pointer (some ⟨B, 0, none⟩)] W fun r W' => r = .returned (.int .i64 (lbS g s x)) ∧ Below W.heap.size W W' := by
  have HV := Lib.hid hv
  have HU := Lib.hid hu
  have HM := Lib.hid hm
  have HG := Lib.hid hg
  have HL := Lib.hid hlen
  clear hv hu hm hg hlen
  obtain ⟨N, hN⟩ : ∃ N, brI x g = N := ⟨_, rfl⟩
  have HNN := Lib.hid hN
  clear hN
  by_cases h : N < s
  · go_enter Try.func75, Try.ntmps75
    go_wp2_with fail
    refine (implBr_any _ _ _ x g HV.out HU.out HM.out HG.out HL.out).mono ?_
    rintro r w' ⟨rfl, rfl⟩
    rw [HNN.out]
    go_wp2_with fail
    go_ret
    exact ⟨ret_int (by rw [lbS, HNN.out]; unfold minI; split <;> omega), by first | exact Below.refl _ _ | exact (Below.refl _ _).drew⟩
  · have h2 : s ≤ N := by omega
    go_enter Try.func75, Try.ntmps75
    go_wp2_with fail
    refine (implBr_any _ _ _ x g HV.out HU.out HM.out HG.out HL.out).mono ?_
    rintro r w' ⟨rfl, rfl⟩
    rw [HNN.out]
    go_wp2_with fail
    go_ret
    exact ⟨ret_int (by rw [lbS, HNN.out]; unfold minI; split <;> omega), by first | exact Below.refl _ _ | exact (Below.refl _ _).drew⟩

set_option maxHeartbeats 1000000 in
theorem furStep_any (W : World) (s : Bool) (v u : Value) (x : List Int) (q : Qt) (B : Nat) (hB : W.cell? ⟨B, 0, none⟩ = some u) (hv : IRd W v x) (hu : QRd W u [q]) (hm : Grs x) (hq : Qts [q]) :
    Calls Try.prog 70 #[.bool s, v, .pointer (some ⟨B, 0, none⟩)] W fun r W' => r = .returned (.bool (furS q s x)) ∧ Below W.heap.size W W' := by
  have HV := Lib.hid hv
  have HU := Lib.hid hu
  have HM := Lib.hid hm
  have HQ := Lib.hid hq
  clear hv hm hu hq
  cases s
  · obtain ⟨N, hN⟩ : ∃ N, fitI x [q] = N := ⟨_, rfl⟩
    have HNN := Lib.hid hN
    clear hN
    go_enter Try.func70, Try.ntmps70
    go_wp2_with fail
    refine (implFits_any _ _ _ x [q] HV.out HU.out HM.out HQ.out).mono ?_
    rintro r w2 ⟨rfl, b2⟩
    rw [HNN.out]
    have HB2 := Lib.hid b2
    clear b2
    go_wp2_with fail
    go_ret
    exact ⟨ret_bool (by rw [furS, HNN.out]; rfl), HB2.out⟩
  · go_enter Try.func70, Try.ntmps70
    go_wp2_with fail
    go_ret
    exact ⟨ret_bool (by rw [furS]; rfl), Below.refl _ _⟩

set_option maxRecDepth 100000 in
set_option maxHeartbeats 8000000 in
theorem foldLeast_any (w : World) (b1 b2 B : Nat) (s0 : Int) (F : Int → List Int → Int) (all : List (List Int))
    (hseq : ∀ w0 C, Below w.heap.size w w0 → w.heap.size ≤ C → C < w0.heap.size → RowWalk 3 Try.prog 111 #[.pointer (some ⟨b1, 0, none⟩), .pointer (some ⟨b2, 0, none⟩)] C w0 all)
    (hstep : ∀ A pre x v, Below w.heap.size w A → (pre ++ [x]) <+: all → IRd A v x → Calls Try.prog 57 #[.int .i64 (pre.foldl F s0), v, .pointer (some ⟨B, 0, none⟩)] A fun r A' => r = .returned (.int .i64 (F (pre.foldl F s0) x)) ∧ Below A.heap.size A A') :
    Calls Try.prog 55 #[.func (.func 111) #[] #[.pointer (some ⟨b1, 0, none⟩), .pointer (some ⟨b2, 0, none⟩)], .int .i64 s0, .func (.func 57) #[] #[.pointer (some ⟨B, 0, none⟩)]] w fun r w' => r = .returned (.int .i64 (all.foldl F s0)) ∧ Below w.heap.size w w' := by
  have HSQ := Lib.hid hseq
  have HST := Lib.hid hstep
  clear hseq hstep
  refine (callsIn_wide (n := 4)).1 ?_
  refine callsIn_of_wp_marks Try.func55 rfl trivial ?_ rfl
  simp only [Try.ntmps55, List.size_toArray, List.length_cons, List.length_nil, Nat.reduceAdd, Nat.reduceSub, Array.replicate_succ, Array.replicate_zero, List.push_toArray, List.append_toArray, List.nil_append, List.cons_append]
  obtain ⟨w5, hw5⟩ : ∃ w5, (w.alloc (.cells #[.func (.func 57) #[] #[.pointer (some ⟨B, 0, none⟩)]] 73)).alloc (.cells #[.int .i64 s0] 3) = w5 := ⟨_, rfl⟩
  have hsz5 : w5.heap.size = w.heap.size + 2 := by rw [← hw5]; simp
  have hB5 : Below w.heap.size w w5 := by rw [← hw5]; exact ((Below.refl _ _).alloc (Nat.le_refl _) _).alloc (by simp) _
  have hF5 : FoI w (fun pre => .int .i64 (pre.foldl F s0)) (.func (.func 57) #[] #[.pointer (some ⟨B, 0, none⟩)]) [] w5 := by
    have h1 := new_cell w (.func (.func 57) #[] #[.pointer (some ⟨B, 0, none⟩)]) 73
    have h2 := new_cell (w.alloc (.cells #[.func (.func 57) #[] #[.pointer (some ⟨B, 0, none⟩)]] 73)) (.int .i64 s0) 3
    rw [World.size_alloc] at h2
    refine ⟨?_, ?_, ?_, hB5⟩
    · rw [← hw5]; exact h2.1
    · rw [← hw5]; exact h2.2
    · rw [← hw5]; exact old_cell _ h1.1
  have HW5 := Lib.hid hw5
  have HS := Lib.hid hsz5
  have HF := Lib.hid hF5
  have HW := Lib.hid (HSQ.out w5 (w.heap.size + 1) hB5 (by omega) (by omega))
  clear hw5 hsz5 hF5 hB5 HSQ
  gi_wp2_with fail
  rw [HW5.out]
  refine wpIn_rows (by omega) (gf := 111) (lb := #[.pointer (some ⟨b1, 0, none⟩), .pointer (some ⟨b2, 0, none⟩)]) rfl (enters_of Try.func111 (by kernel_rfl) rfl) HW.out (by have := HS.out; omega) rfl
    (FoI w (fun pre => .int .i64 (pre.foldl F s0)) (.func (.func 57) #[] #[.pointer (some ⟨B, 0, none⟩)])) (fun _ _ _ => False) (fo_stays (by have := HS.out; omega)) (fun _ _ _ _ _ _ h => h.elim) HF.out ?round ?done ?stop
  case round =>
    intro l pre x v W hpre
    have HP := Lib.hid hpre
    clear hpre
    gi_wp2_with fail
    refine ⟨trivial, ?_⟩
    rintro A ⟨hc, hf, hs5, hb⟩ hs ho
    have HB := Lib.hid hb
    have HO := Lib.hid ho
    have HT := Lib.hid (HST.out A pre x v hb HP.out ho.rd)
    have HAS : Hid (w.heap.size + 1 < A.heap.size) := Lib.hid (by have := HS.out; omega)
    have HC : Hid (∀ A', Below A.heap.size A A' → A'.cell? ⟨w.heap.size + 1, 0, none⟩ = some (.int .i64 (pre.foldl F s0)) ∧ A'.frozen? ⟨w.heap.size + 1, 0, none⟩ = false ∧ A'.cell? ⟨w.heap.size, 0, none⟩ = some (.func (.func 57) #[] #[.pointer (some ⟨B, 0, none⟩)])) := Lib.hid (fun A' h2 =>
      ⟨(h2.cell (p := ⟨w.heap.size + 1, 0, none⟩) (show w.heap.size + 1 < A.heap.size from HAS.out)).trans hc, (h2.frozen (p := ⟨w.heap.size + 1, 0, none⟩) (show w.heap.size + 1 < A.heap.size from HAS.out)).trans hf, (h2.cell (p := ⟨w.heap.size, 0, none⟩) (show w.heap.size < A.heap.size by have := HAS.out; omega)).trans hs5⟩)
    clear hb hs ho hf
    gi_wp2_with fail
    refine ⟨trivial, (calls_round6 HT.out).mono ?_⟩
    rintro r A2 ⟨rfl, bA⟩
    obtain ⟨d1, d2, d3⟩ := HC.out A2 bA
    have HBA := Lib.hid bA
    clear bA hc hs5
    gi_wp2_with fail
    refine ⟨kept_fold HBA.out _, ?_, ?_, ?_, ?_⟩
    · rw [World.cell?_setCell_same' _ _ _ (by rw [d1]; rfl)]; simp
    · rw [World.frozen?_setCell]; exact d2
    · exact ofs_cell d3 (by omega)
    · exact (HB.out.trans (HBA.out.mono (by have := HAS.out; omega))).setCell (p := ⟨w.heap.size + 1, 0, none⟩) (Nat.le_succ _) _
  case done =>
    rintro D W hD ⟨hc, hf, hs5, hb⟩ hK
    have HB := Lib.hid hb
    clear hb hf hs5
    gi_wp2_with fail
    refine ⟨by simp, .inl ⟨_, _, rfl, run_takeDeferred hK, ?_⟩⟩
    refine ⟨_, results_tmp rfl _ _ _, rfl, ?_⟩
    exact HB.out.trans (below_put _ (Array.getElem?_eq_some_iff.1 hK).1 (by have := HS.out; omega))
  case stop =>
    rintro D c pre W _ _ h _
    exact h.elim

set_option maxRecDepth 100000 in
set_option maxHeartbeats 8000000 in
theorem foldMost_any (w : World) (b1 b2 B : Nat) (s0 : Int) (F : Int → List Int → Int) (all : List (List Int))
    (hseq : ∀ w0 C, Below w.heap.size w w0 → w.heap.size ≤ C → C < w0.heap.size → RowWalk 3 Try.prog 111 #[.pointer (some ⟨b1, 0, none⟩), .pointer (some ⟨b2, 0, none⟩)] C w0 all)
    (hstep : ∀ A pre x v, Below w.heap.size w A → (pre ++ [x]) <+: all → IRd A v x → Calls Try.prog 65 #[.int .i64 (pre.foldl F s0), v, .pointer (some ⟨B, 0, none⟩)] A fun r A' => r = .returned (.int .i64 (F (pre.foldl F s0) x)) ∧ Below A.heap.size A A') :
    Calls Try.prog 55 #[.func (.func 111) #[] #[.pointer (some ⟨b1, 0, none⟩), .pointer (some ⟨b2, 0, none⟩)], .int .i64 s0, .func (.func 65) #[] #[.pointer (some ⟨B, 0, none⟩)]] w fun r w' => r = .returned (.int .i64 (all.foldl F s0)) ∧ Below w.heap.size w w' := by
  have HSQ := Lib.hid hseq
  have HST := Lib.hid hstep
  clear hseq hstep
  refine (callsIn_wide (n := 4)).1 ?_
  refine callsIn_of_wp_marks Try.func55 rfl trivial ?_ rfl
  simp only [Try.ntmps55, List.size_toArray, List.length_cons, List.length_nil, Nat.reduceAdd, Nat.reduceSub, Array.replicate_succ, Array.replicate_zero, List.push_toArray, List.append_toArray, List.nil_append, List.cons_append]
  obtain ⟨w5, hw5⟩ : ∃ w5, (w.alloc (.cells #[.func (.func 65) #[] #[.pointer (some ⟨B, 0, none⟩)]] 73)).alloc (.cells #[.int .i64 s0] 3) = w5 := ⟨_, rfl⟩
  have hsz5 : w5.heap.size = w.heap.size + 2 := by rw [← hw5]; simp
  have hB5 : Below w.heap.size w w5 := by rw [← hw5]; exact ((Below.refl _ _).alloc (Nat.le_refl _) _).alloc (by simp) _
  have hF5 : FoI w (fun pre => .int .i64 (pre.foldl F s0)) (.func (.func 65) #[] #[.pointer (some ⟨B, 0, none⟩)]) [] w5 := by
    have h1 := new_cell w (.func (.func 65) #[] #[.pointer (some ⟨B, 0, none⟩)]) 73
    have h2 := new_cell (w.alloc (.cells #[.func (.func 65) #[] #[.pointer (some ⟨B, 0, none⟩)]] 73)) (.int .i64 s0) 3
    rw [World.size_alloc] at h2
    refine ⟨?_, ?_, ?_, hB5⟩
    · rw [← hw5]; exact h2.1
    · rw [← hw5]; exact h2.2
    · rw [← hw5]; exact old_cell _ h1.1
  have HW5 := Lib.hid hw5
  have HS := Lib.hid hsz5
  have HF := Lib.hid hF5
  have HW := Lib.hid (HSQ.out w5 (w.heap.size + 1) hB5 (by omega) (by omega))
  clear hw5 hsz5 hF5 hB5 HSQ
  gi_wp2_with fail
  rw [HW5.out]
  refine wpIn_rows (by omega) (gf := 111) (lb := #[.pointer (some ⟨b1, 0, none⟩), .pointer (some ⟨b2, 0, none⟩)]) rfl (enters_of Try.func111 (by kernel_rfl) rfl) HW.out (by have := HS.out; omega) rfl
    (FoI w (fun pre => .int .i64 (pre.foldl F s0)) (.func (.func 65) #[] #[.pointer (some ⟨B, 0, none⟩)])) (fun _ _ _ => False) (fo_stays (by have := HS.out; omega)) (fun _ _ _ _ _ _ h => h.elim) HF.out ?round ?done ?stop
  case round =>
    intro l pre x v W hpre
    have HP := Lib.hid hpre
    clear hpre
    gi_wp2_with fail
    refine ⟨trivial, ?_⟩
    rintro A ⟨hc, hf, hs5, hb⟩ hs ho
    have HB := Lib.hid hb
    have HO := Lib.hid ho
    have HT := Lib.hid (HST.out A pre x v hb HP.out ho.rd)
    have HAS : Hid (w.heap.size + 1 < A.heap.size) := Lib.hid (by have := HS.out; omega)
    have HC : Hid (∀ A', Below A.heap.size A A' → A'.cell? ⟨w.heap.size + 1, 0, none⟩ = some (.int .i64 (pre.foldl F s0)) ∧ A'.frozen? ⟨w.heap.size + 1, 0, none⟩ = false ∧ A'.cell? ⟨w.heap.size, 0, none⟩ = some (.func (.func 65) #[] #[.pointer (some ⟨B, 0, none⟩)])) := Lib.hid (fun A' h2 =>
      ⟨(h2.cell (p := ⟨w.heap.size + 1, 0, none⟩) (show w.heap.size + 1 < A.heap.size from HAS.out)).trans hc, (h2.frozen (p := ⟨w.heap.size + 1, 0, none⟩) (show w.heap.size + 1 < A.heap.size from HAS.out)).trans hf, (h2.cell (p := ⟨w.heap.size, 0, none⟩) (show w.heap.size < A.heap.size by have := HAS.out; omega)).trans hs5⟩)
    clear hb hs ho hf
    gi_wp2_with fail
    refine ⟨trivial, (calls_round6 HT.out).mono ?_⟩
    rintro r A2 ⟨rfl, bA⟩
    obtain ⟨d1, d2, d3⟩ := HC.out A2 bA
    have HBA := Lib.hid bA
    clear bA hc hs5
    gi_wp2_with fail
    refine ⟨kept_fold HBA.out _, ?_, ?_, ?_, ?_⟩
    · rw [World.cell?_setCell_same' _ _ _ (by rw [d1]; rfl)]; simp
    · rw [World.frozen?_setCell]; exact d2
    · exact ofs_cell d3 (by omega)
    · exact (HB.out.trans (HBA.out.mono (by have := HAS.out; omega))).setCell (p := ⟨w.heap.size + 1, 0, none⟩) (Nat.le_succ _) _
  case done =>
    rintro D W hD ⟨hc, hf, hs5, hb⟩ hK
    have HB := Lib.hid hb
    clear hb hf hs5
    gi_wp2_with fail
    refine ⟨by simp, .inl ⟨_, _, rfl, run_takeDeferred hK, ?_⟩⟩
    refine ⟨_, results_tmp rfl _ _ _, rfl, ?_⟩
    exact HB.out.trans (below_put _ (Array.getElem?_eq_some_iff.1 hK).1 (by have := HS.out; omega))
  case stop =>
    rintro D c pre W _ _ h _
    exact h.elim

set_option maxRecDepth 100000 in
set_option maxHeartbeats 8000000 in
theorem foldBr_any (w : World) (b1 b2 B : Nat) (s0 : Int) (F : Int → List Int → Int) (all : List (List Int))
    (hseq : ∀ w0 C, Below w.heap.size w w0 → w.heap.size ≤ C → C < w0.heap.size → RowWalk 3 Try.prog 111 #[.pointer (some ⟨b1, 0, none⟩), .pointer (some ⟨b2, 0, none⟩)] C w0 all)
    (hstep : ∀ A pre x v, Below w.heap.size w A → (pre ++ [x]) <+: all → IRd A v x → Calls Try.prog 75 #[.int .i64 (pre.foldl F s0), v, .pointer (some ⟨B, 0, none⟩)] A fun r A' => r = .returned (.int .i64 (F (pre.foldl F s0) x)) ∧ Below A.heap.size A A') :
    Calls Try.prog 55 #[.func (.func 111) #[] #[.pointer (some ⟨b1, 0, none⟩), .pointer (some ⟨b2, 0, none⟩)], .int .i64 s0, .func (.func 75) #[] #[.pointer (some ⟨B, 0, none⟩)]] w fun r w' => r = .returned (.int .i64 (all.foldl F s0)) ∧ Below w.heap.size w w' := by
  have HSQ := Lib.hid hseq
  have HST := Lib.hid hstep
  clear hseq hstep
  refine (callsIn_wide (n := 4)).1 ?_
  refine callsIn_of_wp_marks Try.func55 rfl trivial ?_ rfl
  simp only [Try.ntmps55, List.size_toArray, List.length_cons, List.length_nil, Nat.reduceAdd, Nat.reduceSub, Array.replicate_succ, Array.replicate_zero, List.push_toArray, List.append_toArray, List.nil_append, List.cons_append]
  obtain ⟨w5, hw5⟩ : ∃ w5, (w.alloc (.cells #[.func (.func 75) #[] #[.pointer (some ⟨B, 0, none⟩)]] 73)).alloc (.cells #[.int .i64 s0] 3) = w5 := ⟨_, rfl⟩
  have hsz5 : w5.heap.size = w.heap.size + 2 := by rw [← hw5]; simp
  have hB5 : Below w.heap.size w w5 := by rw [← hw5]; exact ((Below.refl _ _).alloc (Nat.le_refl _) _).alloc (by simp) _
  have hF5 : FoI w (fun pre => .int .i64 (pre.foldl F s0)) (.func (.func 75) #[] #[.pointer (some ⟨B, 0, none⟩)]) [] w5 := by
    have h1 := new_cell w (.func (.func 75) #[] #[.pointer (some ⟨B, 0, none⟩)]) 73
    have h2 := new_cell (w.alloc (.cells #[.func (.func 75) #[] #[.pointer (some ⟨B, 0, none⟩)]] 73)) (.int .i64 s0) 3
    rw [World.size_alloc] at h2
    refine ⟨?_, ?_, ?_, hB5⟩
    · rw [← hw5]; exact h2.1
    · rw [← hw5]; exact h2.2
    · rw [← hw5]; exact old_cell _ h1.1
  have HW5 := Lib.hid hw5
  have HS := Lib.hid hsz5
  have HF := Lib.hid hF5
  have HW := Lib.hid (HSQ.out w5 (w.heap.size + 1) hB5 (by omega) (by omega))
  clear hw5 hsz5 hF5 hB5 HSQ
  gi_wp2_with fail
  rw [HW5.out]
  refine wpIn_rows (by omega) (gf := 111) (lb := #[.pointer (some ⟨b1, 0, none⟩), .pointer (some ⟨b2, 0, none⟩)]) rfl (enters_of Try.func111 (by kernel_rfl) rfl) HW.out (by have := HS.out; omega) rfl
    (FoI w (fun pre => .int .i64 (pre.foldl F s0)) (.func (.func 75) #[] #[.pointer (some ⟨B, 0, none⟩)])) (fun _ _ _ => False) (fo_stays (by have := HS.out; omega)) (fun _ _ _ _ _ _ h => h.elim) HF.out ?round ?done ?stop
  case round =>
    intro l pre x v W hpre
    have HP := Lib.hid hpre
    clear hpre
    gi_wp2_with fail
    refine ⟨trivial, ?_⟩
    rintro A ⟨hc, hf, hs5, hb⟩ hs ho
    have HB := Lib.hid hb
    have HO := Lib.hid ho
    have HT := Lib.hid (HST.out A pre x v hb HP.out ho.rd)
    have HAS : Hid (w.heap.size + 1 < A.heap.size) := Lib.hid (by have := HS.out; omega)
    have HC : Hid (∀ A', Below A.heap.size A A' → A'.cell? ⟨w.heap.size + 1, 0, none⟩ = some (.int .i64 (pre.foldl F s0)) ∧ A'.frozen? ⟨w.heap.size + 1, 0, none⟩ = false ∧ A'.cell? ⟨w.heap.size, 0, none⟩ = some (.func (.func 75) #[] #[.pointer (some ⟨B, 0, none⟩)])) := Lib.hid (fun A' h2 =>
      ⟨(h2.cell (p := ⟨w.heap.size + 1, 0, none⟩) (show w.heap.size + 1 < A.heap.size from HAS.out)).trans hc, (h2.frozen (p := ⟨w.heap.size + 1, 0, none⟩) (show w.heap.size + 1 < A.heap.size from HAS.out)).trans hf, (h2.cell (p := ⟨w.heap.size, 0, none⟩) (show w.heap.size < A.heap.size by have := HAS.out; omega)).trans hs5⟩)
    clear hb hs ho hf
    gi_wp2_with fail
    refine ⟨trivial, (calls_round6 HT.out).mono ?_⟩
    rintro r A2 ⟨rfl, bA⟩
    obtain ⟨d1, d2, d3⟩ := HC.out A2 bA
    have HBA := Lib.hid bA
    clear bA hc hs5
    gi_wp2_with fail
    refine ⟨kept_fold HBA.out _, ?_, ?_, ?_, ?_⟩
    · rw [World.cell?_setCell_same' _ _ _ (by rw [d1]; rfl)]; simp
    · rw [World.frozen?_setCell]; exact d2
    · exact ofs_cell d3 (by omega)
    · exact (HB.out.trans (HBA.out.mono (by have := HAS.out; omega))).setCell (p := ⟨w.heap.size + 1, 0, none⟩) (Nat.le_succ _) _
  case done =>
    rintro D W hD ⟨hc, hf, hs5, hb⟩ hK
    have HB := Lib.hid hb
    clear hb hf hs5
    gi_wp2_with fail
    refine ⟨by simp, .inl ⟨_, _, rfl, run_takeDeferred hK, ?_⟩⟩
    refine ⟨_, results_tmp rfl _ _ _, rfl, ?_⟩
    exact HB.out.trans (below_put _ (Array.getElem?_eq_some_iff.1 hK).1 (by have := HS.out; omega))
  case stop =>
    rintro D c pre W _ _ h _
    exact h.elim

set_option maxRecDepth 100000 in
set_option maxHeartbeats 8000000 in
theorem foldFur_any (w : World) (b1 b2 B : Nat) (s0 : Bool) (F : Bool → List Int → Bool) (all : List (List Int))
    (hseq : ∀ w0 C, Below w.heap.size w w0 → w.heap.size ≤ C → C < w0.heap.size → RowWalk 3 Try.prog 111 #[.pointer (some ⟨b1, 0, none⟩), .pointer (some ⟨b2, 0, none⟩)] C w0 all)
    (hstep : ∀ A pre x v, Below w.heap.size w A → (pre ++ [x]) <+: all → IRd A v x → Calls Try.prog 70 #[.bool (pre.foldl F s0), v, .pointer (some ⟨B, 0, none⟩)] A fun r A' => r = .returned (.bool (F (pre.foldl F s0) x)) ∧ Below A.heap.size A A') :
    Calls Try.prog 69 #[.func (.func 111) #[] #[.pointer (some ⟨b1, 0, none⟩), .pointer (some ⟨b2, 0, none⟩)], .bool s0, .func (.func 70) #[] #[.pointer (some ⟨B, 0, none⟩)]] w fun r w' => r = .returned (.bool (all.foldl F s0)) ∧ Below w.heap.size w w' := by
  have HSQ := Lib.hid hseq
  have HST := Lib.hid hstep
  clear hseq hstep
  refine (callsIn_wide (n := 4)).1 ?_
  refine callsIn_of_wp_marks Try.func69 rfl trivial ?_ rfl
  simp only [Try.ntmps69, List.size_toArray, List.length_cons, List.length_nil, Nat.reduceAdd, Nat.reduceSub, Array.replicate_succ, Array.replicate_zero, List.push_toArray, List.append_toArray, List.nil_append, List.cons_append]
  obtain ⟨w5, hw5⟩ : ∃ w5, (w.alloc (.cells #[.func (.func 70) #[] #[.pointer (some ⟨B, 0, none⟩)]] 80)).alloc (.cells #[.bool s0] 4) = w5 := ⟨_, rfl⟩
  have hsz5 : w5.heap.size = w.heap.size + 2 := by rw [← hw5]; simp
  have hB5 : Below w.heap.size w w5 := by rw [← hw5]; exact ((Below.refl _ _).alloc (Nat.le_refl _) _).alloc (by simp) _
  have hF5 : FoI w (fun pre => .bool (pre.foldl F s0)) (.func (.func 70) #[] #[.pointer (some ⟨B, 0, none⟩)]) [] w5 := by
    have h1 := new_cell w (.func (.func 70) #[] #[.pointer (some ⟨B, 0, none⟩)]) 80
    have h2 := new_cell (w.alloc (.cells #[.func (.func 70) #[] #[.pointer (some ⟨B, 0, none⟩)]] 80)) (.bool s0) 4
    rw [World.size_alloc] at h2
    refine ⟨?_, ?_, ?_, hB5⟩
    · rw [← hw5]; exact h2.1
    · rw [← hw5]; exact h2.2
    · rw [← hw5]; exact old_cell _ h1.1
  have HW5 := Lib.hid hw5
  have HS := Lib.hid hsz5
  have HF := Lib.hid hF5
  have HW := Lib.hid (HSQ.out w5 (w.heap.size + 1) hB5 (by omega) (by omega))
  clear hw5 hsz5 hF5 hB5 HSQ
  gi_wp2_with fail
  rw [HW5.out]
  refine wpIn_rows (by omega) (gf := 111) (lb := #[.pointer (some ⟨b1, 0, none⟩), .pointer (some ⟨b2, 0, none⟩)]) rfl (enters_of Try.func111 (by kernel_rfl) rfl) HW.out (by have := HS.out; omega) rfl
    (FoI w (fun pre => .bool (pre.foldl F s0)) (.func (.func 70) #[] #[.pointer (some ⟨B, 0, none⟩)])) (fun _ _ _ => False) (fo_stays (by have := HS.out; omega)) (fun _ _ _ _ _ _ h => h.elim) HF.out ?round ?done ?stop
  case round =>
    intro l pre x v W hpre
    have HP := Lib.hid hpre
    clear hpre
    gi_wp2_with fail
    refine ⟨trivial, ?_⟩
    rintro A ⟨hc, hf, hs5, hb⟩ hs ho
    have HB := Lib.hid hb
    have HO := Lib.hid ho
    have HT := Lib.hid (HST.out A pre x v hb HP.out ho.rd)
    have HAS : Hid (w.heap.size + 1 < A.heap.size) := Lib.hid (by have := HS.out; omega)
    have HC : Hid (∀ A', Below A.heap.size A A' → A'.cell? ⟨w.heap.size + 1, 0, none⟩ = some (.bool (pre.foldl F s0)) ∧ A'.frozen? ⟨w.heap.size + 1, 0, none⟩ = false ∧ A'.cell? ⟨w.heap.size, 0, none⟩ = some (.func (.func 70) #[] #[.pointer (some ⟨B, 0, none⟩)])) := Lib.hid (fun A' h2 =>
      ⟨(h2.cell (p := ⟨w.heap.size + 1, 0, none⟩) (show w.heap.size + 1 < A.heap.size from HAS.out)).trans hc, (h2.frozen (p := ⟨w.heap.size + 1, 0, none⟩) (show w.heap.size + 1 < A.heap.size from HAS.out)).trans hf, (h2.cell (p := ⟨w.heap.size, 0, none⟩) (show w.heap.size < A.heap.size by have := HAS.out; omega)).trans hs5⟩)
    clear hb hs ho hf
    gi_wp2_with fail
    refine ⟨trivial, (calls_round6 HT.out).mono ?_⟩
    rintro r A2 ⟨rfl, bA⟩
    obtain ⟨d1, d2, d3⟩ := HC.out A2 bA
    have HBA := Lib.hid bA
    clear bA hc hs5
    gi_wp2_with fail
    refine ⟨kept_fold HBA.out _, ?_, ?_, ?_, ?_⟩
    · rw [World.cell?_setCell_same' _ _ _ (by rw [d1]; rfl)]; simp
    · rw [World.frozen?_setCell]; exact d2
    · exact ofs_cell d3 (by omega)
    · exact (HB.out.trans (HBA.out.mono (by have := HAS.out; omega))).setCell (p := ⟨w.heap.size + 1, 0, none⟩) (Nat.le_succ _) _
  case done =>
    rintro D W hD ⟨hc, hf, hs5, hb⟩ hK
    have HB := Lib.hid hb
    clear hb hf hs5
    gi_wp2_with fail
    refine ⟨by simp, .inl ⟨_, _, rfl, run_takeDeferred hK, ?_⟩⟩
    refine ⟨_, results_tmp rfl _ _ _, rfl, ?_⟩
    exact HB.out.trans (below_put _ (Array.getElem?_eq_some_iff.1 hK).1 (by have := HS.out; omega))
  case stop =>
    rintro D c pre W _ _ h _
    exact h.elim

end Go.Proofs.Yteljcicdibbhdaa
