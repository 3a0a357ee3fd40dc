/- impl.BalanceOf: rows of rows, their fold. Conditions: stated at each. impl.BalanceOf: the fold over rows. Conditions: stated at each. spec.BalanceOf. Conditions: rows that read as lists. -/
import Derived.Test.YtkanfolgppbklaaQf
namespace Go.Proofs.Ytkanfolgppbklaa
open Go.RowKit
set_option linter.unusedVariables false

/-- the one cell of a row within a row -/
def vC (v : Value) : List Value := [v]

theorem vC_len (v : Value) : (vC v).length = 1 := rfl

/-- rows of ints: the i-th one reads as R i -/
def RowsOf (R : Nat → List Int) (n : Nat) (v : Value) (w : World) : Prop := ∃ vs : List Value, vs.length = n ∧ GRd 1 vC w v vs ∧ ∀ i u, vs[i]? = some u → IRd w u (R i)

theorem RowsOf.keep {R : Nat → List Int} {n : Nat} {v : Value} {w w' : World} (h : RowsOf R n v w) (hb : Below w.heap.size w w') : RowsOf R n v w' := by
  obtain ⟨vs, h1, h2, h3⟩ := h
  exact ⟨vs, h1, h2.keep (SameAt.of_below hb), fun i u hu => (h3 i u hu).keep (SameAt.of_below hb)⟩

theorem RowsOf.at_ {R : Nat → List Int} {n m c : Nat} {A : Option Addr} {w : World} (h : RowsOf R n (.slice A m c) w) {k : Nat} (hk : k < m) :
    ∃ b off u, A = some ⟨b, off, none⟩ ∧ w.cell? ⟨b, off + k, none⟩ = some u ∧ IRd w u (R k) := by
  obtain ⟨vs, h1, h2, h3⟩ := h
  obtain ⟨b, off, u, hA, hb, hx, hc⟩ := GRd.at_ h2 hk
  have h0 := hc 0 u rfl
  rw [Nat.mul_one, Nat.add_zero] at h0
  exact ⟨b, off, u, hA, h0, h3 k u hx⟩

theorem RowsOf.form {R : Nat → List Int} {n : Nat} {v : Value} {w : World} (h : RowsOf R n v w) : ∃ A cp, v = .slice A n cp ∧ n ≤ cp ∧ cp ≤ 9223372036854775807 := by
  obtain ⟨vs, h1, h2, h3⟩ := h
  subst h1
  exact h2.form

/-- the rows are laid up to k -/
def RowsRel (w : World) (R : Nat → List Int) (n k : Nat) (wr : World) : Prop :=
  ∃ vs : List Value, vs.length = k ∧ GOwn 32 1 vC wr w.heap.size (.slice (some ⟨w.heap.size, 0, none⟩) n n) (vs ++ List.replicate (n - k) (Value.slice none 0 0)) ∧
    (∀ i u, vs[i]? = some u → IRd wr u (R i) ∧ ∀ g, u.ownBlock = some g → w.heap.size < g) ∧ Below w.heap.size w wr

theorem RowsRel.keep {w wr w' : World} {R : Nat → List Int} {n k : Nat} (h : RowsRel w R n k wr) (hb : Below wr.heap.size wr w') : RowsRel w R n k w' := by
  obtain ⟨vs, h1, h2, h3, h4⟩ := h
  exact ⟨vs, h1, h2.keep (SameAt.of_below hb), fun i u hu => ⟨(h3 i u hu).1.keep (SameAt.of_below hb), (h3 i u hu).2⟩, below_step h4 hb h4.size⟩

theorem RowsRel.below {w wr : World} {R : Nat → List Int} {n k : Nat} (h : RowsRel w R n k wr) : Below w.heap.size w wr := by
  obtain ⟨vs, h1, h2, h3, h4⟩ := h
  exact h4

theorem RowsRel.old {w wr : World} {R : Nat → List Int} {n k : Nat} (h : RowsRel w R n k wr) (hk : k < n) : wr.frozen? ⟨w.heap.size, k, none⟩ = false ∧ ∃ old, wr.cell? ⟨w.heap.size, k, none⟩ = some old := by
  obtain ⟨vs, h1, h2, h3, h4⟩ := h
  have := h2.old vC_len (by simp [h1]; omega) hk (j := 0) (by decide)
  rw [Nat.mul_one, Nat.add_zero] at this
  exact this

theorem RowsRel.step {w wr : World} {R : Nat → List Int} {n k : Nat} {u : Value} (h : RowsRel w R n k wr) (hk : k < n) (ho : IRd wr u (R k)) (hu : ∀ g, u.ownBlock = some g → w.heap.size < g) :
    RowsRel w R n (k + 1) (wr.setCell ⟨w.heap.size, k, none⟩ u) := by
  obtain ⟨vs, h1, h2, h3, h4⟩ := h
  have hl : (vs ++ List.replicate (n - k) (Value.slice none 0 0)).length = n := by simp [h1]; omega
  have h2' : ∀ ys : List Value, ys.length = n → GOwn 32 1 vC wr w.heap.size (.slice (some ⟨w.heap.size, 0, none⟩) n n) ys → GOwn 32 1 vC (wr.setCell ⟨w.heap.size, k, none⟩ u) w.heap.size (.slice (some ⟨w.heap.size, 0, none⟩) n n) (ys.set k u) ∧ wr.grownBy (wr.setCell ⟨w.heap.size, k, none⟩ u) (some w.heap.size) := by
    intro ys hy ho
    subst hy
    exact GOwn.set1 (x := u) vC_len ho hk rfl
  obtain ⟨h5, h6⟩ := h2' _ hl h2
  have hset : (vs ++ List.replicate (n - k) (Value.slice none 0 0)).set k u = (vs ++ [u]) ++ List.replicate (n - (k + 1)) (Value.slice none 0 0) := by
    rw [List.set_append_right _ _ (by omega), h1, Nat.sub_self]
    obtain ⟨m, hm⟩ : ∃ m, n - k = m + 1 := ⟨n - k - 1, by omega⟩
    rw [hm, List.replicate_succ, List.set_cons_zero, show n - (k + 1) = m from by omega, List.append_assoc]
    rfl
  rw [hset] at h5
  have far : ∀ z : Value, (∀ g, z.ownBlock = some g → w.heap.size < g) → z.ownBlock = none ∨ z.ownBlock ≠ some w.heap.size := by
    intro z hz
    rcases hv : z.ownBlock with _ | g
    · exact .inl rfl
    · refine .inr fun e => ?_
      have := hz g hv
      injection e with e
      omega
  refine ⟨vs ++ [u], by simp [h1], h5, fun i z hz => ?_, h4.setCell (Nat.le_refl _) _⟩
  by_cases hi : i < k
  · rw [List.getElem?_append_left (by omega)] at hz
    obtain ⟨h7, h8⟩ := h3 i z hz
    exact ⟨h7.keep (SameAt.of_grown h6 (far z h8)), h8⟩
  · rw [List.getElem?_append_right (by omega)] at hz
    have hik : i = k := by
      rcases Nat.lt_or_ge (i - vs.length) 1 with h | h
      · omega
      · rw [List.getElem?_eq_none (by simpa using h)] at hz; cases hz
    subst hik
    rw [h1, Nat.sub_self] at hz
    obtain rfl : u = z := by simpa using hz
    exact ⟨ho.keep (SameAt.of_grown h6 (far u hu)), hu⟩

theorem RowsRel.all {w wr : World} {R : Nat → List Int} {n k : Nat} (h : RowsRel w R n k wr) (hk : k = n) : RowsOf R n (.slice (some ⟨w.heap.size, 0, none⟩) n n) wr ∧ Below w.heap.size w wr := by
  subst hk
  obtain ⟨vs, h1, h2, h3, h4⟩ := h
  rw [Nat.sub_self, List.replicate_zero, List.append_nil] at h2
  refine ⟨⟨vs, h1, ?_, fun i u hu => (h3 i u hu).1⟩, h4⟩
  exact h2.rd vC_len

theorem RowsRel.start {w w0 : World} {n : Nat} (R : Nat → List Int) (hown : w0.ownsRow w.heap.size 32 1 (.slice (some ⟨w.heap.size, 0, none⟩) n n) n (madeCells #[Value.slice none 0 0] n).toList) (hg : w.grownBy w0 none) : RowsRel w R n 0 w0 := by
  refine ⟨[], rfl, ?_, fun i u hu => by simp at hu, (Below.refl _ _).grown hg (Nat.le_refl _) (fun k hk => by cases hk)⟩
  have h := GFill.start (enc := vC) (xs := List.replicate n (Value.slice none 0 0)) vC_len (by decide) (.slice none 0 0) (zc := #[Value.slice none 0 0]) (n := n) (by rw [Nat.mul_one]; exact hown) rfl (by simp) hg
  have h1 := h.1
  rw [upto_zero, List.length_replicate] at h1
  simpa using h1

/-- what a row that was made in a round leaves: its value's form, the outer row's cell, and the next round's state -/
def RowStep (w : World) (R : Nat → List Int) (n k m : Nat) (r : Ending) (w3 : World) : Prop :=
  ∃ A c, r = .returned (.slice A m c) ∧ w3.frozen? ⟨w.heap.size, k, none⟩ = false ∧ (∃ old, w3.cell? ⟨w.heap.size, k, none⟩ = some old) ∧ Hid (RowsRel w R n (k + 1) (w3.setCell ⟨w.heap.size, k, none⟩ (.slice A m c)))

theorem row_step {w wr wx w3 : World} {R : Nat → List Int} {n k : Nat} {xs : List Int} {r : Ending} (h : RowsRel w R n k wr) (hb : Below wr.heap.size wr wx) (hk : k < n) (e : R k = xs) (hr : NewInts xs wx r w3) : RowStep w R n k xs.length r w3 := by
  subst e
  obtain ⟨u, rfl, ou, b3⟩ := hr
  have H3 := h.keep (below_step hb b3 hb.size)
  obtain ⟨A, c, rfl, -, -, -⟩ := id ou.rd
  obtain ⟨h1, h2⟩ := H3.old hk
  refine ⟨A, c, rfl, h1, h2, Lib.hid (H3.step hk ou.rd (fun g hg => ?_))⟩
  have h4 := (ou.ge g hg).1
  have h5 := hb.size
  obtain ⟨vs, e1, e2, e3, e4⟩ := h
  have h6 := (e2.ge w.heap.size rfl).2
  omega

theorem Try_sliceinfo : (Try.prog.info? 32).map (fun i => (i.zero, i.size, i.bytes)) = some (some (.slice none 0 0), 1, 24) := by kernel_rfl

/-- fresh rows -/
def NewRows (R : Nat → List Int) (n : Nat) (w : World) (e : Ending) (w' : World) : Prop := ∃ v, e = .returned v ∧ RowsOf R n v w' ∧ Below w.heap.size w w'

def gainAt (n : Int) (qs : List Qt) (ss : List Int) (i : Nat) : List Int := gainL n (qs.getD i (0, 0)) (ss.getD i 0)

theorem gainAt_eq {n : Int} {qs : List Qt} {ss : List Int} {i : Nat} {q : Qt} {s : Int} (hq : qs[i]? = some q) (hs : ss[i]? = some s) : gainAt n qs ss i = gainL n q s := by
  unfold gainAt
  rw [List.getD_eq_getElem?_getD, hq, List.getD_eq_getElem?_getD, hs]
  rfl

theorem bal_gain {n : Int} {qs : List Qt} {ss : List Int} {i : Nat} {q : Qt} {s : Int} (h : balB n qs ss = true) (hq : qs[i]? = some q) (hs : ss[i]? = some s) : gainB n q s = true := by
  obtain ⟨h1, h2, h3⟩ := (balB_iff _ _ _).1 h
  rw [gainB, Bool.and_eq_true, stB_iff]
  exact ⟨((bokB_iff _ _).1 h1).2.2 q (List.mem_of_getElem? hq), h3 s (List.mem_of_getElem? hs)⟩

end Go.Proofs.Ytkanfolgppbklaa

namespace Go.Proofs.Ytkanfolgppbklaa
open Go.RowKit
set_option linter.unusedVariables false

/-- a row that lies behind base -/
def FoldPost (base : Nat) (xs : List Int) (w : World) (e : Ending) (w' : World) : Prop := ∃ t, e = .returned t ∧ IOwn w' base t xs ∧ Below w.heap.size w w'

/-- a block of n zeros -/
def zObj (n : Nat) : Obj := .cells (madeCells #[.int .i64 0] n) 3

theorem zeros_own (w : World) (base n : Nat) (hb : base ≤ w.heap.size) (hn : n ≤ 1048576) : IOwn (w.alloc (zObj n)) base (.slice (some ⟨w.heap.size, 0, none⟩) n n) (List.replicate n 0) := by
  have h := World.ownsRow_lit w (madeCells #[.int .i64 0] n) n (e := 3) (base := base) (size := 1) hb (by unfold maxLen; omega) (by simp [size_madeCells])
  unfold IOwn zObj
  rw [List.length_replicate]
  rw [toList_madeCells_one] at h
  simpa using h

theorem run_zeros (w : World) (n : Nat) (hn : n ≤ 1048576) : (Instr.makeSlice 32 (.int .i64 (n : Int)) (.int .i64 (n : Int))).run Try.prog w = .ok (.slice (some ⟨w.heap.size, 0, none⟩) n n) (w.alloc (zObj n)) := by
  obtain ⟨i0, hi, hz0, hz1, hz2⟩ := info_parts Try_intinfo
  have h := run_make (P := Try.prog) w 32 3 i0 (.int .i64 0) Try.underlying32 hi hz0 .i64 .i64 (n : Int) (n : Int) (by omega) (Int.le_refl _) (by rw [hz2]; omega) (by omega)
  rw [hz1] at h
  simpa [zObj, Value.cells] using h

/-- the balance of the first k quotes -/
def balTake (n : Int) (qs : List Qt) (ss : List Int) (k : Nat) : List Int := balL n (qs.take k) (ss.take k)

theorem balTake_zero (n : Nat) (qs : List Qt) (ss : List Int) : balTake (n : Int) qs ss 0 = List.replicate n 0 := by
  unfold balTake balL
  apply List.ext_getElem?
  intro i
  by_cases hi : i < n
  · simp [hi, balI]
  · simp [hi]

theorem balTake_all {n : Int} {qs : List Qt} {ss : List Int} (h : ss.length = qs.length) : balTake n qs ss qs.length = balL n qs ss := by
  unfold balTake
  rw [List.take_length, ← h, List.take_length]

theorem small_map {n : Int} (h1 : 1 ≤ n) (h2 : n ≤ 4) {f : Nat → Int} (hf : ∀ k, -1000 ≤ f k ∧ f k ≤ 1000) : Small3 ((List.range n.toNat).map f) := small3_of (map_gok h1 h2 hf)

theorem bal_step {n : Int} {qs : List Qt} {ss : List Int} (h : balB n qs ss = true) {k : Nat} (hk : k < qs.length) :
    balTake n qs ss (k + 1) = sumL (balTake n qs ss k) (gainAt n qs ss k) ∧ (balTake n qs ss k).length = (gainAt n qs ss k).length ∧ Small3 (balTake n qs ss k) ∧ Small3 (gainAt n qs ss k) := by
  obtain ⟨h1, h2, h3⟩ := (balB_iff _ _ _).1 h
  obtain ⟨h4, h5, h6⟩ := (bokB_iff _ _).1 h1
  have hq : qs[k]? = some (qs[k]'hk) := List.getElem?_eq_getElem hk
  have hs : ss[k]? = some (ss[k]'(by omega)) := List.getElem?_eq_getElem (by omega)
  have hg := bal_gain h hq hs
  have hb := bal_bound (w := n) (qs := qs.take k) (ss := ss.take k) (fun q hq => h6 q (List.mem_of_mem_take hq)) (fun s hs => h3 s (List.mem_of_mem_take hs)) (by simp [h2])
  rw [gainAt_eq hq hs]
  refine ⟨?_, by simp [balTake, balL, gainL], small_map h4.1 h4.2 (fun j => ?_), small_map h4.1 h4.2 (fun j => ?_)⟩
  · unfold balTake balL gainL
    rw [sumL_map]
    apply List.map_congr_left
    intro j _
    exact balI_take hq hs h2 j
  · have := hb j
    have hl : (qs.take k).length ≤ 3 := by simp; omega
    omega
  · have := gain_bound hg j
    omega

theorem balB_no1 {n : Int} {qs : List Qt} {ss : List Int} (h : bokB n qs = false) : balB n qs ss = false := by rw [balB, h]; rfl

theorem balB_no2 {n : Int} {qs : List Qt} {ss : List Int} (h : bokB n qs = true) (k : (decide (ss.length = qs.length) && ss.all stB) = false) : balB n qs ss = false := by rw [balB, Bool.and_assoc, h, k]; rfl

theorem balB_yes {n : Int} {qs : List Qt} {ss : List Int} (h : bokB n qs = true) (k : (decide (ss.length = qs.length) && ss.all stB) = true) : balB n qs ss = true := by rw [balB, Bool.and_assoc, h, k]; rfl

theorem balR_no {n : Int} {qs : List Qt} {ss : List Int} (h : balB n qs ss = false) : balR n qs ss = [] := by rw [balR, h]; rfl

theorem balR_yes {n : Int} {qs : List Qt} {ss : List Int} (h : balB n qs ss = true) : balR n qs ss = balL n qs ss := by rw [balR, if_pos h]

end Go.Proofs.Ytkanfolgppbklaa

namespace Go.Proofs.Ytkanfolgppbklaa
open Go.RowKit
set_option linter.unusedVariables false

theorem bal_next {n : Int} {qs : List Qt} {ss : List Int} {k : Nat} {q : Qt} {s : Int} (h : balB n qs ss = true) (hq : qs[k]? = some q) (hs : ss[k]? = some s) (j : Nat) :
    IntKind.i64.wrap (balI (qs.take k) (ss.take k) j + gainI q s j) = balI (qs.take (k + 1)) (ss.take (k + 1)) j := by
  obtain ⟨h1, h2, h3⟩ := (balB_iff _ _ _).1 h
  obtain ⟨h4, h5, h6⟩ := (bokB_iff _ _).1 h1
  have hb := bal_bound (w := n) (qs := qs.take k) (ss := ss.take k) (fun q hq => h6 q (List.mem_of_mem_take hq)) (fun s hs => h3 s (List.mem_of_mem_take hs)) (by simp [h2]) j
  have hl : (qs.take k).length ≤ 3 := by simp; omega
  have hg := gain_bound (bal_gain h hq hs) j
  rw [balI_take hq hs h2 j]
  exact IntWalk.i64_in _ (by omega)

theorem bal_next64 {n : Int} {qs : List Qt} {ss : List Int} {k : Nat} {q : Qt} {s : Int} (h : balB n qs ss = true) (hq : qs[k]? = some q) (hs : ss[k]? = some s) (j : Nat) :
    wrap64 (balI (qs.take k) (ss.take k) j + gainI q s j) = balI (qs.take (k + 1)) (ss.take (k + 1)) j := by
  obtain ⟨h1, h2, h3⟩ := (balB_iff _ _ _).1 h
  obtain ⟨h4, h5, h6⟩ := (bokB_iff _ _).1 h1
  have hb := bal_bound (w := n) (qs := qs.take k) (ss := ss.take k) (fun q hq => h6 q (List.mem_of_mem_take hq)) (fun s hs => h3 s (List.mem_of_mem_take hs)) (by simp [h2]) j
  have hl : (qs.take k).length ≤ 3 := by simp; omega
  have hg := gain_bound (bal_gain h hq hs) j
  rw [balI_take hq hs h2 j]
  exact IntWalk.wrap64_in _ (by omega)

theorem lit_ret (w : World) (base : Nat) (hb : base ≤ w.heap.size) : IOwn (w.alloc (.cells #[] 3)) base (.slice (some ⟨w.heap.size, 0, none⟩) 0 0) [] := lit_own w base hb

end Go.Proofs.Ytkanfolgppbklaa
