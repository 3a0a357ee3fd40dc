/- Rows whose elements take c cells each: what a value reads as, what the call owns, a store of one element. No condition but those stated. Rows of quotes: BookOk, stakesOk, and the laws' helpers over rows of quotes. Conditions: stated at each. -/
import Derived.Test.YteljcicdibbhdaaKit
import Derived.Test.YteljcicdibbhdaaQc
namespace Go.Proofs.Yteljcicdibbhdaa
open Go.RowKit
set_option linter.unusedVariables false

section
variable {α : Type}

/-- the value reads as this list of elements, each laid out by enc in c cells -/
def GRd (c : Nat) (enc : α → List Value) (w : World) (v : Value) (xs : List α) : Prop :=
  ∃ A cp, v = .slice A xs.length cp ∧ xs.length ≤ cp ∧ cp ≤ 9223372036854775807 ∧
    (0 < xs.length → ∃ b off, A = some ⟨b, off, none⟩ ∧ b < w.heap.size ∧ ∀ i x, xs[i]? = some x → ∀ j u, (enc x)[j]? = some u → w.cell? ⟨b, off + i * c + j, none⟩ = some u)

/-- the call owns this row -/
def GOwn (e : TypeId) (c : Nat) (enc : α → List Value) (w : World) (base : Nat) (v : Value) (xs : List α) : Prop := w.ownsRow base e c v xs.length (xs.flatMap enc)

theorem GRd.keep {c : Nat} {enc : α → List Value} {w w' : World} {v : Value} {xs : List α} (h : GRd c enc w v xs) (hs : SameAt w w' v) : GRd c enc w' v xs := by
  obtain ⟨A, cp, rfl, hl, hm, hc⟩ := h
  refine ⟨A, cp, rfl, hl, hm, fun h0 => ?_⟩
  obtain ⟨b, off, rfl, hb, hcell⟩ := hc h0
  have := hs.1
  refine ⟨b, off, rfl, by omega, fun i x hx j u hu => (World.cell?_of_block (a := ⟨b, off + i * c + j, none⟩) ?_).trans (hcell i x hx j u hu)⟩
  exact hs.2 b rfl hb

theorem GOwn.keep {e : TypeId} {c : Nat} {enc : α → List Value} {w w' : World} {base : Nat} {v : Value} {xs : List α} (h : GOwn e c enc w base v xs) (hs : SameAt w w' v) : GOwn e c enc w' base v xs := by
  refine ⟨h.1, ?_⟩
  rcases h.2 with hn | ⟨g, cap, cur, rfl, hb, hg, rest⟩
  · exact .inl hn
  · exact .inr ⟨g, cap, cur, rfl, hb, (hs.2 g rfl (Array.getElem?_eq_some_iff.1 hg).1).trans hg, rest⟩

theorem flat_len {enc : α → List Value} {c : Nat} (he : ∀ x, (enc x).length = c) (xs : List α) : (xs.flatMap enc).length = xs.length * c := by
  induction xs with
  | nil => simp
  | cons x xs ih => simp only [List.flatMap_cons, List.length_append, List.length_cons, he, ih, Nat.add_mul]; omega

theorem flat_at {enc : α → List Value} {c : Nat} (he : ∀ x, (enc x).length = c) {xs : List α} {i : Nat} {x : α} (hx : xs[i]? = some x) {j : Nat} {u : Value} (hu : (enc x)[j]? = some u) : (xs.flatMap enc)[i * c + j]? = some u := by
  induction xs generalizing i with
  | nil => simp at hx
  | cons y ys ih =>
    rw [List.flatMap_cons]
    cases i with
    | zero =>
      simp at hx
      subst hx
      have hj : j < (enc y).length := (List.getElem?_eq_some_iff.1 hu).1
      rw [Nat.zero_mul, Nat.zero_add, List.getElem?_append_left hj]
      exact hu
    | succ i =>
      simp at hx
      rw [List.getElem?_append_right (by rw [he, Nat.add_mul]; omega), he]
      have := ih hx
      rw [show (i + 1) * c + j - c = i * c + j from by rw [Nat.add_mul]; omega]
      exact this

theorem GOwn.rd {e : TypeId} {c : Nat} {enc : α → List Value} {w : World} {base : Nat} {v : Value} {xs : List α} (he : ∀ x, (enc x).length = c) (h : GOwn e c enc w base v xs) : GRd c enc w v xs := by
  rcases h.2 with ⟨rfl, h0⟩ | ⟨g, cap, cur, rfl, hb, hg, hn, hm, hcs, ht⟩
  · exact ⟨none, 0, by rw [h0], by omega, by omega, fun hp => by omega⟩
  · refine ⟨_, cap, rfl, hn, hm, fun h0 => ⟨g, 0, rfl, (Array.getElem?_eq_some_iff.1 hg).1, fun i x hx j u hu => ?_⟩⟩
    have := h.cells (g := g) rfl (i * c + j) u (flat_at he hx hu)
    rw [addr_add] at this
    rw [← Nat.add_assoc] at this
    exact this

theorem GOwn.ge {e : TypeId} {c : Nat} {enc : α → List Value} {w : World} {base : Nat} {v : Value} {xs : List α} (h : GOwn e c enc w base v xs) : ∀ g, v.ownBlock = some g → base ≤ g ∧ g < w.heap.size := World.ownsRow.lt h

theorem GOwn.base {e : TypeId} {c : Nat} {enc : α → List Value} {w : World} {base base' : Nat} {v : Value} {xs : List α} (h : GOwn e c enc w base v xs) (hb : base' ≤ base) : GOwn e c enc w base' v xs := by
  refine ⟨h.1, ?_⟩
  rcases h.2 with hn | ⟨g, cap, cur, rfl, hb', rest⟩
  · exact .inl hn
  · exact .inr ⟨g, cap, cur, rfl, Nat.le_trans hb hb', rest⟩

theorem GRd.at_ {c : Nat} {enc : α → List Value} {w : World} {A : Option Addr} {n cp : Nat} {xs : List α} (h : GRd c enc w (.slice A n cp) xs) {k : Nat} (hk : k < n) :
    ∃ b off x, A = some ⟨b, off, none⟩ ∧ b < w.heap.size ∧ xs[k]? = some x ∧ ∀ j u, (enc x)[j]? = some u → w.cell? ⟨b, off + k * c + j, none⟩ = some u := by
  obtain ⟨A', cp', e, hl, hm, hc⟩ := h
  injection e with e1 e2 e3
  subst e1
  obtain ⟨b, off, hA, hb, hcell⟩ := hc (by omega)
  have hx : xs[k]? = some (xs[k]'(by omega)) := List.getElem?_eq_getElem (by omega)
  exact ⟨b, off, _, hA, hb, hx, hcell k _ hx⟩

theorem GRd.form {c : Nat} {enc : α → List Value} {w : World} {v : Value} {xs : List α} (h : GRd c enc w v xs) : ∃ A cp, v = .slice A xs.length cp ∧ xs.length ≤ cp ∧ cp ≤ 9223372036854775807 := by
  obtain ⟨A, cp, e, hl, hm, -⟩ := h
  exact ⟨A, cp, e, hl, hm⟩

theorem GRd.nil (c : Nat) (enc : α → List Value) (w : World) : GRd c enc w (.slice none 0 0) [] := ⟨none, 0, rfl, Nat.le_refl _, by omega, fun h => by simp at h⟩

theorem GOwn.nil (e : TypeId) (c : Nat) (enc : α → List Value) (w : World) (base : Nat) : GOwn e c enc w base (.slice none 0 0) ([] : List α) := by simpa [GOwn] using World.ownsRow_nil w base e c

theorem flat_set {enc : α → List Value} {c : Nat} (he : ∀ x, (enc x).length = c) {xs : List α} {k : Nat} (hk : k < xs.length) (x : α) (zs : List Value)
    (hlen : zs.length = (xs.flatMap enc).length) (hin : ∀ j, j < c → zs[k * c + j]? = (enc x)[j]?) (hout : ∀ i, (i < k * c ∨ k * c + c ≤ i) → zs[i]? = (xs.flatMap enc)[i]?) :
    zs = (xs.set k x).flatMap enc := by
  apply List.ext_getElem?
  intro i
  have hl : (xs.flatMap enc).length = xs.length * c := flat_len he xs
  by_cases hi : i < xs.length * c
  · have hc0 : 0 < c := by
      rcases Nat.eq_zero_or_pos c with h | h
      · subst h; omega
      · exact h
    have hdiv : i / c < xs.length := Nat.div_lt_of_lt_mul (by rw [Nat.mul_comm]; exact hi)
    have hmod : i % c < c := Nat.mod_lt _ hc0
    have hdm : i / c * c + i % c = i := by rw [Nat.mul_comm]; exact Nat.div_add_mod i c
    by_cases hik : i / c = k
    · subst hik
      have hx : (xs.set (i / c) x)[i / c]? = some x := by rw [List.getElem?_set_self hdiv]
      have hu : (enc x)[i % c]? = some ((enc x)[i % c]'(by rw [he]; exact hmod)) := List.getElem?_eq_getElem _
      have h1 := hin (i % c) hmod
      rw [hdm] at h1
      have h2 := flat_at he hx hu
      rw [hdm] at h2
      rw [h1, h2, hu]
    · have hx : (xs.set k x)[i / c]? = some (xs[i / c]'hdiv) := by rw [List.getElem?_set_ne (fun e => hik e.symm)]; exact List.getElem?_eq_getElem hdiv
      have hx0 : xs[i / c]? = some (xs[i / c]'hdiv) := List.getElem?_eq_getElem hdiv
      have hu : (enc (xs[i / c]'hdiv))[i % c]? = some ((enc (xs[i / c]'hdiv))[i % c]'(by rw [he]; exact hmod)) := List.getElem?_eq_getElem _
      have h2 := flat_at he hx hu
      have h3 := flat_at he hx0 hu
      rw [hdm] at h2 h3
      have hne : i < k * c ∨ k * c + c ≤ i := by
        rcases Nat.lt_or_gt_of_ne hik with h | h
        · left
          have : (i / c + 1) * c ≤ k * c := Nat.mul_le_mul_right c h
          rw [Nat.add_mul] at this
          omega
        · right
          have : (k + 1) * c ≤ i / c * c := Nat.mul_le_mul_right c h
          rw [Nat.add_mul] at this
          omega
      rw [hout i hne, h2, h3]
  · rw [List.getElem?_eq_none (by omega), List.getElem?_eq_none (by rw [flat_len he, List.length_set]; omega)]

/-- a store of one element of one cell -/
theorem GOwn.set1 {e : TypeId} {enc : α → List Value} {w : World} {base g cp : Nat} {xs : List α} (he : ∀ x, (enc x).length = 1) (h : GOwn e 1 enc w base (.slice (some ⟨g, 0, none⟩) xs.length cp) xs) {k : Nat} (hk : k < xs.length) {x : α} {v0 : Value} (hx : enc x = [v0]) :
    GOwn e 1 enc (w.setCell ⟨g, k, none⟩ v0) base (.slice (some ⟨g, 0, none⟩) xs.length cp) (xs.set k x) ∧ w.grownBy (w.setCell ⟨g, k, none⟩ v0) (some g) := by
  unfold GOwn at h
  obtain ⟨h1, g1⟩ := h.stored k v0
  refine ⟨?_, g1⟩
  unfold GOwn
  have hl := flat_len he xs
  have key : (xs.flatMap enc).set k v0 = (xs.set k x).flatMap enc := by
    refine flat_set he hk x _ (by simp) (fun j hj => ?_) (fun i hi => ?_)
    · have : j = 0 := by omega
      subst this
      rw [Nat.mul_one, Nat.add_zero, List.getElem?_set_self (by omega), hx]; rfl
    · rw [List.getElem?_set_ne (by omega)]
  rw [List.length_set, ← key]
  exact h1

/-- a store of one element of two cells -/
theorem GOwn.set2 {e : TypeId} {enc : α → List Value} {w : World} {base g cp : Nat} {xs : List α} (he : ∀ x, (enc x).length = 2) (h : GOwn e 2 enc w base (.slice (some ⟨g, 0, none⟩) xs.length cp) xs) {k : Nat} (hk : k < xs.length) {x : α} {v0 v1 : Value} (hx : enc x = [v0, v1]) :
    GOwn e 2 enc ((w.setCell ⟨g, k * 2, none⟩ v0).setCell ⟨g, k * 2 + 1, none⟩ v1) base (.slice (some ⟨g, 0, none⟩) xs.length cp) (xs.set k x) ∧ w.grownBy ((w.setCell ⟨g, k * 2, none⟩ v0).setCell ⟨g, k * 2 + 1, none⟩ v1) (some g) := by
  unfold GOwn at h
  obtain ⟨h1, g1⟩ := h.stored (k * 2) v0
  obtain ⟨h2, g2⟩ := h1.stored (k * 2 + 1) v1
  refine ⟨?_, ⟨g2.os.trans g1.os, g2.tape.trans g1.tape, g2.output.trans g1.output, Nat.le_trans g1.size g2.size, fun i hi hne => (g2.block i (Nat.lt_of_lt_of_le hi g1.size) hne).trans (g1.block i hi hne)⟩⟩
  unfold GOwn
  have hl := flat_len he xs
  have key : ((xs.flatMap enc).set (k * 2) v0).set (k * 2 + 1) v1 = (xs.set k x).flatMap enc := by
    refine flat_set he hk x _ (by simp) (fun j hj => ?_) (fun i hi => ?_)
    · have : j = 0 ∨ j = 1 := by omega
      rcases this with rfl | rfl
      · rw [List.getElem?_set_ne (by omega), Nat.add_zero, List.getElem?_set_self (by omega), hx]; rfl
      · rw [List.getElem?_set_self (by rw [List.length_set]; omega), hx]; rfl
    · rw [List.getElem?_set_ne (by omega), List.getElem?_set_ne (by omega)]
  rw [List.length_set, ← key]
  exact h2

/-- a store of one element of three cells -/
theorem GOwn.set3 {e : TypeId} {enc : α → List Value} {w : World} {base g cp : Nat} {xs : List α} (he : ∀ x, (enc x).length = 3) (h : GOwn e 3 enc w base (.slice (some ⟨g, 0, none⟩) xs.length cp) xs) {k : Nat} (hk : k < xs.length) {x : α} {v0 v1 v2 : Value} (hx : enc x = [v0, v1, v2]) :
    GOwn e 3 enc (((w.setCell ⟨g, k * 3, none⟩ v0).setCell ⟨g, k * 3 + 1, none⟩ v1).setCell ⟨g, k * 3 + 2, none⟩ v2) base (.slice (some ⟨g, 0, none⟩) xs.length cp) (xs.set k x) ∧ w.grownBy (((w.setCell ⟨g, k * 3, none⟩ v0).setCell ⟨g, k * 3 + 1, none⟩ v1).setCell ⟨g, k * 3 + 2, none⟩ v2) (some g) := by
  unfold GOwn at h
  obtain ⟨h1, g1⟩ := h.stored (k * 3) v0
  obtain ⟨h2, g2⟩ := h1.stored (k * 3 + 1) v1
  obtain ⟨h3, g3⟩ := h2.stored (k * 3 + 2) v2
  have s1 := g1.size
  have s2 := g2.size
  refine ⟨?_, ⟨g3.os.trans (g2.os.trans g1.os), g3.tape.trans (g2.tape.trans g1.tape), g3.output.trans (g2.output.trans g1.output), Nat.le_trans s1 (Nat.le_trans s2 g3.size), fun i hi hne => (g3.block i (by omega) hne).trans ((g2.block i (by omega) hne).trans (g1.block i hi hne))⟩⟩
  unfold GOwn
  have hl := flat_len he xs
  have key : (((xs.flatMap enc).set (k * 3) v0).set (k * 3 + 1) v1).set (k * 3 + 2) v2 = (xs.set k x).flatMap enc := by
    refine flat_set he hk x _ (by simp) (fun j hj => ?_) (fun i hi => ?_)
    · have : j = 0 ∨ j = 1 ∨ j = 2 := by omega
      rcases this with rfl | rfl | rfl
      · rw [List.getElem?_set_ne (by omega), List.getElem?_set_ne (by omega), Nat.add_zero, List.getElem?_set_self (by omega), hx]; rfl
      · rw [List.getElem?_set_ne (by omega), List.getElem?_set_self (by rw [List.length_set]; omega), hx]; rfl
      · rw [List.getElem?_set_self (by rw [List.length_set, List.length_set]; omega), hx]; rfl
    · rw [List.getElem?_set_ne (by omega), List.getElem?_set_ne (by omega), List.getElem?_set_ne (by omega)]
  rw [List.length_set, ← key]
  exact h3

/-- the cells of the k-th element are there, and may be written -/
theorem GOwn.old {e : TypeId} {c : Nat} {enc : α → List Value} {w : World} {base g cp : Nat} {n : Nat} {xs : List α} (he : ∀ x, (enc x).length = c) (h : GOwn e c enc w base (.slice (some ⟨g, 0, none⟩) n cp) xs) (hn : xs.length = n) {k j : Nat} (hk : k < n) (hj : j < c) :
    w.frozen? ⟨g, k * c + j, none⟩ = false ∧ ∃ old, w.cell? ⟨g, k * c + j, none⟩ = some old := by
  subst hn
  unfold GOwn at h
  refine ⟨h.frozenAt _, ?_⟩
  have hlt : k * c + j < xs.length * c := by
    have : (k + 1) * c ≤ xs.length * c := Nat.mul_le_mul_right c hk
    rw [Nat.add_mul] at this
    omega
  rw [h.cellAt _ hlt]
  have : k * c + j < (xs.flatMap enc).length := by rw [flat_len he]; exact hlt
  exact ⟨_, List.getElem?_eq_getElem this⟩

/-- a fresh row filled up to k -/
def upto (xs : List α) (z : α) (k : Nat) : List α := xs.take k ++ List.replicate (xs.length - k) z

theorem upto_len (xs : List α) (z : α) {k : Nat} (hk : k ≤ xs.length) : (upto xs z k).length = xs.length := by simp [upto]; omega

theorem upto_zero (xs : List α) (z : α) : upto xs z 0 = List.replicate xs.length z := by simp [upto]

theorem upto_all (xs : List α) (z : α) : upto xs z xs.length = xs := by simp [upto]

theorem upto_set {xs : List α} {z : α} {k : Nat} {x : α} (hx : xs[k]? = some x) : (upto xs z k).set k x = upto xs z (k + 1) := by
  have hk : k < xs.length := (List.getElem?_eq_some_iff.1 hx).1
  unfold upto
  rw [List.set_append_right _ _ (by rw [List.length_take]; omega), List.length_take, Nat.min_eq_left (Nat.le_of_lt hk), Nat.sub_self, List.take_add_one, hx, List.append_assoc]
  congr 1
  obtain ⟨m, hm⟩ : ∃ m, xs.length - k = m + 1 := ⟨xs.length - k - 1, by omega⟩
  rw [hm, List.replicate_succ, List.set_cons_zero, show xs.length - (k + 1) = m from by omega]
  rfl

/-- a fresh row is filled up to place k -/
def GFill (e : TypeId) (c : Nat) (enc : α → List Value) (z : α) (w : World) (xs : List α) (k : Nat) (wr : World) : Prop :=
  GOwn e c enc wr w.heap.size (.slice (some ⟨w.heap.size, 0, none⟩) xs.length xs.length) (upto xs z k) ∧ Below w.heap.size w wr

theorem GFill.all {e : TypeId} {c : Nat} {enc : α → List Value} {z : α} {w wr : World} {xs : List α} {k : Nat} (h : GFill e c enc z w xs k wr) (hk : k = xs.length) : GOwn e c enc wr w.heap.size (.slice (some ⟨w.heap.size, 0, none⟩) xs.length xs.length) xs ∧ Below w.heap.size w wr := by
  subst hk
  obtain ⟨h1, h2⟩ := h
  rw [upto_all] at h1
  exact ⟨h1, h2⟩

theorem GFill.keep {e : TypeId} {c : Nat} {enc : α → List Value} {z : α} {w wr w' : World} {xs : List α} {k : Nat} (h : GFill e c enc z w xs k wr) (hb : Below wr.heap.size wr w') : GFill e c enc z w xs k w' :=
  ⟨h.1.keep (SameAt.of_below hb), below_step h.2 hb h.2.size⟩

theorem GFill.old {e : TypeId} {c : Nat} {enc : α → List Value} {z : α} {w wr : World} {xs : List α} {k : Nat} (he : ∀ x, (enc x).length = c) (h : GFill e c enc z w xs k wr) (hk : k < xs.length) {j : Nat} (hj : j < c) :
    wr.frozen? ⟨w.heap.size, k * c + j, none⟩ = false ∧ ∃ old, wr.cell? ⟨w.heap.size, k * c + j, none⟩ = some old :=
  h.1.old he (upto_len xs z (Nat.le_of_lt hk)) hk hj

theorem GFill.step2 {e : TypeId} {enc : α → List Value} {z : α} {w wr : World} {xs : List α} {k : Nat} {x : α} {v0 v1 : Value} (he : ∀ x, (enc x).length = 2) (h : GFill e 2 enc z w xs k wr) (hx : xs[k]? = some x) (hv : enc x = [v0, v1]) :
    GFill e 2 enc z w xs (k + 1) ((wr.setCell ⟨w.heap.size, k * 2, none⟩ v0).setCell ⟨w.heap.size, k * 2 + 1, none⟩ v1) := by
  have hk : k < xs.length := (List.getElem?_eq_some_iff.1 hx).1
  obtain ⟨h1, h2⟩ := h
  have hl := upto_len xs z (Nat.le_of_lt hk)
  rw [← hl] at h1
  have hk' : k < (upto xs z k).length := by rw [hl]; exact hk
  obtain ⟨h3, h4⟩ := GOwn.set2 (cp := (upto xs z k).length) he h1 hk' hv
  rw [upto_set hx, hl] at h3
  exact ⟨h3, h2.grown h4 h2.size (fun g hg => by injection hg with hg; omega)⟩

theorem GFill.step1 {e : TypeId} {enc : α → List Value} {z : α} {w wr : World} {xs : List α} {k : Nat} {x : α} {v0 : Value} (he : ∀ x, (enc x).length = 1) (h : GFill e 1 enc z w xs k wr) (hx : xs[k]? = some x) (hv : enc x = [v0]) :
    GFill e 1 enc z w xs (k + 1) (wr.setCell ⟨w.heap.size, k, none⟩ v0) := by
  have hk : k < xs.length := (List.getElem?_eq_some_iff.1 hx).1
  obtain ⟨h1, h2⟩ := h
  have hl := upto_len xs z (Nat.le_of_lt hk)
  rw [← hl] at h1
  have hk' : k < (upto xs z k).length := by rw [hl]; exact hk
  obtain ⟨h3, h4⟩ := GOwn.set1 (cp := (upto xs z k).length) he h1 hk' hv
  rw [upto_set hx, hl] at h3
  exact ⟨h3, h2.grown h4 h2.size (fun g hg => by injection hg with hg; omega)⟩

theorem GFill.step3 {e : TypeId} {enc : α → List Value} {z : α} {w wr : World} {xs : List α} {k : Nat} {x : α} {v0 v1 v2 : Value} (he : ∀ x, (enc x).length = 3) (h : GFill e 3 enc z w xs k wr) (hx : xs[k]? = some x) (hv : enc x = [v0, v1, v2]) :
    GFill e 3 enc z w xs (k + 1) (((wr.setCell ⟨w.heap.size, k * 3, none⟩ v0).setCell ⟨w.heap.size, k * 3 + 1, none⟩ v1).setCell ⟨w.heap.size, k * 3 + 2, none⟩ v2) := by
  have hk : k < xs.length := (List.getElem?_eq_some_iff.1 hx).1
  obtain ⟨h1, h2⟩ := h
  have hl := upto_len xs z (Nat.le_of_lt hk)
  rw [← hl] at h1
  have hk' : k < (upto xs z k).length := by rw [hl]; exact hk
  obtain ⟨h3, h4⟩ := GOwn.set3 (cp := (upto xs z k).length) he h1 hk' hv
  rw [upto_set hx, hl] at h3
  exact ⟨h3, h2.grown h4 h2.size (fun g hg => by injection hg with hg; omega)⟩

theorem flat_replicate {enc : α → List Value} (z : α) (n : Nat) : (List.replicate n z).flatMap enc = (List.replicate n (enc z)).flatten := by
  simp [List.flatMap]

/-- the fresh row is appended to, element by element: it holds the first k of xs -/
def GApp (e : TypeId) (c : Nat) (enc : α → List Value) (w : World) (xs : List α) (k : Nat) (p : Value) (wr : World) : Prop := GOwn e c enc wr w.heap.size p (xs.take k) ∧ Below w.heap.size w wr

theorem GOwn.far {e : TypeId} {c : Nat} {enc : α → List Value} {w1 : World} {v u : Value} {base : Nat} {xs : List α} (o : GOwn e c enc w1 base v xs) (h : ∀ g, u.ownBlock = some g → g < base) : u.ownBlock = none ∨ u.ownBlock ≠ v.ownBlock := by
  rcases hu : u.ownBlock with _ | g
  · exact .inl rfl
  · refine .inr fun e => ?_
    have h1 := h g hu
    have h2 := (o.ge g e.symm).1
    omega

theorem GOwn.far' {e : TypeId} {c : Nat} {enc : α → List Value} {w1 : World} {v u : Value} {B : Nat} {ys : List α} (p : GOwn e c enc w1 B u ys) (h : ∀ g, v.ownBlock = some g → g < B) : u.ownBlock = none ∨ u.ownBlock ≠ v.ownBlock := by
  rcases hu : u.ownBlock with _ | g
  · exact .inl rfl
  · refine .inr fun e => ?_
    have h1 := h g e.symm
    have h2 := (p.ge g hu).1
    omega

theorem below_grownG {e : TypeId} {c : Nat} {enc : α → List Value} {B : Nat} {w w1 w2 : World} {v : Value} {base : Nat} {xs : List α} (h : Below B w w1) (k : w1.grownBy w2 v.ownBlock) (o : GOwn e c enc w1 base v xs) (hb : B ≤ base) (hB : B ≤ w1.heap.size) : Below B w w2 :=
  h.grown k hB (fun g hg => by have := (o.ge g hg).1; omega)

theorem flat_made {enc : α → List Value} {c : Nat} (he : ∀ x, (enc x).length = c) (hc : 0 < c) (z : α) (n : Nat) : (madeCells (enc z).toArray (n * c)).toList = (List.replicate n z).flatMap enc := by
  apply List.ext_getElem?
  intro i
  by_cases hi : i < n * c
  · have hdiv : i / c < n := Nat.div_lt_of_lt_mul (by rw [Nat.mul_comm]; exact hi)
    have hmod : i % c < c := Nat.mod_lt _ hc
    have hdm : i / c * c + i % c = i := by rw [Nat.mul_comm]; exact Nat.div_add_mod i c
    have hm : i % c < (enc z).length := by rw [he]; exact hmod
    have hx : (List.replicate n z)[i / c]? = some z := by simp [hdiv]
    have h2 := flat_at he hx (List.getElem?_eq_getElem hm)
    rw [hdm] at h2
    rw [h2]
    simp only [madeCells, Array.toList_map, Array.toList_range, List.getElem?_map, List.getElem?_range hi, Option.map_some, List.size_toArray, he]
    congr 1
    simp [List.getElem?_eq_getElem hm]
  · rw [List.getElem?_eq_none (by simp [size_madeCells]; omega), List.getElem?_eq_none (by rw [flat_len he, List.length_replicate]; omega)]

theorem GFill.start {e : TypeId} {c : Nat} {enc : α → List Value} (he : ∀ x, (enc x).length = c) (hc : 0 < c) (z : α) {w w0 : World} {xs : List α} {n : Nat} {zc : Array Value}
    (hown : w0.ownsRow w.heap.size e c (.slice (some ⟨w.heap.size, 0, none⟩) n n) n (madeCells zc (n * c)).toList) (hz : zc = (enc z).toArray) (hn : xs.length = n) (hg : w.grownBy w0 none) : GFill e c enc z w xs 0 w0 := by
  subst hz
  subst hn
  refine ⟨?_, (Below.refl _ _).grown hg (Nat.le_refl _) (fun k hk => by cases hk)⟩
  rw [upto_zero]
  unfold GOwn
  rw [List.length_replicate, ← flat_made he hc]
  exact hown

end

end Go.Proofs.Yteljcicdibbhdaa

namespace Go.Proofs.Yteljcicdibbhdaa
open Go.RowKit
set_option linter.unusedVariables false

/-- the cells of a quote -/
def qC (q : Qt) : List Value := [.int .i64 q.1, .int .i64 q.2]

theorem qC_len (q : Qt) : (qC q).length = 2 := rfl

abbrev QRd (w : World) (v : Value) (qs : List Qt) : Prop := GRd 2 qC w v qs

abbrev QOwn (w : World) (base : Nat) (v : Value) (qs : List Qt) : Prop := GOwn 35 2 qC w base v qs

theorem QRd.at_ {w : World} {A : Option Addr} {n cp : Nat} {qs : List Qt} (h : QRd w (.slice A n cp) qs) {k : Nat} (hk : k < n) :
    ∃ b off q, A = some ⟨b, off, none⟩ ∧ b < w.heap.size ∧ qs[k]? = some q ∧ w.cell? ⟨b, off + k * 2, none⟩ = some (.int .i64 q.1) ∧ w.cell? ⟨b, off + k * 2 + 1, none⟩ = some (.int .i64 q.2) := by
  obtain ⟨b, off, q, hA, hb, hx, hc⟩ := GRd.at_ h hk
  exact ⟨b, off, q, hA, hb, hx, hc 0 _ rfl, hc 1 _ rfl⟩

theorem QRd.cell {w : World} {b off n c : Nat} {qs : List Qt} {k : Nat} {q : Qt} (h : QRd w (.slice (some ⟨b, off, none⟩) n c) qs) (hq : qs[k]? = some q) : w.cell? ⟨b, off + k * 2, none⟩ = some (.int .i64 q.1) ∧ w.cell? ⟨b, off + k * 2 + 1, none⟩ = some (.int .i64 q.2) := by
  have hk : k < qs.length := (List.getElem?_eq_some_iff.1 hq).1
  obtain ⟨A, cp, e, hl, hm, hc⟩ := h
  injection e with e1 e2 e3
  obtain ⟨b', off', hA, -, hcell⟩ := hc (by omega)
  rw [← e1] at hA
  injection hA with hA
  injection hA with hb ho
  subst hb
  subst ho
  exact ⟨hcell k q hq 0 _ rfl, hcell k q hq 1 _ rfl⟩

theorem IRd.cellk {w : World} {b off n c : Nat} {xs : List Int} {k : Nat} {x : Int} (h : IRd w (.slice (some ⟨b, off, none⟩) n c) xs) (hx : xs[k]? = some x) : w.cell? ⟨b, off + k, none⟩ = some (.int .i64 x) := by
  have hk : k < xs.length := (List.getElem?_eq_some_iff.1 hx).1
  obtain ⟨A, c, e, hl, hm, hc⟩ := h
  injection e with e1 e2 e3
  obtain ⟨b', off', hA, -, hcell⟩ := hc (by omega)
  rw [← e1] at hA
  injection hA with hA
  injection hA with hb ho
  subst hb
  subst ho
  exact hcell k x hx

theorem bokB_no {w : Int} {qs : List Qt} {k : Nat} {q : Qt} (hx : qs[k]? = some q) (h : qokB w q = false) : bokB w qs = false := by
  rw [← Bool.not_eq_true, bokB_iff]
  intro h2
  have := h2.2.2 q (List.mem_of_getElem? hx)
  rw [h] at this; cases this

theorem allq_take {w : Int} {qs : List Qt} {k : Nat} {q : Qt} (hx : qs[k]? = some q) (h : qokB w q = true) (ih : ∀ y ∈ qs.take k, qokB w y = true) : ∀ y ∈ qs.take (k + 1), qokB w y = true := by
  rw [List.take_add_one, hx]
  intro y hy
  rcases List.mem_append.1 hy with h1 | h1
  · exact ih y h1
  · simp at h1; subst h1; exact h

theorem bokB_all {w : Int} {qs : List Qt} {k : Nat} (hk : qs.length ≤ k) (ih : ∀ y ∈ qs.take k, qokB w y = true) : bokB w qs = (wokB w && decide (qs.length ≤ 3)) := by
  rw [List.take_of_length_le hk] at ih
  have : qs.all (qokB w) = true := List.all_eq_true.2 ih
  rw [bokB, this, Bool.and_true]

set_option maxHeartbeats 1000000 in
theorem implBookOk_any (w : World) (n : Int) (v : Value) (qs : List Qt) (hv : QRd w v qs) :
    Calls Try.prog 53 #[.int .i64 n, v] w fun r w' => r = .returned (.bool (bokB n qs)) ∧ Below w.heap.size w w' := by
  obtain ⟨A, c, rfl, hl, hm⟩ := hv.form
  have HV := Lib.hid hv
  clear hv
  rcases Bool.eq_false_or_eq_true (wokB n) with hw | hw
  · by_cases h3 : qs.length ≤ 3
    · have HW : Hid (bokB n qs = true ↔ ∀ y ∈ qs, qokB n y = true) := Lib.hid (by
        rw [bokB, hw, decide_eq_true h3, Bool.true_and, Bool.true_and, List.all_eq_true])
      have h3' : (qs.length : Int) ≤ 3 := by omega
      go_enter Try.func53, Try.ntmps53
      go_wp2_with fail
      refine (worldsOk_any n _).mono ?_
      rintro r w' ⟨rfl, rfl⟩
      rw [hw]
      go_wp2_with fail
      go_loopw [17] (fun i wr => ∃ k : Nat, i = .int .i64 k ∧ k ≤ qs.length ∧ Hid (∀ y ∈ qs.take k, qokB n y = true) ∧ Hid (Below w.heap.size w wr)) (fun i _ => qs.length - (intOf i).toNat)
      case atStart => exact ⟨0, rfl, Nat.zero_le _, Lib.hid (by simp), Lib.hid (Below.refl _ _)⟩
      case round =>
        obtain ⟨k, rfl, hk, HA, HB⟩ := hrel
        by_cases hlt : k < qs.length
        · obtain ⟨b, off, q, rfl, -, hx, hc0, hc1⟩ := QRd.at_ (HV.out.keep (SameAt.of_below HB.out)) hlt
          have HX := Lib.hid hx
          clear hx
          rcases Bool.eq_false_or_eq_true (qokB n q) with hq | hq
          · have HQ := Lib.hid hq
            go_wp2_with fail
            refine (implQuoteOk_any n q _).mono ?_
            rintro r w2 ⟨rfl, b2⟩
            rw [hq]
            have HB2 : Hid (Below w.heap.size w w2) := Lib.hid (below_step (HB.out.alloc HB.out.size _) b2 (by simp; have := HB.out.size; omega))
            clear b2 hc0 hc1
            go_wp2_with fail
            go_roundw
            case rel => exact ⟨k + 1, by go_num, by omega, Lib.hid (allq_take HX.out HQ.out HA.out), HB2⟩
            case measure => simp [intOf]; omega
          · have HQ := Lib.hid hq
            go_wp2_with fail
            refine (implQuoteOk_any n q _).mono ?_
            rintro r w2 ⟨rfl, b2⟩
            rw [hq]
            have HB2 : Hid (Below w.heap.size w w2) := Lib.hid (below_step (HB.out.alloc HB.out.size _) b2 (by simp; have := HB.out.size; omega))
            clear b2 hc0 hc1
            go_wp2_with fail
            go_ret
            exact ⟨ret_bool (bokB_no HX.out HQ.out).symm, HB2.out⟩
        · go_wp2_with fail
          go_ret
          exact ⟨ret_bool (HW.out.2 (by have := HA.out; rwa [List.take_of_length_le (by omega)] at this)).symm, HB.out⟩
    · have h3' : (3 : Int) < (qs.length : Int) := by omega
      have HN : Hid (bokB n qs = false) := Lib.hid (by rw [bokB, decide_eq_false h3]; simp)
      go_enter Try.func53, Try.ntmps53
      go_wp2_with fail
      refine (worldsOk_any n _).mono ?_
      rintro r w' ⟨rfl, rfl⟩
      rw [hw]
      go_wp2_with fail
      go_ret
      exact ⟨ret_bool HN.out.symm, Below.refl _ _⟩
  · have HN : Hid (bokB n qs = false) := Lib.hid (by rw [bokB, hw]; rfl)
    go_enter Try.func53, Try.ntmps53
    go_wp2_with fail
    refine (worldsOk_any n _).mono ?_
    rintro r w' ⟨rfl, rfl⟩
    rw [hw]
    go_wp2_with fail
    go_ret
    exact ⟨ret_bool HN.out.symm, Below.refl _ _⟩

theorem inB_wok (n : Int) : inB n 1 4 = wokB n := bool_eq (by rw [inB_iff, wokB_iff])

set_option maxHeartbeats 1000000 in
theorem specBookOk_any (w : World) (n : Int) (v : Value) (qs : List Qt) (hv : QRd w v qs) :
    Calls Try.prog 19 #[.int .i64 n, v] w fun r w' => r = .returned (.bool (bokB n qs)) ∧ Below w.heap.size w w' := by
  obtain ⟨A, c, rfl, hl, hm⟩ := hv.form
  have HV := Lib.hid hv
  clear hv
  go_enter Try.func19, Try.ntmps19
  go_wp2_with fail
  go_loopw [5] (fun i wr => ∃ k : Nat, i = .int .i64 k ∧ k ≤ qs.length ∧ Hid (∀ y ∈ qs.take k, qokB n y = true) ∧ Hid (Below w.heap.size w wr)) (fun i _ => qs.length - (intOf i).toNat)
  case atStart => exact ⟨0, rfl, Nat.zero_le _, Lib.hid (by simp), Lib.hid (Below.refl _ _)⟩
  case round =>
    obtain ⟨k, rfl, hk, HA, HB⟩ := hrel
    by_cases hlt : k < qs.length
    · obtain ⟨b, off, q, rfl, -, hx, hc0, hc1⟩ := QRd.at_ (HV.out.keep (SameAt.of_below HB.out)) hlt
      have HX := Lib.hid hx
      clear hx
      rcases Bool.eq_false_or_eq_true (qokB n q) with hq | hq
      · have HQ := Lib.hid hq
        go_wp2_with fail
        refine (specQuoteOk_any n q _).mono ?_
        rintro r w2 ⟨rfl, b2⟩
        rw [hq]
        have HB2 : Hid (Below w.heap.size w w2) := Lib.hid (below_step HB.out b2 HB.out.size)
        clear b2 hc0 hc1
        go_wp2_with fail
        go_roundw
        case rel => exact ⟨k + 1, by go_num, by omega, Lib.hid (allq_take HX.out HQ.out HA.out), HB2⟩
        case measure => simp [intOf]; omega
      · have HQ := Lib.hid hq
        go_wp2_with fail
        refine (specQuoteOk_any n q _).mono ?_
        rintro r w2 ⟨rfl, b2⟩
        rw [hq]
        have HB2 : Hid (Below w.heap.size w w2) := Lib.hid (below_step HB.out b2 HB.out.size)
        clear b2 hc0 hc1
        go_wp2_with fail
        go_ret
        exact ⟨ret_bool (bokB_no HX.out HQ.out).symm, HB2.out⟩
    · have HN := Lib.hid (bokB_all (w := n) (qs := qs) (k := k) (by omega) HA.out)
      rcases Bool.eq_false_or_eq_true (wokB n) with hw | hw
      · by_cases h3 : qs.length ≤ 3
        · have h3' : (qs.length : Int) ≤ 3 := by omega
          go_wp2_with fail
          refine (l1In_any n _ _ _).mono ?_
          rintro r w' ⟨rfl, rfl⟩
          rw [inB_wok, hw]
          go_wp2_with fail
          go_ret
          exact ⟨ret_bool (by rw [HN.out, hw, decide_eq_true h3]; rfl), HB.out⟩
        · have h3' : (3 : Int) < (qs.length : Int) := by omega
          go_wp2_with fail
          refine (l1In_any n _ _ _).mono ?_
          rintro r w' ⟨rfl, rfl⟩
          rw [inB_wok, hw]
          go_wp2_with fail
          go_ret
          exact ⟨ret_bool (by rw [HN.out, hw, decide_eq_false h3]; simp; omega), HB.out⟩
      · go_wp2_with fail
        refine (l1In_any n _ _ _).mono ?_
        rintro r w' ⟨rfl, rfl⟩
        rw [inB_wok, hw]
        go_wp2_with fail
        go_ret
        exact ⟨ret_bool (by rw [HN.out, hw]; rfl), HB.out⟩

end Go.Proofs.Yteljcicdibbhdaa
