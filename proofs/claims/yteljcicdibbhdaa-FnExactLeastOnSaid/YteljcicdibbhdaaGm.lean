/- Gambles as lists: the Lean functions and what is true of them. No condition. -/
import Derived.Test.YteljcicdibbhdaaEv2
namespace Go.Proofs.Yteljcicdibbhdaa
set_option linter.unusedVariables false

def amB (x : Int) : Bool := decide (-1000 ≤ x) && decide (x ≤ 1000)

theorem amB_iff (x : Int) : amB x = true ↔ -1000 ≤ x ∧ x ≤ 1000 := by simp [amB]

def gokB (xs : List Int) : Bool := decide (1 ≤ xs.length) && decide (xs.length ≤ 4) && xs.all amB

theorem gokB_iff (xs : List Int) : gokB xs = true ↔ 1 ≤ xs.length ∧ xs.length ≤ 4 ∧ ∀ x ∈ xs, -1000 ≤ x ∧ x ≤ 1000 := by
  simp only [gokB, Bool.and_eq_true, decide_eq_true_eq, List.all_eq_true, amB_iff, and_assoc]

theorem gokB_at {xs : List Int} (h : gokB xs = true) {k : Nat} {x : Int} (hx : xs[k]? = some x) : -1000 ≤ x ∧ x ≤ 1000 := ((gokB_iff xs).1 h).2.2 x (List.mem_of_getElem? hx)

def gok2 (a b : List Int) : Bool := gokB a && gokB b && decide (a.length = b.length)

theorem gok2_iff (a b : List Int) : gok2 a b = true ↔ gokB a = true ∧ gokB b = true ∧ a.length = b.length := by simp [gok2, and_assoc]

theorem gok2_comm (a b : List Int) : gok2 a b = gok2 b a := by
  apply bool_eq; rw [gok2_iff, gok2_iff]; exact ⟨fun h => ⟨h.2.1, h.1, h.2.2.symm⟩, fun h => ⟨h.2.1, h.1, h.2.2.symm⟩⟩

def sumL : List Int → List Int → List Int
  | x :: a, y :: b => (x + y) :: sumL a b
  | _, _ => []

theorem sumL_len (a b : List Int) (h : a.length = b.length) : (sumL a b).length = a.length := by
  induction a generalizing b with
  | nil => cases b <;> simp [sumL]
  | cons x a ih =>
    cases b with
    | nil => simp at h
    | cons y b => simp only [sumL, List.length_cons]; rw [ih b (by simpa using h)]

theorem sumL_at (a b : List Int) {k : Nat} {x y : Int} (hx : a[k]? = some x) (hy : b[k]? = some y) : (sumL a b)[k]? = some (x + y) := by
  induction a generalizing b k with
  | nil => simp at hx
  | cons u a ih =>
    cases b with
    | nil => simp at hy
    | cons v b =>
      cases k with
      | zero => simp at hx hy; simp [sumL, hx, hy]
      | succ k => simp only [List.getElem?_cons_succ] at hx hy; simp only [sumL, List.getElem?_cons_succ]; exact ih b hx hy

theorem sumL_mem (a b : List Int) {z : Int} (h : z ∈ sumL a b) : ∃ x ∈ a, ∃ y ∈ b, z = x + y := by
  induction a generalizing b with
  | nil => cases b <;> simp [sumL] at h
  | cons u a ih =>
    cases b with
    | nil => simp [sumL] at h
    | cons v b =>
      simp only [sumL, List.mem_cons] at h
      rcases h with rfl | h
      · exact ⟨u, by simp, v, by simp, rfl⟩
      · obtain ⟨x, hx, y, hy, e⟩ := ih b h
        exact ⟨x, by simp [hx], y, by simp [hy], e⟩

theorem sumL_comm (a b : List Int) : sumL a b = sumL b a := by
  induction a generalizing b with
  | nil => cases b <;> simp [sumL]
  | cons u a ih =>
    cases b with
    | nil => simp [sumL]
    | cons v b => simp only [sumL]; rw [ih b, Int.add_comm]

def mulL (g : List Int) (t : Int) : List Int := g.map (· * t)

theorem mulL_len (g : List Int) (t : Int) : (mulL g t).length = g.length := by simp [mulL]

theorem mulL_at (g : List Int) (t : Int) {k : Nat} {x : Int} (hx : g[k]? = some x) : (mulL g t)[k]? = some (x * t) := by simp [mulL, hx]

theorem mulL_one (g : List Int) : mulL g 1 = g := by simp [mulL]

def sumB (a b : List Int) : Bool := gok2 a b && gokB (sumL a b)

def sumR (a b : List Int) : List Int := if sumB a b = true then sumL a b else []

theorem sumB_comm (a b : List Int) : sumB a b = sumB b a := by rw [sumB, sumB, gok2_comm, sumL_comm]

theorem sumR_len (a b : List Int) : (sumR a b).length ≤ 4 := by
  unfold sumR
  split
  · next h =>
    rw [sumB, Bool.and_eq_true] at h
    exact ((gokB_iff _).1 h.2).2.1
  · simp

def timesB (g : List Int) (t : Int) : Bool := gokB g && amB t && gokB (mulL g t)

def timesR (g : List Int) (t : Int) : List Int := if timesB g t = true then mulL g t else []

theorem timesR_len (g : List Int) (t : Int) : (timesR g t).length ≤ 4 := by
  unfold timesR
  split
  · next h =>
    rw [timesB, Bool.and_eq_true] at h
    exact ((gokB_iff _).1 h.2).2.1
  · simp

def minI (a b : Int) : Int := if a ≤ b then a else b

def maxI (a b : Int) : Int := if a ≤ b then b else a

def worstI (g : List Int) : Int := if gokB g = true then g.foldl minI 1000 else 0

def bestI (g : List Int) : Int := if gokB g = true then g.foldl maxI (-1000) else 0

/-- n is the least of xs -/
def Least (n : Int) (xs : List Int) : Prop := n ∈ xs ∧ ∀ x ∈ xs, n ≤ x

/-- n is the greatest of xs -/
def Greatest (n : Int) (xs : List Int) : Prop := n ∈ xs ∧ ∀ x ∈ xs, x ≤ n

theorem Least.eq {n m : Int} {xs : List Int} (h : Least n xs) (k : Least m xs) : n = m := by
  have := h.2 m k.1
  have := k.2 n h.1
  omega

theorem Greatest.eq {n m : Int} {xs : List Int} (h : Greatest n xs) (k : Greatest m xs) : n = m := by
  have := h.2 m k.1
  have := k.2 n h.1
  omega

theorem foldl_min (xs : List Int) (s : Int) : (xs.foldl minI s = s ∨ xs.foldl minI s ∈ xs) ∧ xs.foldl minI s ≤ s ∧ ∀ x ∈ xs, xs.foldl minI s ≤ x := by
  induction xs generalizing s with
  | nil => simp
  | cons y xs ih =>
    obtain ⟨h1, h2, h3⟩ := ih (minI s y)
    have hm : minI s y ≤ s ∧ minI s y ≤ y ∧ (minI s y = s ∨ minI s y = y) := by unfold minI; split <;> omega
    simp only [List.foldl_cons, List.mem_cons]
    refine ⟨?_, by omega, ?_⟩
    · rcases h1 with h1 | h1
      · rcases hm.2.2 with h4 | h4
        · exact .inl (h1.trans h4)
        · exact .inr (.inl (h1.trans h4))
      · exact .inr (.inr h1)
    · rintro x (rfl | hx)
      · omega
      · exact h3 x hx

theorem foldl_max (xs : List Int) (s : Int) : (xs.foldl maxI s = s ∨ xs.foldl maxI s ∈ xs) ∧ s ≤ xs.foldl maxI s ∧ ∀ x ∈ xs, x ≤ xs.foldl maxI s := by
  induction xs generalizing s with
  | nil => simp
  | cons y xs ih =>
    obtain ⟨h1, h2, h3⟩ := ih (maxI s y)
    have hm : s ≤ maxI s y ∧ y ≤ maxI s y ∧ (maxI s y = s ∨ maxI s y = y) := by unfold maxI; split <;> omega
    simp only [List.foldl_cons, List.mem_cons]
    refine ⟨?_, by omega, ?_⟩
    · rcases h1 with h1 | h1
      · rcases hm.2.2 with h4 | h4
        · exact .inl (h1.trans h4)
        · exact .inr (.inl (h1.trans h4))
      · exact .inr (.inr h1)
    · rintro x (rfl | hx)
      · omega
      · exact h3 x hx

theorem worst_least {g : List Int} (h : gokB g = true) : Least (worstI g) g := by
  obtain ⟨h1, h2, h3⟩ := (gokB_iff g).1 h
  obtain ⟨k1, k2, k3⟩ := foldl_min g 1000
  rw [worstI, if_pos h]
  refine ⟨?_, k3⟩
  rcases k1 with k1 | k1
  · obtain ⟨x, hx⟩ : ∃ x, x ∈ g := by
      cases g with
      | nil => simp at h1
      | cons x g => exact ⟨x, by simp⟩
    have := k3 x hx
    have := h3 x hx
    rw [show List.foldl minI 1000 g = x from by omega]
    exact hx
  · exact k1

theorem best_greatest {g : List Int} (h : gokB g = true) : Greatest (bestI g) g := by
  obtain ⟨h1, h2, h3⟩ := (gokB_iff g).1 h
  obtain ⟨k1, k2, k3⟩ := foldl_max g (-1000)
  rw [bestI, if_pos h]
  refine ⟨?_, k3⟩
  rcases k1 with k1 | k1
  · obtain ⟨x, hx⟩ : ∃ x, x ∈ g := by
      cases g with
      | nil => simp at h1
      | cons x g => exact ⟨x, by simp⟩
    have := k3 x hx
    have := h3 x hx
    rw [show List.foldl maxI (-1000) g = x from by omega]
    exact hx
  · exact k1

/-- the least of the first k and of a first one -/
theorem foldl_min_eq {xs : List Int} {x : Int} (h : gokB xs = true) (hx : xs[0]? = some x) : xs.foldl minI x = worstI xs := by
  refine Least.eq ?_ (worst_least h)
  obtain ⟨k1, k2, k3⟩ := foldl_min xs x
  refine ⟨?_, k3⟩
  rcases k1 with k1 | k1
  · rw [k1]; exact List.mem_of_getElem? hx
  · exact k1

theorem foldl_max_eq {xs : List Int} {x : Int} (h : gokB xs = true) (hx : xs[0]? = some x) : xs.foldl maxI x = bestI xs := by
  refine Greatest.eq ?_ (best_greatest h)
  obtain ⟨k1, k2, k3⟩ := foldl_max xs x
  refine ⟨?_, k3⟩
  rcases k1 with k1 | k1
  · rw [k1]; exact List.mem_of_getElem? hx
  · exact k1

theorem foldl_take {f : Int → Int → Int} {xs : List Int} {s : Int} {k : Nat} {x : Int} (hx : xs[k]? = some x) : (xs.take (k + 1)).foldl f s = f ((xs.take k).foldl f s) x := by
  rw [List.take_add_one, hx, Option.toList_some, List.foldl_append]
  rfl

def geL (a b : List Int) : Prop := ∀ (k : Nat) (x y : Int), a[k]? = some x → b[k]? = some y → y ≤ x

def betterB (a b : List Int) : Bool := gok2 a b && (List.range a.length).all fun k => decide (b.getD k 0 ≤ a.getD k 0)

theorem betterB_iff (a b : List Int) : betterB a b = true ↔ gok2 a b = true ∧ geL a b := by
  rw [betterB, Bool.and_eq_true, List.all_eq_true]
  constructor
  · rintro ⟨h1, h2⟩
    refine ⟨h1, fun k x y hx hy => ?_⟩
    have hk : k < a.length := by
      rcases Nat.lt_or_ge k a.length with h | h
      · exact h
      · rw [List.getElem?_eq_none h] at hx; cases hx
    have := h2 k (List.mem_range.2 hk)
    simpa [List.getD_eq_getElem?_getD, hx, hy] using this
  · rintro ⟨h1, h2⟩
    refine ⟨h1, fun k hk => ?_⟩
    have hk := List.mem_range.1 hk
    have hk' : k < b.length := by have := ((gok2_iff a b).1 h1).2.2; omega
    have := h2 k _ _ (List.getElem?_eq_getElem hk) (List.getElem?_eq_getElem hk')
    simpa [List.getD_eq_getElem?_getD, List.getElem?_eq_getElem hk, List.getElem?_eq_getElem hk'] using this

theorem getD_some {xs : List Int} {k : Nat} (hk : k < xs.length) : ∃ x, xs[k]? = some x := ⟨_, List.getElem?_eq_getElem hk⟩

theorem better_refl {a : List Int} (h : gokB a = true) : betterB a a = true := by
  rw [betterB_iff, gok2_iff]
  refine ⟨⟨h, h, rfl⟩, fun k x y hx hy => ?_⟩
  rw [hx] at hy; obtain rfl := Option.some.inj hy; omega

theorem better_anti {a b : List Int} (h : betterB a b = true) (k : betterB b a = true) : a = b := by
  rw [betterB_iff, gok2_iff] at h k
  apply List.ext_getElem?
  intro i
  by_cases hi : i < a.length
  · obtain ⟨x, hx⟩ := getD_some hi
    obtain ⟨y, hy⟩ := getD_some (xs := b) (k := i) (by omega)
    have := h.2 i x y hx hy
    have := k.2 i y x hy hx
    rw [hx, hy]; congr 1; omega
  · rw [List.getElem?_eq_none (by omega), List.getElem?_eq_none (by omega)]

theorem better_trans {a b c : List Int} (h : betterB a b = true) (k : betterB b c = true) : betterB a c = true := by
  rw [betterB_iff, gok2_iff] at h k ⊢
  refine ⟨⟨h.1.1, k.1.2.1, by omega⟩, fun i x z hx hz => ?_⟩
  have hi : i < a.length := by
    rcases Nat.lt_or_ge i a.length with h | h
    · exact h
    · rw [List.getElem?_eq_none h] at hx; cases hx
  obtain ⟨y, hy⟩ := getD_some (xs := b) (k := i) (by omega)
  have := h.2 i x y hx hy
  have := k.2 i y z hy hz
  omega

def losesB (g : List Int) : Bool := gokB g && decide (bestI g < 0)

/-! the facts of the laws -/

theorem neg_gok {g : List Int} : gokB (g.map fun x => -x) = gokB g := by
  apply bool_eq
  rw [gokB_iff, gokB_iff]
  simp only [List.length_map, List.mem_map, forall_exists_index, and_imp, forall_apply_eq_imp_iff₂]
  constructor
  · rintro ⟨h1, h2, h3⟩; exact ⟨h1, h2, fun x hx => by have := h3 x hx; omega⟩
  · rintro ⟨h1, h2, h3⟩; exact ⟨h1, h2, fun x hx => by have := h3 x hx; omega⟩

theorem sumB_parts {a b : List Int} (h : sumB a b = true) : gokB a = true ∧ gokB b = true ∧ a.length = b.length ∧ gokB (sumL a b) = true := by
  rw [sumB, Bool.and_eq_true, gok2_iff] at h
  exact ⟨h.1.1, h.1.2.1, h.1.2.2, h.2⟩

theorem sum_worst {a b : List Int} (h : sumB a b = true) : worstI a + worstI b ≤ worstI (sumL a b) := by
  obtain ⟨h1, h2, h3, h4⟩ := sumB_parts h
  obtain ⟨x, hx, y, hy, e⟩ := sumL_mem a b (worst_least h4).1
  have := (worst_least h1).2 x hx
  have := (worst_least h2).2 y hy
  omega

theorem sum_best {a b : List Int} (h : sumB a b = true) : bestI (sumL a b) ≤ bestI a + bestI b := by
  obtain ⟨h1, h2, h3, h4⟩ := sumB_parts h
  obtain ⟨x, hx, y, hy, e⟩ := sumL_mem a b (best_greatest h4).1
  have := (best_greatest h1).2 x hx
  have := (best_greatest h2).2 y hy
  omega

theorem best_bounds {g : List Int} (h : gokB g = true) : -1000 ≤ bestI g ∧ bestI g ≤ 1000 := ((gokB_iff g).1 h).2.2 _ (best_greatest h).1

theorem worst_bounds {g : List Int} (h : gokB g = true) : -1000 ≤ worstI g ∧ worstI g ≤ 1000 := ((gokB_iff g).1 h).2.2 _ (worst_least h).1

theorem mulL_mem {g : List Int} {t z : Int} (h : z ∈ mulL g t) : ∃ x ∈ g, z = x * t := by
  simp only [mulL, List.mem_map] at h
  obtain ⟨x, hx, e⟩ := h
  exact ⟨x, hx, e.symm⟩

theorem mem_mulL {g : List Int} {t x : Int} (h : x ∈ g) : x * t ∈ mulL g t := List.mem_map.2 ⟨x, h, rfl⟩

theorem times_gok {g : List Int} (h : gokB g = true) {t : Int} (ht : t = 1 ∨ t = -1 ∨ t = 0) : timesB g t = true := by
  have h' := (gokB_iff g).1 h
  rw [timesB, Bool.and_eq_true, Bool.and_eq_true, amB_iff]
  refine ⟨⟨h, by omega⟩, (gokB_iff _).2 ⟨by rw [mulL_len]; exact h'.1, by rw [mulL_len]; exact h'.2.1, fun z hz => ?_⟩⟩
  obtain ⟨x, hx, rfl⟩ := mulL_mem hz
  have := h'.2.2 x hx
  rcases ht with rfl | rfl | rfl <;> omega

theorem timesB_parts {g : List Int} {t : Int} (h : timesB g t = true) : gokB g = true ∧ gokB (mulL g t) = true := by
  rw [timesB, Bool.and_eq_true, Bool.and_eq_true] at h
  exact ⟨h.1.1, h.2⟩

theorem other_worst {g : List Int} (h : gokB g = true) : worstI (mulL g (-1)) = - bestI g := by
  have h4 := (timesB_parts (times_gok h (.inr (.inl rfl)))).2
  have hb := best_greatest h
  refine (worst_least h4).eq ⟨?_, fun z hz => ?_⟩
  · have := mem_mulL (t := -1) hb.1
    rwa [show bestI g * -1 = - bestI g from by omega] at this
  · obtain ⟨x, hx, rfl⟩ := mulL_mem hz
    have := hb.2 x hx
    omega

theorem other_best {g : List Int} (h : gokB g = true) : bestI (mulL g (-1)) = - worstI g := by
  have h4 := (timesB_parts (times_gok h (.inr (.inl rfl)))).2
  have hb := worst_least h
  refine (best_greatest h4).eq ⟨?_, fun z hz => ?_⟩
  · have := mem_mulL (t := -1) hb.1
    rwa [show worstI g * -1 = - worstI g from by omega] at this
  · obtain ⟨x, hx, rfl⟩ := mulL_mem hz
    have := hb.2 x hx
    omega

theorem none_best {g : List Int} (h : gokB g = true) : bestI (mulL g 0) = 0 := by
  have h4 := (timesB_parts (times_gok h (.inr (.inr rfl)))).2
  obtain ⟨x, hx, e⟩ := mulL_mem (best_greatest h4).1
  omega

theorem more_worst {g : List Int} (h : sumB g (List.replicate g.length 1) = true) : worstI (sumL g (List.replicate g.length 1)) = worstI g + 1 := by
  obtain ⟨h1, h2, h3, h4⟩ := sumB_parts h
  have hw := worst_least h1
  refine (worst_least h4).eq ⟨?_, fun z hz => ?_⟩
  · obtain ⟨k, hk, e⟩ := List.mem_iff_getElem.1 hw.1
    have hx : g[k]? = some (worstI g) := by rw [List.getElem?_eq_getElem hk, e]
    exact List.mem_of_getElem? (sumL_at g _ hx (y := 1) (by simp [hk]))
  · obtain ⟨x, hx, y, hy, e⟩ := sumL_mem _ _ hz
    obtain ⟨-, rfl⟩ := List.mem_replicate.1 hy
    have := hw.2 x hx
    omega

theorem ones_gok {g : List Int} (h : gokB g = true) (t : Int) (ht : -1000 ≤ t ∧ t ≤ 1000) : gokB (List.replicate g.length t) = true := by
  have h' := (gokB_iff g).1 h
  rw [gokB_iff, List.length_replicate]
  exact ⟨h'.1, h'.2.1, fun x hx => by obtain ⟨-, rfl⟩ := List.mem_replicate.1 hx; exact ht⟩

theorem loses_better {g : List Int} (h : gokB g = true) : betterB (List.replicate g.length (-1)) g = losesB g := by
  apply bool_eq
  rw [betterB_iff, gok2_iff, losesB, h, Bool.true_and, decide_eq_true_eq]
  have hb := best_greatest h
  constructor
  · rintro ⟨-, h2⟩
    obtain ⟨k, hk, e⟩ := List.mem_iff_getElem.1 hb.1
    have hx : g[k]? = some (bestI g) := by rw [List.getElem?_eq_getElem hk, e]
    have := h2 k (-1) _ (by simp [hk]) hx
    omega
  · intro h2
    refine ⟨⟨ones_gok h (-1) (by decide), rfl, by simp⟩, fun k x y hx hy => ?_⟩
    have := hb.2 y (List.mem_of_getElem? hy)
    obtain ⟨-, rfl⟩ := List.mem_replicate.1 (List.mem_of_getElem? hx)
    omega

theorem loses_other {g : List Int} (h : losesB g = true) : losesB (mulL g (-1)) = false := by
  rw [losesB, Bool.and_eq_true, decide_eq_true_eq] at h
  obtain ⟨h1, h2⟩ := h
  rw [losesB, other_best h1, Bool.and_eq_false_iff]
  right
  have := (worst_least h1).2 _ (best_greatest h1).1
  simp; omega

end Go.Proofs.Yteljcicdibbhdaa
