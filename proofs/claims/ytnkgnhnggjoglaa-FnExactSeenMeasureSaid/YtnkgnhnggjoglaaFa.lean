/- The facts of the laws of chapter 11: scores of measures. No condition. -/
import Derived.Test.YtnkgnhnggjoglaaMw
namespace Go.Proofs.Ytnkgnhnggjoglaa
set_option linter.unusedVariables false

/-- the sum of f over 0 .. n - 1 -/
def rsum (f : Nat → Int) (n : Nat) : Int := ((List.range n).map f).sum

@[simp] theorem rsum_zero (f : Nat → Int) : rsum f 0 = 0 := rfl

theorem rsum_succ (f : Nat → Int) (n : Nat) : rsum f (n + 1) = rsum f n + f n := by
  simp [rsum, List.range_succ]

theorem rsum_congr {f g : Nat → Int} {n : Nat} (h : ∀ k, k < n → f k = g k) : rsum f n = rsum g n := by
  induction n with
  | zero => rfl
  | succ n ih => rw [rsum_succ, rsum_succ, ih (fun k hk => h k (by omega)), h n (by omega)]

theorem rsum_le {f g : Nat → Int} {n : Nat} (h : ∀ k, k < n → f k ≤ g k) : rsum f n ≤ rsum g n := by
  induction n with
  | zero => exact Int.le_refl _
  | succ n ih =>
    have h1 := ih (fun k hk => h k (by omega))
    have h2 := h n (by omega)
    rw [rsum_succ, rsum_succ]; omega

theorem rsum_add (f g : Nat → Int) (n : Nat) : rsum (fun k => f k + g k) n = rsum f n + rsum g n := by
  induction n with
  | zero => rfl
  | succ n ih => simp only [rsum_succ, ih]; omega

theorem rsum_mul (c : Int) (f : Nat → Int) (n : Nat) : rsum (fun k => c * f k) n = c * rsum f n := by
  induction n with
  | zero => simp
  | succ n ih => simp only [rsum_succ, ih]; grind

theorem rsum_nonneg {f : Nat → Int} {n : Nat} (h : ∀ k, k < n → 0 ≤ f k) : 0 ≤ rsum f n := by
  induction n with
  | zero => exact Int.le_refl _
  | succ n ih =>
    have h1 := ih (fun k hk => h k (by omega))
    have h2 := h n (by omega)
    rw [rsum_succ]; omega

/-- one of them is no more than all -/
theorem rsum_one {f : Nat → Int} {n : Nat} (h : ∀ k, k < n → 0 ≤ f k) {k : Nat} (hk : k < n) : f k ≤ rsum f n := by
  induction n with
  | zero => omega
  | succ n ih =>
    have h1 := rsum_nonneg (f := f) (n := n) (fun k hk => h k (by omega))
    have h2 := h n (by omega)
    rw [rsum_succ]
    rcases Nat.lt_or_ge k n with hl | hl
    · have := ih (fun k hk => h k (by omega)) hl; omega
    · obtain rfl : k = n := by omega
      omega

/-- all are 0 if their sum is, and none is below 0 -/
theorem rsum_all {f : Nat → Int} {n : Nat} (h : ∀ k, k < n → 0 ≤ f k) (hz : rsum f n = 0) {k : Nat} (hk : k < n) : f k = 0 := by
  have h1 := rsum_one h hk
  have h2 := h k hk
  omega

def at0 (m : List Int) (k : Nat) : Int := m.getD k 0

theorem at0_of {m : List Int} {k : Nat} {x : Int} (h : m[k]? = some x) : at0 m k = x := by
  rw [at0, List.getD_eq_getElem?_getD, h]; rfl

theorem at0_mem {m : List Int} {k : Nat} (h : k < m.length) : at0 m k ∈ m := by
  obtain ⟨x, hx⟩ : ∃ x, m[k]? = some x := ⟨_, List.getElem?_eq_getElem h⟩
  rw [at0_of hx]; exact List.mem_of_getElem? hx

theorem rsum_take (m : List Int) (n : Nat) (h : n ≤ m.length) : rsum (at0 m) n = (m.take n).sum := by
  induction n with
  | zero => simp
  | succ n ih =>
    obtain ⟨x, hx⟩ : ∃ x, m[n]? = some x := ⟨_, List.getElem?_eq_getElem (by omega)⟩
    rw [rsum_succ, ih (by omega), List.take_add_one, hx, at0_of hx]; simp

theorem rsum_list (m : List Int) : rsum (at0 m) m.length = m.sum := by
  rw [rsum_take m _ (Nat.le_refl _), List.take_length]

/-- two lists that are the same at each place -/
theorem at0_ext {a b : List Int} (hl : a.length = b.length) (h : ∀ k, k < a.length → at0 a k = at0 b k) : a = b := by
  apply List.ext_getElem? 
  intro k
  rcases Nat.lt_or_ge k a.length with hk | hk
  · obtain ⟨x, hx⟩ : ∃ x, a[k]? = some x := ⟨_, List.getElem?_eq_getElem hk⟩
    obtain ⟨y, hy⟩ : ∃ y, b[k]? = some y := ⟨_, List.getElem?_eq_getElem (by omega)⟩
    have := h k hk
    rw [at0_of hx, at0_of hy] at this
    rw [hx, hy, this]
  · rw [List.getElem?_eq_none hk, List.getElem?_eq_none (by omega)]

/-- what the grains on world k are off if world x turns out -/
def offI (m : List Int) (x : Int) (k : Nat) : Int := if (k : Int) = x then at0 m k - 36 else at0 m k

def scI (m : List Int) (x : Int) : Int := rsum (fun k => offI m x k * offI m x k) m.length

/-- the sum of the squares -/
def sqI (m : List Int) : Int := rsum (fun k => at0 m k * at0 m k) m.length

def dotI (a b : List Int) : Int := rsum (fun k => at0 a k * at0 b k) a.length

def farI (a b : List Int) : Int := rsum (fun k => (at0 a k - at0 b k) * (at0 a k - at0 b k)) a.length

def expI (t r : List Int) : Int := rsum (fun w => at0 t w * scI r (w : Int)) t.length

theorem sc_part (m : List Int) (x : Nat) (n : Nat) : rsum (fun k => offI m (x : Int) k * offI m (x : Int) k) n = rsum (fun k => at0 m k * at0 m k) n + (if x < n then 1296 - 72 * at0 m x else 0) := by
  induction n with
  | zero => simp
  | succ n ih =>
    rw [rsum_succ, rsum_succ, ih]
    by_cases h : n = x
    · subst h
      rw [if_neg (by omega), if_pos (by omega), offI, if_pos rfl]
      grind
    · have e : offI m (x : Int) n = at0 m n := by rw [offI, if_neg (by omega)]
      rw [e]
      by_cases h1 : x < n
      · rw [if_pos h1, if_pos (by omega)]; omega
      · rw [if_neg h1, if_neg (by omega)]; omega

theorem sc_is {m : List Int} {x : Nat} (h : x < m.length) : scI m (x : Int) = sqI m + 1296 - 72 * at0 m x := by
  rw [scI, sc_part, if_pos h, sqI]; omega

theorem mul_self_nonneg (x : Int) : 0 ≤ x * x := by
  rcases Int.le_total 0 x with h | h
  · exact Int.mul_nonneg h h
  · exact Int.mul_nonneg_of_nonpos_of_nonpos h h

theorem sq_bound {m : List Int} (h : meaB m = true) : 0 ≤ sqI m ∧ sqI m ≤ 1296 := by
  obtain ⟨h1, -, -, h4⟩ := (meaB_iff m).1 h
  refine ⟨rsum_nonneg (fun k _ => mul_self_nonneg _), ?_⟩
  have : sqI m ≤ rsum (fun k => 36 * at0 m k) m.length := rsum_le (fun k hk => by
    have := h1 _ (at0_mem hk)
    exact Int.mul_le_mul_of_nonneg_right this.2 this.1)
  rw [rsum_mul, rsum_list, h4] at this
  omega

theorem sc_nonneg (m : List Int) (x : Int) : 0 ≤ scI m x := rsum_nonneg (fun k _ => mul_self_nonneg _)

/-- just what is sure and right scores nothing -/
theorem sc_zero {m : List Int} (h : meaB m = true) {x : Nat} (hx : x < m.length) : (scI m (x : Int) = 0 ↔ at0 m x = 36) ∧ scI m (x : Int) ≤ 2592 := by
  have h1 := sq_bound h
  have h2 := sc_is hx
  have h3 := sc_nonneg m (x : Int)
  have h4 := ((meaB_iff m).1 h).1 _ (at0_mem hx)
  refine ⟨⟨fun hz => ?_, fun hz => by omega⟩, by omega⟩
  have h5 := rsum_all (f := fun k => offI m (x : Int) k * offI m (x : Int) k) (fun k _ => mul_self_nonneg _) hz hx
  simp only [offI, if_true] at h5
  have h6 : at0 m x - 36 = 0 := by
    rcases Int.mul_eq_zero.1 h5 with h | h <;> exact h
  omega

theorem far_is {a b : List Int} (hl : a.length = b.length) : farI a b = sqI a - 2 * dotI a b + sqI b := by
  have e : rsum (fun k => at0 b k * at0 b k) b.length = rsum (fun k => at0 b k * at0 b k) a.length := by rw [hl]
  rw [farI, sqI, dotI, sqI, e]
  generalize a.length = n
  induction n with
  | zero => simp
  | succ n ih => simp only [rsum_succ, ih]; grind

theorem exp_is {t r : List Int} (ht : meaB t = true) (hl : t.length = r.length) : expI t r = 36 * sqI r + 46656 - 72 * dotI t r := by
  have h1 : expI t r = rsum (fun k => (sqI r + 1296) * at0 t k + (-72) * (at0 t k * at0 r k)) t.length := rsum_congr (fun k hk => by
    rw [sc_is (by omega)]; grind)
  rw [h1, rsum_add, rsum_mul, rsum_mul, rsum_list, ((meaB_iff t).1 ht).2.2.2, dotI]
  omega

/-- nobody gains by telling another measure -/
theorem exp_far {t r : List Int} (ht : meaB t = true) (hl : t.length = r.length) : expI t r = expI t t + 36 * farI t r := by
  have e : dotI t t = sqI t := rfl
  rw [exp_is ht hl, exp_is ht rfl, far_is hl, e]; omega

theorem exp_nonneg {t : List Int} (ht : meaB t = true) (r : List Int) : 0 ≤ expI t r := rsum_nonneg (fun k hk => Int.mul_nonneg (((meaB_iff t).1 ht).1 _ (at0_mem hk)).1 (sc_nonneg _ _))

theorem far_nonneg (a b : List Int) : 0 ≤ farI a b := rsum_nonneg (fun k _ => mul_self_nonneg _)

theorem far_zero {a b : List Int} (hl : a.length = b.length) : farI a b = 0 ↔ a = b := by
  constructor
  · intro h
    refine at0_ext hl (fun k hk => ?_)
    have h1 := rsum_all (f := fun k => (at0 a k - at0 b k) * (at0 a k - at0 b k)) (fun k _ => mul_self_nonneg _) h hk
    have h2 : at0 a k - at0 b k = 0 := by rcases Int.mul_eq_zero.1 h1 with h | h <;> exact h
    omega
  · rintro rfl
    rw [farI, rsum_congr (g := fun _ => (0 : Int) * 0) (fun k _ => by simp), rsum_mul]
    simp

theorem far_comm {a b : List Int} (hl : a.length = b.length) : farI a b = farI b a := by
  rw [farI, farI, ← hl]
  exact rsum_congr (fun k _ => by grind)

theorem far_bound {a b : List Int} (ha : meaB a = true) (hb : meaB b = true) (hl : a.length = b.length) : farI a b ≤ 2592 := by
  have h1 := sq_bound ha
  have h2 := sq_bound hb
  have h3 : 0 ≤ dotI a b := rsum_nonneg (fun k hk => Int.mul_nonneg (((meaB_iff a).1 ha).1 _ (at0_mem hk)).1 (((meaB_iff b).1 hb).1 _ (at0_mem (by omega))).1)
  rw [far_is hl]; omega

theorem mix_at {a b : List Int} (hl : a.length = b.length) (he : evenB a b = true) {k : Nat} (hk : k < a.length) : 2 * at0 (mixL a b) k = at0 a k + at0 b k := by
  induction a generalizing b k with
  | nil => simp at hk
  | cons x a ih =>
    cases b with
    | nil => simp at hl
    | cons y b =>
      simp only [evenB, Bool.and_eq_true, beq_iff_eq] at he
      cases k with
      | zero => simp only [mixL, at0, List.getD_cons_zero]; omega
      | succ k =>
        have := ih (b := b) (k := k) (by simpa using hl) he.2 (by simpa using hk)
        simpa [mixL, at0] using this

/-- four times as far as from the mixed one -/
theorem far_mix {a b : List Int} (hl : a.length = b.length) (he : evenB a b = true) : farI a b = 4 * farI a (mixL a b) := by
  rw [farI, farI, ← rsum_mul]
  refine rsum_congr (fun k hk => ?_)
  have h1 := mix_at hl he hk
  have h2 : at0 b k = 2 * at0 (mixL a b) k - at0 a k := by omega
  rw [h2]; grind

/-- mixed reports: what lies between is half as far as both differ -/
theorem mix_two {t a b : List Int} (hl : a.length = b.length) (ht : t.length = a.length) (he : evenB a b = true) : 2 * (2 * farI t (mixL a b)) + farI a b = 2 * (farI t a + farI t b) := by
  have e : farI a b = rsum (fun k => (at0 a k - at0 b k) * (at0 a k - at0 b k)) t.length := by rw [farI, ht]
  rw [e, farI, farI, farI, ← rsum_mul, ← rsum_mul, ← rsum_add, ← rsum_add, ← rsum_mul]
  refine rsum_congr (fun k hk => ?_)
  have h1 := mix_at hl he (show k < a.length by omega)
  have h2 : at0 b k = 2 * at0 (mixL a b) k - at0 a k := by omega
  rw [h2]; grind

/-! sums of scores -/

def totI (m : List Int) (ss : List Int) : Int := (ss.map (scI m)).sum

theorem tot_app (m a b : List Int) : totI m (a ++ b) = totI m a + totI m b := by simp [totI]

theorem tot_take {m ss : List Int} {k : Nat} {x : Int} (h : ss[k]? = some x) : totI m (ss.take (k + 1)) = totI m (ss.take k) + scI m x := by
  rw [List.take_add_one, h, Option.toList_some, tot_app]; simp [totI]

theorem tot_rev (m ss : List Int) : totI m ss.reverse = totI m ss := by
  induction ss with
  | nil => rfl
  | cons x ss ih => rw [List.reverse_cons, tot_app, ih]; simp [totI]; omega

theorem tot_parts (m ss : List Int) (k : Nat) : totI m ss = totI m (ss.take k) + totI m (ss.drop k) := by
  rw [← tot_app, List.take_append_drop]

theorem tot_nonneg (m ss : List Int) : 0 ≤ totI m ss := by
  induction ss with
  | nil => simp [totI]
  | cons x ss ih =>
    have := sc_nonneg m x
    simp only [totI, List.map_cons, List.sum_cons] at ih ⊢; omega

theorem tot_bound {m : List Int} (h : meaB m = true) (ss : List Int) (hs : ∀ x ∈ ss, 0 ≤ x ∧ x < (m.length : Int)) : totI m ss ≤ 2592 * ss.length := by
  induction ss with
  | nil => simp [totI]
  | cons x ss ih =>
    have h1 := ih (fun y hy => hs y (List.mem_cons_of_mem _ hy))
    have h2 := hs x List.mem_cons_self
    have h3 := (sc_zero h (x := x.toNat) (by omega)).2
    rw [show ((x.toNat : Nat) : Int) = x by omega] at h3
    simp only [totI, List.map_cons, List.sum_cons, List.length_cons] at h1 ⊢; omega

/-- how often world k turned out -/
def seenN (ss : List Int) (k : Nat) : Int := ((ss.map fun x => if x = (k : Int) then (1 : Int) else 0)).sum

theorem seen_cons (x : Int) (ss : List Int) (k : Nat) : seenN (x :: ss) k = (if x = (k : Int) then 1 else 0) + seenN ss k := by simp [seenN]

theorem seen_nonneg (ss : List Int) (k : Nat) : 0 ≤ seenN ss k ∧ seenN ss k ≤ ss.length := by
  induction ss with
  | nil => simp [seenN]
  | cons x ss ih => rw [seen_cons, List.length_cons]; split <;> omega

theorem rsum_pick (m : List Int) (x n : Nat) : rsum (fun k => (if (x : Int) = (k : Int) then 1 else 0) * at0 m k) n = if x < n then at0 m x else 0 := by
  induction n with
  | zero => simp
  | succ n ih =>
    rw [rsum_succ, ih]
    by_cases h : n = x
    · subst h
      rw [if_neg (by omega), if_pos rfl, if_pos (by omega)]; omega
    · rw [if_neg (show ¬ ((x : Int) = (n : Int)) by omega)]
      by_cases h1 : x < n
      · rw [if_pos h1, if_pos (by omega)]; omega
      · rw [if_neg h1, if_neg (by omega)]; omega

/-- the sum of the scores by how often each world turned out -/
theorem tot_is (m ss : List Int) (hs : ∀ x ∈ ss, 0 ≤ x ∧ x < (m.length : Int)) : totI m ss = (ss.length : Int) * (sqI m + 1296) - 72 * rsum (fun k => seenN ss k * at0 m k) m.length := by
  induction ss with
  | nil =>
    rw [rsum_congr (g := fun _ => (0 : Int) * 0) (fun k _ => by simp [seenN]), rsum_mul]
    simp [totI]
  | cons x ss ih =>
    have h1 := ih (fun y hy => hs y (List.mem_cons_of_mem _ hy))
    have h2 := hs x List.mem_cons_self
    obtain ⟨n, rfl⟩ : ∃ n : Nat, x = (n : Int) := ⟨x.toNat, by omega⟩
    have h3 := sc_is (m := m) (x := n) (by omega)
    have h4 : rsum (fun k => seenN ((n : Int) :: ss) k * at0 m k) m.length = at0 m n + rsum (fun k => seenN ss k * at0 m k) m.length := by
      rw [rsum_congr (g := fun k => (if (n : Int) = (k : Int) then 1 else 0) * at0 m k + seenN ss k * at0 m k) (fun k _ => by rw [seen_cons]; grind), rsum_add, rsum_pick, if_pos (by omega)]
    have h5 : totI m ((n : Int) :: ss) = scI m (n : Int) + totI m ss := by simp [totI]
    rw [h5, h4, h1, h3, List.length_cons]
    grind

/-- the counts are all of them -/
theorem seen_sum (n : Nat) (ss : List Int) (hs : ∀ x ∈ ss, 0 ≤ x ∧ x < (n : Int)) : rsum (seenN ss) n = ss.length := by
  induction ss with
  | nil =>
    rw [rsum_congr (g := fun _ => (0 : Int) * 0) (fun k _ => by simp [seenN]), rsum_mul]; simp
  | cons x ss ih =>
    have h1 := ih (fun y hy => hs y (List.mem_cons_of_mem _ hy))
    have h2 := hs x List.mem_cons_self
    obtain ⟨j, rfl⟩ : ∃ j : Nat, x = (j : Int) := ⟨x.toNat, by omega⟩
    have h3 : ∀ n, rsum (fun k => if (j : Int) = (k : Int) then (1 : Int) else 0) n = if j < n then 1 else 0 := by
      intro n
      induction n with
      | zero => simp
      | succ n ih2 =>
        rw [rsum_succ, ih2]
        by_cases h : n = j
        · subst h
          rw [if_neg (by omega), if_pos rfl, if_pos (by omega)]; omega
        · rw [if_neg (show ¬ ((j : Int) = (n : Int)) by omega)]
          by_cases h1 : j < n
          · rw [if_pos h1, if_pos (by omega)]; omega
          · rw [if_neg h1, if_neg (by omega)]; omega
    rw [rsum_congr (g := fun k => (if (j : Int) = (k : Int) then (1 : Int) else 0) + seenN ss k) (fun k _ => seen_cons _ _ _), rsum_add, h1, h3, if_pos (by omega), List.length_cons]
    omega

/-- what was seen scores best on what was seen: y holds the shares -/
theorem seen_best {y m ss : List Int} (hl : y.length = m.length) (hs : ∀ x ∈ ss, 0 ≤ x ∧ x < (m.length : Int)) (hy : ∀ k, k < y.length → at0 y k * (ss.length : Int) = seenN ss k * 36) : totI y ss + (ss.length : Int) * farI y m = totI m ss := by
  rw [tot_is y ss (by rw [hl]; exact hs), tot_is m ss hs, far_is hl]
  have e1 : 72 * rsum (fun k => seenN ss k * at0 y k) y.length = 2 * ((ss.length : Int) * sqI y) := by
    rw [sqI, ← rsum_mul, ← rsum_mul, ← rsum_mul]
    exact rsum_congr (fun k hk => by
      have := hy k hk
      have e : 72 * (seenN ss k * at0 y k) = 2 * (seenN ss k * 36) * at0 y k := by grind
      rw [e, ← this]; grind)
  have e2 : 72 * rsum (fun k => seenN ss k * at0 m k) m.length = 2 * ((ss.length : Int) * dotI y m) := by
    rw [dotI, ← hl, ← rsum_mul, ← rsum_mul, ← rsum_mul]
    exact rsum_congr (fun k hk => by
      have := hy k hk
      have e : 72 * (seenN ss k * at0 m k) = 2 * (seenN ss k * 36) * at0 m k := by grind
      rw [e, ← this]; grind)
  rw [e1, e2]; grind

/-- the shares are a measure -/
theorem seen_mea {y ss : List Int} (h1 : 1 ≤ y.length) (h4 : y.length ≤ 4) (hn : 1 ≤ ss.length) (hs : ∀ x ∈ ss, 0 ≤ x ∧ x < (y.length : Int)) (hy : ∀ k, k < y.length → at0 y k * (ss.length : Int) = seenN ss k * 36) : meaB y = true := by
  have hp : (0 : Int) < (ss.length : Int) := by omega
  have hb : ∀ k, k < y.length → 0 ≤ at0 y k ∧ at0 y k ≤ 36 := by
    intro k hk
    have e := hy k hk
    have h5 := seen_nonneg ss k
    constructor
    · apply Int.not_lt.1
      intro hc
      have h6 := Int.mul_lt_mul_of_pos_right hc hp
      rw [e] at h6
      omega
    · apply Int.not_lt.1
      intro hc
      have h6 := Int.mul_lt_mul_of_pos_right hc hp
      rw [e] at h6
      omega
  refine (meaB_iff y).2 ⟨fun x hx => ?_, h1, h4, ?_⟩
  · obtain ⟨k, hk⟩ := List.mem_iff_getElem?.1 hx
    have := hb k (List.getElem?_eq_some_iff.1 hk).1
    rwa [at0_of hk] at this
  · have e1 : (ss.length : Int) * rsum (at0 y) y.length = 36 * rsum (seenN ss) y.length := by
      rw [← rsum_mul, ← rsum_mul]
      exact rsum_congr (fun k hk => by have := hy k hk; grind)
    rw [rsum_list, seen_sum y.length ss hs] at e1
    have e2 : (ss.length : Int) * (y.sum - 36) = 0 := by grind
    rcases Int.mul_eq_zero.1 e2 with h | h <;> omega

/-- mixed reports score no worse than both do on average, and less just if both differ -/
theorem exp_mix {t a b : List Int} (ht : meaB t = true) (ha : t.length = a.length) (hl : a.length = b.length) (he : evenB a b = true) (hm : (mixL a b).length = a.length) :
    2 * expI t (mixL a b) ≤ expI t a + expI t b ∧ (2 * expI t (mixL a b) < expI t a + expI t b ↔ a ≠ b) := by
  have h1 := mix_two hl ha he
  have h2 := exp_far ht (ha.trans hm.symm)
  have h3 := exp_far ht ha
  have h4 := exp_far ht (ha.trans hl)
  have h5 := far_nonneg a b
  have h6 := far_zero hl
  refine ⟨by omega, ⟨fun h e => ?_, fun h => ?_⟩⟩
  · have := h6.2 e; omega
  · have : farI a b ≠ 0 := fun e => h (h6.1 e)
    omega

/-! what the functions answer -/

def scB (m : List Int) (x : Int) : Bool := meaB m && inB x 0 ((m.length : Int) - 1)

def scR (m : List Int) (x : Int) : Int := if scB m x = true then scI m x else -1

def twoB (a b : List Int) : Bool := meaB a && meaB b && decide (a.length = b.length)

theorem twoB_iff (a b : List Int) : twoB a b = true ↔ meaB a = true ∧ meaB b = true ∧ a.length = b.length := by
  simp only [twoB, Bool.and_eq_true, decide_eq_true_eq, and_assoc]

def expR (t r : List Int) : Int := if twoB t r = true then expI t r else -1

def farR (a b : List Int) : Int := if twoB a b = true then farI a b else -1

def totB (m ss : List Int) : Bool := meaB m && decide (ss.length ≤ 12) && ss.all (fun x => inB x 0 ((m.length : Int) - 1))

theorem totB_iff (m ss : List Int) : totB m ss = true ↔ meaB m = true ∧ ss.length ≤ 12 ∧ ∀ x ∈ ss, 0 ≤ x ∧ x < (m.length : Int) := by
  simp only [totB, Bool.and_eq_true, decide_eq_true_eq, List.all_eq_true, inB_iff, and_assoc]
  refine and_congr_right fun _ => and_congr_right fun _ => ⟨fun h x hx => ?_, fun h x hx => ?_⟩
  · have := h x hx; omega
  · have := h x hx; omega

def totR (m ss : List Int) : Int := if totB m ss = true then totI m ss else -1

theorem exp_bound {t r : List Int} (ht : meaB t = true) (hr : meaB r = true) (hl : t.length = r.length) : 0 ≤ expI t r ∧ expI t r ≤ 93312 := by
  refine ⟨exp_nonneg ht r, ?_⟩
  have h1 := sq_bound hr
  have h2 : 0 ≤ dotI t r := rsum_nonneg (fun k hk => Int.mul_nonneg (((meaB_iff t).1 ht).1 _ (at0_mem hk)).1 (((meaB_iff r).1 hr).1 _ (at0_mem (by omega))).1)
  rw [exp_is ht hl]; omega

/-- the place of the first least one, if all are told -/
def bestF (t : List Int) (rs : List (List Int)) : Nat → Nat
  | 0 => 0
  | k + 1 => if expI t (rs.getD (k + 1) []) < expI t (rs.getD (bestF t rs k) []) then k + 1 else bestF t rs k

theorem best_le (t : List Int) (rs : List (List Int)) (k : Nat) : bestF t rs k ≤ k := by
  induction k with
  | zero => exact Nat.le_refl _
  | succ k ih => simp only [bestF]; split <;> omega

theorem best_first (t : List Int) (rs : List (List Int)) (k : Nat) : ∀ j, j ≤ k → expI t (rs.getD (bestF t rs k) []) ≤ expI t (rs.getD j []) ∧ (j < bestF t rs k → expI t (rs.getD (bestF t rs k) []) < expI t (rs.getD j [])) := by
  induction k with
  | zero =>
    intro j hj
    obtain rfl : j = 0 := by omega
    exact ⟨Int.le_refl _, fun h => by simp [bestF] at h⟩
  | succ k ih =>
    intro j hj
    simp only [bestF]
    by_cases h : expI t (rs.getD (k + 1) []) < expI t (rs.getD (bestF t rs k) [])
    · rw [if_pos h]
      rcases Nat.lt_or_ge j (k + 1) with hlt | hge
      · have := (ih j (by omega)).1
        exact ⟨by omega, fun _ => by omega⟩
      · obtain rfl : j = k + 1 := by omega
        exact ⟨Int.le_refl _, fun h => absurd h (Nat.lt_irrefl _)⟩
    · rw [if_neg h]
      rcases Nat.lt_or_ge j (k + 1) with hlt | hge
      · exact ih j (by omega)
      · obtain rfl : j = k + 1 := by omega
        have := best_le t rs k
        exact ⟨by omega, fun h => by omega⟩

end Go.Proofs.Ytnkgnhnggjoglaa
