/- Measures as lists: the ways to lay grains, in their order; the grains on events; fitting; what units of grains are enough. No condition. -/
import Derived.Test.YtfdgelikmhaagaaQm
namespace Go.Proofs.Ytfdgelikmhaagaa
set_option linter.unusedVariables false

/-- the ways to lay g grains on w worlds, fewer grains on a first world first -/
def lay : Nat → Nat → List (List Nat)
  | 0, _ => []
  | 1, g => [[g]]
  | w + 2, g => (List.range (g + 1)).flatMap fun a => (lay (w + 1) (g - a)).map fun m => a :: m

theorem mem_lay (w g : Nat) (m : List Nat) : m ∈ lay (w + 1) g ↔ m.length = w + 1 ∧ m.sum = g := by
  induction w generalizing g m with
  | zero =>
    rw [show lay (0 + 1) g = [[g]] from rfl, List.mem_singleton]
    constructor
    · rintro rfl; simp
    · rintro ⟨h1, h2⟩
      match m, h1 with
      | [x], _ => simp at h2; rw [h2]
  | succ w ih =>
    rw [show lay (w + 1 + 1) g = (List.range (g + 1)).flatMap fun a => (lay (w + 1) (g - a)).map fun m => a :: m from rfl]
    simp only [List.mem_flatMap, List.mem_range, List.mem_map]
    constructor
    · rintro ⟨a, ha, t, ht, rfl⟩
      obtain ⟨h1, h2⟩ := (ih _ _).1 ht
      simp only [List.length_cons, List.sum_cons]
      omega
    · rintro ⟨h1, h2⟩
      match m, h1 with
      | a :: t, h1 =>
        simp only [List.length_cons, List.sum_cons] at h1 h2
        exact ⟨a, by omega, t, (ih _ _).2 ⟨by omega, by omega⟩, rfl⟩

def firstL (n g : Nat) : List Nat := List.replicate (n - 1) 0 ++ [g]

/-- the next way -/
def stepL : List Nat → Option (List Nat)
  | [] => none
  | [_] => none
  | a :: x :: r => match stepL (x :: r) with
    | some t => some (a :: t)
    | none => if x = 0 then none else some ((a + 1) :: firstL (r.length + 1) (x - 1))

/-- each is followed by its next one -/
def chainB : List (List Nat) → Bool
  | [] => true
  | [m] => stepL m == none
  | m :: n :: l => stepL m == some n && chainB (n :: l)

theorem chain_at {l : List (List Nat)} (h : chainB l = true) {k : Nat} {m : List Nat} (hm : l[k]? = some m) : stepL m = l[k + 1]? := by
  induction l generalizing k with
  | nil => simp at hm
  | cons x l ih =>
    cases l with
    | nil =>
      cases k with
      | zero => simp at hm; subst hm; simpa [chainB] using h
      | succ k => simp at hm
    | cons y l =>
      simp only [chainB, Bool.and_eq_true, beq_iff_eq] at h
      cases k with
      | zero => simp at hm; subst hm; simpa using h.1
      | succ k => simp only [List.getElem?_cons_succ] at hm ⊢; exact ih h.2 hm

theorem lay_first (w g : Nat) : (lay (w + 1) g)[0]? = some (firstL (w + 1) g) := by
  induction w generalizing g with
  | zero => rfl
  | succ w ih =>
    rw [show lay (w + 1 + 1) g = (List.range (g + 1)).flatMap fun a => (lay (w + 1) (g - a)).map fun m => a :: m from rfl]
    rw [List.range_succ_eq_map, List.flatMap_cons]
    have h := ih (g - 0)
    obtain ⟨l, hl⟩ : ∃ l, lay (w + 1) (g - 0) = firstL (w + 1) (g - 0) :: l := by
      cases hc : lay (w + 1) (g - 0) with
      | nil => rw [hc] at h; simp at h
      | cons x l => rw [hc] at h; simp at h; exact ⟨l, by rw [h, Nat.sub_zero]⟩
    rw [hl]
    simp [firstL, List.replicate_succ]

/-! grains on events -/

def onI : List Int → Int → Int
  | [], _ => 0
  | x :: m, e => e % 2 * x + onI m (e / 2)

theorem bitI_zero (e : Int) : bitI e 0 = e % 2 := by simp [bitI]

theorem bitI_succ (e : Int) (k : Nat) : bitI (e / 2) k = bitI e (k + 1) := by
  unfold bitI
  rw [Int.ediv_ediv_of_nonneg (by decide), show (2 : Int) * 2 ^ k = 2 ^ (k + 1) from by rw [Int.pow_succ, Int.mul_comm]]

theorem onI_snoc (m : List Int) (x e : Int) : onI (m ++ [x]) e = onI m e + bitI e m.length * x := by
  induction m generalizing e with
  | nil => simp [onI, bitI_zero]
  | cons y m ih =>
    simp only [List.cons_append, onI, List.length_cons]
    rw [ih, bitI_succ]; omega

theorem onI_take {m : List Int} {k : Nat} {x : Int} (hx : m[k]? = some x) (e : Int) : onI (m.take (k + 1)) e = onI (m.take k) e + bitI e k * x := by
  have hk : k < m.length := by
    rcases Nat.lt_or_ge k m.length with h1 | h1
    · exact h1
    · rw [List.getElem?_eq_none h1] at hx; cases hx
  rw [List.take_add_one, hx, Option.toList_some, onI_snoc, List.length_take, Nat.min_eq_left (Nat.le_of_lt hk)]

theorem onI_bound {m : List Int} (h : ∀ x ∈ m, 0 ≤ x) (e : Int) : 0 ≤ onI m e ∧ onI m e ≤ m.sum := by
  induction m generalizing e with
  | nil => simp [onI]
  | cons x m ih =>
    have h1 := ih (fun y hy => h y (by simp [hy])) (e / 2)
    have h2 := h x (by simp)
    simp only [onI, List.sum_cons]
    rcases Int.emod_two_eq e with h3 | h3 <;> rw [h3] <;> omega

/-- measures -/
def meaB (m : List Int) : Bool := m.all (fun x => inB x 0 36) && decide (1 ≤ m.length) && decide (m.length ≤ 4) && decide (m.sum = 36)

theorem meaB_iff (m : List Int) : meaB m = true ↔ (∀ x ∈ m, 0 ≤ x ∧ x ≤ 36) ∧ 1 ≤ m.length ∧ m.length ≤ 4 ∧ m.sum = 36 := by
  simp only [meaB, Bool.and_eq_true, decide_eq_true_eq, List.all_eq_true, inB_iff, and_assoc]

def natL (l : List Nat) : List Int := l.map Int.ofNat

theorem natL_len (l : List Nat) : (natL l).length = l.length := by simp [natL]

theorem natL_sum (l : List Nat) : (natL l).sum = (l.sum : Nat) := by
  induction l with
  | nil => rfl
  | cons x l ih =>
    simp only [natL, List.map_cons, List.sum_cons] at ih ⊢
    rw [ih]; simp

theorem natL_at {l : List Nat} {k : Nat} {x : Nat} (h : l[k]? = some x) : (natL l)[k]? = some (x : Int) := by simp [natL, h]

/-- measures are the ways to lay all grains -/
theorem mea_lay (m : List Int) : meaB m = true ↔ (1 ≤ m.length ∧ m.length ≤ 4) ∧ ∃ l ∈ lay m.length 36, m = natL l := by
  rw [meaB_iff]
  constructor
  · rintro ⟨h1, h2, h3, h4⟩
    refine ⟨⟨h2, h3⟩, m.map Int.toNat, ?_, ?_⟩
    · obtain ⟨w, hw⟩ : ∃ w, m.length = w + 1 := ⟨m.length - 1, by omega⟩
      rw [hw, mem_lay]
      refine ⟨by simp [hw], ?_⟩
      have : (natL (m.map Int.toNat)).sum = 36 := by
        rw [← h4]
        congr 1
        unfold natL
        rw [List.map_map]
        conv => rhs; rw [← List.map_id m]
        apply List.map_congr_left
        intro x hx
        have := h1 x hx
        simp; omega
      rw [natL_sum] at this
      omega
    · unfold natL
      rw [List.map_map]
      conv => lhs; rw [← List.map_id m]
      apply List.map_congr_left
      intro x hx
      have := h1 x hx
      simp; omega
  · rintro ⟨⟨h2, h3⟩, l, hl, e⟩
    obtain ⟨w, hw⟩ : ∃ w, m.length = w + 1 := ⟨m.length - 1, by omega⟩
    rw [hw, mem_lay] at hl
    have hs : m.sum = 36 := by rw [e, natL_sum, hl.2]; rfl
    have hn : ∀ x ∈ m, 0 ≤ x := by
      intro x hx
      rw [e] at hx
      obtain ⟨y, -, rfl⟩ := List.mem_map.1 hx
      simp
    refine ⟨fun x hx => ⟨hn x hx, ?_⟩, h2, h3, hs⟩
    rw [← hs]
    clear e hl hs hw h2 h3
    induction m with
    | nil => simp at hx
    | cons y m ih =>
      have hm : 0 ≤ m.sum := (fun hb => Int.le_trans hb.1 hb.2) (onI_bound (fun z hz => hn z (by simp [hz])) 0)
      have hy := hn y (by simp)
      simp only [List.sum_cons]
      rcases List.mem_cons.1 hx with rfl | hx
      · omega
      · have := ih (fun z hz => hn z (by simp [hz])) hx; omega

def fitI (m : List Int) (qs : List Qt) : Bool := qs.all fun q => onI m q.1 * 6 == q.2 * 36

theorem fitI_iff (m : List Int) (qs : List Qt) : fitI m qs = true ↔ ∀ q ∈ qs, onI m q.1 = 6 * q.2 := by
  simp only [fitI, List.all_eq_true, beq_iff_eq]
  constructor
  · intro h q hq; have := h q hq; omega
  · intro h q hq; have := h q hq; omega

end Go.Proofs.Ytfdgelikmhaagaa
