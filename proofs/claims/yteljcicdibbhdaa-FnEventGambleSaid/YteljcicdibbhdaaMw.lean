/- Measures as lists: the ways to lay grains, in their order; the grains on events; fitting; what units of grains are enough. No condition. The ways to lay grains, in their order: tables. No condition. Units of three grains are enough: the table. No condition. Units of grains are enough: a book that some measure fits is fitted by one of units. No condition. The facts of the laws of chapter 4. No condition. -/
import Derived.Test.YteljcicdibbhdaaQm
namespace Go.Proofs.Yteljcicdibbhdaa
set_option linter.unusedVariables false

/-- the ways to lay g grains on w worlds, fewer grains on a first world first -/
def lay : Nat → Nat → List (List Nat)
  | 0, _ => []
  | 1, g => [[g]]
  | w + 2, g => (List.range (g + 1)).flatMap fun a => (lay (w + 1) (g - a)).map fun m => a :: m

theorem mem_lay (w g : Nat) (m : List Nat) : m ∈ lay (w + 1) g ↔ m.length = w + 1 ∧ m.sum = g := by
  induction w generalizing g m with
  | zero =>
    rw [show lay (0 + 1) g = [[g]] from rfl, List.mem_singleton]
    constructor
    · rintro rfl; simp
    · rintro ⟨h1, h2⟩
      match m, h1 with
      | [x], _ => simp at h2; rw [h2]
  | succ w ih =>
    rw [show lay (w + 1 + 1) g = (List.range (g + 1)).flatMap fun a => (lay (w + 1) (g - a)).map fun m => a :: m from rfl]
    simp only [List.mem_flatMap, List.mem_range, List.mem_map]
    constructor
    · rintro ⟨a, ha, t, ht, rfl⟩
      obtain ⟨h1, h2⟩ := (ih _ _).1 ht
      simp only [List.length_cons, List.sum_cons]
      omega
    · rintro ⟨h1, h2⟩
      match m, h1 with
      | a :: t, h1 =>
        simp only [List.length_cons, List.sum_cons] at h1 h2
        exact ⟨a, by omega, t, (ih _ _).2 ⟨by omega, by omega⟩, rfl⟩

def firstL (n g : Nat) : List Nat := List.replicate (n - 1) 0 ++ [g]

/-- the next way -/
def stepL : List Nat → Option (List Nat)
  | [] => none
  | [_] => none
  | a :: x :: r => match stepL (x :: r) with
    | some t => some (a :: t)
    | none => if x = 0 then none else some ((a + 1) :: firstL (r.length + 1) (x - 1))

/-- each is followed by its next one -/
def chainB : List (List Nat) → Bool
  | [] => true
  | [m] => stepL m == none
  | m :: n :: l => stepL m == some n && chainB (n :: l)

theorem chain_at {l : List (List Nat)} (h : chainB l = true) {k : Nat} {m : List Nat} (hm : l[k]? = some m) : stepL m = l[k + 1]? := by
  induction l generalizing k with
  | nil => simp at hm
  | cons x l ih =>
    cases l with
    | nil =>
      cases k with
      | zero => simp at hm; subst hm; simpa [chainB] using h
      | succ k => simp at hm
    | cons y l =>
      simp only [chainB, Bool.and_eq_true, beq_iff_eq] at h
      cases k with
      | zero => simp at hm; subst hm; simpa using h.1
      | succ k => simp only [List.getElem?_cons_succ] at hm ⊢; exact ih h.2 hm

theorem lay_first (w g : Nat) : (lay (w + 1) g)[0]? = some (firstL (w + 1) g) := by
  induction w generalizing g with
  | zero => rfl
  | succ w ih =>
    rw [show lay (w + 1 + 1) g = (List.range (g + 1)).flatMap fun a => (lay (w + 1) (g - a)).map fun m => a :: m from rfl]
    rw [List.range_succ_eq_map, List.flatMap_cons]
    have h := ih (g - 0)
    obtain ⟨l, hl⟩ : ∃ l, lay (w + 1) (g - 0) = firstL (w + 1) (g - 0) :: l := by
      cases hc : lay (w + 1) (g - 0) with
      | nil => rw [hc] at h; simp at h
      | cons x l => rw [hc] at h; simp at h; exact ⟨l, by rw [h, Nat.sub_zero]⟩
    rw [hl]
    simp [firstL, List.replicate_succ]

/-! grains on events -/

def onI : List Int → Int → Int
  | [], _ => 0
  | x :: m, e => e % 2 * x + onI m (e / 2)

theorem bitI_zero (e : Int) : bitI e 0 = e % 2 := by simp [bitI]

theorem bitI_succ (e : Int) (k : Nat) : bitI (e / 2) k = bitI e (k + 1) := by
  unfold bitI
  rw [Int.ediv_ediv_of_nonneg (by decide), show (2 : Int) * 2 ^ k = 2 ^ (k + 1) from by rw [Int.pow_succ, Int.mul_comm]]

theorem onI_snoc (m : List Int) (x e : Int) : onI (m ++ [x]) e = onI m e + bitI e m.length * x := by
  induction m generalizing e with
  | nil => simp [onI, bitI_zero]
  | cons y m ih =>
    simp only [List.cons_append, onI, List.length_cons]
    rw [ih, bitI_succ]; omega

theorem onI_take {m : List Int} {k : Nat} {x : Int} (hx : m[k]? = some x) (e : Int) : onI (m.take (k + 1)) e = onI (m.take k) e + bitI e k * x := by
  have hk : k < m.length := by
    rcases Nat.lt_or_ge k m.length with h1 | h1
    · exact h1
    · rw [List.getElem?_eq_none h1] at hx; cases hx
  rw [List.take_add_one, hx, Option.toList_some, onI_snoc, List.length_take, Nat.min_eq_left (Nat.le_of_lt hk)]

theorem onI_bound {m : List Int} (h : ∀ x ∈ m, 0 ≤ x) (e : Int) : 0 ≤ onI m e ∧ onI m e ≤ m.sum := by
  induction m generalizing e with
  | nil => simp [onI]
  | cons x m ih =>
    have h1 := ih (fun y hy => h y (by simp [hy])) (e / 2)
    have h2 := h x (by simp)
    simp only [onI, List.sum_cons]
    rcases Int.emod_two_eq e with h3 | h3 <;> rw [h3] <;> omega

/-- measures -/
def meaB (m : List Int) : Bool := m.all (fun x => inB x 0 36) && decide (1 ≤ m.length) && decide (m.length ≤ 4) && decide (m.sum = 36)

theorem meaB_iff (m : List Int) : meaB m = true ↔ (∀ x ∈ m, 0 ≤ x ∧ x ≤ 36) ∧ 1 ≤ m.length ∧ m.length ≤ 4 ∧ m.sum = 36 := by
  simp only [meaB, Bool.and_eq_true, decide_eq_true_eq, List.all_eq_true, inB_iff, and_assoc]

def natL (l : List Nat) : List Int := l.map Int.ofNat

theorem natL_len (l : List Nat) : (natL l).length = l.length := by simp [natL]

theorem natL_sum (l : List Nat) : (natL l).sum = (l.sum : Nat) := by
  induction l with
  | nil => rfl
  | cons x l ih =>
    simp only [natL, List.map_cons, List.sum_cons] at ih ⊢
    rw [ih]; simp

theorem natL_at {l : List Nat} {k : Nat} {x : Nat} (h : l[k]? = some x) : (natL l)[k]? = some (x : Int) := by simp [natL, h]

/-- measures are the ways to lay all grains -/
theorem mea_lay (m : List Int) : meaB m = true ↔ (1 ≤ m.length ∧ m.length ≤ 4) ∧ ∃ l ∈ lay m.length 36, m = natL l := by
  rw [meaB_iff]
  constructor
  · rintro ⟨h1, h2, h3, h4⟩
    refine ⟨⟨h2, h3⟩, m.map Int.toNat, ?_, ?_⟩
    · obtain ⟨w, hw⟩ : ∃ w, m.length = w + 1 := ⟨m.length - 1, by omega⟩
      rw [hw, mem_lay]
      refine ⟨by simp [hw], ?_⟩
      have : (natL (m.map Int.toNat)).sum = 36 := by
        rw [← h4]
        congr 1
        unfold natL
        rw [List.map_map]
        conv => rhs; rw [← List.map_id m]
        apply List.map_congr_left
        intro x hx
        have := h1 x hx
        simp; omega
      rw [natL_sum] at this
      omega
    · unfold natL
      rw [List.map_map]
      conv => lhs; rw [← List.map_id m]
      apply List.map_congr_left
      intro x hx
      have := h1 x hx
      simp; omega
  · rintro ⟨⟨h2, h3⟩, l, hl, e⟩
    obtain ⟨w, hw⟩ : ∃ w, m.length = w + 1 := ⟨m.length - 1, by omega⟩
    rw [hw, mem_lay] at hl
    have hs : m.sum = 36 := by rw [e, natL_sum, hl.2]; rfl
    have hn : ∀ x ∈ m, 0 ≤ x := by
      intro x hx
      rw [e] at hx
      obtain ⟨y, -, rfl⟩ := List.mem_map.1 hx
      simp
    refine ⟨fun x hx => ⟨hn x hx, ?_⟩, h2, h3, hs⟩
    rw [← hs]
    clear e hl hs hw h2 h3
    induction m with
    | nil => simp at hx
    | cons y m ih =>
      have hm : 0 ≤ m.sum := (fun hb => Int.le_trans hb.1 hb.2) (onI_bound (fun z hz => hn z (by simp [hz])) 0)
      have hy := hn y (by simp)
      simp only [List.sum_cons]
      rcases List.mem_cons.1 hx with rfl | hx
      · omega
      · have := ih (fun z hz => hn z (by simp [hz])) hx; omega

def fitI (m : List Int) (qs : List Qt) : Bool := qs.all fun q => onI m q.1 * 6 == q.2 * 36

theorem fitI_iff (m : List Int) (qs : List Qt) : fitI m qs = true ↔ ∀ q ∈ qs, onI m q.1 = 6 * q.2 := by
  simp only [fitI, List.all_eq_true, beq_iff_eq]
  constructor
  · intro h q hq; have := h q hq; omega
  · intro h q hq; have := h q hq; omega

end Go.Proofs.Yteljcicdibbhdaa

namespace Go.Proofs.Yteljcicdibbhdaa
set_option linter.unusedVariables false

theorem chain36 : chainB (lay 1 36) = true ∧ chainB (lay 2 36) = true ∧ chainB (lay 3 36) = true ∧ chainB (lay 4 36) = true := by decide +kernel

theorem chain18 : chainB (lay 1 18) = true ∧ chainB (lay 2 18) = true ∧ chainB (lay 3 18) = true ∧ chainB (lay 4 18) = true := by decide +kernel

theorem chain12 : chainB (lay 1 12) = true ∧ chainB (lay 2 12) = true ∧ chainB (lay 3 12) = true ∧ chainB (lay 4 12) = true := by decide +kernel

theorem chain6 : chainB (lay 1 6) = true ∧ chainB (lay 2 6) = true ∧ chainB (lay 3 6) = true ∧ chainB (lay 4 6) = true := by decide +kernel

theorem lay_len36 : (lay 1 36).length = 1 ∧ (lay 2 36).length = 37 ∧ (lay 3 36).length = 703 ∧ (lay 4 36).length = 9139 := by decide +kernel

theorem chain_of {w g : Nat} (h1 : 1 ≤ w) (h4 : w ≤ 4) (hg : g = 36 ∨ g = 18 ∨ g = 12 ∨ g = 6) : chainB (lay w g) = true := by
  obtain rfl | rfl | rfl | rfl : w = 1 ∨ w = 2 ∨ w = 3 ∨ w = 4 := by omega
  all_goals obtain rfl | rfl | rfl | rfl := hg
  · exact chain36.1
  · exact chain18.1
  · exact chain12.1
  · exact chain6.1
  · exact chain36.2.1
  · exact chain18.2.1
  · exact chain12.2.1
  · exact chain6.2.1
  · exact chain36.2.2.1
  · exact chain18.2.2.1
  · exact chain12.2.2.1
  · exact chain6.2.2.1
  · exact chain36.2.2.2
  · exact chain18.2.2.2
  · exact chain12.2.2.2
  · exact chain6.2.2.2

end Go.Proofs.Yteljcicdibbhdaa

namespace Go.Proofs.Yteljcicdibbhdaa
set_option linter.unusedVariables false

def tup : Nat → List (List Nat)
  | 0 => [[]]
  | w + 1 => (List.range 6).flatMap fun a => (tup w).map fun m => a :: m

def onN : List Nat → Nat → Nat
  | [], _ => 0
  | x :: m, e => e % 2 * x + onN m (e / 2)

/-- the events without world 0 on which there are whole sixths -/
def evs (w : Nat) (r : List Nat) : List Nat := (List.range (2 ^ w)).filter fun e => e % 2 == 0 && onN r e % 6 == 0

def unitB (w : Nat) (r : List Nat) : Bool := !(r.sum % 6 == 0) || (evs w r).all fun e1 => (evs w r).all fun e2 => (evs w r).all fun e3 =>
  (lay w (r.sum / 3)).any fun c => onN c e1 * 3 == onN r e1 && onN c e2 * 3 == onN r e2 && onN c e3 * 3 == onN r e3

theorem unit_tab : (tup 1).all (unitB 1) = true ∧ (tup 2).all (unitB 2) = true ∧ (tup 3).all (unitB 3) = true ∧ (tup 4).all (unitB 4) = true := by decide +kernel

end Go.Proofs.Yteljcicdibbhdaa

namespace Go.Proofs.Yteljcicdibbhdaa
set_option linter.unusedVariables false

theorem onN_cast (l : List Nat) (e : Nat) : onI (natL l) (e : Int) = (onN l e : Nat) := by
  induction l generalizing e with
  | nil => rfl
  | cons x l ih =>
    show (e : Int) % 2 * (x : Int) + onI (natL l) ((e : Int) / 2) = _
    rw [show (e : Int) / 2 = ((e / 2 : Nat) : Int) from by omega, ih, show (e : Int) % 2 = ((e % 2 : Nat) : Int) from by omega]
    simp [onN]

theorem onN_not (l : List Nat) (e : Nat) (h : e < 2 ^ l.length) : onN l e + onN l (2 ^ l.length - 1 - e) = l.sum := by
  induction l generalizing e with
  | nil => simp [onN]
  | cons x l ih =>
    simp only [onN, List.sum_cons, List.length_cons] at *
    have hp : 2 ^ (l.length + 1) = 2 * 2 ^ l.length := by rw [Nat.pow_succ, Nat.mul_comm]
    have := ih (e / 2) (by omega)
    rw [show (2 ^ (l.length + 1) - 1 - e) / 2 = 2 ^ l.length - 1 - e / 2 from by omega]
    rcases Nat.mod_two_eq_zero_or_one e with h2 | h2
    · rw [h2, show (2 ^ (l.length + 1) - 1 - e) % 2 = 1 from by omega]; omega
    · rw [h2, show (2 ^ (l.length + 1) - 1 - e) % 2 = 0 from by omega]; omega

theorem onN_lin (l : List Nat) (f g : Nat → Nat) (a b : Nat) (h : ∀ x ∈ l, x = a * f x + b * g x) (e : Nat) : onN l e = a * onN (l.map f) e + b * onN (l.map g) e := by
  induction l generalizing e with
  | nil => simp [onN]
  | cons x l ih =>
    simp only [onN, List.map_cons]
    rw [ih (fun y hy => h y (by simp [hy])) (e / 2)]
    have := h x (by simp)
    rcases Nat.mod_two_eq_zero_or_one e with h2 | h2 <;> rw [h2]
    · simp
    · simp only [Nat.one_mul, Nat.mul_add]; omega

theorem sum_lin (l : List Nat) (f g : Nat → Nat) (a b : Nat) (h : ∀ x ∈ l, x = a * f x + b * g x) : l.sum = a * (l.map f).sum + b * (l.map g).sum := by
  induction l with
  | nil => simp
  | cons x l ih =>
    simp only [List.sum_cons, List.map_cons]
    rw [ih (fun y hy => h y (by simp [hy]))]
    have := h x (by simp)
    simp only [Nat.mul_add]; omega

/-- both together, the first one twice -/
def two1 : List Nat → List Nat → List Nat
  | x :: a, y :: b => (2 * x + y) :: two1 a b
  | _, _ => []

theorem two1_facts (a b : List Nat) (h : a.length = b.length) : (two1 a b).length = a.length ∧ (two1 a b).sum = 2 * a.sum + b.sum ∧ ∀ e, onN (two1 a b) e = 2 * onN a e + onN b e := by
  induction a generalizing b with
  | nil =>
    cases b with
    | nil => simp [two1, onN]
    | cons y b => simp at h
  | cons x a ih =>
    cases b with
    | nil => simp at h
    | cons y b =>
      obtain ⟨h1, h2, h3⟩ := ih b (by simpa using h)
      refine ⟨by simp [two1, h1], by simp only [two1, List.sum_cons, h2]; omega, fun e => ?_⟩
      simp only [two1, onN, h3]
      rcases Nat.mod_two_eq_zero_or_one e with h2 | h2 <;> rw [h2] <;> omega

theorem tup_mem (l : List Nat) (h : ∀ x ∈ l, x < 6) : l ∈ tup l.length := by
  induction l with
  | nil => simp [tup]
  | cons x l ih =>
    simp only [List.length_cons, tup, List.mem_flatMap, List.mem_range, List.mem_map]
    exact ⟨x, h x (by simp), l, ih (fun y hy => h y (by simp [hy])), rfl⟩

theorem unit_of {w : Nat} (h1 : 1 ≤ w) (h4 : w ≤ 4) {r : List Nat} (hr : r ∈ tup w) : unitB w r = true := by
  obtain ⟨t1, t2, t3, t4⟩ := unit_tab
  obtain rfl | rfl | rfl | rfl : w = 1 ∨ w = 2 ∨ w = 3 ∨ w = 4 := by omega
  · exact List.all_eq_true.1 t1 r hr
  · exact List.all_eq_true.1 t2 r hr
  · exact List.all_eq_true.1 t3 r hr
  · exact List.all_eq_true.1 t4 r hr

def normE (w e : Nat) : Nat := if e % 2 = 1 then 2 ^ w - 1 - e else e

theorem norm_even {w e : Nat} (h1 : 1 ≤ w) (he : e < 2 ^ w) : normE w e < 2 ^ w ∧ normE w e % 2 = 0 := by
  obtain ⟨v, rfl⟩ : ∃ v, w = v + 1 := ⟨w - 1, by omega⟩
  have hp : 2 ^ (v + 1) = 2 * 2 ^ v := by rw [Nat.pow_succ, Nat.mul_comm]
  unfold normE
  split <;> omega

/-- what holds of the normal event holds of the event -/
theorem norm_on {w e a b : Nat} {l c : List Nat} (hl : l.length = w) (hc : c.length = w) (he : e < 2 ^ w) (hs : a * l.sum = b * c.sum) (h : a * onN l (normE w e) = b * onN c (normE w e)) : a * onN l e = b * onN c e := by
  unfold normE at h
  split at h
  · have h1 := onN_not l e (by rw [hl]; exact he)
    have h2 := onN_not c e (by rw [hc]; exact he)
    rw [hl] at h1
    rw [hc] at h2
    rw [← h1, ← h2, Nat.mul_add, Nat.mul_add] at hs
    omega
  · exact h

theorem norm_mod {w e : Nat} {l : List Nat} (hl : l.length = w) (he : e < 2 ^ w) (hs : l.sum % 6 = 0) (h : onN l e % 6 = 0) : onN l (normE w e) % 6 = 0 := by
  unfold normE
  split
  · have h1 := onN_not l e (by rw [hl]; exact he)
    rw [hl] at h1
    omega
  · exact h

/-- three events: there is a way of units of three grains -/
theorem unit_three {w : Nat} (h1 : 1 ≤ w) (h4 : w ≤ 4) {l : List Nat} (hl : l ∈ lay w 36) {e1 e2 e3 : Nat} (b1 : e1 < 2 ^ w) (b2 : e2 < 2 ^ w) (b3 : e3 < 2 ^ w)
    (m1 : onN l e1 % 6 = 0) (m2 : onN l e2 % 6 = 0) (m3 : onN l e3 % 6 = 0) : ∃ c ∈ lay w 12, onN l e1 = 3 * onN c e1 ∧ onN l e2 = 3 * onN c e2 ∧ onN l e3 = 3 * onN c e3 := by
  obtain ⟨v, rfl⟩ : ∃ v, w = v + 1 := ⟨w - 1, by omega⟩
  obtain ⟨hlen, hsum⟩ := (mem_lay _ _ _).1 hl
  have hlin : ∀ x ∈ l, x = 6 * (x / 6) + 1 * (x % 6) := fun x _ => by omega
  have hon := onN_lin l (· / 6) (· % 6) 6 1 hlin
  have hsm := sum_lin l (· / 6) (· % 6) 6 1 hlin
  have hrl : (l.map (· % 6)).length = v + 1 := by simp [hlen]
  have hdl : (l.map (· / 6)).length = v + 1 := by simp [hlen]
  have hrt : l.map (· % 6) ∈ tup (v + 1) := by
    have := tup_mem (l.map (· % 6)) (fun x hx => by obtain ⟨y, -, rfl⟩ := List.mem_map.1 hx; show y % 6 < 6; omega)
    rwa [hrl] at this
  have hu := unit_of h1 h4 hrt
  generalize hr : l.map (· % 6) = r at *
  generalize hd : l.map (· / 6) = d at *
  have hr6 : r.sum % 6 = 0 := by omega
  unfold unitB at hu
  rw [hr6] at hu
  simp only [beq_self_eq_true, Bool.not_true, Bool.false_or, List.all_eq_true] at hu
  have hmem : ∀ e, e < 2 ^ (v + 1) → onN l e % 6 = 0 → normE (v + 1) e ∈ evs (v + 1) r := by
    intro e he hm
    obtain ⟨n1, n2⟩ := norm_even h1 he
    have n3 := norm_mod hlen he (by omega) hm
    rw [hon] at n3
    unfold evs
    rw [List.mem_filter, List.mem_range]
    refine ⟨n1, ?_⟩
    simp only [Bool.and_eq_true, beq_iff_eq]
    exact ⟨n2, by omega⟩
  have ht := hu _ (hmem e1 b1 m1) _ (hmem e2 b2 m2) _ (hmem e3 b3 m3)
  obtain ⟨c, hc, hcc⟩ := List.any_eq_true.1 ht
  simp only [Bool.and_eq_true, beq_iff_eq] at hcc
  obtain ⟨hcl, hcs⟩ := (mem_lay _ _ _).1 hc
  obtain ⟨f1, f2, f3⟩ := two1_facts d c (by omega)
  have hsum2 : 1 * l.sum = 3 * (two1 d c).sum := by omega
  have key : ∀ e, e < 2 ^ (v + 1) → onN c (normE (v + 1) e) * 3 = onN r (normE (v + 1) e) → onN l e = 3 * onN (two1 d c) e := by
    intro e he hk
    have := norm_on (a := 1) (b := 3) hlen (by omega) he hsum2 (by rw [hon, f3]; omega)
    omega
  refine ⟨two1 d c, (mem_lay _ _ _).2 ⟨by omega, by omega⟩, key e1 b1 hcc.1.1, key e2 b2 hcc.1.2, key e3 b3 hcc.2⟩

theorem ev_nat {w : Nat} {q : Qt} (h : qokB (w : Int) q = true) : ∃ e : Nat, q.1 = (e : Int) ∧ e < 2 ^ w := by
  obtain ⟨h1, h2, h3, h4⟩ := (evB_iff _ _).1 ((qokB_iff _ _).1 h).1
  refine ⟨q.1.toNat, by omega, ?_⟩
  unfold allI at h4
  rw [Int.toNat_natCast] at h4
  have : ((2 ^ w : Nat) : Int) = 2 ^ w := by simp
  omega

/-- a book that a measure fits is fitted by units of three grains -/
theorem unit_book {w : Nat} {qs : List Qt} (hb : bokB (w : Int) qs = true) {l : List Nat} (hl : l ∈ lay w 36) (hf : fitI (natL l) qs = true) : ∃ c ∈ lay w 12, ∀ q ∈ qs, onI (natL c) q.1 * 3 = 6 * q.2 := by
  obtain ⟨⟨w1, w4⟩, hq3, hq⟩ := (bokB_iff _ _).1 hb
  have h1 : 1 ≤ w := by omega
  have h4 : w ≤ 4 := by omega
  have hz : onN l 0 % 6 = 0 := by
    have : ∀ l : List Nat, onN l 0 = 0 := fun l => by
      induction l with
      | nil => rfl
      | cons x l ih => simp [onN, ih]
    rw [this]
  have hp : 0 < 2 ^ w := Nat.two_pow_pos w
  have hone : ∀ q ∈ qs, ∃ e : Nat, q.1 = (e : Int) ∧ e < 2 ^ w ∧ (onN l e : Int) = 6 * q.2 ∧ onN l e % 6 = 0 := by
    intro q hqm
    obtain ⟨e, he, hlt⟩ := ev_nat (hq q hqm)
    have := (fitI_iff _ _).1 hf q hqm
    rw [he, onN_cast] at this
    have hp := ((qokB_iff _ _).1 (hq q hqm)).2
    exact ⟨e, he, hlt, this, by omega⟩
  have fin : ∀ (c : List Nat) (q : Qt) (e : Nat), q.1 = (e : Int) → (onN l e : Int) = 6 * q.2 → onN l e = 3 * onN c e → onI (natL c) q.1 * 3 = 6 * q.2 := by
    intro c q e he h6 h3
    rw [he, onN_cast]; omega
  match qs, hq3, hone with
  | [], _, _ =>
    obtain ⟨c, hc, -⟩ := unit_three h1 h4 hl hp hp hp hz hz hz
    exact ⟨c, hc, fun q h => by cases h⟩
  | [q1], _, ho =>
    obtain ⟨e1, a1, b1, c1, d1⟩ := ho q1 (by simp)
    obtain ⟨c, hc, k1, -, -⟩ := unit_three h1 h4 hl b1 hp hp d1 hz hz
    refine ⟨c, hc, fun q h => ?_⟩
    obtain rfl : q = q1 := by simpa using h
    exact fin c q e1 a1 c1 k1
  | [q1, q2], _, ho =>
    obtain ⟨e1, a1, b1, c1, d1⟩ := ho q1 (by simp)
    obtain ⟨e2, a2, b2, c2, d2⟩ := ho q2 (by simp)
    obtain ⟨c, hc, k1, k2, -⟩ := unit_three h1 h4 hl b1 b2 hp d1 d2 hz
    refine ⟨c, hc, fun q h => ?_⟩
    have h : q = q1 ∨ q = q2 := by simpa using h
    rcases h with rfl | rfl
    · exact fin c q e1 a1 c1 k1
    · exact fin c q e2 a2 c2 k2
  | [q1, q2, q3], _, ho =>
    obtain ⟨e1, a1, b1, c1, d1⟩ := ho q1 (by simp)
    obtain ⟨e2, a2, b2, c2, d2⟩ := ho q2 (by simp)
    obtain ⟨e3, a3, b3, c3, d3⟩ := ho q3 (by simp)
    obtain ⟨c, hc, k1, k2, k3⟩ := unit_three h1 h4 hl b1 b2 b3 d1 d2 d3
    refine ⟨c, hc, fun q h => ?_⟩
    have h : q = q1 ∨ q = q2 ∨ q = q3 := by simpa using h
    rcases h with rfl | rfl | rfl
    · exact fin c q e1 a1 c1 k1
    · exact fin c q e2 a2 c2 k2
    · exact fin c q e3 a3 c3 k3
  | _ :: _ :: _ :: _ :: _, h3, _ => simp at h3

/-- some measure fits -/
def anyFit (w : Nat) (qs : List Qt) : Bool := (lay w 36).any fun l => fitI (natL l) qs

/-- some measure of units fits -/
def anyUnit (w u : Nat) (qs : List Qt) : Bool := (lay w (36 / u)).any fun c => qs.all fun q => onI (natL c) q.1 * u * 6 == q.2 * 36

theorem onI_scale (c : List Nat) (u : Nat) (e : Int) : onI (natL (c.map (u * ·))) e = u * onI (natL c) e := by
  induction c generalizing e with
  | nil => simp [natL, onI]
  | cons x c ih =>
    show e % 2 * ((u * x : Nat) : Int) + onI (natL (c.map (u * ·))) (e / 2) = u * (e % 2 * (x : Int) + onI (natL c) (e / 2))
    rw [ih]
    rcases Int.emod_two_eq e with h | h <;> rw [h]
    · simp
    · rw [Int.one_mul, Int.one_mul, Int.mul_add]; rfl

theorem sum_scale (c : List Nat) (u : Nat) : (c.map (u * ·)).sum = u * c.sum := by
  induction c with
  | nil => simp
  | cons x c ih => simp [ih, Nat.mul_add]

theorem unit_fit {w u : Nat} {qs : List Qt} (h1 : 1 ≤ w) (hu : u * (36 / u) = 36) (h : anyUnit w u qs = true) : anyFit w qs = true := by
  obtain ⟨v, rfl⟩ : ∃ v, w = v + 1 := ⟨w - 1, by omega⟩
  obtain ⟨c, hc, hf⟩ := List.any_eq_true.1 h
  obtain ⟨hl, hs⟩ := (mem_lay _ _ _).1 hc
  refine List.any_eq_true.2 ⟨c.map (u * ·), (mem_lay _ _ _).2 ⟨by simp [hl], by rw [sum_scale, hs, hu]⟩, ?_⟩
  rw [fitI_iff]
  intro q hq
  have := List.all_eq_true.1 hf q hq
  rw [beq_iff_eq] at this
  rw [onI_scale, Int.mul_comm]; omega

theorem fair_units {w : Nat} {qs : List Qt} (hb : bokB (w : Int) qs = true) : (anyUnit w 6 qs || (anyUnit w 3 qs || anyUnit w 2 qs)) = anyFit w qs := by
  have h1 : 1 ≤ w := by have := ((bokB_iff _ _).1 hb).1; omega
  rw [Bool.eq_iff_iff]
  simp only [Bool.or_eq_true]
  constructor
  · rintro (h | h | h)
    · exact unit_fit h1 (by decide) h
    · exact unit_fit h1 (by decide) h
    · exact unit_fit h1 (by decide) h
  · intro h
    obtain ⟨l, hl, hf⟩ := List.any_eq_true.1 h
    obtain ⟨c, hc, hcc⟩ := unit_book hb hl hf
    refine .inr (.inl (List.any_eq_true.2 ⟨c, hc, List.all_eq_true.2 fun q hq => ?_⟩))
    have := hcc q hq
    rw [beq_iff_eq]
    show onI (natL c) q.1 * (3 : Int) * 6 = q.2 * 36
    omega

end Go.Proofs.Yteljcicdibbhdaa

namespace Go.Proofs.Yteljcicdibbhdaa
set_option linter.unusedVariables false

/-! grains on events -/

theorem onI_not (m : List Int) (e : Int) (h0 : 0 ≤ e) (h : e < 2 ^ m.length) : onI m e + onI m (2 ^ m.length - 1 - e) = m.sum := by
  induction m generalizing e with
  | nil => simp [onI]
  | cons x m ih =>
    simp only [onI, List.sum_cons, List.length_cons] at *
    have hp : (2 : Int) ^ (m.length + 1) = 2 * 2 ^ m.length := by rw [Int.pow_succ, Int.mul_comm]
    have := ih (e / 2) (by omega) (by omega)
    rw [show (2 ^ (m.length + 1) - 1 - e) / 2 = 2 ^ m.length - 1 - e / 2 from by omega]
    rcases Int.emod_two_eq e with h2 | h2
    · rw [h2, show (2 ^ (m.length + 1) - 1 - e) % 2 = 1 from by omega]; omega
    · rw [h2, show (2 ^ (m.length + 1) - 1 - e) % 2 = 0 from by omega]; omega

theorem onI_zero (m : List Int) : onI m 0 = 0 := by
  induction m with
  | nil => rfl
  | cons x m ih => simp [onI, ih]

theorem on_notI {m : List Int} {w e : Int} (hw : w = (m.length : Int)) (h : evB w e = true) : onI m e + onI m (notI w e) = m.sum := by
  obtain ⟨h1, h2, h3, h4⟩ := (evB_iff _ _).1 h
  rw [notI_eq h]
  subst hw
  unfold allI at h4 ⊢
  rw [Int.toNat_natCast] at h4 ⊢
  exact onI_not m e h3 (by omega)

theorem on_all (m : List Int) : onI m (2 ^ m.length - 1) = m.sum := by
  have := onI_not m 0 (by omega) (Int.pow_pos (by decide))
  rw [onI_zero] at this
  rw [show (2 : Int) ^ m.length - 1 - 0 = 2 ^ m.length - 1 from by omega] at this
  omega

/-! what gambles bring -/

def brI : List Int → List Int → Int
  | x :: m, y :: g => x * y + brI m g
  | _, _ => 0

theorem brI_snoc (m g : List Int) (x y : Int) (h : m.length = g.length) : brI (m ++ [x]) (g ++ [y]) = brI m g + x * y := by
  induction m generalizing g with
  | nil =>
    obtain rfl := List.eq_nil_of_length_eq_zero h.symm
    simp [brI]
  | cons a m ih =>
    cases g with
    | nil => simp at h
    | cons b g =>
      simp only [List.cons_append, brI]
      rw [ih g (by simpa using h)]; omega

theorem brI_take {m g : List Int} {k : Nat} {x y : Int} (hx : m[k]? = some x) (hy : g[k]? = some y) (h : m.length = g.length) : brI (m.take (k + 1)) (g.take (k + 1)) = brI (m.take k) (g.take k) + x * y := by
  rw [List.take_add_one, List.take_add_one, hx, hy]
  exact brI_snoc _ _ _ _ (by simp [h])

theorem brI_bounds (m g : List Int) (h : m.length = g.length) (hm : ∀ x ∈ m, 0 ≤ x) (a b : Int) (ha : ∀ y ∈ g, a ≤ y) (hb : ∀ y ∈ g, y ≤ b) : m.sum * a ≤ brI m g ∧ brI m g ≤ m.sum * b := by
  induction m generalizing g with
  | nil => simp [brI]
  | cons x m ih =>
    cases g with
    | nil => simp at h
    | cons y g =>
      obtain ⟨h1, h2⟩ := ih g (by simpa using h) (fun z hz => hm z (by simp [hz])) (fun z hz => ha z (by simp [hz])) (fun z hz => hb z (by simp [hz]))
      have hx := hm x (by simp)
      have e1 := Int.mul_le_mul_of_nonneg_left (ha y (by simp)) hx
      have e2 := Int.mul_le_mul_of_nonneg_left (hb y (by simp)) hx
      simp only [brI, List.sum_cons, Int.add_mul]
      omega

theorem brI_neg (m g : List Int) : brI m (mulL g (-1)) = - brI m g := by
  induction m generalizing g with
  | nil => simp [brI]
  | cons x m ih =>
    cases g with
    | nil => simp [brI, mulL]
    | cons y g =>
      show x * (y * -1) + brI m (mulL g (-1)) = -(x * y + brI m g)
      rw [ih, Int.mul_neg_one, Int.mul_neg]; omega

theorem brI_add (m : List Int) (l : List Nat) (f g : Nat → Int) : brI m (l.map fun k => f k + g k) = brI m (l.map f) + brI m (l.map g) := by
  induction m generalizing l with
  | nil => simp [brI]
  | cons x m ih =>
    cases l with
    | nil => simp [brI]
    | cons k l => simp only [List.map_cons, brI, ih, Int.mul_add]; omega

theorem brI_gain (m : List Int) (q : Qt) (s : Int) : brI m ((List.range m.length).map (gainI q s)) = s * (6 * onI m q.1 - q.2 * m.sum) := by
  induction m generalizing q with
  | nil => simp [brI, onI]
  | cons x m ih =>
    rw [List.length_cons, List.range_succ_eq_map, List.map_cons, List.map_map]
    have hs : (gainI q s ∘ Nat.succ) = gainI (q.1 / 2, q.2) s := by
      funext k
      show s * (bitI q.1 (k + 1) * 6 - q.2) = s * (bitI (q.1 / 2) k * 6 - q.2)
      rw [bitI_succ]
    rw [hs]
    simp only [brI, onI, List.sum_cons]
    rw [ih (q.1 / 2, q.2)]
    unfold gainI
    rw [bitI_zero]
    show x * (s * (q.1 % 2 * 6 - q.2)) + s * (6 * onI m (q.1 / 2) - q.2 * m.sum) = s * (6 * (q.1 % 2 * x + onI m (q.1 / 2)) - q.2 * (x + m.sum))
    rw [Int.mul_left_comm, ← Int.mul_add]
    congr 1
    rcases Int.emod_two_eq q.1 with h | h <;> rw [h] <;> simp only [Int.mul_sub, Int.mul_add, Int.mul_comm x q.2] <;> omega

/-- by what fits, a book's balance brings nothing -/
theorem brI_bal (m : List Int) (qs : List Qt) (ss : List Int) (h : ∀ q ∈ qs, 6 * onI m q.1 = q.2 * m.sum) : brI m ((List.range m.length).map (balI qs ss)) = 0 := by
  have hz : ∀ (m : List Int) (l : List Nat), brI m (l.map fun _ => (0 : Int)) = 0 := by
    intro m
    induction m with
    | nil => intro l; simp [brI]
    | cons x m ih =>
      intro l
      cases l with
      | nil => simp [brI]
      | cons k l => simp only [List.map_cons, brI, ih]; simp
  induction qs generalizing ss with
  | nil => exact hz m _
  | cons q qs ih =>
    cases ss with
    | nil => exact hz m _
    | cons s ss =>
      have : balI (q :: qs) (s :: ss) = fun k => gainI q s k + balI qs ss k := rfl
      rw [this, brI_add, brI_gain, ih ss (fun p hp => h p (by simp [hp])), h q (by simp)]
      simp

theorem mea_parts {m : List Int} (h : meaB m = true) : (∀ x ∈ m, 0 ≤ x) ∧ m.sum = 36 ∧ 1 ≤ m.length ∧ m.length ≤ 4 := by
  obtain ⟨h1, h2, h3, h4⟩ := (meaB_iff m).1 h
  exact ⟨fun x hx => (h1 x hx).1, h4, h2, h3⟩

/-- each bet alone brings nothing just if the measure fits -/
theorem fit_gain {m : List Int} (hm : meaB m = true) {q : Qt} : brI m (gainL (m.length : Int) q 1) = 0 ↔ onI m q.1 = 6 * q.2 := by
  obtain ⟨-, hs, -, -⟩ := mea_parts hm
  unfold gainL
  rw [Int.toNat_natCast, brI_gain, hs]
  omega

theorem fit_bal {m : List Int} (hm : meaB m = true) {qs : List Qt} (hf : fitI m qs = true) (ss : List Int) : brI m (balL (m.length : Int) qs ss) = 0 := by
  obtain ⟨-, hs, -, -⟩ := mea_parts hm
  unfold balL
  rw [Int.toNat_natCast]
  refine brI_bal m qs ss fun q hq => ?_
  have := (fitI_iff _ _).1 hf q hq
  rw [hs]; omega

theorem br_between {m g : List Int} (hm : meaB m = true) (hg : gokB g = true) (h : m.length = g.length) : 36 * worstI g ≤ brI m g ∧ brI m g ≤ 36 * bestI g := by
  obtain ⟨h0, hs, -, -⟩ := mea_parts hm
  have := brI_bounds m g h h0 (worstI g) (bestI g) (worst_least hg).2 (best_greatest hg).2
  rwa [hs] at this

/-! fair books -/

theorem fit_sub {m : List Int} {qs ps : List Qt} (h : ∀ q ∈ ps, q ∈ qs) (hf : fitI m qs = true) : fitI m ps = true := by
  rw [fitI_iff] at *
  exact fun q hq => hf q (h q hq)

theorem any_sub {w : Nat} {qs ps : List Qt} (h : ∀ q ∈ ps, q ∈ qs) (hf : anyFit w qs = true) : anyFit w ps = true := by
  obtain ⟨l, hl, hf⟩ := List.any_eq_true.1 hf
  exact List.any_eq_true.2 ⟨l, hl, fit_sub h hf⟩

theorem fit_other {w : Nat} {l : List Nat} (hw : l.length = w) (hs : l.sum = 36) {q : Qt} (hq : qokB (w : Int) q = true) : onI (natL l) (otherQ (w : Int) q).1 = 6 * (otherQ (w : Int) q).2 ↔ onI (natL l) q.1 = 6 * q.2 := by
  have := on_notI (m := natL l) (w := (w : Int)) (by rw [natL_len, hw]) ((qokB_iff _ _).1 hq).1
  rw [natL_sum, hs] at this
  show onI (natL l) (notI w q.1) = 6 * (6 - q.2) ↔ _
  omega

/-- with the other quote for the first one a book is as fair -/
theorem any_other {w : Nat} (h1 : 1 ≤ w) {q : Qt} {qs : List Qt} (hq : qokB (w : Int) q = true) : anyFit w (otherQ (w : Int) q :: qs) = anyFit w (q :: qs) := by
  obtain ⟨v, rfl⟩ : ∃ v, w = v + 1 := ⟨w - 1, by omega⟩
  rw [Bool.eq_iff_iff]
  unfold anyFit
  simp only [List.any_eq_true]
  constructor
  · rintro ⟨l, hl, hf⟩
    obtain ⟨hlen, hs⟩ := (mem_lay _ _ _).1 hl
    refine ⟨l, hl, (fitI_iff _ _).2 fun p hp => ?_⟩
    rw [fitI_iff] at hf
    rcases List.mem_cons.1 hp with rfl | hp
    · exact (fit_other hlen hs hq).1 (hf _ (by simp))
    · exact hf p (by simp [hp])
  · rintro ⟨l, hl, hf⟩
    obtain ⟨hlen, hs⟩ := (mem_lay _ _ _).1 hl
    refine ⟨l, hl, (fitI_iff _ _).2 fun p hp => ?_⟩
    rw [fitI_iff] at hf
    rcases List.mem_cons.1 hp with rfl | hp
    · exact (fit_other hlen hs hq).2 (hf _ (by simp))
    · exact hf p (by simp [hp])

theorem any_nil {w : Nat} (h1 : 1 ≤ w) : anyFit w [] = true := by
  obtain ⟨v, rfl⟩ : ∃ v, w = v + 1 := ⟨w - 1, by omega⟩
  have h := lay_first v 36
  exact List.any_eq_true.2 ⟨_, List.mem_of_getElem? h, rfl⟩

def oneB (w : Nat) : Bool := (List.range (2 ^ w)).all fun e => (List.range 7).all fun p =>
  anyUnit w 6 [((e : Int), (p : Int))] == !((e == 0 && p != 0) || (e == 2 ^ w - 1 && p != 6))

theorem one_tab : oneB 1 = true ∧ oneB 2 = true ∧ oneB 3 = true ∧ oneB 4 = true := by decide +kernel

/-- a book of one quote is fair but for never and always -/
theorem any_one {w : Nat} {q : Qt} (hb : bokB (w : Int) [q] = true) : anyFit w [q] = !((q.1 == 0 && q.2 != 0) || (q.1 == 2 ^ w - 1 && q.2 != 6)) := by
  obtain ⟨⟨w1, w4⟩, -, hq⟩ := (bokB_iff _ _).1 hb
  have hq := hq q (by simp)
  obtain ⟨e, he, hlt⟩ := ev_nat hq
  obtain ⟨hp0, hp6⟩ := ((qokB_iff _ _).1 hq).2
  obtain ⟨p, hp⟩ : ∃ p : Nat, q.2 = p := ⟨q.2.toNat, by omega⟩
  obtain rfl : q = ((e : Int), (p : Int)) := Prod.ext he hp
  have ht : oneB w = true := by
    obtain ⟨t1, t2, t3, t4⟩ := one_tab
    obtain rfl | rfl | rfl | rfl : w = 1 ∨ w = 2 ∨ w = 3 ∨ w = 4 := by omega
    · exact t1
    · exact t2
    · exact t3
    · exact t4
  have hp7 : p < 7 := by simp at hp6; omega
  have h6 := List.all_eq_true.1 (List.all_eq_true.1 ht e (List.mem_range.2 hlt)) p (List.mem_range.2 hp7)
  rw [beq_iff_eq] at h6
  have hc : (!((e == 0 && p != 0) || (e == 2 ^ w - 1 && p != 6))) = !(((e : Int) == 0 && (p : Int) != 0) || ((e : Int) == 2 ^ w - 1 && (p : Int) != 6)) := by
    have c1 : (e == 0) = ((e : Int) == 0) := by rw [Bool.eq_iff_iff]; simp
    have c2 : (p != 0) = ((p : Int) != 0) := by rw [Bool.eq_iff_iff]; simp
    have c4 : (p != 6) = ((p : Int) != 6) := by rw [Bool.eq_iff_iff]; simp; omega
    have hpow : ((2 ^ w : Nat) : Int) = 2 ^ w := by simp
    have hpos : 0 < 2 ^ w := Nat.two_pow_pos w
    have c3 : (e == 2 ^ w - 1) = ((e : Int) == 2 ^ w - 1) := by rw [Bool.eq_iff_iff]; simp only [beq_iff_eq]; omega
    rw [c1, c2, c3, c4]
  rw [← hc, ← h6]
  rw [Bool.eq_iff_iff]
  constructor
  · intro h
    rw [h6]
    obtain ⟨l, hl, hf⟩ := List.any_eq_true.1 h
    obtain ⟨v, rfl⟩ : ∃ v, w = v + 1 := ⟨w - 1, by omega⟩
    obtain ⟨hlen, hs⟩ := (mem_lay _ _ _).1 hl
    have hf := (fitI_iff _ _).1 hf _ (List.mem_singleton.2 rfl)
    rw [hc]
    simp only [Bool.not_eq_true', Bool.or_eq_false_iff, Bool.and_eq_false_iff, bne_eq_false_iff_eq, beq_eq_false_iff_ne]
    have hall := on_all (natL l)
    rw [natL_len, hlen, natL_sum, hs] at hall
    constructor
    · by_cases h0 : (e : Int) = 0
      · right
        rw [show ((e : Int), (p : Int)).1 = 0 from h0, onI_zero] at hf
        simp at hf; omega
      · exact .inl h0
    · by_cases h0 : (e : Int) = 2 ^ (v + 1) - 1
      · right
        rw [show ((e : Int), (p : Int)).1 = 2 ^ (v + 1) - 1 from h0, hall] at hf
        simp at hf; omega
      · exact .inl h0
  · intro h
    exact unit_fit (by omega) (by decide) h

/-! the first measure -/

def firstFit (w : Nat) (qs : List Qt) : Option (List Nat) := (lay w 36).find? fun l => fitI (natL l) qs

theorem first_any (w : Nat) (qs : List Qt) : (firstFit w qs).isSome = anyFit w qs := by
  unfold firstFit anyFit
  rw [Bool.eq_iff_iff, List.find?_isSome, List.any_eq_true]

theorem lay_heads (w g : Nat) : (lay (w + 1) g).Pairwise fun m n => m.headD 0 ≤ n.headD 0 := by
  cases w with
  | zero => exact List.pairwise_singleton _ _
  | succ w =>
    rw [show lay (w + 1 + 1) g = (List.range (g + 1)).flatMap fun a => (lay (w + 1) (g - a)).map fun m => a :: m from rfl, List.pairwise_flatMap]
    constructor
    · intro a _
      rw [List.pairwise_map]
      exact List.pairwise_of_forall (fun _ _ => Nat.le_refl a)
    · refine List.pairwise_lt_range.imp ?_
      intro a b hab x hx y hy
      obtain ⟨m, -, rfl⟩ := List.mem_map.1 hx
      obtain ⟨n, -, rfl⟩ := List.mem_map.1 hy
      exact Nat.le_of_lt hab

/-- the first one has no more grains on world 0 than any that fits -/
theorem first_least {w : Nat} (h1 : 1 ≤ w) {qs : List Qt} {l l' : List Nat} (h : firstFit w qs = some l) (hl' : l' ∈ lay w 36) (hf : fitI (natL l') qs = true) : l.headD 0 ≤ l'.headD 0 := by
  obtain ⟨v, rfl⟩ : ∃ v, w = v + 1 := ⟨w - 1, by omega⟩
  obtain ⟨-, xs, ys, e, hno⟩ := List.find?_eq_some_iff_append.1 h
  have hp := lay_heads v 36
  rw [e] at hp hl'
  have h2 := (List.pairwise_append.1 hp).2.1
  rcases List.mem_append.1 hl' with h3 | h3
  · have := hno l' h3
    rw [hf] at this; cases this
  · rcases List.mem_cons.1 h3 with rfl | h3
    · exact Nat.le_refl _
    · exact (List.pairwise_cons.1 h2).1 l' h3

theorem on_one (l : List Nat) : onI (natL l) 1 = (l.headD 0 : Nat) := by
  cases l with
  | nil => rfl
  | cons x l =>
    show (1 : Int) % 2 * (x : Int) + onI (natL l) (1 / 2) = _
    rw [show (1 : Int) / 2 = 0 from rfl, onI_zero]; simp

/-- with a further quote for world 0 the book is fair at no price below the first measure's grains there -/
theorem first_price {w : Nat} (h1 : 1 ≤ w) {qs : List Qt} {l : List Nat} (h : firstFit w qs = some l) {p : Int} (hf : anyFit w (qs ++ [(1, p)]) = true) : (l.headD 0 : Int) ≤ 6 * p := by
  obtain ⟨l', hl', hf'⟩ := List.any_eq_true.1 hf
  have h2 := first_least h1 h hl' (fit_sub (fun q hq => by simp [hq]) hf')
  have h3 := (fitI_iff _ _).1 hf' (1, p) (by simp)
  rw [show ((1 : Int), p).1 = 1 from rfl, on_one] at h3
  have : (l'.headD 0 : Int) = 6 * p := h3
  omega

/-! how many -/

def countFit (w : Nat) (qs : List Qt) : Nat := ((lay w 36).filter fun l => fitI (natL l) qs).length

theorem count_any (w : Nat) (qs : List Qt) : decide (0 < countFit w qs) = anyFit w qs := by
  unfold countFit anyFit
  rw [Bool.eq_iff_iff, decide_eq_true_eq, List.any_eq_true, List.length_pos_iff_exists_mem]
  simp only [List.mem_filter]

theorem count_sub {w : Nat} {qs ps : List Qt} (h : ∀ q ∈ ps, q ∈ qs) : countFit w qs ≤ countFit w ps := by
  unfold countFit
  have : ((lay w 36).filter fun l => fitI (natL l) qs) = ((lay w 36).filter fun l => fitI (natL l) ps).filter fun l => fitI (natL l) qs := by
    rw [List.filter_filter]
    apply List.filter_congr
    intro l _
    rw [Bool.eq_iff_iff, Bool.and_eq_true]
    exact ⟨fun hf => ⟨hf, fit_sub h hf⟩, fun hf => hf.1⟩
  rw [this]
  exact List.length_filter_le _ _

theorem count_nil {w : Nat} (h1 : 1 ≤ w) (h4 : w ≤ 4) : countFit w [] = (lay w 36).length := by
  unfold countFit
  congr 1
  exact List.filter_eq_self.2 (fun _ _ => rfl)

theorem count_le {w : Nat} (h1 : 1 ≤ w) (h4 : w ≤ 4) (qs : List Qt) : countFit w qs ≤ 9139 := by
  have := count_sub (w := w) (qs := qs) (ps := []) (fun q hq => by cases hq)
  rw [count_nil h1 h4] at this
  obtain ⟨l1, l2, l3, l4⟩ := lay_len36
  obtain rfl | rfl | rfl | rfl : w = 1 ∨ w = 2 ∨ w = 3 ∨ w = 4 := by omega
  all_goals omega

/-! measures turned round, and mixed ones -/

theorem mea_reverse (m : List Int) : meaB m.reverse = meaB m := by
  unfold meaB
  rw [List.all_reverse, List.length_reverse, List.sum_reverse]

def addI : List Int → List Int → List Int
  | x :: a, y :: b => (x + y) :: addI a b
  | _, _ => []

/-- both together, halved -/
def mixL : List Int → List Int → List Int
  | x :: a, y :: b => (x + y) / 2 :: mixL a b
  | _, _ => []

def evenB : List Int → List Int → Bool
  | x :: a, y :: b => (x + y) % 2 == 0 && evenB a b
  | _, _ => true

def mixB (a b : List Int) : Bool := meaB a && meaB b && decide (a.length = b.length) && evenB a b

theorem mix_facts (a b : List Int) (h : a.length = b.length) (he : evenB a b = true) : (mixL a b).length = a.length ∧ 2 * (mixL a b).sum = a.sum + b.sum ∧ ∀ e, 2 * onI (mixL a b) e = onI a e + onI b e := by
  induction a generalizing b with
  | nil =>
    cases b with
    | nil => simp [mixL, onI]
    | cons y b => simp at h
  | cons x a ih =>
    cases b with
    | nil => simp at h
    | cons y b =>
      simp only [evenB, Bool.and_eq_true, beq_iff_eq] at he
      obtain ⟨h1, h2, h3⟩ := ih b (by simpa using h) he.2
      refine ⟨by simp [mixL, h1], by simp only [mixL, List.sum_cons]; omega, fun e => ?_⟩
      simp only [mixL, onI]
      have := h3 (e / 2)
      rcases Int.emod_two_eq e with h4 | h4 <;> rw [h4] <;> omega

theorem mix_nonneg (a b : List Int) (ha : ∀ x ∈ a, 0 ≤ x ∧ x ≤ 36) (hb : ∀ x ∈ b, 0 ≤ x ∧ x ≤ 36) : ∀ x ∈ mixL a b, 0 ≤ x ∧ x ≤ 36 := by
  induction a generalizing b with
  | nil => intro x hx; cases b <;> simp [mixL] at hx
  | cons u a ih =>
    cases b with
    | nil => intro x hx; simp [mixL] at hx
    | cons v b =>
      intro x hx
      simp only [mixL, List.mem_cons] at hx
      have h1 := ha u (by simp)
      have h2 := hb v (by simp)
      rcases hx with rfl | hx
      · omega
      · exact ih b (fun y hy => ha y (by simp [hy])) (fun y hy => hb y (by simp [hy])) x hx

theorem mix_mea {a b : List Int} (h : mixB a b = true) : meaB (mixL a b) = true ∧ (mixL a b).length = a.length ∧ (∀ e, 2 * onI (mixL a b) e = onI a e + onI b e) := by
  simp only [mixB, Bool.and_eq_true, decide_eq_true_eq] at h
  obtain ⟨⟨⟨h1, h2⟩, h3⟩, h4⟩ := h
  obtain ⟨f1, f2, f3⟩ := mix_facts a b h3 h4
  have k1 := (meaB_iff a).1 h1
  have k2 := (meaB_iff b).1 h2
  refine ⟨(meaB_iff _).2 ⟨mix_nonneg a b k1.1 k2.1, by omega, by omega, by omega⟩, f1, f3⟩

theorem mix_fit {a b : List Int} (h : mixB a b = true) {qs : List Qt} (ha : fitI a qs = true) (hb : fitI b qs = true) : fitI (mixL a b) qs = true := by
  obtain ⟨-, -, h3⟩ := mix_mea h
  rw [fitI_iff] at *
  intro q hq
  have := h3 q.1
  have := ha q hq
  have := hb q hq
  omega

end Go.Proofs.Yteljcicdibbhdaa
