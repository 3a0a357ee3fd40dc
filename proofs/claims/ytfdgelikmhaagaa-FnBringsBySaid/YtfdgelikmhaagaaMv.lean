/- Units of grains are enough: a book that some measure fits is fitted by one of units. No condition. -/
import Derived.Test.YtfdgelikmhaagaaMu
namespace Go.Proofs.Ytfdgelikmhaagaa
set_option linter.unusedVariables false

theorem onN_cast (l : List Nat) (e : Nat) : onI (natL l) (e : Int) = (onN l e : Nat) := by
  induction l generalizing e with
  | nil => rfl
  | cons x l ih =>
    show (e : Int) % 2 * (x : Int) + onI (natL l) ((e : Int) / 2) = _
    rw [show (e : Int) / 2 = ((e / 2 : Nat) : Int) from by omega, ih, show (e : Int) % 2 = ((e % 2 : Nat) : Int) from by omega]
    simp [onN]

theorem onN_not (l : List Nat) (e : Nat) (h : e < 2 ^ l.length) : onN l e + onN l (2 ^ l.length - 1 - e) = l.sum := by
  induction l generalizing e with
  | nil => simp [onN]
  | cons x l ih =>
    simp only [onN, List.sum_cons, List.length_cons] at *
    have hp : 2 ^ (l.length + 1) = 2 * 2 ^ l.length := by rw [Nat.pow_succ, Nat.mul_comm]
    have := ih (e / 2) (by omega)
    rw [show (2 ^ (l.length + 1) - 1 - e) / 2 = 2 ^ l.length - 1 - e / 2 from by omega]
    rcases Nat.mod_two_eq_zero_or_one e with h2 | h2
    · rw [h2, show (2 ^ (l.length + 1) - 1 - e) % 2 = 1 from by omega]; omega
    · rw [h2, show (2 ^ (l.length + 1) - 1 - e) % 2 = 0 from by omega]; omega

theorem onN_lin (l : List Nat) (f g : Nat → Nat) (a b : Nat) (h : ∀ x ∈ l, x = a * f x + b * g x) (e : Nat) : onN l e = a * onN (l.map f) e + b * onN (l.map g) e := by
  induction l generalizing e with
  | nil => simp [onN]
  | cons x l ih =>
    simp only [onN, List.map_cons]
    rw [ih (fun y hy => h y (by simp [hy])) (e / 2)]
    have := h x (by simp)
    rcases Nat.mod_two_eq_zero_or_one e with h2 | h2 <;> rw [h2]
    · simp
    · simp only [Nat.one_mul, Nat.mul_add]; omega

theorem sum_lin (l : List Nat) (f g : Nat → Nat) (a b : Nat) (h : ∀ x ∈ l, x = a * f x + b * g x) : l.sum = a * (l.map f).sum + b * (l.map g).sum := by
  induction l with
  | nil => simp
  | cons x l ih =>
    simp only [List.sum_cons, List.map_cons]
    rw [ih (fun y hy => h y (by simp [hy]))]
    have := h x (by simp)
    simp only [Nat.mul_add]; omega

/-- both together, the first one twice -/
def two1 : List Nat → List Nat → List Nat
  | x :: a, y :: b => (2 * x + y) :: two1 a b
  | _, _ => []

theorem two1_facts (a b : List Nat) (h : a.length = b.length) : (two1 a b).length = a.length ∧ (two1 a b).sum = 2 * a.sum + b.sum ∧ ∀ e, onN (two1 a b) e = 2 * onN a e + onN b e := by
  induction a generalizing b with
  | nil =>
    cases b with
    | nil => simp [two1, onN]
    | cons y b => simp at h
  | cons x a ih =>
    cases b with
    | nil => simp at h
    | cons y b =>
      obtain ⟨h1, h2, h3⟩ := ih b (by simpa using h)
      refine ⟨by simp [two1, h1], by simp only [two1, List.sum_cons, h2]; omega, fun e => ?_⟩
      simp only [two1, onN, h3]
      rcases Nat.mod_two_eq_zero_or_one e with h2 | h2 <;> rw [h2] <;> omega

theorem tup_mem (l : List Nat) (h : ∀ x ∈ l, x < 6) : l ∈ tup l.length := by
  induction l with
  | nil => simp [tup]
  | cons x l ih =>
    simp only [List.length_cons, tup, List.mem_flatMap, List.mem_range, List.mem_map]
    exact ⟨x, h x (by simp), l, ih (fun y hy => h y (by simp [hy])), rfl⟩

theorem unit_of {w : Nat} (h1 : 1 ≤ w) (h4 : w ≤ 4) {r : List Nat} (hr : r ∈ tup w) : unitB w r = true := by
  obtain ⟨t1, t2, t3, t4⟩ := unit_tab
  obtain rfl | rfl | rfl | rfl : w = 1 ∨ w = 2 ∨ w = 3 ∨ w = 4 := by omega
  · exact List.all_eq_true.1 t1 r hr
  · exact List.all_eq_true.1 t2 r hr
  · exact List.all_eq_true.1 t3 r hr
  · exact List.all_eq_true.1 t4 r hr

def normE (w e : Nat) : Nat := if e % 2 = 1 then 2 ^ w - 1 - e else e

theorem norm_even {w e : Nat} (h1 : 1 ≤ w) (he : e < 2 ^ w) : normE w e < 2 ^ w ∧ normE w e % 2 = 0 := by
  obtain ⟨v, rfl⟩ : ∃ v, w = v + 1 := ⟨w - 1, by omega⟩
  have hp : 2 ^ (v + 1) = 2 * 2 ^ v := by rw [Nat.pow_succ, Nat.mul_comm]
  unfold normE
  split <;> omega

/-- what holds of the normal event holds of the event -/
theorem norm_on {w e a b : Nat} {l c : List Nat} (hl : l.length = w) (hc : c.length = w) (he : e < 2 ^ w) (hs : a * l.sum = b * c.sum) (h : a * onN l (normE w e) = b * onN c (normE w e)) : a * onN l e = b * onN c e := by
  unfold normE at h
  split at h
  · have h1 := onN_not l e (by rw [hl]; exact he)
    have h2 := onN_not c e (by rw [hc]; exact he)
    rw [hl] at h1
    rw [hc] at h2
    rw [← h1, ← h2, Nat.mul_add, Nat.mul_add] at hs
    omega
  · exact h

theorem norm_mod {w e : Nat} {l : List Nat} (hl : l.length = w) (he : e < 2 ^ w) (hs : l.sum % 6 = 0) (h : onN l e % 6 = 0) : onN l (normE w e) % 6 = 0 := by
  unfold normE
  split
  · have h1 := onN_not l e (by rw [hl]; exact he)
    rw [hl] at h1
    omega
  · exact h

/-- three events: there is a way of units of three grains -/
theorem unit_three {w : Nat} (h1 : 1 ≤ w) (h4 : w ≤ 4) {l : List Nat} (hl : l ∈ lay w 36) {e1 e2 e3 : Nat} (b1 : e1 < 2 ^ w) (b2 : e2 < 2 ^ w) (b3 : e3 < 2 ^ w)
    (m1 : onN l e1 % 6 = 0) (m2 : onN l e2 % 6 = 0) (m3 : onN l e3 % 6 = 0) : ∃ c ∈ lay w 12, onN l e1 = 3 * onN c e1 ∧ onN l e2 = 3 * onN c e2 ∧ onN l e3 = 3 * onN c e3 := by
  obtain ⟨v, rfl⟩ : ∃ v, w = v + 1 := ⟨w - 1, by omega⟩
  obtain ⟨hlen, hsum⟩ := (mem_lay _ _ _).1 hl
  have hlin : ∀ x ∈ l, x = 6 * (x / 6) + 1 * (x % 6) := fun x _ => by omega
  have hon := onN_lin l (· / 6) (· % 6) 6 1 hlin
  have hsm := sum_lin l (· / 6) (· % 6) 6 1 hlin
  have hrl : (l.map (· % 6)).length = v + 1 := by simp [hlen]
  have hdl : (l.map (· / 6)).length = v + 1 := by simp [hlen]
  have hrt : l.map (· % 6) ∈ tup (v + 1) := by
    have := tup_mem (l.map (· % 6)) (fun x hx => by obtain ⟨y, -, rfl⟩ := List.mem_map.1 hx; show y % 6 < 6; omega)
    rwa [hrl] at this
  have hu := unit_of h1 h4 hrt
  generalize hr : l.map (· % 6) = r at *
  generalize hd : l.map (· / 6) = d at *
  have hr6 : r.sum % 6 = 0 := by omega
  unfold unitB at hu
  rw [hr6] at hu
  simp only [beq_self_eq_true, Bool.not_true, Bool.false_or, List.all_eq_true] at hu
  have hmem : ∀ e, e < 2 ^ (v + 1) → onN l e % 6 = 0 → normE (v + 1) e ∈ evs (v + 1) r := by
    intro e he hm
    obtain ⟨n1, n2⟩ := norm_even h1 he
    have n3 := norm_mod hlen he (by omega) hm
    rw [hon] at n3
    unfold evs
    rw [List.mem_filter, List.mem_range]
    refine ⟨n1, ?_⟩
    simp only [Bool.and_eq_true, beq_iff_eq]
    exact ⟨n2, by omega⟩
  have ht := hu _ (hmem e1 b1 m1) _ (hmem e2 b2 m2) _ (hmem e3 b3 m3)
  obtain ⟨c, hc, hcc⟩ := List.any_eq_true.1 ht
  simp only [Bool.and_eq_true, beq_iff_eq] at hcc
  obtain ⟨hcl, hcs⟩ := (mem_lay _ _ _).1 hc
  obtain ⟨f1, f2, f3⟩ := two1_facts d c (by omega)
  have hsum2 : 1 * l.sum = 3 * (two1 d c).sum := by omega
  have key : ∀ e, e < 2 ^ (v + 1) → onN c (normE (v + 1) e) * 3 = onN r (normE (v + 1) e) → onN l e = 3 * onN (two1 d c) e := by
    intro e he hk
    have := norm_on (a := 1) (b := 3) hlen (by omega) he hsum2 (by rw [hon, f3]; omega)
    omega
  refine ⟨two1 d c, (mem_lay _ _ _).2 ⟨by omega, by omega⟩, key e1 b1 hcc.1.1, key e2 b2 hcc.1.2, key e3 b3 hcc.2⟩

theorem ev_nat {w : Nat} {q : Qt} (h : qokB (w : Int) q = true) : ∃ e : Nat, q.1 = (e : Int) ∧ e < 2 ^ w := by
  obtain ⟨h1, h2, h3, h4⟩ := (evB_iff _ _).1 ((qokB_iff _ _).1 h).1
  refine ⟨q.1.toNat, by omega, ?_⟩
  unfold allI at h4
  rw [Int.toNat_natCast] at h4
  have : ((2 ^ w : Nat) : Int) = 2 ^ w := by simp
  omega

/-- a book that a measure fits is fitted by units of three grains -/
theorem unit_book {w : Nat} {qs : List Qt} (hb : bokB (w : Int) qs = true) {l : List Nat} (hl : l ∈ lay w 36) (hf : fitI (natL l) qs = true) : ∃ c ∈ lay w 12, ∀ q ∈ qs, onI (natL c) q.1 * 3 = 6 * q.2 := by
  obtain ⟨⟨w1, w4⟩, hq3, hq⟩ := (bokB_iff _ _).1 hb
  have h1 : 1 ≤ w := by omega
  have h4 : w ≤ 4 := by omega
  have hz : onN l 0 % 6 = 0 := by
    have : ∀ l : List Nat, onN l 0 = 0 := fun l => by
      induction l with
      | nil => rfl
      | cons x l ih => simp [onN, ih]
    rw [this]
  have hp : 0 < 2 ^ w := Nat.two_pow_pos w
  have hone : ∀ q ∈ qs, ∃ e : Nat, q.1 = (e : Int) ∧ e < 2 ^ w ∧ (onN l e : Int) = 6 * q.2 ∧ onN l e % 6 = 0 := by
    intro q hqm
    obtain ⟨e, he, hlt⟩ := ev_nat (hq q hqm)
    have := (fitI_iff _ _).1 hf q hqm
    rw [he, onN_cast] at this
    have hp := ((qokB_iff _ _).1 (hq q hqm)).2
    exact ⟨e, he, hlt, this, by omega⟩
  have fin : ∀ (c : List Nat) (q : Qt) (e : Nat), q.1 = (e : Int) → (onN l e : Int) = 6 * q.2 → onN l e = 3 * onN c e → onI (natL c) q.1 * 3 = 6 * q.2 := by
    intro c q e he h6 h3
    rw [he, onN_cast]; omega
  match qs, hq3, hone with
  | [], _, _ =>
    obtain ⟨c, hc, -⟩ := unit_three h1 h4 hl hp hp hp hz hz hz
    exact ⟨c, hc, fun q h => by cases h⟩
  | [q1], _, ho =>
    obtain ⟨e1, a1, b1, c1, d1⟩ := ho q1 (by simp)
    obtain ⟨c, hc, k1, -, -⟩ := unit_three h1 h4 hl b1 hp hp d1 hz hz
    refine ⟨c, hc, fun q h => ?_⟩
    obtain rfl : q = q1 := by simpa using h
    exact fin c q e1 a1 c1 k1
  | [q1, q2], _, ho =>
    obtain ⟨e1, a1, b1, c1, d1⟩ := ho q1 (by simp)
    obtain ⟨e2, a2, b2, c2, d2⟩ := ho q2 (by simp)
    obtain ⟨c, hc, k1, k2, -⟩ := unit_three h1 h4 hl b1 b2 hp d1 d2 hz
    refine ⟨c, hc, fun q h => ?_⟩
    have h : q = q1 ∨ q = q2 := by simpa using h
    rcases h with rfl | rfl
    · exact fin c q e1 a1 c1 k1
    · exact fin c q e2 a2 c2 k2
  | [q1, q2, q3], _, ho =>
    obtain ⟨e1, a1, b1, c1, d1⟩ := ho q1 (by simp)
    obtain ⟨e2, a2, b2, c2, d2⟩ := ho q2 (by simp)
    obtain ⟨e3, a3, b3, c3, d3⟩ := ho q3 (by simp)
    obtain ⟨c, hc, k1, k2, k3⟩ := unit_three h1 h4 hl b1 b2 b3 d1 d2 d3
    refine ⟨c, hc, fun q h => ?_⟩
    have h : q = q1 ∨ q = q2 ∨ q = q3 := by simpa using h
    rcases h with rfl | rfl | rfl
    · exact fin c q e1 a1 c1 k1
    · exact fin c q e2 a2 c2 k2
    · exact fin c q e3 a3 c3 k3
  | _ :: _ :: _ :: _ :: _, h3, _ => simp at h3

/-- some measure fits -/
def anyFit (w : Nat) (qs : List Qt) : Bool := (lay w 36).any fun l => fitI (natL l) qs

/-- some measure of units fits -/
def anyUnit (w u : Nat) (qs : List Qt) : Bool := (lay w (36 / u)).any fun c => qs.all fun q => onI (natL c) q.1 * u * 6 == q.2 * 36

theorem onI_scale (c : List Nat) (u : Nat) (e : Int) : onI (natL (c.map (u * ·))) e = u * onI (natL c) e := by
  induction c generalizing e with
  | nil => simp [natL, onI]
  | cons x c ih =>
    show e % 2 * ((u * x : Nat) : Int) + onI (natL (c.map (u * ·))) (e / 2) = u * (e % 2 * (x : Int) + onI (natL c) (e / 2))
    rw [ih]
    rcases Int.emod_two_eq e with h | h <;> rw [h]
    · simp
    · rw [Int.one_mul, Int.one_mul, Int.mul_add]; rfl

theorem sum_scale (c : List Nat) (u : Nat) : (c.map (u * ·)).sum = u * c.sum := by
  induction c with
  | nil => simp
  | cons x c ih => simp [ih, Nat.mul_add]

theorem unit_fit {w u : Nat} {qs : List Qt} (h1 : 1 ≤ w) (hu : u * (36 / u) = 36) (h : anyUnit w u qs = true) : anyFit w qs = true := by
  obtain ⟨v, rfl⟩ : ∃ v, w = v + 1 := ⟨w - 1, by omega⟩
  obtain ⟨c, hc, hf⟩ := List.any_eq_true.1 h
  obtain ⟨hl, hs⟩ := (mem_lay _ _ _).1 hc
  refine List.any_eq_true.2 ⟨c.map (u * ·), (mem_lay _ _ _).2 ⟨by simp [hl], by rw [sum_scale, hs, hu]⟩, ?_⟩
  rw [fitI_iff]
  intro q hq
  have := List.all_eq_true.1 hf q hq
  rw [beq_iff_eq] at this
  rw [onI_scale, Int.mul_comm]; omega

theorem fair_units {w : Nat} {qs : List Qt} (hb : bokB (w : Int) qs = true) : (anyUnit w 6 qs || (anyUnit w 3 qs || anyUnit w 2 qs)) = anyFit w qs := by
  have h1 : 1 ≤ w := by have := ((bokB_iff _ _).1 hb).1; omega
  rw [Bool.eq_iff_iff]
  simp only [Bool.or_eq_true]
  constructor
  · rintro (h | h | h)
    · exact unit_fit h1 (by decide) h
    · exact unit_fit h1 (by decide) h
    · exact unit_fit h1 (by decide) h
  · intro h
    obtain ⟨l, hl, hf⟩ := List.any_eq_true.1 h
    obtain ⟨c, hc, hcc⟩ := unit_book hb hl hf
    refine .inr (.inl (List.any_eq_true.2 ⟨c, hc, List.all_eq_true.2 fun q hq => ?_⟩))
    have := hcc q hq
    rw [beq_iff_eq]
    show onI (natL c) q.1 * (3 : Int) * 6 = q.2 * 36
    omega

end Go.Proofs.Ytfdgelikmhaagaa
