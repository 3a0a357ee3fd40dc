/- Contracts, facts and walks that the laws of this seat lean on, laid together by a program of ours (mkmerge.py) out of: Mw Mb Xb Xa Xl Xi Za Ka Me. Conditions: stated at each. -/
import Derived.Deep.RegionHeld3
import Derived.Handy
import Derived.Laws.Strings
import Derived.Deep.LoopGhost
import Derived.Test.YtebebcomhdjihaaL1
namespace Go.Proofs.Ytebebcomhdjihaa
set_option linter.unusedVariables false

def lay : Nat → Nat → List (List Nat)
  | 0, _ => []
  | 1, g => [[g]]
  | w + 2, g => (List.range (g + 1)).flatMap fun a => (lay (w + 1) (g - a)).map fun m => a :: m

theorem mem_lay (w g : Nat) (m : List Nat) : m ∈ lay (w + 1) g ↔ m.length = w + 1 ∧ m.sum = g := by
  induction w generalizing g m with
  | zero =>
    rw [show lay (0 + 1) g = [[g]] from rfl, List.mem_singleton]
    constructor
    · rintro rfl; simp
    · rintro ⟨h1, h2⟩
      match m, h1 with
      | [x], _ => simp at h2; rw [h2]
  | succ w ih =>
    rw [show lay (w + 1 + 1) g = (List.range (g + 1)).flatMap fun a => (lay (w + 1) (g - a)).map fun m => a :: m from rfl]
    simp only [List.mem_flatMap, List.mem_range, List.mem_map]
    constructor
    · rintro ⟨a, ha, t, ht, rfl⟩
      obtain ⟨h1, h2⟩ := (ih _ _).1 ht
      simp only [List.length_cons, List.sum_cons]
      omega
    · rintro ⟨h1, h2⟩
      match m, h1 with
      | a :: t, h1 =>
        simp only [List.length_cons, List.sum_cons] at h1 h2
        exact ⟨a, by omega, t, (ih _ _).2 ⟨by omega, by omega⟩, rfl⟩

def firstL (n g : Nat) : List Nat := List.replicate (n - 1) 0 ++ [g]

def stepL : List Nat → Option (List Nat)
  | [] => none
  | [_] => none
  | a :: x :: r => match stepL (x :: r) with
    | some t => some (a :: t)
    | none => if x = 0 then none else some ((a + 1) :: firstL (r.length + 1) (x - 1))

def chainB : List (List Nat) → Bool
  | [] => true
  | [m] => stepL m == none
  | m :: n :: l => stepL m == some n && chainB (n :: l)

theorem chain_at {l : List (List Nat)} (h : chainB l = true) {k : Nat} {m : List Nat} (hm : l[k]? = some m) : stepL m = l[k + 1]? := by
  induction l generalizing k with
  | nil => simp at hm
  | cons x l ih =>
    cases l with
    | nil =>
      cases k with
      | zero => simp at hm; subst hm; simpa [chainB] using h
      | succ k => simp at hm
    | cons y l =>
      simp only [chainB, Bool.and_eq_true, beq_iff_eq] at h
      cases k with
      | zero => simp at hm; subst hm; simpa using h.1
      | succ k => simp only [List.getElem?_cons_succ] at hm ⊢; exact ih h.2 hm

theorem lay_first (w g : Nat) : (lay (w + 1) g)[0]? = some (firstL (w + 1) g) := by
  induction w generalizing g with
  | zero => rfl
  | succ w ih =>
    rw [show lay (w + 1 + 1) g = (List.range (g + 1)).flatMap fun a => (lay (w + 1) (g - a)).map fun m => a :: m from rfl]
    rw [List.range_succ_eq_map, List.flatMap_cons]
    have h := ih (g - 0)
    obtain ⟨l, hl⟩ : ∃ l, lay (w + 1) (g - 0) = firstL (w + 1) (g - 0) :: l := by
      cases hc : lay (w + 1) (g - 0) with
      | nil => rw [hc] at h; simp at h
      | cons x l => rw [hc] at h; simp at h; exact ⟨l, by rw [h, Nat.sub_zero]⟩
    rw [hl]
    simp [firstL, List.replicate_succ]

def onI : List Int → Int → Int
  | [], _ => 0
  | x :: m, e => e % 2 * x + onI m (e / 2)

theorem bitI_zero (e : Int) : bitI e 0 = e % 2 := by simp [bitI]

theorem bitI_succ (e : Int) (k : Nat) : bitI (e / 2) k = bitI e (k + 1) := by
  unfold bitI
  rw [Int.ediv_ediv_of_nonneg (by decide), show (2 : Int) * 2 ^ k = 2 ^ (k + 1) from by rw [Int.pow_succ, Int.mul_comm]]

theorem onI_snoc (m : List Int) (x e : Int) : onI (m ++ [x]) e = onI m e + bitI e m.length * x := by
  induction m generalizing e with
  | nil => simp [onI, bitI_zero]
  | cons y m ih =>
    simp only [List.cons_append, onI, List.length_cons]
    rw [ih, bitI_succ]; omega

theorem onI_take {m : List Int} {k : Nat} {x : Int} (hx : m[k]? = some x) (e : Int) : onI (m.take (k + 1)) e = onI (m.take k) e + bitI e k * x := by
  have hk : k < m.length := by
    rcases Nat.lt_or_ge k m.length with h1 | h1
    · exact h1
    · rw [List.getElem?_eq_none h1] at hx; cases hx
  rw [List.take_add_one, hx, Option.toList_some, onI_snoc, List.length_take, Nat.min_eq_left (Nat.le_of_lt hk)]

theorem onI_bound {m : List Int} (h : ∀ x ∈ m, 0 ≤ x) (e : Int) : 0 ≤ onI m e ∧ onI m e ≤ m.sum := by
  induction m generalizing e with
  | nil => simp [onI]
  | cons x m ih =>
    have h1 := ih (fun y hy => h y (by simp [hy])) (e / 2)
    have h2 := h x (by simp)
    simp only [onI, List.sum_cons]
    rcases Int.emod_two_eq e with h3 | h3 <;> rw [h3] <;> omega

def meaB (m : List Int) : Bool := m.all (fun x => inB x 0 36) && decide (1 ≤ m.length) && decide (m.length ≤ 4) && decide (m.sum = 36)

theorem meaB_iff (m : List Int) : meaB m = true ↔ (∀ x ∈ m, 0 ≤ x ∧ x ≤ 36) ∧ 1 ≤ m.length ∧ m.length ≤ 4 ∧ m.sum = 36 := by
  simp only [meaB, Bool.and_eq_true, decide_eq_true_eq, List.all_eq_true, inB_iff, and_assoc]

def natL (l : List Nat) : List Int := l.map Int.ofNat

theorem natL_len (l : List Nat) : (natL l).length = l.length := by simp [natL]

theorem natL_sum (l : List Nat) : (natL l).sum = (l.sum : Nat) := by
  induction l with
  | nil => rfl
  | cons x l ih =>
    simp only [natL, List.map_cons, List.sum_cons] at ih ⊢
    rw [ih]; simp

theorem mea_lay (m : List Int) : meaB m = true ↔ (1 ≤ m.length ∧ m.length ≤ 4) ∧ ∃ l ∈ lay m.length 36, m = natL l := by
  rw [meaB_iff]
  constructor
  · rintro ⟨h1, h2, h3, h4⟩
    refine ⟨⟨h2, h3⟩, m.map Int.toNat, ?_, ?_⟩
    · obtain ⟨w, hw⟩ : ∃ w, m.length = w + 1 := ⟨m.length - 1, by omega⟩
      rw [hw, mem_lay]
      refine ⟨by simp [hw], ?_⟩
      have : (natL (m.map Int.toNat)).sum = 36 := by
        rw [← h4]
        congr 1
        unfold natL
        rw [List.map_map]
        conv => rhs; rw [← List.map_id m]
        apply List.map_congr_left
        intro x hx
        have := h1 x hx
        simp; omega
      rw [natL_sum] at this
      omega
    · unfold natL
      rw [List.map_map]
      conv => lhs; rw [← List.map_id m]
      apply List.map_congr_left
      intro x hx
      have := h1 x hx
      simp; omega
  · rintro ⟨⟨h2, h3⟩, l, hl, e⟩
    obtain ⟨w, hw⟩ : ∃ w, m.length = w + 1 := ⟨m.length - 1, by omega⟩
    rw [hw, mem_lay] at hl
    have hs : m.sum = 36 := by rw [e, natL_sum, hl.2]; rfl
    have hn : ∀ x ∈ m, 0 ≤ x := by
      intro x hx
      rw [e] at hx
      obtain ⟨y, -, rfl⟩ := List.mem_map.1 hx
      simp
    refine ⟨fun x hx => ⟨hn x hx, ?_⟩, h2, h3, hs⟩
    rw [← hs]
    clear e hl hs hw h2 h3
    induction m with
    | nil => simp at hx
    | cons y m ih =>
      have hm : 0 ≤ m.sum := (fun hb => Int.le_trans hb.1 hb.2) (onI_bound (fun z hz => hn z (by simp [hz])) 0)
      have hy := hn y (by simp)
      simp only [List.sum_cons]
      rcases List.mem_cons.1 hx with rfl | hx
      · omega
      · have := ih (fun z hz => hn z (by simp [hz])) hx; omega

def fitI (m : List Int) (qs : List Qt) : Bool := qs.all fun q => onI m q.1 * 6 == q.2 * 36

theorem fitI_iff (m : List Int) (qs : List Qt) : fitI m qs = true ↔ ∀ q ∈ qs, onI m q.1 = 6 * q.2 := by
  simp only [fitI, List.all_eq_true, beq_iff_eq]
  constructor
  · intro h q hq; have := h q hq; omega
  · intro h q hq; have := h q hq; omega

end Go.Proofs.Ytebebcomhdjihaa

namespace Go.Proofs.Ytebebcomhdjihaa
set_option linter.unusedVariables false

theorem chain36 : chainB (lay 1 36) = true ∧ chainB (lay 2 36) = true ∧ chainB (lay 3 36) = true ∧ chainB (lay 4 36) = true := by decide +kernel

theorem chain18 : chainB (lay 1 18) = true ∧ chainB (lay 2 18) = true ∧ chainB (lay 3 18) = true ∧ chainB (lay 4 18) = true := by decide +kernel

theorem chain12 : chainB (lay 1 12) = true ∧ chainB (lay 2 12) = true ∧ chainB (lay 3 12) = true ∧ chainB (lay 4 12) = true := by decide +kernel

theorem chain6 : chainB (lay 1 6) = true ∧ chainB (lay 2 6) = true ∧ chainB (lay 3 6) = true ∧ chainB (lay 4 6) = true := by decide +kernel

theorem chain_of {w g : Nat} (h1 : 1 ≤ w) (h4 : w ≤ 4) (hg : g = 36 ∨ g = 18 ∨ g = 12 ∨ g = 6) : chainB (lay w g) = true := by
  obtain rfl | rfl | rfl | rfl : w = 1 ∨ w = 2 ∨ w = 3 ∨ w = 4 := by omega
  all_goals obtain rfl | rfl | rfl | rfl := hg
  · exact chain36.1
  · exact chain18.1
  · exact chain12.1
  · exact chain6.1
  · exact chain36.2.1
  · exact chain18.2.1
  · exact chain12.2.1
  · exact chain6.2.1
  · exact chain36.2.2.1
  · exact chain18.2.2.1
  · exact chain12.2.2.1
  · exact chain6.2.2.1
  · exact chain36.2.2.2
  · exact chain18.2.2.2
  · exact chain12.2.2.2
  · exact chain6.2.2.2

end Go.Proofs.Ytebebcomhdjihaa

namespace Go.Proofs.Ytebebcomhdjihaa
set_option linter.unusedVariables false

def tup : Nat → List (List Nat)
  | 0 => [[]]
  | w + 1 => (List.range 6).flatMap fun a => (tup w).map fun m => a :: m

def onN : List Nat → Nat → Nat
  | [], _ => 0
  | x :: m, e => e % 2 * x + onN m (e / 2)

def evs (w : Nat) (r : List Nat) : List Nat := (List.range (2 ^ w)).filter fun e => e % 2 == 0 && onN r e % 6 == 0

def unitB (w : Nat) (r : List Nat) : Bool := !(r.sum % 6 == 0) || (evs w r).all fun e1 => (evs w r).all fun e2 => (evs w r).all fun e3 =>
  (lay w (r.sum / 3)).any fun c => onN c e1 * 3 == onN r e1 && onN c e2 * 3 == onN r e2 && onN c e3 * 3 == onN r e3

theorem unit_tab : (tup 1).all (unitB 1) = true ∧ (tup 2).all (unitB 2) = true ∧ (tup 3).all (unitB 3) = true ∧ (tup 4).all (unitB 4) = true := by decide +kernel

end Go.Proofs.Ytebebcomhdjihaa

namespace Go.Proofs.Ytebebcomhdjihaa
set_option linter.unusedVariables false

theorem onN_cast (l : List Nat) (e : Nat) : onI (natL l) (e : Int) = (onN l e : Nat) := by
  induction l generalizing e with
  | nil => rfl
  | cons x l ih =>
    show (e : Int) % 2 * (x : Int) + onI (natL l) ((e : Int) / 2) = _
    rw [show (e : Int) / 2 = ((e / 2 : Nat) : Int) from by omega, ih, show (e : Int) % 2 = ((e % 2 : Nat) : Int) from by omega]
    simp [onN]

theorem onN_not (l : List Nat) (e : Nat) (h : e < 2 ^ l.length) : onN l e + onN l (2 ^ l.length - 1 - e) = l.sum := by
  induction l generalizing e with
  | nil => simp [onN]
  | cons x l ih =>
    simp only [onN, List.sum_cons, List.length_cons] at *
    have hp : 2 ^ (l.length + 1) = 2 * 2 ^ l.length := by rw [Nat.pow_succ, Nat.mul_comm]
    have := ih (e / 2) (by omega)
    rw [show (2 ^ (l.length + 1) - 1 - e) / 2 = 2 ^ l.length - 1 - e / 2 from by omega]
    rcases Nat.mod_two_eq_zero_or_one e with h2 | h2
    · rw [h2, show (2 ^ (l.length + 1) - 1 - e) % 2 = 1 from by omega]; omega
    · rw [h2, show (2 ^ (l.length + 1) - 1 - e) % 2 = 0 from by omega]; omega

theorem onN_lin (l : List Nat) (f g : Nat → Nat) (a b : Nat) (h : ∀ x ∈ l, x = a * f x + b * g x) (e : Nat) : onN l e = a * onN (l.map f) e + b * onN (l.map g) e := by
  induction l generalizing e with
  | nil => simp [onN]
  | cons x l ih =>
    simp only [onN, List.map_cons]
    rw [ih (fun y hy => h y (by simp [hy])) (e / 2)]
    have := h x (by simp)
    rcases Nat.mod_two_eq_zero_or_one e with h2 | h2 <;> rw [h2]
    · simp
    · simp only [Nat.one_mul, Nat.mul_add]; omega

theorem sum_lin (l : List Nat) (f g : Nat → Nat) (a b : Nat) (h : ∀ x ∈ l, x = a * f x + b * g x) : l.sum = a * (l.map f).sum + b * (l.map g).sum := by
  induction l with
  | nil => simp
  | cons x l ih =>
    simp only [List.sum_cons, List.map_cons]
    rw [ih (fun y hy => h y (by simp [hy]))]
    have := h x (by simp)
    simp only [Nat.mul_add]; omega

def two1 : List Nat → List Nat → List Nat
  | x :: a, y :: b => (2 * x + y) :: two1 a b
  | _, _ => []

theorem two1_facts (a b : List Nat) (h : a.length = b.length) : (two1 a b).length = a.length ∧ (two1 a b).sum = 2 * a.sum + b.sum ∧ ∀ e, onN (two1 a b) e = 2 * onN a e + onN b e := by
  induction a generalizing b with
  | nil =>
    cases b with
    | nil => simp [two1, onN]
    | cons y b => simp at h
  | cons x a ih =>
    cases b with
    | nil => simp at h
    | cons y b =>
      obtain ⟨h1, h2, h3⟩ := ih b (by simpa using h)
      refine ⟨by simp [two1, h1], by simp only [two1, List.sum_cons, h2]; omega, fun e => ?_⟩
      simp only [two1, onN, h3]
      rcases Nat.mod_two_eq_zero_or_one e with h2 | h2 <;> rw [h2] <;> omega

theorem tup_mem (l : List Nat) (h : ∀ x ∈ l, x < 6) : l ∈ tup l.length := by
  induction l with
  | nil => simp [tup]
  | cons x l ih =>
    simp only [List.length_cons, tup, List.mem_flatMap, List.mem_range, List.mem_map]
    exact ⟨x, h x (by simp), l, ih (fun y hy => h y (by simp [hy])), rfl⟩

theorem unit_of {w : Nat} (h1 : 1 ≤ w) (h4 : w ≤ 4) {r : List Nat} (hr : r ∈ tup w) : unitB w r = true := by
  obtain ⟨t1, t2, t3, t4⟩ := unit_tab
  obtain rfl | rfl | rfl | rfl : w = 1 ∨ w = 2 ∨ w = 3 ∨ w = 4 := by omega
  · exact List.all_eq_true.1 t1 r hr
  · exact List.all_eq_true.1 t2 r hr
  · exact List.all_eq_true.1 t3 r hr
  · exact List.all_eq_true.1 t4 r hr

def normE (w e : Nat) : Nat := if e % 2 = 1 then 2 ^ w - 1 - e else e

theorem norm_even {w e : Nat} (h1 : 1 ≤ w) (he : e < 2 ^ w) : normE w e < 2 ^ w ∧ normE w e % 2 = 0 := by
  obtain ⟨v, rfl⟩ : ∃ v, w = v + 1 := ⟨w - 1, by omega⟩
  have hp : 2 ^ (v + 1) = 2 * 2 ^ v := by rw [Nat.pow_succ, Nat.mul_comm]
  unfold normE
  split <;> omega

theorem norm_on {w e a b : Nat} {l c : List Nat} (hl : l.length = w) (hc : c.length = w) (he : e < 2 ^ w) (hs : a * l.sum = b * c.sum) (h : a * onN l (normE w e) = b * onN c (normE w e)) : a * onN l e = b * onN c e := by
  unfold normE at h
  split at h
  · have h1 := onN_not l e (by rw [hl]; exact he)
    have h2 := onN_not c e (by rw [hc]; exact he)
    rw [hl] at h1
    rw [hc] at h2
    rw [← h1, ← h2, Nat.mul_add, Nat.mul_add] at hs
    omega
  · exact h

theorem norm_mod {w e : Nat} {l : List Nat} (hl : l.length = w) (he : e < 2 ^ w) (hs : l.sum % 6 = 0) (h : onN l e % 6 = 0) : onN l (normE w e) % 6 = 0 := by
  unfold normE
  split
  · have h1 := onN_not l e (by rw [hl]; exact he)
    rw [hl] at h1
    omega
  · exact h

theorem unit_three {w : Nat} (h1 : 1 ≤ w) (h4 : w ≤ 4) {l : List Nat} (hl : l ∈ lay w 36) {e1 e2 e3 : Nat} (b1 : e1 < 2 ^ w) (b2 : e2 < 2 ^ w) (b3 : e3 < 2 ^ w)
    (m1 : onN l e1 % 6 = 0) (m2 : onN l e2 % 6 = 0) (m3 : onN l e3 % 6 = 0) : ∃ c ∈ lay w 12, onN l e1 = 3 * onN c e1 ∧ onN l e2 = 3 * onN c e2 ∧ onN l e3 = 3 * onN c e3 := by
  obtain ⟨v, rfl⟩ : ∃ v, w = v + 1 := ⟨w - 1, by omega⟩
  obtain ⟨hlen, hsum⟩ := (mem_lay _ _ _).1 hl
  have hlin : ∀ x ∈ l, x = 6 * (x / 6) + 1 * (x % 6) := fun x _ => by omega
  have hon := onN_lin l (· / 6) (· % 6) 6 1 hlin
  have hsm := sum_lin l (· / 6) (· % 6) 6 1 hlin
  have hrl : (l.map (· % 6)).length = v + 1 := by simp [hlen]
  have hdl : (l.map (· / 6)).length = v + 1 := by simp [hlen]
  have hrt : l.map (· % 6) ∈ tup (v + 1) := by
    have := tup_mem (l.map (· % 6)) (fun x hx => by obtain ⟨y, -, rfl⟩ := List.mem_map.1 hx; show y % 6 < 6; omega)
    rwa [hrl] at this
  have hu := unit_of h1 h4 hrt
  generalize hr : l.map (· % 6) = r at *
  generalize hd : l.map (· / 6) = d at *
  have hr6 : r.sum % 6 = 0 := by omega
  unfold unitB at hu
  rw [hr6] at hu
  simp only [beq_self_eq_true, Bool.not_true, Bool.false_or, List.all_eq_true] at hu
  have hmem : ∀ e, e < 2 ^ (v + 1) → onN l e % 6 = 0 → normE (v + 1) e ∈ evs (v + 1) r := by
    intro e he hm
    obtain ⟨n1, n2⟩ := norm_even h1 he
    have n3 := norm_mod hlen he (by omega) hm
    rw [hon] at n3
    unfold evs
    rw [List.mem_filter, List.mem_range]
    refine ⟨n1, ?_⟩
    simp only [Bool.and_eq_true, beq_iff_eq]
    exact ⟨n2, by omega⟩
  have ht := hu _ (hmem e1 b1 m1) _ (hmem e2 b2 m2) _ (hmem e3 b3 m3)
  obtain ⟨c, hc, hcc⟩ := List.any_eq_true.1 ht
  simp only [Bool.and_eq_true, beq_iff_eq] at hcc
  obtain ⟨hcl, hcs⟩ := (mem_lay _ _ _).1 hc
  obtain ⟨f1, f2, f3⟩ := two1_facts d c (by omega)
  have hsum2 : 1 * l.sum = 3 * (two1 d c).sum := by omega
  have key : ∀ e, e < 2 ^ (v + 1) → onN c (normE (v + 1) e) * 3 = onN r (normE (v + 1) e) → onN l e = 3 * onN (two1 d c) e := by
    intro e he hk
    have := norm_on (a := 1) (b := 3) hlen (by omega) he hsum2 (by rw [hon, f3]; omega)
    omega
  refine ⟨two1 d c, (mem_lay _ _ _).2 ⟨by omega, by omega⟩, key e1 b1 hcc.1.1, key e2 b2 hcc.1.2, key e3 b3 hcc.2⟩

theorem ev_nat {w : Nat} {q : Qt} (h : qokB (w : Int) q = true) : ∃ e : Nat, q.1 = (e : Int) ∧ e < 2 ^ w := by
  obtain ⟨h1, h2, h3, h4⟩ := (evB_iff _ _).1 ((qokB_iff _ _).1 h).1
  refine ⟨q.1.toNat, by omega, ?_⟩
  unfold allI at h4
  rw [Int.toNat_natCast] at h4
  have : ((2 ^ w : Nat) : Int) = 2 ^ w := by simp
  omega

theorem unit_book {w : Nat} {qs : List Qt} (hb : bokB (w : Int) qs = true) {l : List Nat} (hl : l ∈ lay w 36) (hf : fitI (natL l) qs = true) : ∃ c ∈ lay w 12, ∀ q ∈ qs, onI (natL c) q.1 * 3 = 6 * q.2 := by
  obtain ⟨⟨w1, w4⟩, hq3, hq⟩ := (bokB_iff _ _).1 hb
  have h1 : 1 ≤ w := by omega
  have h4 : w ≤ 4 := by omega
  have hz : onN l 0 % 6 = 0 := by
    have : ∀ l : List Nat, onN l 0 = 0 := fun l => by
      induction l with
      | nil => rfl
      | cons x l ih => simp [onN, ih]
    rw [this]
  have hp : 0 < 2 ^ w := Nat.two_pow_pos w
  have hone : ∀ q ∈ qs, ∃ e : Nat, q.1 = (e : Int) ∧ e < 2 ^ w ∧ (onN l e : Int) = 6 * q.2 ∧ onN l e % 6 = 0 := by
    intro q hqm
    obtain ⟨e, he, hlt⟩ := ev_nat (hq q hqm)
    have := (fitI_iff _ _).1 hf q hqm
    rw [he, onN_cast] at this
    have hp := ((qokB_iff _ _).1 (hq q hqm)).2
    exact ⟨e, he, hlt, this, by omega⟩
  have fin : ∀ (c : List Nat) (q : Qt) (e : Nat), q.1 = (e : Int) → (onN l e : Int) = 6 * q.2 → onN l e = 3 * onN c e → onI (natL c) q.1 * 3 = 6 * q.2 := by
    intro c q e he h6 h3
    rw [he, onN_cast]; omega
  match qs, hq3, hone with
  | [], _, _ =>
    obtain ⟨c, hc, -⟩ := unit_three h1 h4 hl hp hp hp hz hz hz
    exact ⟨c, hc, fun q h => by cases h⟩
  | [q1], _, ho =>
    obtain ⟨e1, a1, b1, c1, d1⟩ := ho q1 (by simp)
    obtain ⟨c, hc, k1, -, -⟩ := unit_three h1 h4 hl b1 hp hp d1 hz hz
    refine ⟨c, hc, fun q h => ?_⟩
    obtain rfl : q = q1 := by simpa using h
    exact fin c q e1 a1 c1 k1
  | [q1, q2], _, ho =>
    obtain ⟨e1, a1, b1, c1, d1⟩ := ho q1 (by simp)
    obtain ⟨e2, a2, b2, c2, d2⟩ := ho q2 (by simp)
    obtain ⟨c, hc, k1, k2, -⟩ := unit_three h1 h4 hl b1 b2 hp d1 d2 hz
    refine ⟨c, hc, fun q h => ?_⟩
    have h : q = q1 ∨ q = q2 := by simpa using h
    rcases h with rfl | rfl
    · exact fin c q e1 a1 c1 k1
    · exact fin c q e2 a2 c2 k2
  | [q1, q2, q3], _, ho =>
    obtain ⟨e1, a1, b1, c1, d1⟩ := ho q1 (by simp)
    obtain ⟨e2, a2, b2, c2, d2⟩ := ho q2 (by simp)
    obtain ⟨e3, a3, b3, c3, d3⟩ := ho q3 (by simp)
    obtain ⟨c, hc, k1, k2, k3⟩ := unit_three h1 h4 hl b1 b2 b3 d1 d2 d3
    refine ⟨c, hc, fun q h => ?_⟩
    have h : q = q1 ∨ q = q2 ∨ q = q3 := by simpa using h
    rcases h with rfl | rfl | rfl
    · exact fin c q e1 a1 c1 k1
    · exact fin c q e2 a2 c2 k2
    · exact fin c q e3 a3 c3 k3
  | _ :: _ :: _ :: _ :: _, h3, _ => simp at h3

def anyFit (w : Nat) (qs : List Qt) : Bool := (lay w 36).any fun l => fitI (natL l) qs

def anyUnit (w u : Nat) (qs : List Qt) : Bool := (lay w (36 / u)).any fun c => qs.all fun q => onI (natL c) q.1 * u * 6 == q.2 * 36

theorem onI_scale (c : List Nat) (u : Nat) (e : Int) : onI (natL (c.map (u * ·))) e = u * onI (natL c) e := by
  induction c generalizing e with
  | nil => simp [natL, onI]
  | cons x c ih =>
    show e % 2 * ((u * x : Nat) : Int) + onI (natL (c.map (u * ·))) (e / 2) = u * (e % 2 * (x : Int) + onI (natL c) (e / 2))
    rw [ih]
    rcases Int.emod_two_eq e with h | h <;> rw [h]
    · simp
    · rw [Int.one_mul, Int.one_mul, Int.mul_add]; rfl

theorem sum_scale (c : List Nat) (u : Nat) : (c.map (u * ·)).sum = u * c.sum := by
  induction c with
  | nil => simp
  | cons x c ih => simp [ih, Nat.mul_add]

theorem unit_fit {w u : Nat} {qs : List Qt} (h1 : 1 ≤ w) (hu : u * (36 / u) = 36) (h : anyUnit w u qs = true) : anyFit w qs = true := by
  obtain ⟨v, rfl⟩ : ∃ v, w = v + 1 := ⟨w - 1, by omega⟩
  obtain ⟨c, hc, hf⟩ := List.any_eq_true.1 h
  obtain ⟨hl, hs⟩ := (mem_lay _ _ _).1 hc
  refine List.any_eq_true.2 ⟨c.map (u * ·), (mem_lay _ _ _).2 ⟨by simp [hl], by rw [sum_scale, hs, hu]⟩, ?_⟩
  rw [fitI_iff]
  intro q hq
  have := List.all_eq_true.1 hf q hq
  rw [beq_iff_eq] at this
  rw [onI_scale, Int.mul_comm]; omega

theorem fair_units {w : Nat} {qs : List Qt} (hb : bokB (w : Int) qs = true) : (anyUnit w 6 qs || (anyUnit w 3 qs || anyUnit w 2 qs)) = anyFit w qs := by
  have h1 : 1 ≤ w := by have := ((bokB_iff _ _).1 hb).1; omega
  rw [Bool.eq_iff_iff]
  simp only [Bool.or_eq_true]
  constructor
  · rintro (h | h | h)
    · exact unit_fit h1 (by decide) h
    · exact unit_fit h1 (by decide) h
    · exact unit_fit h1 (by decide) h
  · intro h
    obtain ⟨l, hl, hf⟩ := List.any_eq_true.1 h
    obtain ⟨c, hc, hcc⟩ := unit_book hb hl hf
    refine .inr (.inl (List.any_eq_true.2 ⟨c, hc, List.all_eq_true.2 fun q hq => ?_⟩))
    have := hcc q hq
    rw [beq_iff_eq]
    show onI (natL c) q.1 * (3 : Int) * 6 = q.2 * 36
    omega

end Go.Proofs.Ytebebcomhdjihaa

namespace Go.Proofs.Ytebebcomhdjihaa
set_option linter.unusedVariables false

theorem fit_sub {m : List Int} {qs ps : List Qt} (h : ∀ q ∈ ps, q ∈ qs) (hf : fitI m qs = true) : fitI m ps = true := by
  rw [fitI_iff] at *
  exact fun q hq => hf q (h q hq)

theorem any_sub {w : Nat} {qs ps : List Qt} (h : ∀ q ∈ ps, q ∈ qs) (hf : anyFit w qs = true) : anyFit w ps = true := by
  obtain ⟨l, hl, hf⟩ := List.any_eq_true.1 hf
  exact List.any_eq_true.2 ⟨l, hl, fit_sub h hf⟩

def firstFit (w : Nat) (qs : List Qt) : Option (List Nat) := (lay w 36).find? fun l => fitI (natL l) qs

theorem first_any (w : Nat) (qs : List Qt) : (firstFit w qs).isSome = anyFit w qs := by
  unfold firstFit anyFit
  rw [Bool.eq_iff_iff, List.find?_isSome, List.any_eq_true]

end Go.Proofs.Ytebebcomhdjihaa

namespace Go.Proofs.Ytebebcomhdjihaa
open Go.RowKit
set_option linter.unusedVariables false

theorem allm_take {xs : List Int} {k : Nat} {x : Int} (hx : xs[k]? = some x) (h : inB x 0 36 = true) (ih : ∀ y ∈ xs.take k, 0 ≤ y ∧ y ≤ 36) : ∀ y ∈ xs.take (k + 1), 0 ≤ y ∧ y ≤ 36 := by
  rw [List.take_add_one, hx]
  intro y hy
  rcases List.mem_append.1 hy with h1 | h1
  · exact ih y h1
  · simp at h1; subst h1; exact (inB_iff _ _ _).1 h

theorem sum_le {xs : List Int} (h : ∀ y ∈ xs, 0 ≤ y ∧ y ≤ 36) : 0 ≤ xs.sum ∧ xs.sum ≤ 36 * (xs.length : Int) := by
  induction xs with
  | nil => simp
  | cons x xs ih =>
    have h1 := ih (fun y hy => h y (by simp [hy]))
    have h2 := h x (by simp)
    simp only [List.sum_cons, List.length_cons]
    omega

theorem sum_take {xs : List Int} {k : Nat} {x : Int} (hx : xs[k]? = some x) : (xs.take (k + 1)).sum = (xs.take k).sum + x := by
  rw [List.take_add_one, hx]
  simp

def SumIs (xs : List Int) (k : Nat) (n : Int) : Prop := (∀ y ∈ xs.take k, 0 ≤ y ∧ y ≤ 36) ∧ (k ≤ 4 → n = (xs.take k).sum)

theorem SumIs.step {xs : List Int} {k : Nat} {n x : Int} (h : SumIs xs k n) (hx : xs[k]? = some x) (hi : inB x 0 36 = true) : SumIs xs (k + 1) (IntKind.i64.wrap (n + x)) ∧ SumIs xs (k + 1) (wrap64 (n + x)) := by
  have h2 := (inB_iff _ _ _).1 hi
  have key : k + 1 ≤ 4 → n + x = (xs.take (k + 1)).sum ∧ 0 ≤ n + x ∧ n + x ≤ 144 := by
    intro h4
    have hn := h.2 (by omega)
    have hb := sum_le h.1
    have hl : (xs.take k).length ≤ 3 := by simp; omega
    rw [sum_take hx]
    omega
  refine ⟨⟨allm_take hx hi h.1, fun h4 => ?_⟩, ⟨allm_take hx hi h.1, fun h4 => ?_⟩⟩
  · obtain ⟨k1, k2, k3⟩ := key h4
    rw [IntWalk.i64_in _ (by omega)]; exact k1
  · obtain ⟨k1, k2, k3⟩ := key h4
    rw [IntWalk.wrap64_in _ (by omega)]; exact k1

def Grs (m : List Int) : Prop := (∀ x ∈ m, 0 ≤ x ∧ x ≤ 36) ∧ m.length ≤ 4

theorem grs_of {m : List Int} (h : meaB m = true) : Grs m := ⟨((meaB_iff m).1 h).1, ((meaB_iff m).1 h).2.2.1⟩

theorem grs_on {m : List Int} (h : Grs m) (e : Int) (k : Nat) : 0 ≤ onI (m.take k) e ∧ onI (m.take k) e ≤ 144 := by
  have h1 := onI_bound (m := m.take k) (fun x hx => (h.1 x (List.mem_of_mem_take hx)).1) e
  have h2 := sum_le (xs := m.take k) (fun y hy => h.1 y (List.mem_of_mem_take hy))
  have h3 : (m.take k).length ≤ 4 := by simp; have := h.2; omega
  omega

def IntPost (n : Int) (w : World) (e : Ending) (w' : World) : Prop := e = .returned (.int .i64 n) ∧ Below w.heap.size w w'

def BoolPost (b : Bool) (w : World) (e : Ending) (w' : World) : Prop := e = .returned (.bool b) ∧ Below w.heap.size w w'

set_option maxHeartbeats 2000000 in
theorem l4On_any (w : World) (v : Value) (m : List Int) (e : Int) (hv : IRd w v m) (hm : Grs m) (e1 : 0 ≤ e) (e2 : e ≤ 15) :
    Calls Try.prog 82 #[v, .int .i64 e] w (IntPost (onI m e) w) := by
  obtain ⟨A, c, rfl, hl, hmx, -⟩ := id hv
  have HV := Lib.hid hv
  have HM := Lib.hid hm
  have hm4 := hm.2
  clear hv hm
  go_enter Try.func82, Try.ntmps82
  go_wp2_with fail
  go_loopw [5, 6] (fun t i wr => ∃ (k : Nat) (n : Int), i = .int .i64 (k : Int) ∧ k ≤ m.length ∧ t = .int .i64 n ∧ Hid (n = onI (m.take k) e) ∧ Hid (Below w.heap.size w wr)) (fun _ i _ => m.length - (intOf i).toNat)
  case atStart => exact ⟨0, 0, rfl, Nat.zero_le _, rfl, Lib.hid (by simp [onI]), Lib.hid (Below.refl _ _)⟩
  case round =>
    obtain ⟨k, n, rfl, hk, rfl, HN, HB⟩ := hrel
    by_cases hlt : k < m.length
    · obtain ⟨b, off, x, rfl, -, hx, hcx⟩ := (HV.out.keep (SameAt.of_below HB.out)).at_ hlt
      have HX := Lib.hid (onI_take hx e)
      obtain ⟨x1, x2⟩ := HM.out.1 x (List.mem_of_getElem? hx)
      obtain ⟨n1, n2⟩ : 0 ≤ n ∧ n ≤ 144 := by rw [HN.out]; exact grs_on HM.out e k
      clear hx
      obtain rfl | rfl | rfl | rfl : k = 0 ∨ k = 1 ∨ k = 2 ∨ k = 3 := by omega
      · rw [Nat.add_zero] at hcx
        rcases bitI_01 e 0 with hb | hb
        · have HBit := Lib.hid hb
          have hb' : e % 2 = 0 := by simpa [bitI] using hb
          clear hb
          go_wp2_with fail
          go_region
          all_goals
            go_wp2_with fail
            go_roundw
            case rel => exact ⟨0 + 1, n, by first | rfl | go_num, by omega, rfl, Lib.hid (by rw [HX.out, HBit.out, ← HN.out]; simp), Lib.hid HB.out.drew⟩
            case measure => simp [intOf]; omega
        · have HBit := Lib.hid hb
          have hb' : e % 2 = 1 := by simpa [bitI] using hb
          clear hb
          go_wp2_with fail
          go_region
          all_goals
            go_wp2_with fail
            go_roundw
            case rel => exact ⟨0 + 1, n + x, by first | rfl | go_num, by omega, rfl, Lib.hid (by rw [HX.out, HBit.out, ← HN.out]; simp), Lib.hid HB.out.drew⟩
            case measure => simp [intOf]; omega
      · rcases bitI_01 e 1 with hb | hb
        · have HBit := Lib.hid hb
          have hb' : e / 2 % 2 = 0 := by simpa [bitI] using hb
          clear hb
          go_wp2_with fail
          go_region
          all_goals
            go_wp2_with fail
            go_roundw
            case rel => exact ⟨1 + 1, n, by first | rfl | go_num, by omega, rfl, Lib.hid (by rw [HX.out, HBit.out, ← HN.out]; simp), Lib.hid HB.out.drew⟩
            case measure => simp [intOf]; omega
        · have HBit := Lib.hid hb
          have hb' : e / 2 % 2 = 1 := by simpa [bitI] using hb
          clear hb
          go_wp2_with fail
          go_region
          all_goals
            go_wp2_with fail
            go_roundw
            case rel => exact ⟨1 + 1, n + x, by first | rfl | go_num, by omega, rfl, Lib.hid (by rw [HX.out, HBit.out, ← HN.out]; simp), Lib.hid HB.out.drew⟩
            case measure => simp [intOf]; omega
      · rcases bitI_01 e 2 with hb | hb
        · have HBit := Lib.hid hb
          have hb' : e / 4 % 2 = 0 := by simpa [bitI] using hb
          clear hb
          go_wp2_with fail
          go_region
          all_goals
            go_wp2_with fail
            go_roundw
            case rel => exact ⟨2 + 1, n, by first | rfl | go_num, by omega, rfl, Lib.hid (by rw [HX.out, HBit.out, ← HN.out]; simp), Lib.hid HB.out.drew⟩
            case measure => simp [intOf]; omega
        · have HBit := Lib.hid hb
          have hb' : e / 4 % 2 = 1 := by simpa [bitI] using hb
          clear hb
          go_wp2_with fail
          go_region
          all_goals
            go_wp2_with fail
            go_roundw
            case rel => exact ⟨2 + 1, n + x, by first | rfl | go_num, by omega, rfl, Lib.hid (by rw [HX.out, HBit.out, ← HN.out]; simp), Lib.hid HB.out.drew⟩
            case measure => simp [intOf]; omega
      · rcases bitI_01 e 3 with hb | hb
        · have HBit := Lib.hid hb
          have hb' : e / 8 % 2 = 0 := by simpa [bitI] using hb
          clear hb
          go_wp2_with fail
          go_region
          all_goals
            go_wp2_with fail
            go_roundw
            case rel => exact ⟨3 + 1, n, by first | rfl | go_num, by omega, rfl, Lib.hid (by rw [HX.out, HBit.out, ← HN.out]; simp), Lib.hid HB.out.drew⟩
            case measure => simp [intOf]; omega
        · have HBit := Lib.hid hb
          have hb' : e / 8 % 2 = 1 := by simpa [bitI] using hb
          clear hb
          go_wp2_with fail
          go_region
          all_goals
            go_wp2_with fail
            go_roundw
            case rel => exact ⟨3 + 1, n + x, by first | rfl | go_num, by omega, rfl, Lib.hid (by rw [HX.out, HBit.out, ← HN.out]; simp), Lib.hid HB.out.drew⟩
            case measure => simp [intOf]; omega
    · go_wp2_with fail
      go_ret
      exact ⟨ret_int (by rw [HN.out, List.take_of_length_le (by omega)]), HB.out⟩

end Go.Proofs.Ytebebcomhdjihaa

namespace Go.Proofs.Ytebebcomhdjihaa
open Go.RowKit
set_option linter.unusedVariables false

def Qts (qs : List Qt) : Prop := ∀ q ∈ qs, (0 ≤ q.1 ∧ q.1 ≤ 15) ∧ 0 ≤ q.2 ∧ q.2 ≤ 6

theorem qts_of {w : Int} {qs : List Qt} (h : bokB w qs = true) : Qts qs := fun q hq => by
  have h1 := ((bokB_iff _ _).1 h).2.2 q hq
  obtain ⟨-, h2, h3, -, -, h4, h5⟩ := qok_true (w := w) (e := q.1) (p := q.2) h1
  exact ⟨⟨h4, h5⟩, h2, h3⟩

end Go.Proofs.Ytebebcomhdjihaa

namespace Go.Proofs.Ytebebcomhdjihaa
open Go.RowKit
set_option linter.unusedVariables false

abbrev MOwn (w : World) (base : Nat) (v : Value) (qs : List Qt) : Prop := GOwn 112 2 qC w base v qs

end Go.Proofs.Ytebebcomhdjihaa

namespace Go.Proofs.Ytebebcomhdjihaa
open Go.RowKit
set_option linter.unusedVariables false

def mUp (q : Int) (xs : List Qt) (k : Nat) : List Qt := (List.range k).map (fun i : Nat => (q + 2 * (i : Int), q + 2 * (i : Int) + 1)) ++ xs.drop k

theorem mUp_len (q : Int) (xs : List Qt) {k : Nat} (hk : k ≤ xs.length) : (mUp q xs k).length = xs.length := by simp [mUp]; omega

theorem mUp_set (q : Int) (xs : List Qt) {k : Nat} (hk : k < xs.length) : (mUp q xs k).set k (q + 2 * (k : Int), q + 2 * (k : Int) + 1) = mUp q xs (k + 1) := by
  unfold mUp
  rw [List.set_append_right _ _ (by simp), List.length_map, List.length_range, Nat.sub_self, List.drop_eq_getElem_cons hk, List.set_cons_zero, List.range_succ, List.map_append, List.append_assoc]
  rfl

def MMarkRel (w : World) (base : Nat) (q : Int) (v : Value) (xs : List Qt) (k : Nat) (wr : World) : Prop :=
  MOwn wr base v (mUp q xs k) ∧ w.grownBy wr v.ownBlock ∧ wr.heap.size = w.heap.size

theorem MMarkRel.step {w wr : World} {base g cap n : Nat} {q : Int} {xs : List Qt} {k : Nat} (h : MMarkRel w base q (.slice (some ⟨g, 0, none⟩) n cap) xs k wr) (hn : xs.length = n) (hk : k < n) :
    MMarkRel w base q (.slice (some ⟨g, 0, none⟩) n cap) xs (k + 1) ((wr.setCell ⟨g, k * 2, none⟩ (.int .i64 (q + 2 * (k : Int)))).setCell ⟨g, k * 2 + 1, none⟩ (.int .i64 (q + 2 * (k : Int) + 1))) := by
  subst hn
  obtain ⟨h1, h2, h5⟩ := h
  have hl := mUp_len q xs (Nat.le_of_lt hk)
  rw [← hl] at h1
  obtain ⟨h3, h4⟩ := GOwn.set2 (cp := cap) (x := (q + 2 * (k : Int), q + 2 * (k : Int) + 1)) qC_len h1 (by rw [hl]; exact hk) rfl
  rw [mUp_set q xs hk, hl] at h3
  exact ⟨h3, ⟨h4.os.trans h2.os, h4.tape.trans h2.tape, h4.output.trans h2.output, Nat.le_trans h2.size h4.size, fun i hi hne => (h4.block i (by omega) hne).trans (h2.block i hi hne)⟩, by simpa using h5⟩

end Go.Proofs.Ytebebcomhdjihaa

namespace Go.Proofs.Ytebebcomhdjihaa
set_option linter.unusedVariables false

abbrev Mk := Int × Int

inductive Tm where
  | lt (b : Bool)
  | no (t : Tm)
  | an (x y : Tm)
  | vel (x y : Tm)

def letM (b : Bool) : Mk := (0, if b = true then 1 else 0)

def encT : Tm → List Mk
  | .lt b => [letM b]
  | .no t => encT t ++ [(1, 0)]
  | .an x y => encT x ++ encT y ++ [(2, 0)]
  | .vel x y => encT x ++ encT y ++ [(3, 0)]

def cntS (p : Option Nat) (m : Mk) : Option Nat :=
  match p with
  | none => none
  | some n => if m = (0, 0) ∨ m = (0, 1) then some (n + 1) else if m = (1, 0) then (if 1 ≤ n then some n else none) else if m = (2, 0) ∨ m = (3, 0) then (if 2 ≤ n then some (n - 1) else none) else none

def cnt (l : List Mk) : Option Nat := l.foldl cntS (some 0)

def tmB (l : List Mk) : Bool := decide (cnt l = some 1) && decide (l.length ≤ 40)

theorem tmB_iff (l : List Mk) : tmB l = true ↔ cnt l = some 1 ∧ l.length ≤ 40 := by simp [tmB]

def stepM (st : List Tm) (m : Mk) : Option (List Tm) :=
  if m = (0, 0) then some (.lt false :: st)
  else if m = (0, 1) then some (.lt true :: st)
  else if m = (1, 0) then (match st with | x :: st => some (.no x :: st) | _ => none)
  else if m = (2, 0) then (match st with | y :: x :: st => some (.an x y :: st) | _ => none)
  else if m = (3, 0) then (match st with | y :: x :: st => some (.vel x y :: st) | _ => none)
  else none

def run : List Tm → List Mk → Option (List Tm)
  | st, [] => some st
  | st, m :: l => (stepM st m).bind fun st' => run st' l

theorem run_enc (T : Tm) (st : List Tm) (l : List Mk) : run st (encT T ++ l) = run (T :: st) l := by
  induction T generalizing st l with
  | lt b => cases b <;> simp [encT, letM, run, stepM]
  | no t ih => rw [encT, List.append_assoc, ih]; simp [run, stepM]
  | an x y ihx ihy => rw [encT, List.append_assoc, List.append_assoc, ihx, ihy]; simp [run, stepM]
  | vel x y ihx ihy => rw [encT, List.append_assoc, List.append_assoc, ihx, ihy]; simp [run, stepM]

def flatR (st : List Tm) : List Mk := st.reverse.flatMap encT

theorem flatR_cons (T : Tm) (st : List Tm) : flatR (T :: st) = flatR st ++ encT T := by
  unfold flatR
  rw [List.reverse_cons, List.flatMap_append]
  simp

theorem flatR_lt (b : Bool) (st : List Tm) : flatR (.lt b :: st) = flatR st ++ [letM b] := by rw [flatR_cons]; rfl

theorem flatR_no (x : Tm) (st : List Tm) : flatR (.no x :: st) = flatR (x :: st) ++ [(1, 0)] := by rw [flatR_cons, flatR_cons, encT, List.append_assoc]

theorem flatR_an (x y : Tm) (st : List Tm) : flatR (.an x y :: st) = flatR (y :: x :: st) ++ [(2, 0)] := by rw [flatR_cons, flatR_cons, flatR_cons, encT]; simp only [List.append_assoc]

theorem flatR_vel (x y : Tm) (st : List Tm) : flatR (.vel x y :: st) = flatR (y :: x :: st) ++ [(3, 0)] := by rw [flatR_cons, flatR_cons, flatR_cons, encT]; simp only [List.append_assoc]

theorem step_flat {st st' : List Tm} {m : Mk} (h : stepM st m = some st') : flatR st ++ [m] = flatR st' ∧ cntS (some st.length) m = some st'.length := by
  unfold stepM at h
  split at h
  · next e => subst e; obtain rfl := Option.some.inj h; exact ⟨by rw [flatR_lt]; rfl, by simp [cntS]⟩
  split at h
  · next e => subst e; obtain rfl := Option.some.inj h; exact ⟨by rw [flatR_lt]; rfl, by simp [cntS]⟩
  split at h
  · next e =>
    subst e
    match st, h with
    | x :: st, h => obtain rfl := Option.some.inj h; exact ⟨by rw [flatR_no], by simp [cntS]⟩
  split at h
  · next e =>
    subst e
    match st, h with
    | y :: x :: st, h => obtain rfl := Option.some.inj h; exact ⟨by rw [flatR_an], by simp [cntS]⟩
  split at h
  · next e =>
    subst e
    match st, h with
    | y :: x :: st, h => obtain rfl := Option.some.inj h; exact ⟨by rw [flatR_vel], by simp [cntS]⟩
  · cases h

theorem run_flat {l : List Mk} {st st' : List Tm} (h : run st l = some st') : flatR st ++ l = flatR st' ∧ l.foldl cntS (some st.length) = some st'.length := by
  induction l generalizing st with
  | nil => obtain rfl := Option.some.inj h; exact ⟨by simp, rfl⟩
  | cons m l ih =>
    rw [run] at h
    cases hs : stepM st m with
    | none => rw [hs] at h; cases h
    | some s1 =>
      rw [hs] at h
      obtain ⟨h1, h2⟩ := step_flat hs
      obtain ⟨h3, h4⟩ := ih h
      refine ⟨?_, ?_⟩
      · rw [← h3, ← h1]; simp
      · rw [List.foldl_cons, h2]; exact h4

theorem tree_cnt (T : Tm) : cnt (encT T) = some 1 := by
  have h := run_enc T [] []
  rw [List.append_nil] at h
  exact (run_flat (st := []) (st' := [T]) h).2

theorem enc_inj {T U : Tm} (h : encT T = encT U) : T = U := by
  have h1 := run_enc T [] []
  have h2 := run_enc U [] []
  rw [h, h2] at h1
  have h3 := Option.some.inj h1
  injection h3 with h3
  exact h3.symm

theorem tree_tm {T : Tm} (h : (encT T).length ≤ 40) : tmB (encT T) = true := (tmB_iff _).2 ⟨tree_cnt T, h⟩

def ownT : Tm → Nat
  | .vel _ _ => 0
  | .an _ _ => 1
  | _ => 2

def brk (b : Bool) (s : List UInt8) : List UInt8 := if b = true then 40 :: (s ++ [41]) else s

def txtT : Tm → List UInt8
  | .lt b => [if b = true then 98 else 97]
  | .no t => 33 :: brk (decide (ownT t < 2)) (txtT t)
  | .an x y => brk (decide (ownT x < 1)) (txtT x) ++ 38 :: brk (decide (ownT y < 2)) (txtT y)
  | .vel x y => txtT x ++ 124 :: brk (decide (ownT y < 1)) (txtT y)

def heldT (b : Nat) (t : Tm) : List UInt8 := brk (decide (ownT t < b)) (txtT t)

inductive Md where
  | atom
  | conj
  | conjL (t : Tm)
  | disj
  | disjL (t : Tm)

def prs : Nat → Md → List UInt8 → Option (Tm × List UInt8)
  | 0, _, _ => none
  | f + 1, .atom, [] => none
  | f + 1, .atom, c :: r =>
    if c = 97 then some (.lt false, r)
    else if c = 98 then some (.lt true, r)
    else if c = 33 then (prs f .atom r).map fun p => (.no p.1, p.2)
    else if c = 40 then (match prs f .disj r with | some (t, d :: r') => if d = 41 then some (t, r') else none | _ => none)
    else none
  | f + 1, .conj, s => (prs f .atom s).bind fun p => prs f (.conjL p.1) p.2
  | f + 1, .conjL t, [] => some (t, [])
  | f + 1, .conjL t, c :: r => if c = 38 then (prs f .atom r).bind fun p => prs f (.conjL (.an t p.1)) p.2 else some (t, c :: r)
  | f + 1, .disj, s => (prs f .conj s).bind fun p => prs f (.disjL p.1) p.2
  | f + 1, .disjL t, [] => some (t, [])
  | f + 1, .disjL t, c :: r => if c = 124 then (prs f .conj r).bind fun p => prs f (.disjL (.vel t p.1)) p.2 else some (t, c :: r)

theorem prs_more (f : Nat) : ∀ (m : Md) (s : List UInt8) (x : Tm × List UInt8), prs f m s = some x → prs (f + 1) m s = some x := by
  induction f with
  | zero => intro m s x h; simp [prs] at h
  | succ f ih =>
    intro m s x h
    match m, s, h with
    | .atom, [], h => simp [prs] at h
    | .atom, c :: r, h =>
      rw [prs] at h ⊢
      split at h
      · next e => rw [if_pos e]; exact h
      next e1 =>
      rw [if_neg e1]
      split at h
      · next e => rw [if_pos e]; exact h
      next e2 =>
      rw [if_neg e2]
      split at h
      · next e =>
        rw [if_pos e]
        cases hp : prs f .atom r with
        | none => rw [hp] at h; cases h
        | some p => rw [hp] at h; rw [ih _ _ _ hp]; exact h
      next e3 =>
      rw [if_neg e3]
      split at h
      · next e =>
        rw [if_pos e]
        cases hp : prs f .disj r with
        | none => rw [hp] at h; cases h
        | some p => rw [hp] at h; rw [ih _ _ _ hp]; exact h
      · cases h
    | .conj, s, h =>
      rw [prs] at h ⊢
      cases hp : prs f .atom s with
      | none => rw [hp] at h; cases h
      | some p => rw [hp] at h; rw [ih _ _ _ hp]; exact ih _ _ _ h
    | .conjL t, [], h => rw [prs] at h ⊢; exact h
    | .conjL t, c :: r, h =>
      rw [prs] at h ⊢
      split at h
      · next e =>
        rw [if_pos e]
        cases hp : prs f .atom r with
        | none => rw [hp] at h; cases h
        | some p => rw [hp] at h; rw [ih _ _ _ hp]; exact ih _ _ _ h
      · next e => rw [if_neg e]; exact h
    | .disj, s, h =>
      rw [prs] at h ⊢
      cases hp : prs f .conj s with
      | none => rw [hp] at h; cases h
      | some p => rw [hp] at h; rw [ih _ _ _ hp]; exact ih _ _ _ h
    | .disjL t, [], h => rw [prs] at h ⊢; exact h
    | .disjL t, c :: r, h =>
      rw [prs] at h ⊢
      split at h
      · next e =>
        rw [if_pos e]
        cases hp : prs f .conj r with
        | none => rw [hp] at h; cases h
        | some p => rw [hp] at h; rw [ih _ _ _ hp]; exact ih _ _ _ h
      · next e => rw [if_neg e]; exact h

theorem prs_mono {f g : Nat} {m : Md} {s : List UInt8} {x : Tm × List UInt8} (h : prs f m s = some x) (hfg : f ≤ g) : prs g m s = some x := by
  obtain ⟨d, rfl⟩ : ∃ d, g = f + d := ⟨g - f, by omega⟩
  clear hfg
  induction d with
  | zero => exact h
  | succ d ih => exact prs_more _ _ _ _ ih

def Rds (m : Md) (s : List UInt8) (T : Tm) (r : List UInt8) : Prop := ∃ f, prs f m s = some (T, r)

theorem rds_a (s : List UInt8) (T : Tm) (r : List UInt8) : Rds .atom (97 :: s) T r ↔ T = .lt false ∧ r = s := by
  constructor
  · rintro ⟨f, hf⟩
    cases f with
    | zero => simp [prs] at hf
    | succ f => simp [prs] at hf; exact ⟨hf.1.symm, hf.2.symm⟩
  · rintro ⟨rfl, rfl⟩; exact ⟨1, by simp [prs]⟩

theorem rds_b (s : List UInt8) (T : Tm) (r : List UInt8) : Rds .atom (98 :: s) T r ↔ T = .lt true ∧ r = s := by
  constructor
  · rintro ⟨f, hf⟩
    cases f with
    | zero => simp [prs] at hf
    | succ f => simp [prs] at hf; exact ⟨hf.1.symm, hf.2.symm⟩
  · rintro ⟨rfl, rfl⟩; exact ⟨1, by simp [prs]⟩

theorem rds_no (s : List UInt8) (T : Tm) (r : List UInt8) : Rds .atom (33 :: s) T r ↔ ∃ x, Rds .atom s x r ∧ T = .no x := by
  constructor
  · rintro ⟨f, hf⟩
    cases f with
    | zero => simp [prs] at hf
    | succ f =>
      simp [prs] at hf
      obtain ⟨x, hx, h2⟩ := hf
      exact ⟨x, ⟨f, hx⟩, h2.symm⟩
  · rintro ⟨x, ⟨f, hf⟩, rfl⟩
    exact ⟨f + 1, by simp [prs, hf]⟩

theorem rds_br (s : List UInt8) (T : Tm) (r : List UInt8) : Rds .atom (40 :: s) T r ↔ Rds .disj s T (41 :: r) := by
  constructor
  · rintro ⟨f, hf⟩
    cases f with
    | zero => simp [prs] at hf
    | succ f =>
      rw [prs] at hf
      simp only [show ((40 : UInt8) = 97) = False from by decide, show ((40 : UInt8) = 98) = False from by decide, show ((40 : UInt8) = 33) = False from by decide, if_false, if_true] at hf
      split at hf
      · next t d r' hp =>
        split at hf
        · next e =>
          subst e
          have h3 := Option.some.inj hf
          injection h3 with h4 h5
          subst h4 h5
          exact ⟨f, hp⟩
        · cases hf
      · cases hf
  · rintro ⟨f, hf⟩
    refine ⟨f + 1, ?_⟩
    rw [prs]
    simp only [show ((40 : UInt8) = 97) = False from by decide, show ((40 : UInt8) = 98) = False from by decide, show ((40 : UInt8) = 33) = False from by decide, if_false, if_true, hf]

theorem rds_conj (s : List UInt8) (T : Tm) (r : List UInt8) : Rds .conj s T r ↔ ∃ x q, Rds .atom s x q ∧ Rds (.conjL x) q T r := by
  constructor
  · rintro ⟨f, hf⟩
    cases f with
    | zero => simp [prs] at hf
    | succ f =>
      rw [prs] at hf
      cases hp : prs f .atom s with
      | none => rw [hp] at hf; cases hf
      | some p => rw [hp] at hf; exact ⟨p.1, p.2, ⟨f, hp⟩, ⟨f, hf⟩⟩
  · rintro ⟨x, q, ⟨f, hf⟩, ⟨g, hg⟩⟩
    refine ⟨max f g + 1, ?_⟩
    rw [prs, prs_mono hf (Nat.le_max_left f g)]
    exact prs_mono hg (Nat.le_max_right f g)

theorem rds_disj (s : List UInt8) (T : Tm) (r : List UInt8) : Rds .disj s T r ↔ ∃ x q, Rds .conj s x q ∧ Rds (.disjL x) q T r := by
  constructor
  · rintro ⟨f, hf⟩
    cases f with
    | zero => simp [prs] at hf
    | succ f =>
      rw [prs] at hf
      cases hp : prs f .conj s with
      | none => rw [hp] at hf; cases hf
      | some p => rw [hp] at hf; exact ⟨p.1, p.2, ⟨f, hp⟩, ⟨f, hf⟩⟩
  · rintro ⟨x, q, ⟨f, hf⟩, ⟨g, hg⟩⟩
    refine ⟨max f g + 1, ?_⟩
    rw [prs, prs_mono hf (Nat.le_max_left f g)]
    exact prs_mono hg (Nat.le_max_right f g)

theorem rds_conjL (t : Tm) (s : List UInt8) (T : Tm) (r : List UInt8) : Rds (.conjL t) (38 :: s) T r ↔ ∃ x q, Rds .atom s x q ∧ Rds (.conjL (.an t x)) q T r := by
  constructor
  · rintro ⟨f, hf⟩
    cases f with
    | zero => simp [prs] at hf
    | succ f =>
      rw [prs, if_pos rfl] at hf
      cases hp : prs f .atom s with
      | none => rw [hp] at hf; cases hf
      | some p => rw [hp] at hf; exact ⟨p.1, p.2, ⟨f, hp⟩, ⟨f, hf⟩⟩
  · rintro ⟨x, q, ⟨f, hf⟩, ⟨g, hg⟩⟩
    refine ⟨max f g + 1, ?_⟩
    rw [prs, if_pos rfl, prs_mono hf (Nat.le_max_left f g)]
    exact prs_mono hg (Nat.le_max_right f g)

theorem rds_disjL (t : Tm) (s : List UInt8) (T : Tm) (r : List UInt8) : Rds (.disjL t) (124 :: s) T r ↔ ∃ x q, Rds .conj s x q ∧ Rds (.disjL (.vel t x)) q T r := by
  constructor
  · rintro ⟨f, hf⟩
    cases f with
    | zero => simp [prs] at hf
    | succ f =>
      rw [prs, if_pos rfl] at hf
      cases hp : prs f .conj s with
      | none => rw [hp] at hf; cases hf
      | some p => rw [hp] at hf; exact ⟨p.1, p.2, ⟨f, hp⟩, ⟨f, hf⟩⟩
  · rintro ⟨x, q, ⟨f, hf⟩, ⟨g, hg⟩⟩
    refine ⟨max f g + 1, ?_⟩
    rw [prs, if_pos rfl, prs_mono hf (Nat.le_max_left f g)]
    exact prs_mono hg (Nat.le_max_right f g)

theorem rds_conj_stop {t : Tm} {s : List UInt8} (h : s.head? ≠ some 38) (T : Tm) (r : List UInt8) : Rds (.conjL t) s T r ↔ T = t ∧ r = s := by
  have hv : ∀ f, prs (f + 1) (.conjL t) s = some (t, s) := by
    intro f
    cases s with
    | nil => rfl
    | cons c s =>
      rw [prs, if_neg]
      intro e; subst e; exact h rfl
  constructor
  · rintro ⟨f, hf⟩
    have := prs_more _ _ _ _ hf
    rw [hv] at this
    have h3 := Option.some.inj this
    injection h3 with h4 h5
    exact ⟨h4.symm, h5.symm⟩
  · rintro ⟨rfl, rfl⟩; exact ⟨1, hv 0⟩

theorem rds_disj_stop {t : Tm} {s : List UInt8} (h : s.head? ≠ some 124) (T : Tm) (r : List UInt8) : Rds (.disjL t) s T r ↔ T = t ∧ r = s := by
  have hv : ∀ f, prs (f + 1) (.disjL t) s = some (t, s) := by
    intro f
    cases s with
    | nil => rfl
    | cons c s =>
      rw [prs, if_neg]
      intro e; subst e; exact h rfl
  constructor
  · rintro ⟨f, hf⟩
    have := prs_more _ _ _ _ hf
    rw [hv] at this
    have h3 := Option.some.inj this
    injection h3 with h4 h5
    exact ⟨h4.symm, h5.symm⟩
  · rintro ⟨rfl, rfl⟩; exact ⟨1, hv 0⟩

theorem reads (T : Tm) : (∀ r, Rds .atom (heldT 2 T ++ r) T r) ∧ (∀ r U q, Rds (.conjL T) r U q → Rds .conj (heldT 1 T ++ r) U q) ∧ (∀ r U q, r.head? ≠ some 38 → Rds (.disjL T) r U q → Rds .disj (txtT T ++ r) U q) := by
  have conjOf : ∀ T : Tm, heldT 1 T = heldT 2 T → (∀ r, Rds .atom (heldT 2 T ++ r) T r) → ∀ r U q, Rds (.conjL T) r U q → Rds .conj (heldT 1 T ++ r) U q := by
    intro T he h2 r U q h
    rw [he, rds_conj]
    exact ⟨T, r, h2 r, h⟩
  have disjOf : ∀ T : Tm, heldT 1 T = txtT T → (∀ r U q, Rds (.conjL T) r U q → Rds .conj (heldT 1 T ++ r) U q) → ∀ r U q, r.head? ≠ some 38 → Rds (.disjL T) r U q → Rds .disj (txtT T ++ r) U q := by
    intro T he h1 r U q hr h
    rw [rds_disj]
    refine ⟨T, r, ?_, h⟩
    rw [← he]
    exact h1 r T r ((rds_conj_stop hr _ _).2 ⟨rfl, rfl⟩)
  have atomOf : ∀ T : Tm, heldT 2 T = 40 :: (txtT T ++ [41]) → (∀ r U q, r.head? ≠ some 38 → Rds (.disjL T) r U q → Rds .disj (txtT T ++ r) U q) → ∀ r, Rds .atom (heldT 2 T ++ r) T r := by
    intro T he h0 r
    rw [he, List.cons_append, List.append_assoc, rds_br]
    exact h0 ([41] ++ r) T (41 :: r) (by simp) ((rds_disj_stop (by simp) _ _).2 ⟨rfl, rfl⟩)
  induction T with
  | lt b =>
    have a : ∀ r, Rds .atom (heldT 2 (.lt b) ++ r) (.lt b) r := by
      intro r
      cases b
      · exact (rds_a r _ _).2 ⟨rfl, rfl⟩
      · exact (rds_b r _ _).2 ⟨rfl, rfl⟩
    have c := conjOf (.lt b) rfl a
    exact ⟨a, c, disjOf (.lt b) rfl c⟩
  | no t ih =>
    have a : ∀ r, Rds .atom (heldT 2 (.no t) ++ r) (.no t) r := by
      intro r
      show Rds .atom (33 :: (heldT 2 t ++ r)) (.no t) r
      rw [rds_no]
      exact ⟨t, ih.1 r, rfl⟩
    have c := conjOf (.no t) rfl a
    exact ⟨a, c, disjOf (.no t) rfl c⟩
  | an x y ihx ihy =>
    have c : ∀ r U q, Rds (.conjL (.an x y)) r U q → Rds .conj (heldT 1 (.an x y) ++ r) U q := by
      intro r U q h
      show Rds .conj ((heldT 1 x ++ 38 :: heldT 2 y) ++ r) U q
      rw [List.append_assoc, List.cons_append]
      apply ihx.2.1
      rw [rds_conjL]
      exact ⟨y, r, ihy.1 r, h⟩
    have d := disjOf (.an x y) rfl c
    exact ⟨atomOf (.an x y) rfl d, c, d⟩
  | vel x y ihx ihy =>
    have d : ∀ r U q, r.head? ≠ some 38 → Rds (.disjL (.vel x y)) r U q → Rds .disj (txtT (.vel x y) ++ r) U q := by
      intro r U q hr h
      show Rds .disj ((txtT x ++ 124 :: heldT 1 y) ++ r) U q
      rw [List.append_assoc, List.cons_append]
      apply ihx.2.2 _ _ _ (by simp)
      rw [rds_disjL]
      refine ⟨y, r, ?_, h⟩
      exact ihy.2.1 r y r ((rds_conj_stop hr _ _).2 ⟨rfl, rfl⟩)
    have a := atomOf (.vel x y) rfl d
    exact ⟨a, conjOf (.vel x y) rfl a, d⟩

end Go.Proofs.Ytebebcomhdjihaa

namespace Go.Proofs.Ytebebcomhdjihaa
open Go.RowKit
set_option linter.unusedVariables false

def bs (S : ByteArray) : List UInt8 := S.data.toList

theorem bs_len (S : ByteArray) : (bs S).length = S.size := by rw [bs, Array.length_toList]; rfl

end Go.Proofs.Ytebebcomhdjihaa

namespace Go.Proofs.Ytebebcomhdjihaa
open Go.RowKit
set_option linter.unusedVariables false

noncomputable def txtI (t : List Mk) : List UInt8 := open Classical in if h : ∃ T, encT T = t ∧ t.length ≤ 40 then txtT h.choose else []

theorem txtI_tree {T : Tm} (h : (encT T).length ≤ 40) : txtI (encT T) = txtT T := by
  have hx : ∃ U, encT U = encT T ∧ (encT T).length ≤ 40 := ⟨T, rfl, h⟩
  unfold txtI
  rw [dif_pos hx, enc_inj hx.choose_spec.1]

end Go.Proofs.Ytebebcomhdjihaa

namespace Go.Proofs.Ytebebcomhdjihaa
open Go.RowKit
set_option linter.unusedVariables false

def dg (n : Nat) : UInt8 := UInt8.ofNat (48 + n)

def num (n : Int) : List UInt8 := if n < 0 then [45, dg (-n).toNat] else [dg n.toNat]

def wgB (s : Int) (t : List Mk) (p : Int) : Bool := inB s (-9) 9 && (tmB t && inB p 0 6)

theorem wgB_iff (s : Int) (t : List Mk) (p : Int) : wgB s t p = true ↔ (-9 ≤ s ∧ s ≤ 9) ∧ tmB t = true ∧ 0 ≤ p ∧ p ≤ 6 := by
  rw [wgB, Bool.and_eq_true, Bool.and_eq_true, inB_iff, inB_iff]

def wtx (s : Int) (l : List UInt8) (p : Int) : List UInt8 := num s ++ 42 :: (l ++ 64 :: num p)

noncomputable def wgT (s : Int) (t : List Mk) (p : Int) : List UInt8 := if wgB s t p = true then wtx s (txtI t) p else []

theorem wgT_yes {s : Int} {t : List Mk} {p : Int} (h : wgB s t p = true) : wgT s t p = wtx s (txtI t) p := by rw [wgT, if_pos h]

def pstep (c : UInt8) (l : List UInt8) (st : List (List UInt8) × Nat) (k : Nat) : List (List UInt8) × Nat := if l[k]? = some c then (st.1 ++ [(l.drop st.2).take (k - st.2)], k + 1) else st

def pcs (c : UInt8) (l : List UInt8) (k : Nat) : List (List UInt8) × Nat := (List.range k).foldl (pstep c l) ([], 0)

def cutF (c : UInt8) (l : List UInt8) : List (List UInt8) := (pcs c l l.length).1 ++ [l.drop (pcs c l l.length).2]

theorem pcs_succ (c : UInt8) (l : List UInt8) (k : Nat) : pcs c l (k + 1) = pstep c l (pcs c l k) k := by
  unfold pcs
  rw [List.range_succ, List.foldl_append]; rfl

def WReadsB (l : List UInt8) (s : Int) (T : Tm) (p : Int) : Prop := wtx s (txtT T) p = l ∧ (-9 ≤ s ∧ s ≤ 9) ∧ (0 ≤ p ∧ p ≤ 6) ∧ (encT T).length ≤ 40

theorem WReadsB.ok {l : List UInt8} {s : Int} {T : Tm} {p : Int} (h : WReadsB l s T p) : wgB s (encT T) p = true ∧ wgT s (encT T) p = l := by
  have hb : wgB s (encT T) p = true := (wgB_iff _ _ _).2 ⟨h.2.1, tree_tm h.2.2.2, h.2.2.1⟩
  exact ⟨hb, by rw [wgT_yes hb, txtI_tree h.2.2.2]; exact h.1⟩

end Go.Proofs.Ytebebcomhdjihaa

namespace Go.Proofs.Ytebebcomhdjihaa
set_option linter.unusedVariables false

def valN (l : List UInt8) : Nat := l.foldl (fun n c => 10 * n + (c.toNat - 48)) 0

theorem val_snoc (l : List UInt8) (c : UInt8) : valN (l ++ [c]) = 10 * valN l + (c.toNat - 48) := by simp [valN]

theorem cut_one {c : UInt8} {A : List UInt8} (hA : c ∉ A) : cutF c A = [A] := by
  have hk : ∀ k, pcs c A k = ([], 0) := by
    intro k
    induction k with
    | zero => rfl
    | succ k ih => rw [pcs_succ, pstep, ih, if_neg (fun e => hA (List.mem_of_getElem? e))]
  rw [cutF, hk]
  simp

end Go.Proofs.Ytebebcomhdjihaa

namespace Go.Proofs.Ytebebcomhdjihaa
open Go.RowKit
set_option linter.unusedVariables false

theorem IOwn.cellk {w : World} {base g n cap : Nat} {xs : List Int} (h : IOwn w base (.slice (some ⟨g, 0, none⟩) n cap) xs) {k : Nat} {x : Int} (hx : xs[k]? = some x) : w.cell? ⟨g, k, none⟩ = some (.int .i64 x) := by
  have := IRd.cellk h.rd hx
  rwa [Nat.zero_add] at this

theorem IOwn.frz {w : World} {base g n cap : Nat} {xs : List Int} (h : IOwn w base (.slice (some ⟨g, 0, none⟩) n cap) xs) (hn : xs.length = n) (k : Nat) : w.frozen? ⟨g, k, none⟩ = false := by
  subst hn
  unfold IOwn at h
  exact h.frozenAt k

theorem IOwn.set_ {w : World} {base g n cap : Nat} {xs : List Int} (h : IOwn w base (.slice (some ⟨g, 0, none⟩) n cap) xs) (hn : xs.length = n) (k : Nat) (x : Int) :
    IOwn (w.setCell ⟨g, k, none⟩ (.int .i64 x)) base (.slice (some ⟨g, 0, none⟩) n cap) (xs.set k x) ∧ w.grownBy (w.setCell ⟨g, k, none⟩ (.int .i64 x)) (some g) := by
  subst hn
  unfold IOwn at h ⊢
  obtain ⟨h1, h2⟩ := h.stored k (.int .i64 x)
  refine ⟨?_, h2⟩
  rw [List.length_set, List.map_set]
  exact h1

theorem IOwn.form {w : World} {base : Nat} {v : Value} {xs : List Int} (h : IOwn w base v xs) (hn : 0 < xs.length) : ∃ g cap, v = .slice (some ⟨g, 0, none⟩) xs.length cap ∧ xs.length ≤ cap ∧ cap ≤ 9223372036854775807 := by
  rcases h.2 with ⟨rfl, h0⟩ | ⟨g, cap, cur, rfl, -, -, h1, h2, -, -⟩
  · omega
  · exact ⟨g, cap, rfl, h1, by rw [maxLen_is] at h2; exact h2⟩

theorem grown_grown {w w1 w2 : World} {r : Option Nat} (h : w.grownBy w1 r) (k : w1.grownBy w2 r) : w.grownBy w2 r :=
  ⟨k.os.trans h.os, k.tape.trans h.tape, k.output.trans h.output, Nat.le_trans h.size k.size, fun i hi hne => (k.block i (by have := h.size; omega) hne).trans (h.block i hi hne)⟩

set_option maxHeartbeats 2000000 in
theorem l4First_any (w : World) (n g : Nat) (h1 : 1 ≤ n) (h4 : n ≤ 4) :
    Calls Try.prog 80 #[.int .i64 (n : Int), .int .i64 (g : Int)] w (NewInts (natL (firstL n g)) w) := by
  obtain ⟨i0, hi, hz0, hz1, hz2⟩ := info_parts Try_intinfo
  obtain rfl | rfl | rfl | rfl : n = 1 ∨ n = 2 ∨ n = 3 ∨ n = 4 := by omega
  · have hmk : ∀ w : World, (Instr.makeSlice 24 (.int .i64 1) (.int .i64 1)).run Try.prog w = .ok (.slice (some ⟨w.heap.size, 0, none⟩) 1 1) (w.alloc (.cells #[.int .i64 0] 3)) := by
      intro w
      have h := run_make (P := Try.prog) w 24 3 i0 (.int .i64 0) Try.underlying24 hi hz0 .i64 .i64 1 1 (by omega) (Int.le_refl _) (by rw [hz2]; omega) (by omega)
      rw [hz1] at h
      have e : madeCells (Value.int .i64 0).cells (Int.toNat 1 * 1) = #[.int .i64 0] := by kernel_rfl
      rw [e] at h
      exact h
    go_enter Try.func80, Try.ntmps80
    go_wp2
    go_ret
    refine ⟨_, rfl, ?_, by go_grown⟩
    exact World.ownsRow_lit w #[.int .i64 (g : Int)] 1 (Nat.le_refl _) (by unfold maxLen; omega) rfl
  · have hmk : ∀ w : World, (Instr.makeSlice 24 (.int .i64 2) (.int .i64 2)).run Try.prog w = .ok (.slice (some ⟨w.heap.size, 0, none⟩) 2 2) (w.alloc (.cells #[.int .i64 0, .int .i64 0] 3)) := by
      intro w
      have h := run_make (P := Try.prog) w 24 3 i0 (.int .i64 0) Try.underlying24 hi hz0 .i64 .i64 2 2 (by omega) (Int.le_refl _) (by rw [hz2]; omega) (by omega)
      rw [hz1] at h
      have e : madeCells (Value.int .i64 0).cells (Int.toNat 2 * 1) = #[.int .i64 0, .int .i64 0] := by kernel_rfl
      rw [e] at h
      exact h
    go_enter Try.func80, Try.ntmps80
    go_wp2
    go_ret
    refine ⟨_, rfl, ?_, by go_grown⟩
    exact World.ownsRow_lit w #[.int .i64 0, .int .i64 (g : Int)] 2 (Nat.le_refl _) (by unfold maxLen; omega) rfl
  · have hmk : ∀ w : World, (Instr.makeSlice 24 (.int .i64 3) (.int .i64 3)).run Try.prog w = .ok (.slice (some ⟨w.heap.size, 0, none⟩) 3 3) (w.alloc (.cells #[.int .i64 0, .int .i64 0, .int .i64 0] 3)) := by
      intro w
      have h := run_make (P := Try.prog) w 24 3 i0 (.int .i64 0) Try.underlying24 hi hz0 .i64 .i64 3 3 (by omega) (Int.le_refl _) (by rw [hz2]; omega) (by omega)
      rw [hz1] at h
      have e : madeCells (Value.int .i64 0).cells (Int.toNat 3 * 1) = #[.int .i64 0, .int .i64 0, .int .i64 0] := by kernel_rfl
      rw [e] at h
      exact h
    go_enter Try.func80, Try.ntmps80
    go_wp2
    go_ret
    refine ⟨_, rfl, ?_, by go_grown⟩
    exact World.ownsRow_lit w #[.int .i64 0, .int .i64 0, .int .i64 (g : Int)] 3 (Nat.le_refl _) (by unfold maxLen; omega) rfl
  · have hmk : ∀ w : World, (Instr.makeSlice 24 (.int .i64 4) (.int .i64 4)).run Try.prog w = .ok (.slice (some ⟨w.heap.size, 0, none⟩) 4 4) (w.alloc (.cells #[.int .i64 0, .int .i64 0, .int .i64 0, .int .i64 0] 3)) := by
      intro w
      have h := run_make (P := Try.prog) w 24 3 i0 (.int .i64 0) Try.underlying24 hi hz0 .i64 .i64 4 4 (by omega) (Int.le_refl _) (by rw [hz2]; omega) (by omega)
      rw [hz1] at h
      have e : madeCells (Value.int .i64 0).cells (Int.toNat 4 * 1) = #[.int .i64 0, .int .i64 0, .int .i64 0, .int .i64 0] := by kernel_rfl
      rw [e] at h
      exact h
    go_enter Try.func80, Try.ntmps80
    go_wp2
    go_ret
    refine ⟨_, rfl, ?_, by go_grown⟩
    exact World.ownsRow_lit w #[.int .i64 0, .int .i64 0, .int .i64 0, .int .i64 (g : Int)] 4 (Nat.le_refl _) (by unfold maxLen; omega) rfl

def StepPost (base : Nat) (v : Value) (l : List Nat) (w : World) (e : Ending) (w' : World) : Prop :=
  ∃ (t : Bool) (l' : List Nat), e = .returned (.bool t) ∧ stepL l = (if t = true then some l' else none) ∧ (t = false → l' = l) ∧ IOwn w' base v (natL l') ∧ w.grownBy w' v.ownBlock ∧ w'.heap.size = w.heap.size

theorem step_yes {base g n cap : Nat} {l l' : List Nat} {w w1 w2 w3 : World} {xs : List Int} (hs : stepL l = some l') (g1 : w.grownBy w1 (some g)) (g2 : w1.grownBy w2 (some g)) (g3 : w2.grownBy w3 (some g)) (o : IOwn w3 base (.slice (some ⟨g, 0, none⟩) n cap) xs) (hx : xs = natL l') (hz : w3.heap.size = w.heap.size) :
    StepPost base (.slice (some ⟨g, 0, none⟩) n cap) l w (.returned (.bool true)) w3 := by
  subst hx
  exact ⟨true, l', rfl, hs, (fun h => by cases h), o, grown_grown (grown_grown g1 g2) g3, hz⟩

theorem step_no {base : Nat} {v : Value} {l : List Nat} {w : World} (hs : stepL l = none) (o : IOwn w base v (natL l)) : StepPost base v l w (.returned (.bool false)) w :=
  ⟨false, l, rfl, hs, fun _ => rfl, o, World.grownBy.refl _ _, rfl⟩

set_option maxHeartbeats 2000000 in
theorem step_1_0 (w : World) (base : Nat) (v : Value) (a : Nat) (ha : a ≤ 36) (hv : IOwn w base v (natL [a])) :
    Calls Try.prog 81 #[v] w (StepPost base v [a] w) := by
  obtain ⟨g, cap, rfl, hc1, hc2⟩ := hv.form (by simp [natL])
  have hn : (natL [a]).length = 1 := rfl
  rw [hn] at hc1 ⊢
  rw [hn] at hv
  have hc3 : (1 : Int) ≤ (cap : Int) := by omega
  have k0 : w.cell? ⟨g, 0, none⟩ = some (.int .i64 ((a : Nat) : Int)) := hv.cellk rfl
  have f0 : w.frozen? ⟨g, 0, none⟩ = false := hv.frz rfl 0
  have HR := Lib.hid (step_no (l := [a]) (by simp [stepL]) hv)
  clear hv
  go_enter Try.func81, Try.ntmps81
  go_wp2_with fail
  go_rounds 6
  go_ret
  exact HR.out

set_option maxHeartbeats 2000000 in
theorem step_2_1 (w : World) (base : Nat) (v : Value) (a b : Nat) (ha : a ≤ 36) (hb : b ≤ 36) (hv : IOwn w base v (natL [a, b + 1])) :
    Calls Try.prog 81 #[v] w (StepPost base v [a, b + 1] w) := by
  obtain ⟨g, cap, rfl, hc1, hc2⟩ := hv.form (by simp [natL])
  have hn : (natL [a, b + 1]).length = 2 := rfl
  rw [hn] at hc1 ⊢
  rw [hn] at hv
  have hc3 : (2 : Int) ≤ (cap : Int) := by omega
  have k0 : w.cell? ⟨g, 0, none⟩ = some (.int .i64 ((a : Nat) : Int)) := hv.cellk rfl
  have f0 : w.frozen? ⟨g, 0, none⟩ = false := hv.frz rfl 0
  have k1 : w.cell? ⟨g, 1, none⟩ = some (.int .i64 ((b + 1 : Nat) : Int)) := hv.cellk rfl
  have f1 : w.frozen? ⟨g, 1, none⟩ = false := hv.frz rfl 1
  obtain ⟨o1, g1⟩ := hv.set_ rfl 1 0
  obtain ⟨o2, g2⟩ := o1.set_ rfl 0 ((a : Int) + 1)
  obtain ⟨o3, g3⟩ := o2.set_ rfl 1 (b : Int)
  have HR := Lib.hid (step_yes (l := [a, b + 1]) (l' := [a + 1, b]) (by simp [stepL, firstL]) g1 g2 g3 o3 (by simp [natL]) (by simp [World.setCell]))
  have hne : (((b + 1 : Nat) : Int) == 0) = false := by rw [beq_eq_false_iff_ne]; omega
  have hne2 : (((b : Int) + 1) == 0) = false := by rw [beq_eq_false_iff_ne]; omega
  clear o1 o2 o3 g1 g2 g3 hv
  go_enter Try.func81, Try.ntmps81
  go_wp2_with fail
  go_rounds 6
  go_ret
  have h := HR.out
  simpa using h

set_option maxHeartbeats 2000000 in
theorem step_2_0 (w : World) (base : Nat) (v : Value) (a : Nat) (ha : a ≤ 36) (hv : IOwn w base v (natL [a, 0])) :
    Calls Try.prog 81 #[v] w (StepPost base v [a, 0] w) := by
  obtain ⟨g, cap, rfl, hc1, hc2⟩ := hv.form (by simp [natL])
  have hn : (natL [a, 0]).length = 2 := rfl
  rw [hn] at hc1 ⊢
  rw [hn] at hv
  have hc3 : (2 : Int) ≤ (cap : Int) := by omega
  have k0 : w.cell? ⟨g, 0, none⟩ = some (.int .i64 ((a : Nat) : Int)) := hv.cellk rfl
  have f0 : w.frozen? ⟨g, 0, none⟩ = false := hv.frz rfl 0
  have k1 : w.cell? ⟨g, 1, none⟩ = some (.int .i64 0) := hv.cellk rfl
  have f1 : w.frozen? ⟨g, 1, none⟩ = false := hv.frz rfl 1
  have HR := Lib.hid (step_no (l := [a, 0]) (by simp [stepL]) hv)
  clear hv
  go_enter Try.func81, Try.ntmps81
  go_wp2_with fail
  go_rounds 6
  go_ret
  exact HR.out

set_option maxHeartbeats 2000000 in
theorem step_3_2 (w : World) (base : Nat) (v : Value) (a b c : Nat) (ha : a ≤ 36) (hb : b ≤ 36) (hc : c ≤ 36) (hv : IOwn w base v (natL [a, b, c + 1])) :
    Calls Try.prog 81 #[v] w (StepPost base v [a, b, c + 1] w) := by
  obtain ⟨g, cap, rfl, hc1, hc2⟩ := hv.form (by simp [natL])
  have hn : (natL [a, b, c + 1]).length = 3 := rfl
  rw [hn] at hc1 ⊢
  rw [hn] at hv
  have hc3 : (3 : Int) ≤ (cap : Int) := by omega
  have k0 : w.cell? ⟨g, 0, none⟩ = some (.int .i64 ((a : Nat) : Int)) := hv.cellk rfl
  have f0 : w.frozen? ⟨g, 0, none⟩ = false := hv.frz rfl 0
  have k1 : w.cell? ⟨g, 1, none⟩ = some (.int .i64 ((b : Nat) : Int)) := hv.cellk rfl
  have f1 : w.frozen? ⟨g, 1, none⟩ = false := hv.frz rfl 1
  have k2 : w.cell? ⟨g, 2, none⟩ = some (.int .i64 ((c + 1 : Nat) : Int)) := hv.cellk rfl
  have f2 : w.frozen? ⟨g, 2, none⟩ = false := hv.frz rfl 2
  obtain ⟨o1, g1⟩ := hv.set_ rfl 2 0
  obtain ⟨o2, g2⟩ := o1.set_ rfl 1 ((b : Int) + 1)
  obtain ⟨o3, g3⟩ := o2.set_ rfl 2 (c : Int)
  have HR := Lib.hid (step_yes (l := [a, b, c + 1]) (l' := [a, b + 1, c]) (by simp [stepL, firstL]) g1 g2 g3 o3 (by simp [natL]) (by simp [World.setCell]))
  have hne : (((c + 1 : Nat) : Int) == 0) = false := by rw [beq_eq_false_iff_ne]; omega
  have hne2 : (((c : Int) + 1) == 0) = false := by rw [beq_eq_false_iff_ne]; omega
  clear o1 o2 o3 g1 g2 g3 hv
  go_enter Try.func81, Try.ntmps81
  go_wp2_with fail
  go_rounds 6
  go_ret
  have h := HR.out
  simpa using h

set_option maxHeartbeats 2000000 in
theorem step_3_1 (w : World) (base : Nat) (v : Value) (a b : Nat) (ha : a ≤ 36) (hb : b ≤ 36) (hv : IOwn w base v (natL [a, b + 1, 0])) :
    Calls Try.prog 81 #[v] w (StepPost base v [a, b + 1, 0] w) := by
  obtain ⟨g, cap, rfl, hc1, hc2⟩ := hv.form (by simp [natL])
  have hn : (natL [a, b + 1, 0]).length = 3 := rfl
  rw [hn] at hc1 ⊢
  rw [hn] at hv
  have hc3 : (3 : Int) ≤ (cap : Int) := by omega
  have k0 : w.cell? ⟨g, 0, none⟩ = some (.int .i64 ((a : Nat) : Int)) := hv.cellk rfl
  have f0 : w.frozen? ⟨g, 0, none⟩ = false := hv.frz rfl 0
  have k1 : w.cell? ⟨g, 1, none⟩ = some (.int .i64 ((b + 1 : Nat) : Int)) := hv.cellk rfl
  have f1 : w.frozen? ⟨g, 1, none⟩ = false := hv.frz rfl 1
  have k2 : w.cell? ⟨g, 2, none⟩ = some (.int .i64 0) := hv.cellk rfl
  have f2 : w.frozen? ⟨g, 2, none⟩ = false := hv.frz rfl 2
  obtain ⟨o1, g1⟩ := hv.set_ rfl 1 0
  obtain ⟨o2, g2⟩ := o1.set_ rfl 0 ((a : Int) + 1)
  obtain ⟨o3, g3⟩ := o2.set_ rfl 2 (b : Int)
  have HR := Lib.hid (step_yes (l := [a, b + 1, 0]) (l' := [a + 1, 0, b]) (by simp [stepL, firstL]) g1 g2 g3 o3 (by simp [natL]) (by simp [World.setCell]))
  have hne : (((b + 1 : Nat) : Int) == 0) = false := by rw [beq_eq_false_iff_ne]; omega
  have hne2 : (((b : Int) + 1) == 0) = false := by rw [beq_eq_false_iff_ne]; omega
  clear o1 o2 o3 g1 g2 g3 hv
  go_enter Try.func81, Try.ntmps81
  go_wp2_with fail
  go_rounds 6
  go_ret
  have h := HR.out
  simpa using h

set_option maxHeartbeats 2000000 in
theorem step_3_0 (w : World) (base : Nat) (v : Value) (a : Nat) (ha : a ≤ 36) (hv : IOwn w base v (natL [a, 0, 0])) :
    Calls Try.prog 81 #[v] w (StepPost base v [a, 0, 0] w) := by
  obtain ⟨g, cap, rfl, hc1, hc2⟩ := hv.form (by simp [natL])
  have hn : (natL [a, 0, 0]).length = 3 := rfl
  rw [hn] at hc1 ⊢
  rw [hn] at hv
  have hc3 : (3 : Int) ≤ (cap : Int) := by omega
  have k0 : w.cell? ⟨g, 0, none⟩ = some (.int .i64 ((a : Nat) : Int)) := hv.cellk rfl
  have f0 : w.frozen? ⟨g, 0, none⟩ = false := hv.frz rfl 0
  have k1 : w.cell? ⟨g, 1, none⟩ = some (.int .i64 0) := hv.cellk rfl
  have f1 : w.frozen? ⟨g, 1, none⟩ = false := hv.frz rfl 1
  have k2 : w.cell? ⟨g, 2, none⟩ = some (.int .i64 0) := hv.cellk rfl
  have f2 : w.frozen? ⟨g, 2, none⟩ = false := hv.frz rfl 2
  have HR := Lib.hid (step_no (l := [a, 0, 0]) (by simp [stepL]) hv)
  clear hv
  go_enter Try.func81, Try.ntmps81
  go_wp2_with fail
  go_rounds 6
  go_ret
  exact HR.out

set_option maxHeartbeats 2000000 in
theorem step_4_3 (w : World) (base : Nat) (v : Value) (a b c d : Nat) (ha : a ≤ 36) (hb : b ≤ 36) (hc : c ≤ 36) (hd : d ≤ 36) (hv : IOwn w base v (natL [a, b, c, d + 1])) :
    Calls Try.prog 81 #[v] w (StepPost base v [a, b, c, d + 1] w) := by
  obtain ⟨g, cap, rfl, hc1, hc2⟩ := hv.form (by simp [natL])
  have hn : (natL [a, b, c, d + 1]).length = 4 := rfl
  rw [hn] at hc1 ⊢
  rw [hn] at hv
  have hc3 : (4 : Int) ≤ (cap : Int) := by omega
  have k0 : w.cell? ⟨g, 0, none⟩ = some (.int .i64 ((a : Nat) : Int)) := hv.cellk rfl
  have f0 : w.frozen? ⟨g, 0, none⟩ = false := hv.frz rfl 0
  have k1 : w.cell? ⟨g, 1, none⟩ = some (.int .i64 ((b : Nat) : Int)) := hv.cellk rfl
  have f1 : w.frozen? ⟨g, 1, none⟩ = false := hv.frz rfl 1
  have k2 : w.cell? ⟨g, 2, none⟩ = some (.int .i64 ((c : Nat) : Int)) := hv.cellk rfl
  have f2 : w.frozen? ⟨g, 2, none⟩ = false := hv.frz rfl 2
  have k3 : w.cell? ⟨g, 3, none⟩ = some (.int .i64 ((d + 1 : Nat) : Int)) := hv.cellk rfl
  have f3 : w.frozen? ⟨g, 3, none⟩ = false := hv.frz rfl 3
  obtain ⟨o1, g1⟩ := hv.set_ rfl 3 0
  obtain ⟨o2, g2⟩ := o1.set_ rfl 2 ((c : Int) + 1)
  obtain ⟨o3, g3⟩ := o2.set_ rfl 3 (d : Int)
  have HR := Lib.hid (step_yes (l := [a, b, c, d + 1]) (l' := [a, b, c + 1, d]) (by simp [stepL, firstL]) g1 g2 g3 o3 (by simp [natL]) (by simp [World.setCell]))
  have hne : (((d + 1 : Nat) : Int) == 0) = false := by rw [beq_eq_false_iff_ne]; omega
  have hne2 : (((d : Int) + 1) == 0) = false := by rw [beq_eq_false_iff_ne]; omega
  clear o1 o2 o3 g1 g2 g3 hv
  go_enter Try.func81, Try.ntmps81
  go_wp2_with fail
  go_rounds 6
  go_ret
  have h := HR.out
  simpa using h

set_option maxHeartbeats 2000000 in
theorem step_4_2 (w : World) (base : Nat) (v : Value) (a b c : Nat) (ha : a ≤ 36) (hb : b ≤ 36) (hc : c ≤ 36) (hv : IOwn w base v (natL [a, b, c + 1, 0])) :
    Calls Try.prog 81 #[v] w (StepPost base v [a, b, c + 1, 0] w) := by
  obtain ⟨g, cap, rfl, hc1, hc2⟩ := hv.form (by simp [natL])
  have hn : (natL [a, b, c + 1, 0]).length = 4 := rfl
  rw [hn] at hc1 ⊢
  rw [hn] at hv
  have hc3 : (4 : Int) ≤ (cap : Int) := by omega
  have k0 : w.cell? ⟨g, 0, none⟩ = some (.int .i64 ((a : Nat) : Int)) := hv.cellk rfl
  have f0 : w.frozen? ⟨g, 0, none⟩ = false := hv.frz rfl 0
  have k1 : w.cell? ⟨g, 1, none⟩ = some (.int .i64 ((b : Nat) : Int)) := hv.cellk rfl
  have f1 : w.frozen? ⟨g, 1, none⟩ = false := hv.frz rfl 1
  have k2 : w.cell? ⟨g, 2, none⟩ = some (.int .i64 ((c + 1 : Nat) : Int)) := hv.cellk rfl
  have f2 : w.frozen? ⟨g, 2, none⟩ = false := hv.frz rfl 2
  have k3 : w.cell? ⟨g, 3, none⟩ = some (.int .i64 0) := hv.cellk rfl
  have f3 : w.frozen? ⟨g, 3, none⟩ = false := hv.frz rfl 3
  obtain ⟨o1, g1⟩ := hv.set_ rfl 2 0
  obtain ⟨o2, g2⟩ := o1.set_ rfl 1 ((b : Int) + 1)
  obtain ⟨o3, g3⟩ := o2.set_ rfl 3 (c : Int)
  have HR := Lib.hid (step_yes (l := [a, b, c + 1, 0]) (l' := [a, b + 1, 0, c]) (by simp [stepL, firstL]) g1 g2 g3 o3 (by simp [natL]) (by simp [World.setCell]))
  have hne : (((c + 1 : Nat) : Int) == 0) = false := by rw [beq_eq_false_iff_ne]; omega
  have hne2 : (((c : Int) + 1) == 0) = false := by rw [beq_eq_false_iff_ne]; omega
  clear o1 o2 o3 g1 g2 g3 hv
  go_enter Try.func81, Try.ntmps81
  go_wp2_with fail
  go_rounds 6
  go_ret
  have h := HR.out
  simpa using h

set_option maxHeartbeats 2000000 in
theorem step_4_1 (w : World) (base : Nat) (v : Value) (a b : Nat) (ha : a ≤ 36) (hb : b ≤ 36) (hv : IOwn w base v (natL [a, b + 1, 0, 0])) :
    Calls Try.prog 81 #[v] w (StepPost base v [a, b + 1, 0, 0] w) := by
  obtain ⟨g, cap, rfl, hc1, hc2⟩ := hv.form (by simp [natL])
  have hn : (natL [a, b + 1, 0, 0]).length = 4 := rfl
  rw [hn] at hc1 ⊢
  rw [hn] at hv
  have hc3 : (4 : Int) ≤ (cap : Int) := by omega
  have k0 : w.cell? ⟨g, 0, none⟩ = some (.int .i64 ((a : Nat) : Int)) := hv.cellk rfl
  have f0 : w.frozen? ⟨g, 0, none⟩ = false := hv.frz rfl 0
  have k1 : w.cell? ⟨g, 1, none⟩ = some (.int .i64 ((b + 1 : Nat) : Int)) := hv.cellk rfl
  have f1 : w.frozen? ⟨g, 1, none⟩ = false := hv.frz rfl 1
  have k2 : w.cell? ⟨g, 2, none⟩ = some (.int .i64 0) := hv.cellk rfl
  have f2 : w.frozen? ⟨g, 2, none⟩ = false := hv.frz rfl 2
  have k3 : w.cell? ⟨g, 3, none⟩ = some (.int .i64 0) := hv.cellk rfl
  have f3 : w.frozen? ⟨g, 3, none⟩ = false := hv.frz rfl 3
  obtain ⟨o1, g1⟩ := hv.set_ rfl 1 0
  obtain ⟨o2, g2⟩ := o1.set_ rfl 0 ((a : Int) + 1)
  obtain ⟨o3, g3⟩ := o2.set_ rfl 3 (b : Int)
  have HR := Lib.hid (step_yes (l := [a, b + 1, 0, 0]) (l' := [a + 1, 0, 0, b]) (by simp [stepL, firstL]) g1 g2 g3 o3 (by simp [natL]) (by simp [World.setCell]))
  have hne : (((b + 1 : Nat) : Int) == 0) = false := by rw [beq_eq_false_iff_ne]; omega
  have hne2 : (((b : Int) + 1) == 0) = false := by rw [beq_eq_false_iff_ne]; omega
  clear o1 o2 o3 g1 g2 g3 hv
  go_enter Try.func81, Try.ntmps81
  go_wp2_with fail
  go_rounds 6
  go_ret
  have h := HR.out
  simpa using h

set_option maxHeartbeats 2000000 in
theorem step_4_0 (w : World) (base : Nat) (v : Value) (a : Nat) (ha : a ≤ 36) (hv : IOwn w base v (natL [a, 0, 0, 0])) :
    Calls Try.prog 81 #[v] w (StepPost base v [a, 0, 0, 0] w) := by
  obtain ⟨g, cap, rfl, hc1, hc2⟩ := hv.form (by simp [natL])
  have hn : (natL [a, 0, 0, 0]).length = 4 := rfl
  rw [hn] at hc1 ⊢
  rw [hn] at hv
  have hc3 : (4 : Int) ≤ (cap : Int) := by omega
  have k0 : w.cell? ⟨g, 0, none⟩ = some (.int .i64 ((a : Nat) : Int)) := hv.cellk rfl
  have f0 : w.frozen? ⟨g, 0, none⟩ = false := hv.frz rfl 0
  have k1 : w.cell? ⟨g, 1, none⟩ = some (.int .i64 0) := hv.cellk rfl
  have f1 : w.frozen? ⟨g, 1, none⟩ = false := hv.frz rfl 1
  have k2 : w.cell? ⟨g, 2, none⟩ = some (.int .i64 0) := hv.cellk rfl
  have f2 : w.frozen? ⟨g, 2, none⟩ = false := hv.frz rfl 2
  have k3 : w.cell? ⟨g, 3, none⟩ = some (.int .i64 0) := hv.cellk rfl
  have f3 : w.frozen? ⟨g, 3, none⟩ = false := hv.frz rfl 3
  have HR := Lib.hid (step_no (l := [a, 0, 0, 0]) (by simp [stepL]) hv)
  clear hv
  go_enter Try.func81, Try.ntmps81
  go_wp2_with fail
  go_rounds 6
  go_ret
  exact HR.out

end Go.Proofs.Ytebebcomhdjihaa

namespace Go.Proofs.Ytebebcomhdjihaa
open Go.RowKit
set_option linter.unusedVariables false

theorem l4Step_any (w : World) (base : Nat) (v : Value) (l : List Nat) (h1 : 1 ≤ l.length) (h4 : l.length ≤ 4) (hs : l.sum ≤ 36) (hv : IOwn w base v (natL l)) :
    Calls Try.prog 81 #[v] w (StepPost base v l w) := by
  match l, h1, h4, hs, hv with
  | [a], h1, h4, hs, hv =>
    simp only [List.sum_cons, List.sum_nil] at hs
    exact step_1_0 w base v a (by omega) hv
  | [a, b], h1, h4, hs, hv =>
    simp only [List.sum_cons, List.sum_nil] at hs
    cases b with
    | zero =>
      exact step_2_0 w base v a (by omega) hv
    | succ b => exact step_2_1 w base v a b (by omega) (by omega) hv
  | [a, b, c], h1, h4, hs, hv =>
    simp only [List.sum_cons, List.sum_nil] at hs
    cases c with
    | zero =>
      cases b with
      | zero =>
        exact step_3_0 w base v a (by omega) hv
      | succ b => exact step_3_1 w base v a b (by omega) (by omega) hv
    | succ c => exact step_3_2 w base v a b c (by omega) (by omega) (by omega) hv
  | [a, b, c, d], h1, h4, hs, hv =>
    simp only [List.sum_cons, List.sum_nil] at hs
    cases d with
    | zero =>
      cases c with
      | zero =>
        cases b with
        | zero =>
          exact step_4_0 w base v a (by omega) hv
        | succ b => exact step_4_1 w base v a b (by omega) (by omega) hv
      | succ c => exact step_4_2 w base v a b c (by omega) (by omega) (by omega) hv
    | succ d => exact step_4_3 w base v a b c d (by omega) (by omega) (by omega) (by omega) hv

def WkRel (B : World) (n g : Nat) (v : Value) (d : Nat) (t : Bool) (wr : World) : Prop :=
  Below B.heap.size B wr ∧ ∃ l, IOwn wr B.heap.size v (natL l) ∧ (t = true → (lay n g)[d]? = some l) ∧ (t = false → (lay n g).length = d)

theorem lay_facts {n g d : Nat} {l : List Nat} (h1 : 1 ≤ n) (h : (lay n g)[d]? = some l) : l.length = n ∧ l.sum = g := by
  obtain ⟨k, rfl⟩ : ∃ k, n = k + 1 := ⟨n - 1, by omega⟩
  exact (mem_lay k g l).1 (List.mem_of_getElem? h)

theorem WkRel.keep {B wr w' : World} {n g d : Nat} {v : Value} {t : Bool} (h : WkRel B n g v d t wr) (hb : Below wr.heap.size wr w') : WkRel B n g v d t w' := by
  obtain ⟨h1, l, h2, h3, h4⟩ := h
  exact ⟨below_step h1 hb h1.size, l, h2.keep (SameAt.of_below hb), h3, h4⟩

theorem WkRel.start {B w' : World} {n g : Nat} {v : Value} (h1 : 1 ≤ n) (o : IOwn w' B.heap.size v (natL (firstL n g))) (hb : Below B.heap.size B w') : WkRel B n g v 0 true w' := by
  obtain ⟨k, rfl⟩ : ∃ k, n = k + 1 := ⟨n - 1, by omega⟩
  exact ⟨hb, _, o, fun _ => lay_first k g, fun h => by cases h⟩

theorem WkRel.step {B wr w' : World} {n g d : Nat} {v : Value} {l : List Nat} {e : Ending} (h1 : 1 ≤ n) (h4 : n ≤ 4) (hg : g = 36 ∨ g = 18 ∨ g = 12 ∨ g = 6) (hb : Below B.heap.size B wr) (hd : (lay n g)[d]? = some l)
    (h : StepPost B.heap.size v l wr e w') : ∃ t, e = .returned (.bool t) ∧ WkRel B n g v (d + 1) t w' := by
  obtain ⟨t, l', rfl, hs, -, o, hgr, hz⟩ := h
  have hc := chain_at (chain_of h1 h4 hg) hd
  have hlt : d < (lay n g).length := (List.getElem?_eq_some_iff.1 hd).1
  refine ⟨t, rfl, hb.grown hgr hb.size (fun k hk => (o.ge k hk).1), l', o, fun ht => ?_, fun ht => ?_⟩
  · subst ht; rw [← hc]; exact hs
  · subst ht
    have : (lay n g)[d + 1]? = none := by rw [← hc]; exact hs
    have := List.getElem?_eq_none_iff.1 this
    omega

def firstB (n : Int) (qs : List Qt) : Bool := bokB n qs && (firstFit n.toNat qs).isSome

def firstR (n : Int) (qs : List Qt) : List Int := if bokB n qs = true then ((firstFit n.toNat qs).map natL).getD [] else []

theorem first_no {n : Int} {qs : List Qt} (h : bokB n qs = false) : firstB n qs = false ∧ firstR n qs = [] := by
  constructor
  · rw [firstB, h]; rfl
  · rw [firstR, h]; rfl

end Go.Proofs.Ytebebcomhdjihaa

namespace Go.Proofs.Ytebebcomhdjihaa
open Go.RowKit
set_option linter.unusedVariables false

end Go.Proofs.Ytebebcomhdjihaa
