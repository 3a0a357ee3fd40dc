/- Plain facts on parts of worlds: keys, representatives, tables. -/
import Derived.Test.YtnleljofoljdkaaDoorEv2
namespace Go.Proofs.YtnleljofoljdkaaDoor
open Go.RowKit
set_option linter.unusedVariables false

/-- is the world a in the event e -/
def bitB (e : Int) (a : Nat) : Bool := e / 2 ^ a % 2 == 1

def keyN : List Int → Nat → Nat
  | [], _ => 0
  | e :: l, a => (if bitB e a then 1 else 0) + 2 * keyN l a

theorem keyN_snoc (l : List Int) (e : Int) (a : Nat) : keyN (l ++ [e]) a = keyN l a + (if bitB e a then 2 ^ l.length else 0) := by
  induction l with
  | nil => simp [keyN]
  | cons x l ih =>
    simp only [List.cons_append, keyN, ih, List.length_cons, Nat.pow_succ]
    by_cases h : bitB e a = true
    · rw [if_pos h, if_pos h]; omega
    · rw [if_neg h, if_neg h]; omega

theorem keyN_lt (l : List Int) (a : Nat) : keyN l a < 2 ^ l.length := by
  induction l with
  | nil => simp [keyN]
  | cons x l ih =>
    simp only [keyN, List.length_cons, Nat.pow_succ]
    split <;> omega

theorem keyN_eq (l : List Int) (a b : Nat) : keyN l a = keyN l b ↔ ∀ e ∈ l, bitB e a = bitB e b := by
  induction l with
  | nil => simp [keyN]
  | cons x l ih =>
    simp only [keyN, List.mem_cons, forall_eq_or_imp, ← ih]
    constructor
    · intro h
      rcases Bool.eq_false_or_eq_true (bitB x a) with h1 | h1 <;> rcases Bool.eq_false_or_eq_true (bitB x b) with h2 | h2 <;> rw [h1, h2] at h ⊢ <;> simp at h ⊢ <;> omega
    · rintro ⟨h1, h2⟩
      rw [h1, h2]

/-- the least index from i on, at most f further, at which K is v -/
def lst (K : Nat → Nat) (v : Nat) : Nat → Nat → Nat
  | 0, i => i
  | f + 1, i => if K i = v then i else lst K v f (i + 1)

theorem lst_spec (K : Nat → Nat) (v f i : Nat) (h : K (i + f) = v) : K (lst K v f i) = v ∧ (∀ m, i ≤ m → K m = v → lst K v f i ≤ m) ∧ lst K v f i ≤ i + f := by
  induction f generalizing i with
  | zero => exact ⟨by simpa [lst] using h, fun m hm _ => by simpa [lst] using hm, by simp [lst]⟩
  | succ f ih =>
    unfold lst
    by_cases hk : K i = v
    · rw [if_pos hk]; exact ⟨hk, fun m hm _ => hm, by omega⟩
    · rw [if_neg hk]
      obtain ⟨h1, h2, h3⟩ := ih (i + 1) (by rw [show i + 1 + f = i + (f + 1) from by omega]; exact h)
      refine ⟨h1, fun m hm hv => h2 m ?_ hv, by omega⟩
      rcases Nat.eq_or_lt_of_le hm with e | e
      · subst e; exact absurd hv hk
      · exact e

def rep (K : Nat → Nat) (a : Nat) : Nat := lst K (K a) a 0

theorem rep_le (K : Nat → Nat) (a : Nat) : rep K a ≤ a := by
  have := (lst_spec K (K a) a 0 (by rw [Nat.zero_add])).2.2
  unfold rep; omega

theorem rep_iff (K : Nat → Nat) (a b : Nat) : K a = K b ↔ rep K a = rep K b := by
  have ha := lst_spec K (K a) a 0 (by rw [Nat.zero_add])
  have hb := lst_spec K (K b) b 0 (by rw [Nat.zero_add])
  unfold rep
  constructor
  · intro h
    rw [h] at ha ⊢
    exact Nat.le_antisymm (ha.2.1 _ (Nat.zero_le _) hb.1) (hb.2.1 _ (Nat.zero_le _) (by have := ha.1; exact this))
  · intro h
    rw [← ha.1, ← hb.1, h]

/-- the sum of the powers of the worlds below k of which s holds -/
def partN (s : Nat → Bool) : Nat → Nat
  | 0 => 0
  | k + 1 => partN s k + if s k then 2 ^ k else 0

theorem partN_lt (s : Nat → Bool) (k : Nat) : partN s k < 2 ^ k := by
  induction k with
  | zero => simp [partN]
  | succ k ih => simp only [partN, Nat.pow_succ]; split <;> omega

theorem partN_congr {s t : Nat → Bool} (k : Nat) (h : ∀ i, i < k → s i = t i) : partN s k = partN t k := by
  induction k with
  | zero => rfl
  | succ k ih => simp only [partN]; rw [ih (fun i hi => h i (by omega)), h k (by omega)]

/-- the least world of a part -/
def lwN (p : Nat) : Nat := if p % 2 = 1 then 0 else if p / 2 % 2 = 1 then 1 else if p / 4 % 2 = 1 then 2 else 3

/-- the part of the world a among n worlds with representatives c -/
def cpart (c : Nat → Nat) (n a : Nat) : Nat := partN (fun v => c v == c a) n
def cfirst (c : Nat → Nat) (a : Nat) : Bool := (List.range a).all fun v => !(c v == c a)
/-- the parts of the worlds below k -/
def cparts (c : Nat → Nat) (n k : Nat) : List Nat := ((List.range k).filter (cfirst c)).map (cpart c n)

def four (c0 c1 c2 c3 : Nat) : Nat → Nat
  | 0 => c0
  | 1 => c1
  | 2 => c2
  | _ => c3

theorem cparts_congr {c d : Nat → Nat} (h : ∀ a, a < 4 → c a = d a) (n k : Nat) (hn : n ≤ 4) (hk : k ≤ n) : cparts c n k = cparts d n k := by
  have h1 : ∀ a, a < 4 → cpart c n a = cpart d n a := fun a ha => partN_congr n fun i hi => by rw [h i (by omega), h a ha]
  have h2 : ∀ a, a < 4 → cfirst c a = cfirst d a := fun a ha => by
    unfold cfirst
    rw [Bool.eq_iff_iff]
    simp only [List.all_eq_true, List.mem_range]
    constructor
    · intro H x hx; rw [← h x (by omega), ← h a ha]; exact H x hx
    · intro H x hx; rw [h x (by omega), h a ha]; exact H x hx
  unfold cparts
  have e : (List.range k).filter (cfirst c) = (List.range k).filter (cfirst d) := List.filter_congr fun x hx => h2 x (by have := List.mem_range.1 hx; omega)
  rw [e]
  exact List.map_congr_left fun x hx => h1 x (by have := List.mem_range.1 (List.mem_filter.1 hx).1; omega)

def sortedB (l : List Nat) : Bool := (List.range l.length).all fun j => (List.range j).all fun i => decide (lwN (l.getD i 0) < lwN (l.getD j 0))

/-- what one step of the loop of parts does -/
def stepB (c : Nat → Nat) (n k : Nat) : Bool :=
  let l := cparts c n k
  let p := cpart c n k
  decide (1 ≤ p) && decide (p ≤ 15) && sortedB l && l.all (fun x => decide (1 ≤ x) && decide (x ≤ 15)) && decide (l.length ≤ k) &&
    (((List.range l.length).any (fun q => lwN (l.getD q 0) == lwN p) && (cparts c n (k + 1) == l)) ||
     (l.all (fun x => decide (lwN x < lwN p)) && (cparts c n (k + 1) == l ++ [p])))

theorem step_tab : ∀ c1 : Fin 2, ∀ c2 : Fin 3, ∀ c3 : Fin 4, ∀ n : Fin 5, ∀ k : Fin 4, k.val < n.val → stepB (four 0 c1 c2 c3) n k = true := by decide +kernel

theorem of_rep (K : Nat → Nat) : ∃ c1 : Fin 2, ∃ c2 : Fin 3, ∃ c3 : Fin 4, ∀ a, a < 4 → rep K a = four 0 c1 c2 c3 a := by
  have h0 := rep_le K 0
  have h1 := rep_le K 1
  have h2 := rep_le K 2
  have h3 := rep_le K 3
  refine ⟨⟨rep K 1, by omega⟩, ⟨rep K 2, by omega⟩, ⟨rep K 3, by omega⟩, fun a ha => ?_⟩
  obtain rfl | rfl | rfl | rfl : a = 0 ∨ a = 1 ∨ a = 2 ∨ a = 3 := by omega
  · show rep K 0 = 0; omega
  · rfl
  · rfl
  · rfl

theorem cpart_congr {c d : Nat → Nat} (h : ∀ a, a < 4 → c a = d a) (n a : Nat) (hn : n ≤ 4) (ha : a < 4) : cpart c n a = cpart d n a :=
  partN_congr n fun i hi => by rw [h i (by omega), h a ha]

/-- the steps, at the keys' own representatives -/
theorem step_rep (K : Nat → Nat) (n k : Nat) (hn : n ≤ 4) (hk : k < n) : stepB (rep K) n k = true := by
  obtain ⟨c1, c2, c3, h⟩ := of_rep K
  have := step_tab c1 c2 c3 ⟨n, by omega⟩ ⟨k, by omega⟩ hk
  unfold stepB at this ⊢
  rw [cparts_congr h n k hn (by omega), cparts_congr h n (k + 1) hn (by omega), cpart_congr h n k hn (by omega)]
  exact this

/-- the part of a by keys is that by representatives -/
theorem part_key (K : Nat → Nat) (n a : Nat) : partN (fun v => K v == K a) n = cpart (rep K) n a :=
  partN_congr n fun i _ => by
    rw [Bool.eq_iff_iff]
    simp only [beq_iff_eq]
    exact rep_iff K i a

/-- an event that does not part what has one key is the sum of the parts that imply it; the parts are apart and together all -/
def lawB (c : Nat → Nat) (n : Nat) : Bool :=
  let l := cparts c n n
  decide (1 ≤ l.length) && decide (l.length ≤ 4) && (l.foldl (· + ·) 0 == 2 ^ n - 1) && ((List.range l.length).all fun k => (List.range k).all fun j => apB (n : Int) ((l.getD k 0 : Nat) : Int) ((l.getD j 0 : Nat) : Int))
def impN (n p e : Nat) : Bool := impB (n : Int) (p : Int) (e : Int)
def sumB (c : Nat → Nat) (n e : Nat) : Bool :=
  !((List.range n).all fun a => (List.range n).all fun b => !(c a == c b) || (bitB (e : Int) a == bitB (e : Int) b)) ||
    (((cparts c n n).filter fun p => impN n p e).foldl (· + ·) 0 == e)

theorem law_tab : ∀ c1 : Fin 2, ∀ c2 : Fin 3, ∀ c3 : Fin 4, ∀ n : Fin 5, 1 ≤ n.val → lawB (four 0 c1 c2 c3) n = true := by decide +kernel

theorem sum_tab : ∀ c1 : Fin 2, ∀ c2 : Fin 3, ∀ c3 : Fin 4, ∀ n : Fin 5, ∀ e : Fin 16, 1 ≤ n.val → e.val < 2 ^ n.val → sumB (four 0 c1 c2 c3) n e = true := by decide +kernel

end Go.Proofs.YtnleljofoljdkaaDoor
