/- The facts of the laws of chapter 4. No condition. -/
import Derived.Test.YtfdgelikmhaagaaMv
import Derived.Test.YtfdgelikmhaagaaMt
namespace Go.Proofs.Ytfdgelikmhaagaa
set_option linter.unusedVariables false

/-! grains on events -/

theorem onI_not (m : List Int) (e : Int) (h0 : 0 ≤ e) (h : e < 2 ^ m.length) : onI m e + onI m (2 ^ m.length - 1 - e) = m.sum := by
  induction m generalizing e with
  | nil => simp [onI]
  | cons x m ih =>
    simp only [onI, List.sum_cons, List.length_cons] at *
    have hp : (2 : Int) ^ (m.length + 1) = 2 * 2 ^ m.length := by rw [Int.pow_succ, Int.mul_comm]
    have := ih (e / 2) (by omega) (by omega)
    rw [show (2 ^ (m.length + 1) - 1 - e) / 2 = 2 ^ m.length - 1 - e / 2 from by omega]
    rcases Int.emod_two_eq e with h2 | h2
    · rw [h2, show (2 ^ (m.length + 1) - 1 - e) % 2 = 1 from by omega]; omega
    · rw [h2, show (2 ^ (m.length + 1) - 1 - e) % 2 = 0 from by omega]; omega

theorem onI_zero (m : List Int) : onI m 0 = 0 := by
  induction m with
  | nil => rfl
  | cons x m ih => simp [onI, ih]

theorem on_notI {m : List Int} {w e : Int} (hw : w = (m.length : Int)) (h : evB w e = true) : onI m e + onI m (notI w e) = m.sum := by
  obtain ⟨h1, h2, h3, h4⟩ := (evB_iff _ _).1 h
  rw [notI_eq h]
  subst hw
  unfold allI at h4 ⊢
  rw [Int.toNat_natCast] at h4 ⊢
  exact onI_not m e h3 (by omega)

theorem on_all (m : List Int) : onI m (2 ^ m.length - 1) = m.sum := by
  have := onI_not m 0 (by omega) (Int.pow_pos (by decide))
  rw [onI_zero] at this
  rw [show (2 : Int) ^ m.length - 1 - 0 = 2 ^ m.length - 1 from by omega] at this
  omega

/-! what gambles bring -/

def brI : List Int → List Int → Int
  | x :: m, y :: g => x * y + brI m g
  | _, _ => 0

theorem brI_snoc (m g : List Int) (x y : Int) (h : m.length = g.length) : brI (m ++ [x]) (g ++ [y]) = brI m g + x * y := by
  induction m generalizing g with
  | nil =>
    obtain rfl := List.eq_nil_of_length_eq_zero h.symm
    simp [brI]
  | cons a m ih =>
    cases g with
    | nil => simp at h
    | cons b g =>
      simp only [List.cons_append, brI]
      rw [ih g (by simpa using h)]; omega

theorem brI_take {m g : List Int} {k : Nat} {x y : Int} (hx : m[k]? = some x) (hy : g[k]? = some y) (h : m.length = g.length) : brI (m.take (k + 1)) (g.take (k + 1)) = brI (m.take k) (g.take k) + x * y := by
  rw [List.take_add_one, List.take_add_one, hx, hy]
  exact brI_snoc _ _ _ _ (by simp [h])

theorem brI_bounds (m g : List Int) (h : m.length = g.length) (hm : ∀ x ∈ m, 0 ≤ x) (a b : Int) (ha : ∀ y ∈ g, a ≤ y) (hb : ∀ y ∈ g, y ≤ b) : m.sum * a ≤ brI m g ∧ brI m g ≤ m.sum * b := by
  induction m generalizing g with
  | nil => simp [brI]
  | cons x m ih =>
    cases g with
    | nil => simp at h
    | cons y g =>
      obtain ⟨h1, h2⟩ := ih g (by simpa using h) (fun z hz => hm z (by simp [hz])) (fun z hz => ha z (by simp [hz])) (fun z hz => hb z (by simp [hz]))
      have hx := hm x (by simp)
      have e1 := Int.mul_le_mul_of_nonneg_left (ha y (by simp)) hx
      have e2 := Int.mul_le_mul_of_nonneg_left (hb y (by simp)) hx
      simp only [brI, List.sum_cons, Int.add_mul]
      omega

theorem brI_neg (m g : List Int) : brI m (mulL g (-1)) = - brI m g := by
  induction m generalizing g with
  | nil => simp [brI]
  | cons x m ih =>
    cases g with
    | nil => simp [brI, mulL]
    | cons y g =>
      show x * (y * -1) + brI m (mulL g (-1)) = -(x * y + brI m g)
      rw [ih, Int.mul_neg_one, Int.mul_neg]; omega

theorem brI_add (m : List Int) (l : List Nat) (f g : Nat → Int) : brI m (l.map fun k => f k + g k) = brI m (l.map f) + brI m (l.map g) := by
  induction m generalizing l with
  | nil => simp [brI]
  | cons x m ih =>
    cases l with
    | nil => simp [brI]
    | cons k l => simp only [List.map_cons, brI, ih, Int.mul_add]; omega

theorem brI_gain (m : List Int) (q : Qt) (s : Int) : brI m ((List.range m.length).map (gainI q s)) = s * (6 * onI m q.1 - q.2 * m.sum) := by
  induction m generalizing q with
  | nil => simp [brI, onI]
  | cons x m ih =>
    rw [List.length_cons, List.range_succ_eq_map, List.map_cons, List.map_map]
    have hs : (gainI q s ∘ Nat.succ) = gainI (q.1 / 2, q.2) s := by
      funext k
      show s * (bitI q.1 (k + 1) * 6 - q.2) = s * (bitI (q.1 / 2) k * 6 - q.2)
      rw [bitI_succ]
    rw [hs]
    simp only [brI, onI, List.sum_cons]
    rw [ih (q.1 / 2, q.2)]
    unfold gainI
    rw [bitI_zero]
    show x * (s * (q.1 % 2 * 6 - q.2)) + s * (6 * onI m (q.1 / 2) - q.2 * m.sum) = s * (6 * (q.1 % 2 * x + onI m (q.1 / 2)) - q.2 * (x + m.sum))
    rw [Int.mul_left_comm, ← Int.mul_add]
    congr 1
    rcases Int.emod_two_eq q.1 with h | h <;> rw [h] <;> simp only [Int.mul_sub, Int.mul_add, Int.mul_comm x q.2] <;> omega

/-- by what fits, a book's balance brings nothing -/
theorem brI_bal (m : List Int) (qs : List Qt) (ss : List Int) (h : ∀ q ∈ qs, 6 * onI m q.1 = q.2 * m.sum) : brI m ((List.range m.length).map (balI qs ss)) = 0 := by
  have hz : ∀ (m : List Int) (l : List Nat), brI m (l.map fun _ => (0 : Int)) = 0 := by
    intro m
    induction m with
    | nil => intro l; simp [brI]
    | cons x m ih =>
      intro l
      cases l with
      | nil => simp [brI]
      | cons k l => simp only [List.map_cons, brI, ih]; simp
  induction qs generalizing ss with
  | nil => exact hz m _
  | cons q qs ih =>
    cases ss with
    | nil => exact hz m _
    | cons s ss =>
      have : balI (q :: qs) (s :: ss) = fun k => gainI q s k + balI qs ss k := rfl
      rw [this, brI_add, brI_gain, ih ss (fun p hp => h p (by simp [hp])), h q (by simp)]
      simp

theorem mea_parts {m : List Int} (h : meaB m = true) : (∀ x ∈ m, 0 ≤ x) ∧ m.sum = 36 ∧ 1 ≤ m.length ∧ m.length ≤ 4 := by
  obtain ⟨h1, h2, h3, h4⟩ := (meaB_iff m).1 h
  exact ⟨fun x hx => (h1 x hx).1, h4, h2, h3⟩

/-- each bet alone brings nothing just if the measure fits -/
theorem fit_gain {m : List Int} (hm : meaB m = true) {q : Qt} : brI m (gainL (m.length : Int) q 1) = 0 ↔ onI m q.1 = 6 * q.2 := by
  obtain ⟨-, hs, -, -⟩ := mea_parts hm
  unfold gainL
  rw [Int.toNat_natCast, brI_gain, hs]
  omega

theorem fit_bal {m : List Int} (hm : meaB m = true) {qs : List Qt} (hf : fitI m qs = true) (ss : List Int) : brI m (balL (m.length : Int) qs ss) = 0 := by
  obtain ⟨-, hs, -, -⟩ := mea_parts hm
  unfold balL
  rw [Int.toNat_natCast]
  refine brI_bal m qs ss fun q hq => ?_
  have := (fitI_iff _ _).1 hf q hq
  rw [hs]; omega

theorem br_between {m g : List Int} (hm : meaB m = true) (hg : gokB g = true) (h : m.length = g.length) : 36 * worstI g ≤ brI m g ∧ brI m g ≤ 36 * bestI g := by
  obtain ⟨h0, hs, -, -⟩ := mea_parts hm
  have := brI_bounds m g h h0 (worstI g) (bestI g) (worst_least hg).2 (best_greatest hg).2
  rwa [hs] at this

/-! fair books -/

theorem fit_sub {m : List Int} {qs ps : List Qt} (h : ∀ q ∈ ps, q ∈ qs) (hf : fitI m qs = true) : fitI m ps = true := by
  rw [fitI_iff] at *
  exact fun q hq => hf q (h q hq)

theorem any_sub {w : Nat} {qs ps : List Qt} (h : ∀ q ∈ ps, q ∈ qs) (hf : anyFit w qs = true) : anyFit w ps = true := by
  obtain ⟨l, hl, hf⟩ := List.any_eq_true.1 hf
  exact List.any_eq_true.2 ⟨l, hl, fit_sub h hf⟩

theorem fit_other {w : Nat} {l : List Nat} (hw : l.length = w) (hs : l.sum = 36) {q : Qt} (hq : qokB (w : Int) q = true) : onI (natL l) (otherQ (w : Int) q).1 = 6 * (otherQ (w : Int) q).2 ↔ onI (natL l) q.1 = 6 * q.2 := by
  have := on_notI (m := natL l) (w := (w : Int)) (by rw [natL_len, hw]) ((qokB_iff _ _).1 hq).1
  rw [natL_sum, hs] at this
  show onI (natL l) (notI w q.1) = 6 * (6 - q.2) ↔ _
  omega

/-- with the other quote for the first one a book is as fair -/
theorem any_other {w : Nat} (h1 : 1 ≤ w) {q : Qt} {qs : List Qt} (hq : qokB (w : Int) q = true) : anyFit w (otherQ (w : Int) q :: qs) = anyFit w (q :: qs) := by
  obtain ⟨v, rfl⟩ : ∃ v, w = v + 1 := ⟨w - 1, by omega⟩
  rw [Bool.eq_iff_iff]
  unfold anyFit
  simp only [List.any_eq_true]
  constructor
  · rintro ⟨l, hl, hf⟩
    obtain ⟨hlen, hs⟩ := (mem_lay _ _ _).1 hl
    refine ⟨l, hl, (fitI_iff _ _).2 fun p hp => ?_⟩
    rw [fitI_iff] at hf
    rcases List.mem_cons.1 hp with rfl | hp
    · exact (fit_other hlen hs hq).1 (hf _ (by simp))
    · exact hf p (by simp [hp])
  · rintro ⟨l, hl, hf⟩
    obtain ⟨hlen, hs⟩ := (mem_lay _ _ _).1 hl
    refine ⟨l, hl, (fitI_iff _ _).2 fun p hp => ?_⟩
    rw [fitI_iff] at hf
    rcases List.mem_cons.1 hp with rfl | hp
    · exact (fit_other hlen hs hq).2 (hf _ (by simp))
    · exact hf p (by simp [hp])

theorem any_nil {w : Nat} (h1 : 1 ≤ w) : anyFit w [] = true := by
  obtain ⟨v, rfl⟩ : ∃ v, w = v + 1 := ⟨w - 1, by omega⟩
  have h := lay_first v 36
  exact List.any_eq_true.2 ⟨_, List.mem_of_getElem? h, rfl⟩

def oneB (w : Nat) : Bool := (List.range (2 ^ w)).all fun e => (List.range 7).all fun p =>
  anyUnit w 6 [((e : Int), (p : Int))] == !((e == 0 && p != 0) || (e == 2 ^ w - 1 && p != 6))

theorem one_tab : oneB 1 = true ∧ oneB 2 = true ∧ oneB 3 = true ∧ oneB 4 = true := by decide +kernel

/-- a book of one quote is fair but for never and always -/
theorem any_one {w : Nat} {q : Qt} (hb : bokB (w : Int) [q] = true) : anyFit w [q] = !((q.1 == 0 && q.2 != 0) || (q.1 == 2 ^ w - 1 && q.2 != 6)) := by
  obtain ⟨⟨w1, w4⟩, -, hq⟩ := (bokB_iff _ _).1 hb
  have hq := hq q (by simp)
  obtain ⟨e, he, hlt⟩ := ev_nat hq
  obtain ⟨hp0, hp6⟩ := ((qokB_iff _ _).1 hq).2
  obtain ⟨p, hp⟩ : ∃ p : Nat, q.2 = p := ⟨q.2.toNat, by omega⟩
  obtain rfl : q = ((e : Int), (p : Int)) := Prod.ext he hp
  have ht : oneB w = true := by
    obtain ⟨t1, t2, t3, t4⟩ := one_tab
    obtain rfl | rfl | rfl | rfl : w = 1 ∨ w = 2 ∨ w = 3 ∨ w = 4 := by omega
    · exact t1
    · exact t2
    · exact t3
    · exact t4
  have hp7 : p < 7 := by simp at hp6; omega
  have h6 := List.all_eq_true.1 (List.all_eq_true.1 ht e (List.mem_range.2 hlt)) p (List.mem_range.2 hp7)
  rw [beq_iff_eq] at h6
  have hc : (!((e == 0 && p != 0) || (e == 2 ^ w - 1 && p != 6))) = !(((e : Int) == 0 && (p : Int) != 0) || ((e : Int) == 2 ^ w - 1 && (p : Int) != 6)) := by
    have c1 : (e == 0) = ((e : Int) == 0) := by rw [Bool.eq_iff_iff]; simp
    have c2 : (p != 0) = ((p : Int) != 0) := by rw [Bool.eq_iff_iff]; simp
    have c4 : (p != 6) = ((p : Int) != 6) := by rw [Bool.eq_iff_iff]; simp; omega
    have hpow : ((2 ^ w : Nat) : Int) = 2 ^ w := by simp
    have hpos : 0 < 2 ^ w := Nat.two_pow_pos w
    have c3 : (e == 2 ^ w - 1) = ((e : Int) == 2 ^ w - 1) := by rw [Bool.eq_iff_iff]; simp only [beq_iff_eq]; omega
    rw [c1, c2, c3, c4]
  rw [← hc, ← h6]
  rw [Bool.eq_iff_iff]
  constructor
  · intro h
    rw [h6]
    obtain ⟨l, hl, hf⟩ := List.any_eq_true.1 h
    obtain ⟨v, rfl⟩ : ∃ v, w = v + 1 := ⟨w - 1, by omega⟩
    obtain ⟨hlen, hs⟩ := (mem_lay _ _ _).1 hl
    have hf := (fitI_iff _ _).1 hf _ (List.mem_singleton.2 rfl)
    rw [hc]
    simp only [Bool.not_eq_true', Bool.or_eq_false_iff, Bool.and_eq_false_iff, bne_eq_false_iff_eq, beq_eq_false_iff_ne]
    have hall := on_all (natL l)
    rw [natL_len, hlen, natL_sum, hs] at hall
    constructor
    · by_cases h0 : (e : Int) = 0
      · right
        rw [show ((e : Int), (p : Int)).1 = 0 from h0, onI_zero] at hf
        simp at hf; omega
      · exact .inl h0
    · by_cases h0 : (e : Int) = 2 ^ (v + 1) - 1
      · right
        rw [show ((e : Int), (p : Int)).1 = 2 ^ (v + 1) - 1 from h0, hall] at hf
        simp at hf; omega
      · exact .inl h0
  · intro h
    exact unit_fit (by omega) (by decide) h

/-! the first measure -/

def firstFit (w : Nat) (qs : List Qt) : Option (List Nat) := (lay w 36).find? fun l => fitI (natL l) qs

theorem first_any (w : Nat) (qs : List Qt) : (firstFit w qs).isSome = anyFit w qs := by
  unfold firstFit anyFit
  rw [Bool.eq_iff_iff, List.find?_isSome, List.any_eq_true]

theorem lay_heads (w g : Nat) : (lay (w + 1) g).Pairwise fun m n => m.headD 0 ≤ n.headD 0 := by
  cases w with
  | zero => exact List.pairwise_singleton _ _
  | succ w =>
    rw [show lay (w + 1 + 1) g = (List.range (g + 1)).flatMap fun a => (lay (w + 1) (g - a)).map fun m => a :: m from rfl, List.pairwise_flatMap]
    constructor
    · intro a _
      rw [List.pairwise_map]
      exact List.pairwise_of_forall (fun _ _ => Nat.le_refl a)
    · refine List.pairwise_lt_range.imp ?_
      intro a b hab x hx y hy
      obtain ⟨m, -, rfl⟩ := List.mem_map.1 hx
      obtain ⟨n, -, rfl⟩ := List.mem_map.1 hy
      exact Nat.le_of_lt hab

/-- the first one has no more grains on world 0 than any that fits -/
theorem first_least {w : Nat} (h1 : 1 ≤ w) {qs : List Qt} {l l' : List Nat} (h : firstFit w qs = some l) (hl' : l' ∈ lay w 36) (hf : fitI (natL l') qs = true) : l.headD 0 ≤ l'.headD 0 := by
  obtain ⟨v, rfl⟩ : ∃ v, w = v + 1 := ⟨w - 1, by omega⟩
  obtain ⟨-, xs, ys, e, hno⟩ := List.find?_eq_some_iff_append.1 h
  have hp := lay_heads v 36
  rw [e] at hp hl'
  have h2 := (List.pairwise_append.1 hp).2.1
  rcases List.mem_append.1 hl' with h3 | h3
  · have := hno l' h3
    rw [hf] at this; cases this
  · rcases List.mem_cons.1 h3 with rfl | h3
    · exact Nat.le_refl _
    · exact (List.pairwise_cons.1 h2).1 l' h3

theorem on_one (l : List Nat) : onI (natL l) 1 = (l.headD 0 : Nat) := by
  cases l with
  | nil => rfl
  | cons x l =>
    show (1 : Int) % 2 * (x : Int) + onI (natL l) (1 / 2) = _
    rw [show (1 : Int) / 2 = 0 from rfl, onI_zero]; simp

/-- with a further quote for world 0 the book is fair at no price below the first measure's grains there -/
theorem first_price {w : Nat} (h1 : 1 ≤ w) {qs : List Qt} {l : List Nat} (h : firstFit w qs = some l) {p : Int} (hf : anyFit w (qs ++ [(1, p)]) = true) : (l.headD 0 : Int) ≤ 6 * p := by
  obtain ⟨l', hl', hf'⟩ := List.any_eq_true.1 hf
  have h2 := first_least h1 h hl' (fit_sub (fun q hq => by simp [hq]) hf')
  have h3 := (fitI_iff _ _).1 hf' (1, p) (by simp)
  rw [show ((1 : Int), p).1 = 1 from rfl, on_one] at h3
  have : (l'.headD 0 : Int) = 6 * p := h3
  omega

/-! how many -/

def countFit (w : Nat) (qs : List Qt) : Nat := ((lay w 36).filter fun l => fitI (natL l) qs).length

theorem count_any (w : Nat) (qs : List Qt) : decide (0 < countFit w qs) = anyFit w qs := by
  unfold countFit anyFit
  rw [Bool.eq_iff_iff, decide_eq_true_eq, List.any_eq_true, List.length_pos_iff_exists_mem]
  simp only [List.mem_filter]

theorem count_sub {w : Nat} {qs ps : List Qt} (h : ∀ q ∈ ps, q ∈ qs) : countFit w qs ≤ countFit w ps := by
  unfold countFit
  have : ((lay w 36).filter fun l => fitI (natL l) qs) = ((lay w 36).filter fun l => fitI (natL l) ps).filter fun l => fitI (natL l) qs := by
    rw [List.filter_filter]
    apply List.filter_congr
    intro l _
    rw [Bool.eq_iff_iff, Bool.and_eq_true]
    exact ⟨fun hf => ⟨hf, fit_sub h hf⟩, fun hf => hf.1⟩
  rw [this]
  exact List.length_filter_le _ _

theorem count_nil {w : Nat} (h1 : 1 ≤ w) (h4 : w ≤ 4) : countFit w [] = (lay w 36).length := by
  unfold countFit
  congr 1
  exact List.filter_eq_self.2 (fun _ _ => rfl)

theorem count_le {w : Nat} (h1 : 1 ≤ w) (h4 : w ≤ 4) (qs : List Qt) : countFit w qs ≤ 9139 := by
  have := count_sub (w := w) (qs := qs) (ps := []) (fun q hq => by cases hq)
  rw [count_nil h1 h4] at this
  obtain ⟨l1, l2, l3, l4⟩ := lay_len36
  obtain rfl | rfl | rfl | rfl : w = 1 ∨ w = 2 ∨ w = 3 ∨ w = 4 := by omega
  all_goals omega

/-! measures turned round, and mixed ones -/

theorem mea_reverse (m : List Int) : meaB m.reverse = meaB m := by
  unfold meaB
  rw [List.all_reverse, List.length_reverse, List.sum_reverse]

def addI : List Int → List Int → List Int
  | x :: a, y :: b => (x + y) :: addI a b
  | _, _ => []

/-- both together, halved -/
def mixL : List Int → List Int → List Int
  | x :: a, y :: b => (x + y) / 2 :: mixL a b
  | _, _ => []

def evenB : List Int → List Int → Bool
  | x :: a, y :: b => (x + y) % 2 == 0 && evenB a b
  | _, _ => true

def mixB (a b : List Int) : Bool := meaB a && meaB b && decide (a.length = b.length) && evenB a b

theorem mix_facts (a b : List Int) (h : a.length = b.length) (he : evenB a b = true) : (mixL a b).length = a.length ∧ 2 * (mixL a b).sum = a.sum + b.sum ∧ ∀ e, 2 * onI (mixL a b) e = onI a e + onI b e := by
  induction a generalizing b with
  | nil =>
    cases b with
    | nil => simp [mixL, onI]
    | cons y b => simp at h
  | cons x a ih =>
    cases b with
    | nil => simp at h
    | cons y b =>
      simp only [evenB, Bool.and_eq_true, beq_iff_eq] at he
      obtain ⟨h1, h2, h3⟩ := ih b (by simpa using h) he.2
      refine ⟨by simp [mixL, h1], by simp only [mixL, List.sum_cons]; omega, fun e => ?_⟩
      simp only [mixL, onI]
      have := h3 (e / 2)
      rcases Int.emod_two_eq e with h4 | h4 <;> rw [h4] <;> omega

theorem mix_nonneg (a b : List Int) (ha : ∀ x ∈ a, 0 ≤ x ∧ x ≤ 36) (hb : ∀ x ∈ b, 0 ≤ x ∧ x ≤ 36) : ∀ x ∈ mixL a b, 0 ≤ x ∧ x ≤ 36 := by
  induction a generalizing b with
  | nil => intro x hx; cases b <;> simp [mixL] at hx
  | cons u a ih =>
    cases b with
    | nil => intro x hx; simp [mixL] at hx
    | cons v b =>
      intro x hx
      simp only [mixL, List.mem_cons] at hx
      have h1 := ha u (by simp)
      have h2 := hb v (by simp)
      rcases hx with rfl | hx
      · omega
      · exact ih b (fun y hy => ha y (by simp [hy])) (fun y hy => hb y (by simp [hy])) x hx

theorem mix_mea {a b : List Int} (h : mixB a b = true) : meaB (mixL a b) = true ∧ (mixL a b).length = a.length ∧ (∀ e, 2 * onI (mixL a b) e = onI a e + onI b e) := by
  simp only [mixB, Bool.and_eq_true, decide_eq_true_eq] at h
  obtain ⟨⟨⟨h1, h2⟩, h3⟩, h4⟩ := h
  obtain ⟨f1, f2, f3⟩ := mix_facts a b h3 h4
  have k1 := (meaB_iff a).1 h1
  have k2 := (meaB_iff b).1 h2
  refine ⟨(meaB_iff _).2 ⟨mix_nonneg a b k1.1 k2.1, by omega, by omega, by omega⟩, f1, f3⟩

theorem mix_fit {a b : List Int} (h : mixB a b = true) {qs : List Qt} (ha : fitI a qs = true) (hb : fitI b qs = true) : fitI (mixL a b) qs = true := by
  obtain ⟨-, -, h3⟩ := mix_mea h
  rw [fitI_iff] at *
  intro q hq
  have := h3 q.1
  have := ha q hq
  have := hb q hq
  omega

end Go.Proofs.Ytfdgelikmhaagaa
