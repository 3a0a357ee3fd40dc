/- Either some measure lies between two sided prices, or some stakes surely win: out of the table, for all events. No condition. -/
import Derived.Test.YtodmgcbcacblbaaJx
namespace Go.Proofs.Ytodmgcbcacblbaa
set_option linter.unusedVariables false

theorem lor13 (x y i : Nat) : (Nat.lor x y).testBit i = (x.testBit i || y.testBit i) := Nat.testBit_or x y i

theorem mask13 {x s n m i : Nat} (hm : m < 2 ^ n) (h : (Nat.land (Nat.shiftRight x s) m).testBit i = true) : i < n ∧ x.testBit (s + i) = true := by
  have h2 : ((x >>> s) &&& m).testBit i = true := h
  rw [Nat.testBit_and, Bool.and_eq_true, Nat.testBit_shiftRight] at h2
  refine ⟨?_, h2.1⟩
  rcases Nat.lt_or_ge i n with hi | hi
  · exact hi
  · have : m.testBit i = false := Nat.testBit_lt_two_pow (Nat.lt_of_lt_of_le hm (Nat.pow_le_pow_right (by decide) hi))
    rw [this] at h2
    cases h2.2

theorem fold_bits13 (f : List Nat) (m i : Nat) (h : (f.foldl (fun m c => Nat.lor m (2 ^ c)) m).testBit i = true) : m.testBit i = true ∨ i ∈ f := by
  induction f generalizing m with
  | nil => exact .inl h
  | cons c f ih =>
    rcases ih _ h with h1 | h1
    · rw [lor13, Bool.or_eq_true] at h1
      rcases h1 with h1 | h1
      · exact .inl h1
      · rw [Nat.testBit_two_pow, decide_eq_true_eq] at h1
        exact .inr (by rw [h1]; exact List.mem_cons_self)
    · exact .inr (List.mem_cons_of_mem _ h1)

theorem bits13_mem {f : List Nat} {i : Nat} (h : (bits13 f).testBit i = true) : i ∈ f := by
  rcases fold_bits13 f 0 i h with h | h
  · simp at h
  · exact h

theorem run13_at {t : Tr13} {l1 u1 l2 r : Nat} (k : Nat) : ∀ (u z d : Nat), run13 t l1 u1 l2 r k u z = true → d < k →
    ∃ z', chk13 t l1 u1 l2 (u + d) z' = true ∧ ∀ i, z'.testBit i = true → z.testBit i = true ∨ (i < 7 ∧ ∃ j, j ≤ d ∧ r.testBit (7 * (u + j) + i) = true) := by
  induction k with
  | zero => intro u z d _ hd; omega
  | succ k ih =>
    intro u z d h hd
    unfold run13 at h
    rw [Bool.and_eq_true] at h
    have hz : ∀ i, (Nat.lor z (Nat.land (Nat.shiftRight r (7 * u)) 127)).testBit i = true → z.testBit i = true ∨ (i < 7 ∧ r.testBit (7 * u + i) = true) := by
      intro i hi
      rw [lor13, Bool.or_eq_true] at hi
      rcases hi with hi | hi
      · exact .inl hi
      · exact .inr (mask13 (n := 7) (by decide) hi)
    cases d with
    | zero =>
      refine ⟨_, h.1, fun i hi => ?_⟩
      rcases hz i hi with h1 | ⟨h1, h2⟩
      · exact .inl h1
      · exact .inr ⟨h1, 0, Nat.le_refl _, h2⟩
    | succ d =>
      obtain ⟨z', c1, c2⟩ := ih (u + 1) _ d h.2 (by omega)
      refine ⟨z', by rw [show u + (d + 1) = u + 1 + d from by omega]; exact c1, fun i hi => ?_⟩
      rcases c2 i hi with h1 | ⟨h1, j, hj, h2⟩
      · rcases hz i h1 with h3 | ⟨h3, h4⟩
        · exact .inl h3
        · exact .inr ⟨h3, 0, by omega, h4⟩
      · exact .inr ⟨h1, j + 1, by omega, by rw [show u + (j + 1) = u + 1 + j from by omega]; exact h2⟩

theorem top13_at {t : Tr13} {l1 q : Nat} (k : Nat) : ∀ (u z d : Nat), top13 t l1 q k u z = true → d < k →
    ∃ z', box13 t l1 (u + d) z' = true ∧ ∀ i, z'.testBit i = true → z.testBit i = true ∨ (i < 49 ∧ ∃ j, j ≤ d ∧ q.testBit (49 * (u + j) + i) = true) := by
  induction k with
  | zero => intro u z d _ hd; omega
  | succ k ih =>
    intro u z d h hd
    unfold top13 at h
    rw [Bool.and_eq_true] at h
    have hz : ∀ i, (Nat.lor z (Nat.land (Nat.shiftRight q (49 * u)) 562949953421311)).testBit i = true → z.testBit i = true ∨ (i < 49 ∧ q.testBit (49 * u + i) = true) := by
      intro i hi
      rw [lor13, Bool.or_eq_true] at hi
      rcases hi with hi | hi
      · exact .inl hi
      · exact .inr (mask13 (n := 49) (by decide) hi)
    cases d with
    | zero =>
      refine ⟨_, h.1, fun i hi => ?_⟩
      rcases hz i hi with h1 | ⟨h1, h2⟩
      · exact .inl h1
      · exact .inr ⟨h1, 0, Nat.le_refl _, h2⟩
    | succ d =>
      obtain ⟨z', c1, c2⟩ := ih (u + 1) _ d h.2 (by omega)
      refine ⟨z', by rw [show u + (d + 1) = u + 1 + d from by omega]; exact c1, fun i hi => ?_⟩
      rcases c2 i hi with h1 | ⟨h1, j, hj, h2⟩
      · rcases hz i h1 with h3 | ⟨h3, h4⟩
        · exact .inl h3
        · exact .inr ⟨h3, 0, by omega, h4⟩
      · exact .inr ⟨h1, j + 1, by omega, by rw [show u + (j + 1) = u + 1 + j from by omega]; exact h2⟩

/-- what is reached for the first two prices in these spans -/
theorem all13_at {t : Tr13} {q : Nat} (h : all13 t q = true) {l1 u1 l2 u2 : Nat} (h1 : l1 ≤ u1) (k1 : u1 ≤ 6) (h2 : l2 ≤ u2) (k2 : u2 ≤ 6) :
    ∃ z, chk13 t l1 u1 l2 u2 z = true ∧ ∀ i, z.testBit i = true → i < 7 ∧ ∃ p1 p2, (l1 ≤ p1 ∧ p1 ≤ u1) ∧ (l2 ≤ p2 ∧ p2 ≤ u2) ∧ q.testBit (49 * p1 + 7 * p2 + i) = true := by
  have a1 := List.all_eq_true.1 h l1 (List.mem_range.2 (by omega))
  obtain ⟨r, b1, b2⟩ := top13_at _ _ _ (u1 - l1) a1 (by omega)
  rw [show l1 + (u1 - l1) = u1 from by omega] at b1
  have a2 := List.all_eq_true.1 b1 l2 (List.mem_range.2 (by omega))
  obtain ⟨z, c1, c2⟩ := run13_at _ _ _ (u2 - l2) a2 (by omega)
  rw [show l2 + (u2 - l2) = u2 from by omega] at c1
  refine ⟨z, c1, fun i hi => ?_⟩
  rcases c2 i hi with d1 | ⟨d1, j, hj, d2⟩
  · simp at d1
  · rcases b2 _ d2 with e1 | ⟨e1, j', hj', e2⟩
    · simp at e1
    · exact ⟨d1, l1 + j', l2 + j, by omega, by omega, by rw [Nat.add_assoc]; exact e2⟩

theorem win13_mono {w a b c : Nat} {l1 u1 l2 u2 l3 u3 l3' u3' : Nat} (hl : l3 ≤ l3') (hu : u3' ≤ u3) (h : win13 (trio.map fun s => (topB w a b c s.2.1 s.2.2, s.2)) l1 u1 l2 u2 l3 u3 = true) :
    win13 (trio.map fun s => (topB w a b c s.2.1 s.2.2, s.2)) l1 u1 l2 u2 l3' u3' = true := by
  obtain ⟨y, hy, hlt⟩ := List.any_eq_true.1 h
  refine List.any_eq_true.2 ⟨y, hy, ?_⟩
  obtain ⟨x, hx, rfl⟩ := List.mem_map.1 hy
  have hlt := Nat.le_of_ble_eq_true hlt
  apply Nat.ble_eq_true_of_le
  have m1 : x.2.1 l1 l2 l3 ≤ x.2.1 l1 l2 l3' := by
    unfold trio at hx
    simp only [List.mem_cons, List.not_mem_nil, or_false] at hx
    rcases hx with hx | hx | hx | hx | hx | hx | hx | hx | hx | hx | hx | hx | hx | hx | hx | hx | hx | hx | hx <;> subst hx <;> simp <;> omega
  have m2 : x.2.2 u1 u2 u3' ≤ x.2.2 u1 u2 u3 := by
    unfold trio at hx
    simp only [List.mem_cons, List.not_mem_nil, or_false] at hx
    rcases hx with hx | hx | hx | hx | hx | hx | hx | hx | hx | hx | hx | hx | hx | hx | hx | hx | hx | hx | hx <;> subst hx <;> simp <;> omega
  have hlt : topB w a b c x.2.1 x.2.2 + x.2.2 u1 u2 u3 + 1 ≤ x.2.1 l1 l2 l3 := hlt
  show topB w a b c x.2.1 x.2.2 + x.2.2 u1 u2 u3' + 1 ≤ x.2.1 l1 l2 l3'
  omega

theorem span_bits : ∀ b : Fin 7, ∀ a : Fin 7, ∀ i : Fin 7, (a : Nat) ≤ (i : Nat) → (i : Nat) ≤ (b : Nat) → (2 ^ ((b : Nat) + 1) - 2 ^ (a : Nat)).testBit (i : Nat) = true := by decide +kernel

theorem chk13_at {w a b c : Nat} {l1 u1 l2 u2 z l3 u3 : Nat} (h : chk13 (trio.map fun s => (topB w a b c s.2.1 s.2.2, s.2)) l1 u1 l2 u2 z = true) (h3 : l3 ≤ u3) (k3 : u3 ≤ 6) :
    (∃ i, (l3 ≤ i ∧ i ≤ u3) ∧ z.testBit i = true) ∨ win13 (trio.map fun s => (topB w a b c s.2.1 s.2.2, s.2)) l1 u1 l2 u2 l3 u3 = true := by
  unfold chk13 at h
  cases hz : Nat.beq z 0 with
  | true =>
    rw [hz] at h
    exact .inr (win13_mono (Nat.zero_le _) k3 h)
  | false =>
    rw [hz] at h
    have h : span13 _ l1 u1 l2 u2 z (Nat.log2 z) (Nat.log2 (2 ^ (Nat.log2 z + 1) - z)) = true := h
    generalize Nat.log2 (2 ^ (Nat.log2 z + 1) - z) = x at h
    generalize Nat.log2 z = y at h
    unfold span13 at h
    simp only [Bool.and_eq_true, Bool.or_eq_true] at h
    obtain ⟨e1, e2, e3, e4, e5⟩ := h
    have e1 := Nat.eq_of_beq_eq_true e1
    have e2 := Nat.le_of_ble_eq_true e2
    have e3 := Nat.le_of_ble_eq_true e3
    by_cases c1 : u3 < x
    · rcases e4 with e4 | e4
      · have := Nat.eq_of_beq_eq_true e4; omega
      · exact .inr (win13_mono (Nat.zero_le _) (by omega) e4)
    · by_cases c2 : y < l3
      · rcases e5 with e5 | e5
        · have := Nat.eq_of_beq_eq_true e5; omega
        · exact .inr (win13_mono (by omega) k3 e5)
      · refine .inl ⟨max l3 x, by omega, ?_⟩
        rw [e1]
        exact span_bits ⟨y, by omega⟩ ⟨x, by omega⟩ ⟨max l3 x, by omega⟩ (by show x ≤ max l3 x; omega) (by show max l3 x ≤ y; omega)

/-- what stakes t cost, lows for what is more than 0, highs for what is less -/
def pr13 (t : Int) (l u : Nat) : Int := if 0 < t then t * (l : Int) else t * (u : Int)

/-- a way of units of three between the prices, or stakes that surely win (their other signs) -/
def SideP (w e1 l1 u1 e2 l2 u2 e3 l3 u3 : Nat) : Prop :=
  (∃ c ∈ lay w 12, (2 * l1 ≤ onN c e1 ∧ onN c e1 ≤ 2 * u1) ∧ (2 * l2 ≤ onN c e2 ∧ onN c e2 ≤ 2 * u2) ∧ (2 * l3 ≤ onN c e3 ∧ onN c e3 ≤ 2 * u3)) ∨
  ∃ t1 t2 t3 : Int, (-2 ≤ t1 ∧ t1 ≤ 2) ∧ (-2 ≤ t2 ∧ t2 ≤ 2) ∧ (-2 ≤ t3 ∧ t3 ≤ 2) ∧ ∀ k, k < w → t1 * (6 * (bN e1 k : Int)) + t2 * (6 * (bN e2 k : Int)) + t3 * (6 * (bN e3 k : Int)) < pr13 t1 l1 u1 + pr13 t2 l2 u2 + pr13 t3 l3 u3

theorem trio_pr {x : (Int × Int × Int) × (Nat → Nat → Nat → Nat) × (Nat → Nat → Nat → Nat)} (h : x ∈ trio) (l1 l2 l3 u1 u2 u3 : Nat) :
    ((x.2.1 l1 l2 l3 : Nat) : Int) - ((x.2.2 u1 u2 u3 : Nat) : Int) = pr13 x.1.1 l1 u1 + pr13 x.1.2.1 l2 u2 + pr13 x.1.2.2 l3 u3 := by
  unfold trio at h
  simp only [List.mem_cons, List.not_mem_nil, or_false] at h
  rcases h with h | h | h | h | h | h | h | h | h | h | h | h | h | h | h | h | h | h | h <;> subst h <;> simp [pr13] <;> omega

theorem side_sorted {w : Nat} (h1 : 1 ≤ w) (h4 : w ≤ 4) {a b c : Nat} (ha : a ∈ evens w) (hb : b ∈ evens w) (hc : c ∈ evens w) (hab : a ≤ b) (hbc : b ≤ c) {l1 u1 l2 u2 l3 u3 : Nat}
    (q1 : l1 ≤ u1) (r1 : u1 ≤ 6) (q2 : l2 ≤ u2) (r2 : u2 ≤ 6) (q3 : l3 ≤ u3) (r3 : u3 ≤ 6) : SideP w a l1 u1 b l2 u2 c l3 u3 := by
  have h := side_tab h1 h4 ha hb hc hab hbc
  obtain ⟨v, rfl⟩ : ∃ v, w = v + 1 := ⟨w - 1, by omega⟩
  unfold side13 at h
  obtain ⟨z, hz, hbits⟩ := all13_at h q1 r1 q2 r2
  rcases chk13_at hz q3 r3 with ⟨i, hi, hb2⟩ | hw
  · obtain ⟨h7, p1, p2, hp1, hp2, hq⟩ := hbits i hb2
    have hm := bits13_mem hq
    unfold feas13 at hm
    obtain ⟨m, hm, e⟩ := List.mem_map.1 hm
    obtain ⟨hm1, hm2⟩ := List.mem_filter.1 hm
    have hm2 := Nat.eq_of_beq_eq_true hm2
    have b1 := on_le hm1 a
    have b2 := on_le hm1 b
    have b3 := on_le hm1 c
    refine .inl ⟨m, hm1, ?_, ?_, ?_⟩ <;> omega
  · obtain ⟨y, hy, hlt⟩ := List.any_eq_true.1 hw
    obtain ⟨x, hx, rfl⟩ := List.mem_map.1 hy
    have hlt := Nat.le_of_ble_eq_true hlt
    obtain ⟨t1, t2, t3⟩ := trio_small hx
    refine .inr ⟨x.1.1, x.1.2.1, x.1.2.2, t1, t2, t3, fun k hk => ?_⟩
    have hk2 := (foldl_maxN (List.range (v + 1)) (fun k => 6 * (x.2.1 (bN a k) (bN b k) (bN c k) - x.2.2 (bN a k) (bN b k) (bN c k))) 0).2 k (List.mem_range.2 hk)
    have hle : 6 * (x.2.1 (bN a k) (bN b k) (bN c k) - x.2.2 (bN a k) (bN b k) (bN c k)) ≤ topB (v + 1) a b c x.2.1 x.2.2 := hk2
    have e1 := trio_eq hx (bN a k) (bN b k) (bN c k)
    have e2 := trio_pr hx l1 l2 l3 u1 u2 u3
    have hlt : topB (v + 1) a b c x.2.1 x.2.2 + x.2.2 u1 u2 u3 + 1 ≤ x.2.1 l1 l2 l3 := hlt
    generalize topB (v + 1) a b c x.2.1 x.2.2 = top at hle hlt
    simp only [Int.mul_left_comm _ 6]
    generalize x.2.1 (bN a k) (bN b k) (bN c k) = y1 at hle e1
    generalize x.2.2 (bN a k) (bN b k) (bN c k) = y2 at hle e1
    generalize x.2.1 l1 l2 l3 = y3 at hlt e2
    generalize x.2.2 u1 u2 u3 = y4 at hlt e2
    omega

theorem side_swap12 {w e1 l1 u1 e2 l2 u2 e3 l3 u3 : Nat} (h : SideP w e1 l1 u1 e2 l2 u2 e3 l3 u3) : SideP w e2 l2 u2 e1 l1 u1 e3 l3 u3 := by
  rcases h with ⟨c, hc, h1, h2, h3⟩ | ⟨s1, s2, s3, h1, h2, h3, h⟩
  · exact .inl ⟨c, hc, h2, h1, h3⟩
  · exact .inr ⟨s2, s1, s3, h2, h1, h3, fun k hk => by have := h k hk; omega⟩

theorem side_swap23 {w e1 l1 u1 e2 l2 u2 e3 l3 u3 : Nat} (h : SideP w e1 l1 u1 e2 l2 u2 e3 l3 u3) : SideP w e1 l1 u1 e3 l3 u3 e2 l2 u2 := by
  rcases h with ⟨c, hc, h1, h2, h3⟩ | ⟨s1, s2, s3, h1, h2, h3, h⟩
  · exact .inl ⟨c, hc, h1, h3, h2⟩
  · exact .inr ⟨s1, s3, s2, h1, h3, h2, fun k hk => by have := h k hk; omega⟩

theorem side_even {w : Nat} (h1 : 1 ≤ w) (h4 : w ≤ 4) {a b c : Nat} (ha : a ∈ evens w) (hb : b ∈ evens w) (hc : c ∈ evens w) {l1 u1 l2 u2 l3 u3 : Nat}
    (q1 : l1 ≤ u1) (r1 : u1 ≤ 6) (q2 : l2 ≤ u2) (r2 : u2 ≤ 6) (q3 : l3 ≤ u3) (r3 : u3 ≤ 6) : SideP w a l1 u1 b l2 u2 c l3 u3 := by
  rcases Nat.le_total a b with hab | hab
  · rcases Nat.le_total b c with hbc | hbc
    · exact side_sorted h1 h4 ha hb hc hab hbc q1 r1 q2 r2 q3 r3
    · rcases Nat.le_total a c with hac | hac
      · exact side_swap23 (side_sorted h1 h4 ha hc hb hac hbc q1 r1 q3 r3 q2 r2)
      · exact side_swap23 (side_swap12 (side_sorted h1 h4 hc ha hb hac hab q3 r3 q1 r1 q2 r2))
  · rcases Nat.le_total a c with hac | hac
    · exact side_swap12 (side_sorted h1 h4 hb ha hc hab hac q2 r2 q1 r1 q3 r3)
    · rcases Nat.le_total b c with hbc | hbc
      · exact side_swap12 (side_swap23 (side_sorted h1 h4 hb hc ha hbc hac q2 r2 q3 r3 q1 r1))
      · exact side_swap12 (side_swap23 (side_swap12 (side_sorted h1 h4 hc hb ha hbc hab q3 r3 q2 r2 q1 r1)))

def normLo (e l u : Nat) : Nat := if e % 2 = 1 then 6 - u else l

def normHi (e l u : Nat) : Nat := if e % 2 = 1 then 6 - l else u

theorem pr13_not {t : Int} {l u : Nat} (hl : l ≤ 6) (hu : u ≤ 6) (b : Int) : t * (6 * (1 - b)) - pr13 t (6 - u) (6 - l) = -t * (6 * b) - pr13 (-t) l u := by
  have e1 : ((6 - u : Nat) : Int) = 6 - (u : Int) := by omega
  have e2 : ((6 - l : Nat) : Int) = 6 - (l : Int) := by omega
  unfold pr13
  rw [e1, e2]
  by_cases h : 0 < t
  · rw [if_pos h, if_neg (by omega)]; grind
  · rw [if_neg h]
    by_cases h2 : 0 < -t
    · rw [if_pos h2]; grind
    · rw [if_neg h2]
      obtain rfl : t = 0 := by omega
      simp

theorem side_norm1 {w e1 l1 u1 e2 l2 u2 e3 l3 u3 : Nat} (he : e1 < 2 ^ w) (hl : l1 ≤ 6) (hu : u1 ≤ 6) (h1 : 1 ≤ w) (h : SideP w (normE w e1) (normLo e1 l1 u1) (normHi e1 l1 u1) e2 l2 u2 e3 l3 u3) : SideP w e1 l1 u1 e2 l2 u2 e3 l3 u3 := by
  unfold normE normLo normHi at h
  by_cases hodd : e1 % 2 = 1
  · rw [if_pos hodd, if_pos hodd, if_pos hodd] at h
    obtain ⟨v, rfl⟩ : ∃ v, w = v + 1 := ⟨w - 1, by omega⟩
    rcases h with ⟨c, hc, k1, k2, k3⟩ | ⟨s1, s2, s3, k1, k2, k3, k⟩
    · obtain ⟨hl, hs⟩ := (mem_lay _ _ _).1 hc
      have := onN_not c e1 (by rw [hl]; exact he)
      rw [hl, hs] at this
      exact .inl ⟨c, hc, by omega, k2, k3⟩
    · refine .inr ⟨-s1, s2, s3, by omega, k2, k3, fun i hi => ?_⟩
      have := k i hi
      rw [bN_not he hi] at this
      have e := pr13_not (t := s1) hl hu (bN e1 i : Int)
      omega
  · rw [if_neg hodd, if_neg hodd, if_neg hodd] at h
    exact h

theorem side_all {w : Nat} (h1 : 1 ≤ w) (h4 : w ≤ 4) {e1 e2 e3 l1 u1 l2 u2 l3 u3 : Nat} (b1 : e1 < 2 ^ w) (b2 : e2 < 2 ^ w) (b3 : e3 < 2 ^ w)
    (q1 : l1 ≤ u1) (r1 : u1 ≤ 6) (q2 : l2 ≤ u2) (r2 : u2 ≤ 6) (q3 : l3 ≤ u3) (r3 : u3 ≤ 6) : SideP w e1 l1 u1 e2 l2 u2 e3 l3 u3 := by
  have hp : ∀ e l u, l ≤ u → u ≤ 6 → normLo e l u ≤ normHi e l u ∧ normHi e l u ≤ 6 := fun e l u h k => by unfold normLo normHi; split <;> omega
  have hev : ∀ e, e < 2 ^ w → normE w e ∈ evens w := fun e he => mem_evens h1 (norm_even h1 he).1 (norm_even h1 he).2
  refine side_norm1 b1 (by omega) r1 h1 (side_swap12 (side_norm1 b2 (by omega) r2 h1 (side_swap12 (side_swap23 (side_swap12 (side_norm1 b3 (by omega) r3 h1 ?_))))))
  have := side_even h1 h4 (hev e1 b1) (hev e2 b2) (hev e3 b3) (hp e1 l1 u1 q1 r1).1 (hp e1 l1 u1 q1 r1).2 (hp e2 l2 u2 q2 r2).1 (hp e2 l2 u2 q2 r2).2 (hp e3 l3 u3 q3 r3).1 (hp e3 l3 u3 q3 r3).2
  exact side_swap12 (side_swap23 this)

end Go.Proofs.Ytodmgcbcacblbaa
