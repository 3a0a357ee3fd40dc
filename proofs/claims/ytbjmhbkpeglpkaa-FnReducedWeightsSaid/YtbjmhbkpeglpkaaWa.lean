/- The facts of the laws of chapter 8: prices given events, bets called off, what is left of a measure. No condition. -/
import Derived.Test.YtbjmhbkpeglpkaaMw
import Derived.Test.YtbjmhbkpeglpkaaNc
namespace Go.Proofs.Ytbjmhbkpeglpkaa
set_option linter.unusedVariables false

/-! both events -/

def andI (a b : Int) : Int := ((a.toNat &&& b.toNat : Nat) : Int)

theorem and_tab8 : ∀ a b : Fin 16, bits BinOp.and IntKind.i64 ((a : Nat) : Int) ((b : Nat) : Int) = andI ((a : Nat) : Int) ((b : Nat) : Int) ∧ andI ((a : Nat) : Int) ((b : Nat) : Int) ≤ ((b : Nat) : Int) ∧ 0 ≤ andI ((a : Nat) : Int) ((b : Nat) : Int) := by decide +kernel

theorem and_bits8 : ∀ a b : Fin 16, ∀ k : Fin 4, bitI (andI ((a : Nat) : Int) ((b : Nat) : Int)) k = bitI ((a : Nat) : Int) k * bitI ((b : Nat) : Int) k := by decide +kernel

theorem and_is {a b : Int} (ha : 0 ≤ a ∧ a ≤ 15) (hb : 0 ≤ b ∧ b ≤ 15) : bits BinOp.and IntKind.i64 a b = andI a b := by
  obtain ⟨i, rfl⟩ := fin16 ha.1 ha.2
  obtain ⟨j, rfl⟩ := fin16 hb.1 hb.2
  exact (and_tab8 i j).1

theorem and_bound {a b : Int} (ha : 0 ≤ a ∧ a ≤ 15) (hb : 0 ≤ b ∧ b ≤ 15) : 0 ≤ andI a b ∧ andI a b ≤ b ∧ andI a b ≤ 15 := by
  obtain ⟨i, rfl⟩ := fin16 ha.1 ha.2
  obtain ⟨j, rfl⟩ := fin16 hb.1 hb.2
  obtain ⟨-, h2, h3⟩ := and_tab8 i j
  exact ⟨h3, h2, by omega⟩

theorem and_bit {a b : Int} (ha : 0 ≤ a ∧ a ≤ 15) (hb : 0 ≤ b ∧ b ≤ 15) {k : Nat} (hk : k < 4) : bitI (andI a b) k = bitI a k * bitI b k := by
  obtain ⟨i, rfl⟩ := fin16 ha.1 ha.2
  obtain ⟨j, rfl⟩ := fin16 hb.1 hb.2
  exact and_bits8 i j ⟨k, hk⟩

theorem and_ev {w a b : Int} (ha : evB w a = true) (hb : evB w b = true) : evB w (andI a b) = true := by
  have h := (evB_iff w b).1 hb
  have h2 := and_bound (evB_15 ha) (evB_15 hb)
  rw [evB_iff]
  exact ⟨h.1, h.2.1, h2.1, by omega⟩

theorem andI_comm (a b : Int) : andI a b = andI b a := by unfold andI; rw [Nat.and_comm]

theorem andI_assoc (a b c : Int) : andI (andI a b) c = andI a (andI b c) := by
  unfold andI
  rw [Int.toNat_natCast, Int.toNat_natCast, Nat.and_assoc]

/-- grains by an event's bits -/
theorem on_made8 {m : List Int} {a b c : Int} {u v : Int} (h : ∀ k, k < m.length → bitI a k = u * bitI b k + v * bitI c k) : onI m a = u * onI m b + v * onI m c := by
  have hk : ∀ k, k ≤ m.length → onI (m.take k) a = u * onI (m.take k) b + v * onI (m.take k) c := by
    intro k
    induction k with
    | zero => intro _; simp [onI]
    | succ k ih =>
      intro hk
      obtain ⟨x, hx⟩ : ∃ x, m[k]? = some x := ⟨_, List.getElem?_eq_getElem hk⟩
      rw [onI_take hx, onI_take hx, onI_take hx, ih (by omega), h k (by omega)]
      grind
  have := hk m.length (Nat.le_refl _)
  rwa [List.take_length] at this

theorem on_less {m : List Int} (hm : ∀ x ∈ m, 0 ≤ x) {a b : Int} (h : ∀ k, k < m.length → bitI a k ≤ bitI b k) : onI m a ≤ onI m b := by
  have hk : ∀ k, k ≤ m.length → onI (m.take k) a ≤ onI (m.take k) b := by
    intro k
    induction k with
    | zero => intro _; simp [onI]
    | succ k ih =>
      intro hk
      obtain ⟨x, hx⟩ : ∃ x, m[k]? = some x := ⟨_, List.getElem?_eq_getElem hk⟩
      have h0 := hm x (List.mem_of_getElem? hx)
      have h1 := ih (by omega)
      have h2 := Int.mul_le_mul_of_nonneg_right (h k (by omega)) h0
      rw [onI_take hx, onI_take hx]
      omega
  have := hk m.length (Nat.le_refl _)
  rwa [List.take_length] at this

theorem on_and_le {m : List Int} (hm : Grs m) {a b : Int} (ha : 0 ≤ a ∧ a ≤ 15) (hb : 0 ≤ b ∧ b ≤ 15) : onI m (andI a b) ≤ onI m b :=
  on_less (fun x hx => (hm.1 x hx).1) fun k hk => by
    rw [and_bit ha hb (by have := hm.2; omega)]
    rcases bitI_01 a k with h | h <;> rw [h] <;> rcases bitI_01 b k with h2 | h2 <;> rw [h2] <;> decide

/-- an event's grains are those with another and without it -/
theorem on_split {m : List Int} {w : Int} (hw : w = (m.length : Int)) {a b : Int} (ha : evB w a = true) (hb : evB w b = true) : onI m (andI a b) + onI m (andI (notI w a) b) = onI m b := by
  have h4 := ((evB_iff w a).1 ha)
  have hn : evB w (notI w a) = true := by
    rw [evB_iff, notI_eq ha]; omega
  have := on_made8 (m := m) (a := b) (b := andI a b) (c := andI (notI w a) b) (u := 1) (v := 1) (fun k hk => by
    rw [and_bit (evB_15 ha) (evB_15 hb) (by omega), and_bit (evB_15 hn) (evB_15 hb) (by omega), bit_not ha (by omega)]
    grind)
  omega

theorem not_ev {w a : Int} (ha : evB w a = true) : evB w (notI w a) = true := by
  have h4 := (evB_iff w a).1 ha
  rw [evB_iff, notI_eq ha]; omega

/-! fractions in least terms -/

def gcI (x y : Int) : Int := ((max (Nat.gcd x.toNat y.toNat) 1 : Nat) : Int)

theorem gcI_pos (x y : Int) : 1 ≤ gcI x y := by unfold gcI; omega

theorem gc_dvd {x y : Int} (hx : 0 ≤ x) (hy : 1 ≤ y) : ∃ n d : Int, x = gcI x y * n ∧ y = gcI x y * d ∧ 0 ≤ n ∧ 1 ≤ d ∧ x / gcI x y = n ∧ y / gcI x y = d ∧ gcI x y ≤ y := by
  obtain ⟨u, rfl⟩ : ∃ u : Nat, x = u := ⟨x.toNat, by omega⟩
  obtain ⟨v, rfl⟩ : ∃ v : Nat, y = v := ⟨y.toNat, by omega⟩
  have hv : 0 < v := by omega
  have hg : 0 < Nat.gcd u v := Nat.gcd_pos_of_pos_right u hv
  obtain ⟨n, hn⟩ := Nat.gcd_dvd_left u v
  obtain ⟨d, hd⟩ := Nat.gcd_dvd_right u v
  have hgc : gcI (u : Int) (v : Int) = (Nat.gcd u v : Nat) := by unfold gcI; rw [Int.toNat_natCast, Int.toNat_natCast, Nat.max_eq_left hg]
  have hle : Nat.gcd u v ≤ v := Nat.gcd_le_right u hv
  rw [hgc]
  generalize Nat.gcd u v = g at hn hd hg hle
  subst hn hd
  have hd0 : 0 < d := by
    rcases Nat.eq_zero_or_pos d with h | h
    · rw [h, Nat.mul_zero] at hv; omega
    · exact h
  refine ⟨n, d, by push_cast; rfl, by push_cast; rfl, by omega, by omega, ?_, ?_, by exact_mod_cast hle⟩
  · rw [← Int.natCast_ediv, Nat.mul_div_cancel_left _ hg]
  · rw [← Int.natCast_ediv, Nat.mul_div_cancel_left _ hg]

/-! the price of a first event given a second one -/

def givB (m : List Int) (a b : Int) : Bool := meaB m && (evB (m.length : Int) a && (evB (m.length : Int) b && !(onI m b == 0)))

def givN (m : List Int) (a b : Int) : Int := if givB m a b = true then onI m (andI a b) / gcI (onI m (andI a b)) (onI m b) else 0

def givD (m : List Int) (a b : Int) : Int := if givB m a b = true then onI m b / gcI (onI m (andI a b)) (onI m b) else 0

theorem givB_iff (m : List Int) (a b : Int) : givB m a b = true ↔ meaB m = true ∧ evB (m.length : Int) a = true ∧ evB (m.length : Int) b = true ∧ onI m b ≠ 0 := by
  simp [givB]

theorem giv_no {m : List Int} {a b : Int} (h : givB m a b = false) : givN m a b = 0 ∧ givD m a b = 0 := by
  rw [givN, givD, h]; exact ⟨rfl, rfl⟩

theorem mea_on {m : List Int} (h : meaB m = true) (e : Int) : 0 ≤ onI m e ∧ onI m e ≤ 36 := by
  obtain ⟨h1, h2, h3, h4⟩ := mea_parts h
  have := onI_bound h1 e
  omega

/-- both numbers, times one number, are the grains -/
theorem giv_scale {m : List Int} {a b : Int} (h : givB m a b = true) : ∃ g : Int, 1 ≤ g ∧ onI m (andI a b) = g * givN m a b ∧ onI m b = g * givD m a b ∧ 0 ≤ givN m a b ∧ givN m a b ≤ givD m a b ∧ 1 ≤ givD m a b ∧ givD m a b ≤ 36 := by
  obtain ⟨h1, h2, h3, h4⟩ := (givB_iff m a b).1 h
  have hb := mea_on h1 b
  have hab := mea_on h1 (andI a b)
  have hle := on_and_le (grs_of h1) (evB_15 h2) (evB_15 h3)
  obtain ⟨n, d, e1, e2, n0, d1, e3, e4, -⟩ := gc_dvd hab.1 (show 1 ≤ onI m b by omega)
  rw [givN, givD, if_pos h, if_pos h, e3, e4]
  have hg := gcI_pos (onI m (andI a b)) (onI m b)
  generalize gcI (onI m (andI a b)) (onI m b) = g at e1 e2 hg
  refine ⟨g, hg, e1, e2, n0, ?_, d1, ?_⟩
  · apply Int.le_of_mul_le_mul_left (a := g) _ (by omega)
    omega
  · have h5 : 1 * d ≤ g * d := Int.mul_le_mul_of_nonneg_right hg (by omega)
    omega

theorem giv_bounds (m : List Int) (a b : Int) : 0 ≤ givN m a b ∧ givN m a b ≤ 36 ∧ 0 ≤ givD m a b ∧ givD m a b ≤ 36 := by
  rcases Bool.eq_false_or_eq_true (givB m a b) with h | h
  · obtain ⟨g, -, -, -, h1, h2, h3, h4⟩ := giv_scale h
    omega
  · obtain ⟨h1, h2⟩ := giv_no h
    omega

theorem cancel {g x : Int} (hg : 0 < g) (h : g * x = 0) : x = 0 := by
  rcases Int.mul_eq_zero.1 h with h1 | h1
  · omega
  · exact h1

theorem frac_sum {g h n d p q A B C : Int} (hg : 0 < g) (hh : 0 < h) (h1 : A = g * n) (h2 : B = g * d) (h3 : C = h * p) (h4 : B = h * q) (h5 : A + C = B) : n * q + p * d = d * q := by
  have h6 : g * h * (n * q + p * d - d * q) = 0 := by grind
  have := cancel (Int.mul_pos hg hh) h6
  omega

theorem frac_chain {g1 g2 g3 u v n d s t X A B : Int} (h1 : 0 < g1) (h2 : 0 < g2) (h3 : 0 < g3) (e1 : X = g1 * u) (e2 : B = g1 * v) (e3 : A = g2 * n) (e4 : B = g2 * d) (e5 : X = g3 * s) (e6 : A = g3 * t) : u * d * t = v * n * s := by
  have h6 : g1 * g2 * g3 * (u * d * t - v * n * s) = 0 := by grind
  have := cancel (Int.mul_pos (Int.mul_pos h1 h2) h3) h6
  omega

theorem frac_bayes {g h n d p q X A B : Int} (hg : 0 < g) (hh : 0 < h) (h1 : X = g * n) (h2 : B = g * d) (h3 : X = h * p) (h4 : A = h * q) : n * B * q = p * A * d := by
  grind

theorem frac_total {g n d B : Int} (hg : 0 < g) (hd : 0 < d) (hB : B = g * d) : B * n / d = g * n := by
  subst hB
  rw [show g * d * n = g * n * d from by grind, Int.mul_ediv_cancel _ (by omega)]

/-- of an event and its other they are together the whole -/
theorem giv_not {m : List Int} {a b : Int} (h : givB m a b = true) : givB m (notI (m.length : Int) a) b = true ∧ givN m a b * givD m (notI (m.length : Int) a) b + givN m (notI (m.length : Int) a) b * givD m a b = givD m a b * givD m (notI (m.length : Int) a) b := by
  obtain ⟨h1, h2, h3, h4⟩ := (givB_iff m a b).1 h
  have k : givB m (notI (m.length : Int) a) b = true := (givB_iff _ _ _).2 ⟨h1, not_ev h2, h3, h4⟩
  obtain ⟨g, hg, e1, e2, -⟩ := giv_scale h
  obtain ⟨g', hg', e3, e4, -⟩ := giv_scale k
  exact ⟨k, frac_sum (by omega) (by omega) e1 e2 e3 e4 (on_split rfl h2 h3)⟩

/-- prices given events are multiplied along chains -/
theorem giv_chain {m : List Int} {a b c : Int} (h : givB m a b = true) (hc : evB (m.length : Int) c = true) : givB m (andI a c) b = true ∧ (givB m c (andI a b) = true → givN m (andI a c) b * givD m a b * givD m c (andI a b) = givD m (andI a c) b * givN m a b * givN m c (andI a b)) := by
  obtain ⟨h1, h2, h3, h4⟩ := (givB_iff m a b).1 h
  have k : givB m (andI a c) b = true := (givB_iff _ _ _).2 ⟨h1, and_ev h2 hc, h3, h4⟩
  refine ⟨k, fun k3 => ?_⟩
  obtain ⟨g2, hg2, e3, e4, -⟩ := giv_scale h
  obtain ⟨g1, hg1, e1, e2, -⟩ := giv_scale k
  obtain ⟨g3, hg3, e5, e6, -⟩ := giv_scale k3
  have hX : andI c (andI a b) = andI (andI a c) b := by rw [← andI_assoc, andI_comm c a]
  rw [hX] at e5
  exact frac_chain (by omega) (by omega) (by omega) e1 e2 e3 e4 e5 e6

theorem giv_bayes {m : List Int} {a b : Int} (h : givB m a b = true) (k : givB m b a = true) : givN m a b * onI m b * givD m b a = givN m b a * onI m a * givD m a b ∧ 0 < givD m a b ∧ 0 < givD m b a := by
  obtain ⟨g, hg, e1, e2, -, -, d1, -⟩ := giv_scale h
  obtain ⟨g', hg', e3, e4, -, -, d2, -⟩ := giv_scale k
  rw [andI_comm] at e3
  exact ⟨frac_bayes (by omega) (by omega) e1 e2 e3 e4, by omega, by omega⟩

/-- grains on one event, times the price given it -/
theorem giv_total {m : List Int} {a b : Int} (h : givB m a b = true) : onI m b * givN m a b / max (givD m a b) 1 = onI m (andI a b) := by
  obtain ⟨g, hg, e1, e2, -, -, d1, -⟩ := giv_scale h
  rw [show max (givD m a b) 1 = givD m a b from by omega, frac_total (by omega) (by omega) e2, e1]

theorem total_is {m : List Int} {a b : Int} (hm : meaB m = true) (ha : evB (m.length : Int) a = true) (hb : evB (m.length : Int) b = true) :
    (if givB m a b = true then onI m (andI a b) else 0) + (if givB m a (notI (m.length : Int) b) = true then onI m (andI a (notI (m.length : Int) b)) else 0) = onI m a ∧ (givB m a b || givB m a (notI (m.length : Int) b)) = true := by
  have hn := not_ev hb
  have hs : onI m (andI a b) + onI m (andI a (notI (m.length : Int) b)) = onI m a := by
    have := on_split (m := m) rfl hb ha
    rw [andI_comm b a, andI_comm _ a] at this
    exact this
  have hsum := on_notI (m := m) rfl hb
  have h36 := (mea_parts hm).2.1
  have l1 := on_and_le (grs_of hm) (evB_15 ha) (evB_15 hb)
  have l2 := on_and_le (grs_of hm) (evB_15 ha) (evB_15 hn)
  have p1 := mea_on hm (andI a b)
  have p2 := mea_on hm (andI a (notI (m.length : Int) b))
  have i1 : givB m a b = !(onI m b == 0) := by rw [givB, hm, ha, hb]; rfl
  have i2 : givB m a (notI (m.length : Int) b) = !(onI m (notI (m.length : Int) b) == 0) := by rw [givB, hm, ha, hn]; rfl
  rw [i1, i2]
  by_cases hz : onI m b = 0
  · have hz2 : onI m (notI (m.length : Int) b) ≠ 0 := by omega
    simp [hz, hz2]
    omega
  · by_cases hz2 : onI m (notI (m.length : Int) b) = 0
    · simp [hz, hz2]
      omega
    · simp [hz, hz2]
      omega

/-! bets called off -/

def calB (n a b p : Int) : Bool := evB n a && (evB n b && inB p 0 6)

def calI (a b p : Int) (k : Nat) : Int := bitI b k * (bitI a k * 6 - p)

def calL (n a b p : Int) : List Int := (List.range n.toNat).map (calI a b p)

def calR (n a b p : Int) : List Int := if calB n a b p = true then calL n a b p else []

theorem calB_iff (n a b p : Int) : calB n a b p = true ↔ evB n a = true ∧ evB n b = true ∧ 0 ≤ p ∧ p ≤ 6 := by
  rw [calB, Bool.and_eq_true, Bool.and_eq_true, inB_iff]

theorem cal_len (n a b p : Int) : (calL n a b p).length = n.toNat := by simp [calL]

theorem cal_at {n a b p : Int} {k : Nat} (h : k < n.toNat) : (calL n a b p)[k]? = some (calI a b p k) := by
  rw [calL, List.getElem?_map, List.getElem?_range h]; rfl

theorem cal_bound {a b p : Int} (h : 0 ≤ p ∧ p ≤ 6) (k : Nat) : -6 ≤ calI a b p k ∧ calI a b p k ≤ 6 := by
  unfold calI
  rcases bitI_01 a k with h1 | h1 <;> rw [h1] <;> rcases bitI_01 b k with h2 | h2 <;> rw [h2] <;> omega

theorem cal_gok {n a b p : Int} (h : calB n a b p = true) : gokB (calL n a b p) = true := by
  obtain ⟨h1, h2, h3⟩ := (calB_iff n a b p).1 h
  have h4 := (evB_iff n a).1 h1
  rw [gokB_iff, cal_len]
  refine ⟨by omega, by omega, fun x hx => ?_⟩
  obtain ⟨k, -, rfl⟩ := List.mem_map.1 hx
  have := cal_bound (a := a) (b := b) h3 k
  omega

/-- by a second event that always comes true it is the bet -/
theorem cal_sure {n a p : Int} (h1 : 1 ≤ n) (h4 : n ≤ 4) : calL n a (allI n) p = gainL n (a, p) 1 := by
  unfold calL gainL
  apply List.map_congr_left
  intro k hk
  have hk := List.mem_range.1 hk
  show bitI (allI n) k * (bitI a k * 6 - p) = 1 * (bitI a k * 6 - p)
  have : bitI (allI n) k = 1 := by
    obtain rfl | rfl | rfl | rfl := wcases h1 h4
    all_goals
      obtain rfl | rfl | rfl | rfl : k = 0 ∨ k = 1 ∨ k = 2 ∨ k = 3 := by simp at hk; omega
      all_goals (first | decide | (exfalso; revert hk; decide))
  rw [this]

/-- for the other event at the other price it is the other side -/
theorem cal_other {n a b p : Int} (ha : evB n a = true) : mulL (calL n (notI n a) b (6 - p)) (-1) = calL n a b p := by
  unfold mulL calL
  rw [List.map_map]
  apply List.map_congr_left
  intro k hk
  have hk := List.mem_range.1 hk
  show bitI b k * (bitI (notI n a) k * 6 - (6 - p)) * -1 = bitI b k * (bitI a k * 6 - p)
  rw [bit_not ha hk]
  grind

theorem cal_off {a b p : Int} {k : Nat} (h : bitI b k = 0) : calI a b p k = 0 := by rw [calI, h, Int.zero_mul]

/-- what the bet brings by a measure -/
theorem br_cal {m : List Int} {a b : Int} (h4 : m.length ≤ 4) (ha : 0 ≤ a ∧ a ≤ 15) (hb : 0 ≤ b ∧ b ≤ 15) (p : Int) : brI m (calL (m.length : Int) a b p) = 6 * onI m (andI a b) - p * onI m b := by
  have hk : ∀ k, k ≤ m.length → brI (m.take k) ((calL (m.length : Int) a b p).take k) = 6 * onI (m.take k) (andI a b) - p * onI (m.take k) b := by
    intro k
    induction k with
    | zero => intro _; simp [onI, brI]
    | succ k ih =>
      intro hk
      obtain ⟨x, hx⟩ : ∃ x, m[k]? = some x := ⟨_, List.getElem?_eq_getElem hk⟩
      have hc : (calL (m.length : Int) a b p)[k]? = some (calI a b p k) := cal_at (by rw [Int.toNat_natCast]; omega)
      have hl : ((m.take k).length) = ((calL (m.length : Int) a b p).take k).length := by rw [List.length_take, List.length_take, cal_len, Int.toNat_natCast]
      rw [onI_take hx, onI_take hx, List.take_add_one, hx, Option.toList_some, List.take_add_one, hc, Option.toList_some, brI_snoc _ _ _ _ hl, ih (by omega), and_bit ha hb (by omega), calI]
      grind
  have := hk m.length (Nat.le_refl _)
  rwa [List.take_length, List.take_of_length_le (by rw [cal_len, Int.toNat_natCast]; exact Nat.le_refl _)] at this

def fcB (m : List Int) (a b p : Int) : Bool := meaB m && (evB (m.length : Int) a && (evB (m.length : Int) b && (inB p 0 6 && (onI m (andI a b) * 6 == onI m b * p))))

theorem fc_yes {m : List Int} {a b p : Int} (hm : meaB m = true) (hc : calB (m.length : Int) a b p = true) : fcB m a b p = (onI m (andI a b) * 6 == onI m b * p) ∧ brB m (calL (m.length : Int) a b p) = true ∧ fcB m a b p = (brR m (calL (m.length : Int) a b p) == 0) := by
  obtain ⟨h1, h2, h3⟩ := (calB_iff _ _ _ _).1 hc
  have hi : inB p 0 6 = true := (inB_iff _ _ _).2 h3
  have e1 : fcB m a b p = (onI m (andI a b) * 6 == onI m b * p) := by rw [fcB, hm, h1, h2, hi]; rfl
  have hb : brB m (calL (m.length : Int) a b p) = true := by rw [brB, hm, cal_gok hc, cal_len, Int.toNat_natCast]; simp
  refine ⟨e1, hb, ?_⟩
  rw [e1, br_yes hb, br_cal (grs_of hm).2 (evB_15 h1) (evB_15 h2)]
  apply bool_eq
  rw [beq_iff_eq, beq_iff_eq, Int.mul_comm p]
  omega

/-- if the second event has grains: just at the price given it -/
theorem fc_given {m : List Int} {a b p : Int} (hg : givB m a b = true) (hc : calB (m.length : Int) a b p = true) : fcB m a b p = (givN m a b * 6 == givD m a b * p) := by
  have hm := ((givB_iff m a b).1 hg).1
  rw [(fc_yes hm hc).1]
  obtain ⟨g, h1, e1, e2, -⟩ := giv_scale hg
  rw [e1, e2]
  apply bool_eq
  rw [beq_iff_eq, beq_iff_eq]
  constructor
  · intro h
    have h2 : g * (givN m a b * 6 - givD m a b * p) = 0 := by grind
    have := cancel (by omega) h2
    omega
  · intro h
    rw [Int.mul_assoc, h, ← Int.mul_assoc]

theorem fc_no {m : List Int} {a b p : Int} (h : meaB m = false ∨ calB (m.length : Int) a b p = false) : fcB m a b p = false := by
  rw [← Bool.not_eq_true]
  intro hf
  simp only [fcB, Bool.and_eq_true] at hf
  obtain ⟨h1, h2, h3, h4, -⟩ := hf
  rcases h with h | h
  · rw [h1] at h; cases h
  · rw [calB, h2, h3, h4] at h; cases h

end Go.Proofs.Ytbjmhbkpeglpkaa
