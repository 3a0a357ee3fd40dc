/- The facts of the laws of chapter 12: what is believed; to learn an event. No condition. -/
import Derived.Test.YtbjmhbkpeglpkaaHa
import Derived.Test.YtbjmhbkpeglpkaaWc
namespace Go.Proofs.Ytbjmhbkpeglpkaa
set_option linter.unusedVariables false

/-! what is believed -/

def belB (w : List Int) (e : Int) : Bool := wgtB w && evB (w.length : Int) e

def belN (w : List Int) (e : Int) : Int := if belB w e = true then onI w e / gcI (onI w e) w.sum else 0

def belD (w : List Int) (e : Int) : Int := if belB w e = true then w.sum / gcI (onI w e) w.sum else 0

theorem belB_iff (w : List Int) (e : Int) : belB w e = true ↔ wgtB w = true ∧ evB (w.length : Int) e = true := by rw [belB, Bool.and_eq_true]

theorem bel_no {w : List Int} {e : Int} (h : belB w e = false) : belN w e = 0 ∧ belD w e = 0 := by rw [belN, belD, h]; exact ⟨rfl, rfl⟩

theorem sum_nonneg12 {w : List Int} (h : ∀ x ∈ w, 0 ≤ x) : 0 ≤ w.sum := by
  induction w with
  | nil => simp
  | cons x w ih =>
    have h1 := ih (fun y hy => h y (List.mem_cons_of_mem _ hy))
    have h2 := h x (by simp)
    rw [List.sum_cons]; omega

theorem sum_pos12 {w : List Int} (h : Wgt w) : 1 ≤ w.sum := by
  obtain ⟨h0, x, hx, hp⟩ := h
  induction w with
  | nil => cases hx
  | cons y w ih =>
    have h1 := sum_nonneg12 (fun z hz => h0 z (List.mem_cons_of_mem _ hz))
    have h2 := h0 y (by simp)
    rw [List.sum_cons]
    rcases List.mem_cons.1 hx with rfl | hx
    · omega
    · have := ih (fun z hz => h0 z (List.mem_cons_of_mem _ hz)) hx
      omega

theorem sum_le12 {w : List Int} {B : Int} (h : ∀ x ∈ w, x ≤ B) : w.sum ≤ B * (w.length : Int) := by
  induction w with
  | nil => simp
  | cons x w ih =>
    have h1 := ih (fun y hy => h y (List.mem_cons_of_mem _ hy))
    have h2 := h x (by simp)
    rw [List.sum_cons, List.length_cons]
    push_cast
    rw [Int.mul_add]
    omega

theorem wgt_sum {w : List Int} (h : wgtB w = true) : 1 ≤ w.sum ∧ w.sum ≤ 4000000 := by
  obtain ⟨h1, h2, -⟩ := (wgtB_iff w).1 h
  refine ⟨sum_pos12 (wgt_of h), ?_⟩
  have := sum_le12 (B := 1000000) (fun x hx => (h1 x hx).2)
  omega

theorem wgt_on {w : List Int} (h : wgtB w = true) (e : Int) : 0 ≤ onI w e ∧ onI w e ≤ w.sum := onI_bound (wgt_of h).1 e

/-- both numbers, times one number, are the weights -/
theorem bel_scale {w : List Int} {e : Int} (h : belB w e = true) : ∃ g : Int, 1 ≤ g ∧ onI w e = g * belN w e ∧ w.sum = g * belD w e ∧ 0 ≤ belN w e ∧ 1 ≤ belD w e ∧ belN w e ≤ 4000000 ∧ belD w e ≤ 4000000 := by
  obtain ⟨h1, h2⟩ := (belB_iff w e).1 h
  have hs := wgt_sum h1
  have ho := wgt_on h1 e
  obtain ⟨n, d, e1, e2, n0, d1, e3, e4, -⟩ := gc_dvd ho.1 hs.1
  rw [belN, belD, if_pos h, if_pos h, e3, e4]
  have hg := gcI_pos (onI w e) w.sum
  generalize gcI (onI w e) w.sum = g at e1 e2 hg
  have h5 : 1 * d ≤ g * d := Int.mul_le_mul_of_nonneg_right hg (by omega)
  have h6 : 1 * n ≤ g * n := Int.mul_le_mul_of_nonneg_right hg n0
  exact ⟨g, hg, e1, e2, n0, d1, by omega, by omega⟩

/-- an event and its other are all -/
theorem bel_not {w : List Int} {e : Int} (h : belB w e = true) : belB w (notI (w.length : Int) e) = true ∧ belN w e * belD w (notI (w.length : Int) e) + belN w (notI (w.length : Int) e) * belD w e = belD w e * belD w (notI (w.length : Int) e) := by
  obtain ⟨h1, h2⟩ := (belB_iff w e).1 h
  have k : belB w (notI (w.length : Int) e) = true := (belB_iff _ _).2 ⟨h1, not_ev h2⟩
  obtain ⟨g, hg, e1, e2, -⟩ := bel_scale h
  obtain ⟨g', hg', e3, e4, -⟩ := bel_scale k
  exact ⟨k, frac_sum (by omega) (by omega) e1 e2 e3 e4 (on_notI rfl h2)⟩

theorem gcI_mul {c : Nat} {x y : Int} (hc : 1 ≤ c) (hx : 0 ≤ x) (hy : 1 ≤ y) : gcI ((c : Int) * x) ((c : Int) * y) = (c : Int) * gcI x y := by
  obtain ⟨u, rfl⟩ : ∃ u : Nat, x = u := ⟨x.toNat, by omega⟩
  obtain ⟨v, rfl⟩ : ∃ v : Nat, y = v := ⟨y.toNat, by omega⟩
  have hg : 0 < Nat.gcd u v := Nat.gcd_pos_of_pos_right u (by omega)
  have hg2 : 0 < c * Nat.gcd u v := Nat.mul_pos (by omega) hg
  unfold gcI
  rw [show ((c : Int) * (u : Int)).toNat = c * u from by rw [← Int.natCast_mul, Int.toNat_natCast], show ((c : Int) * (v : Int)).toNat = c * v from by rw [← Int.natCast_mul, Int.toNat_natCast], Nat.gcd_mul_left, Int.toNat_natCast, Int.toNat_natCast, Nat.max_eq_left hg2, Nat.max_eq_left hg, Int.natCast_mul]

theorem on_map {c : Int} (w : List Int) (e : Int) : onI (w.map (fun x => c * x)) e = c * onI w e := by
  have hk : ∀ k, k ≤ w.length → onI ((w.map (fun x => c * x)).take k) e = c * onI (w.take k) e := by
    intro k
    induction k with
    | zero => intro _; simp [onI]
    | succ k ih =>
      intro hk
      obtain ⟨x, hx⟩ : ∃ x, w[k]? = some x := ⟨_, List.getElem?_eq_getElem hk⟩
      have hx2 : (w.map (fun x => c * x))[k]? = some (c * x) := by rw [List.getElem?_map, hx]; rfl
      rw [onI_take hx2, onI_take hx, ih (by omega)]
      grind
  have := hk w.length (Nat.le_refl _)
  rwa [List.take_of_length_le (by simp), List.take_length] at this

theorem sum_map12 {c : Int} (w : List Int) : (w.map (fun x => c * x)).sum = c * w.sum := by
  induction w with
  | nil => simp
  | cons x w ih => rw [List.map_cons, List.sum_cons, ih, List.sum_cons, Int.mul_add]

/-- reduced weights believe the same -/
theorem bel_red {w : List Int} {e : Int} (h : belB w e = true) : belB (redL w) e = true ∧ belN (redL w) e = belN w e ∧ belD (redL w) e = belD w e := by
  obtain ⟨h1, h2⟩ := (belB_iff w e).1 h
  have k : belB (redL w) e = true := (belB_iff _ _).2 ⟨wgt_red h1, by rw [red_len]; exact h2⟩
  have hw := wgt_of h1
  have hm := red_map hw
  have hg := hw.pos
  have h3 := on_map (c := (gcn w : Int)) (redL w) e
  have h4 := sum_map12 (c := (gcn w : Int)) (redL w)
  rw [hm] at h3 h4
  have ho := (wgt_on (wgt_red h1) e).1
  have hs := (wgt_sum (wgt_red h1)).1
  have h5 := gcI_mul (c := gcn w) hg ho hs
  rw [← h3, ← h4] at h5
  refine ⟨k, ?_, ?_⟩
  · rw [belN, belN, if_pos h, if_pos k, h5, h3, Int.mul_ediv_mul_of_pos _ _ (by omega)]
  · rw [belD, belD, if_pos h, if_pos k, h5, h4, Int.mul_ediv_mul_of_pos _ _ (by omega)]

theorem on_allI12 {w : List Int} : onI w (allI (w.length : Int)) = w.sum := by
  rw [allI, Int.toNat_natCast]; exact on_all w

/-- of all worlds it is 1 over 1 -/
theorem bel_all {w : List Int} (h : wgtB w = true) : belB w (allI (w.length : Int)) = true ∧ belN w (allI (w.length : Int)) = 1 ∧ belD w (allI (w.length : Int)) = 1 := by
  have h4 := ((wgtB_iff w).1 h).2.1
  have k : belB w (allI (w.length : Int)) = true := (belB_iff _ _).2 ⟨h, by
    rw [evB_iff]
    refine ⟨by omega, by omega, ?_, Int.le_refl _⟩
    obtain h1 | h1 | h1 | h1 : w.length = 1 ∨ w.length = 2 ∨ w.length = 3 ∨ w.length = 4 := by omega
    all_goals (rw [h1]; decide)⟩
  have hs := (wgt_sum h).1
  have hg : gcI w.sum w.sum = w.sum := by
    unfold gcI
    rw [Nat.gcd_self]
    omega
  refine ⟨k, ?_, ?_⟩
  · rw [belN, if_pos k, on_allI12, hg, Int.ediv_self (by omega)]
  · rw [belD, if_pos k, on_allI12, hg, Int.ediv_self (by omega)]

/-! to learn an event -/

/-- the bits of an event -/
def bitsL (n : Nat) (e : Int) : List Int := (List.range n).map (bitI e)

theorem bits_len (n : Nat) (e : Int) : (bitsL n e).length = n := by simp [bitsL]

theorem bits_at {n : Nat} {e : Int} {k : Nat} (h : k < n) : (bitsL n e)[k]? = some (bitI e k) := by rw [bitsL, List.getElem?_map, List.getElem?_range h]; rfl

theorem cut_at {m : List Int} {e : Int} {k : Nat} {x : Int} (h : m[k]? = some x) : (prodL m (bitsL m.length e))[k]? = some (x * bitI e k) :=
  prod_at h (bits_at (List.getElem?_eq_some_iff.1 h).1)

theorem cut_len (m : List Int) (e : Int) : (prodL m (bitsL m.length e)).length = m.length := prod_len (bits_len _ _)

theorem cut_gcn {m : List Int} {e : Int} (k : Nat) (hk : k ≤ m.length) : gcn ((prodL m (bitsL m.length e)).take k) = divG m e k := by
  induction k with
  | zero => simp [gcn, divG]
  | succ k ih =>
    obtain ⟨x, hx⟩ : ∃ x, m[k]? = some x := ⟨_, List.getElem?_eq_getElem hk⟩
    rw [gcn_take (cut_at hx), ih (by omega), divG, getD_at hx, Int.mul_comm]

theorem cut_on {m : List Int} {e : Int} (b : Int) (h4 : m.length ≤ 4) (he : 0 ≤ e ∧ e ≤ 15) (hb : 0 ≤ b ∧ b ≤ 15) : onI (prodL m (bitsL m.length e)) b = onI m (andI b e) := by
  have hk : ∀ k, k ≤ m.length → onI ((prodL m (bitsL m.length e)).take k) b = onI (m.take k) (andI b e) := by
    intro k
    induction k with
    | zero => intro _; simp [onI]
    | succ k ih =>
      intro hk
      obtain ⟨x, hx⟩ : ∃ x, m[k]? = some x := ⟨_, List.getElem?_eq_getElem hk⟩
      rw [onI_take (cut_at hx), onI_take hx, ih (by omega), and_bit hb he (by omega)]
      grind
  have := hk m.length (Nat.le_refl _)
  rwa [List.take_of_length_le (by rw [cut_len]; exact Nat.le_refl _), List.take_length] at this

theorem cut_sum {m : List Int} {e : Int} : (prodL m (bitsL m.length e)).sum = onI m e := by
  have hk : ∀ k, k ≤ m.length → ((prodL m (bitsL m.length e)).take k).sum = onI (m.take k) e := by
    intro k
    induction k with
    | zero => intro _; simp [onI]
    | succ k ih =>
      intro hk
      obtain ⟨x, hx⟩ : ∃ x, m[k]? = some x := ⟨_, List.getElem?_eq_getElem hk⟩
      rw [List.take_add_one, cut_at hx, Option.toList_some, List.sum_append, ih (by omega), onI_take hx]
      simp; grind
  have := hk m.length (Nat.le_refl _)
  rwa [List.take_of_length_le (by rw [cut_len]; exact Nat.le_refl _), List.take_length] at this

theorem pos_some {w : List Int} (h : ∀ x ∈ w, 0 ≤ x) (hs : w.sum ≠ 0) : ∃ x ∈ w, 0 < x := by
  induction w with
  | nil => simp at hs
  | cons x w ih =>
    have hx := h x (by simp)
    by_cases h0 : 0 < x
    · exact ⟨x, by simp, h0⟩
    · obtain ⟨y, hy, hy0⟩ := ih (fun z hz => h z (List.mem_cons_of_mem _ hz)) (by rw [List.sum_cons] at hs; omega)
      exact ⟨y, List.mem_cons_of_mem _ hy, hy0⟩

theorem mea_wgt {m : List Int} (h : meaB m = true) : wgtB m = true := by
  obtain ⟨h1, h2, h3, h4⟩ := (meaB_iff m).1 h
  exact (wgtB_iff m).2 ⟨fun x hx => by have := h1 x hx; omega, ⟨h2, h3⟩, pos_some (fun x hx => (h1 x hx).1) (by omega)⟩

/-- to learn an event is to cut the others off -/
theorem learn_event {m : List Int} {e : Int} (hm : meaB m = true) (he : evB (m.length : Int) e = true) :
    lrnB m (bitsL m.length e) = aftB m e ∧ lrnR m (bitsL m.length e) = aftR m e ∧ givB m 1 e = aftB m e ∧
    (aftB m e = true → belB (aftR m e) 1 = true ∧ belN (aftR m e) 1 = givN m 1 e ∧ belD (aftR m e) 1 = givD m 1 e) := by
  obtain ⟨h1, h2, h3, h4⟩ := (meaB_iff m).1 hm
  have he15 := evB_15 he
  have hev1 : evB (m.length : Int) 1 = true := by
    rw [evB_iff]
    refine ⟨by omega, by omega, by omega, ?_⟩
    obtain h1 | h1 | h1 | h1 : m.length = 1 ∨ m.length = 2 ∨ m.length = 3 ∨ m.length = 4 := by omega
    all_goals (rw [h1]; decide)
  have hmem : ∀ z ∈ prodL m (bitsL m.length e), 0 ≤ z ∧ z ≤ 36 := by
    intro z hz
    obtain ⟨k, hk⟩ := List.mem_iff_getElem?.1 hz
    have hkl : k < m.length := by have := (List.getElem?_eq_some_iff.1 hk).1; rw [cut_len] at this; exact this
    obtain ⟨x, hx⟩ : ∃ x, m[k]? = some x := ⟨_, List.getElem?_eq_getElem hkl⟩
    rw [cut_at hx] at hk
    obtain rfl := Option.some.inj hk
    have := h1 x (List.mem_of_getElem? hx)
    rcases bitI_01 e k with h | h <;> rw [h] <;> omega
  have hevi : eviB (m.length : Int) (bitsL m.length e) = true := (eviB_iff _ _).2 ⟨fun x hx => by
    obtain ⟨k, -, rfl⟩ := List.mem_map.1 hx
    rcases bitI_01 e k with h | h <;> rw [h] <;> omega, by omega, by rw [bits_len]⟩
  have hiff : wgtB (prodL m (bitsL m.length e)) = true ↔ onI m e ≠ 0 := by
    rw [wgtB_iff, cut_len]
    constructor
    · rintro ⟨-, -, hx⟩ h0
      have := sum_pos12 (w := prodL m (bitsL m.length e)) ⟨fun x hx => (hmem x hx).1, hx⟩
      rw [cut_sum] at this
      omega
    · intro h0
      exact ⟨fun x hx => by have := hmem x hx; omega, ⟨h2, h3⟩, pos_some (fun x hx => (hmem x hx).1) (by rw [cut_sum]; exact h0)⟩
  have hB : lrnB m (bitsL m.length e) = aftB m e := by
    apply bool_eq
    rw [lrnB_iff, aftB_iff, hiff]
    exact ⟨fun h => ⟨hm, he, h.2.2⟩, fun h => ⟨mea_wgt hm, hevi, h.2.2⟩⟩
  have hred : aftB m e = true → redL (prodL m (bitsL m.length e)) = aftL m e := by
    intro ha
    have h0 := ((aftB_iff m e).1 ha).2.2
    have hw := wgt_of (hiff.2 h0)
    have hg : gcn (prodL m (bitsL m.length e)) = divG m e m.length := by
      have := cut_gcn (m := m) (e := e) m.length (Nat.le_refl _)
      rwa [List.take_of_length_le (by rw [cut_len]; exact Nat.le_refl _)] at this
    have hp := hw.pos
    apply List.ext_getElem?
    intro k
    rcases Nat.lt_or_ge k m.length with hk | hk
    · obtain ⟨x, hx⟩ : ∃ x, m[k]? = some x := ⟨_, List.getElem?_eq_getElem hk⟩
      rw [red_at (cut_at hx), aft_at hk, aftI, divI, ← hg, getD_at hx, Nat.max_eq_left hp, Int.mul_comm]
    · rw [List.getElem?_eq_none (by rw [red_len, cut_len]; exact hk), List.getElem?_eq_none (by rw [aft_len]; exact hk)]
  refine ⟨hB, ?_, ?_, fun ha => ?_⟩
  · rcases Bool.eq_false_or_eq_true (aftB m e) with ha | ha
    · rw [lrnR, if_pos (by rw [hB]; exact ha), aftR, if_pos ha, hred ha]
    · rw [lrnR, if_neg (by rw [hB, ha]; simp), aftR, if_neg (by rw [ha]; simp)]
  · apply bool_eq
    rw [givB_iff, aftB_iff]
    exact ⟨fun h => ⟨h.1, h.2.2.1, h.2.2.2⟩, fun h => ⟨h.1, hev1, h.2.1, h.2.2⟩⟩
  · have h0 := ((aftB_iff m e).1 ha).2.2
    have hw := hiff.2 h0
    have hb : belB (prodL m (bitsL m.length e)) 1 = true := (belB_iff _ _).2 ⟨hw, by rw [cut_len]; exact hev1⟩
    obtain ⟨k1, k2, k3⟩ := bel_red hb
    have hg : givB m 1 e = true := (givB_iff _ _ _).2 ⟨hm, hev1, he, h0⟩
    rw [aftR, if_pos ha, ← hred ha]
    refine ⟨k1, ?_, ?_⟩
    · rw [k2, belN, if_pos hb, givN, if_pos hg, cut_sum, cut_on 1 (by omega) he15 (by omega)]
    · rw [k3, belD, if_pos hb, givD, if_pos hg, cut_sum, cut_on 1 (by omega) he15 (by omega)]

end Go.Proofs.Ytbjmhbkpeglpkaa
