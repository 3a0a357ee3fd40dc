/- The facts of the laws of chapter 7: tables by events, their faults, measures out of tables, bets against tables. No condition. -/
import Derived.Test.YteljcicdibbhdaaBo
namespace Go.Proofs.Yteljcicdibbhdaa
set_option linter.unusedVariables false

/-- what a table has for an event -/
def tget (t : List Int) (k : Nat) : Int := t.getD k 0

theorem tget_at {t : List Int} {k : Nat} {x : Int} (h : t[k]? = some x) : tget t k = x := by rw [tget, List.getD_eq_getElem?_getD, h]; rfl

theorem tget_some {t : List Int} {k : Nat} (h : k < t.length) : t[k]? = some (tget t k) := by
  obtain ⟨x, hx⟩ : ∃ x, t[k]? = some x := ⟨_, List.getElem?_eq_getElem h⟩
  rw [tget_at hx, hx]

/-- a table of so many worlds -/
def tokB (n : Int) (t : List Int) : Bool := wokB n && (decide ((t.length : Int) = 2 ^ n.toNat) && t.all fun x => inB x 0 36)

theorem tokB_iff (n : Int) (t : List Int) : tokB n t = true ↔ (1 ≤ n ∧ n ≤ 4) ∧ t.length = 2 ^ n.toNat ∧ ∀ x ∈ t, 0 ≤ x ∧ x ≤ 36 := by
  rw [tokB, Bool.and_eq_true, Bool.and_eq_true, wokB_iff, decide_eq_true_iff, List.all_eq_true]
  constructor
  · rintro ⟨h1, h2, h3⟩
    exact ⟨h1, by exact_mod_cast h2, fun x hx => (inB_iff _ _ _).1 (h3 x hx)⟩
  · rintro ⟨h1, h2, h3⟩
    exact ⟨h1, by exact_mod_cast h2, fun x hx => (inB_iff _ _ _).2 (h3 x hx)⟩

theorem tok_len {n : Int} {t : List Int} (h : tokB n t = true) : ∃ m : Nat, n = m ∧ 1 ≤ m ∧ m ≤ 4 ∧ t.length = 2 ^ m ∧ t.length ≤ 16 ∧ 2 ≤ t.length := by
  obtain ⟨⟨h1, h2⟩, h3, -⟩ := (tokB_iff _ _).1 h
  obtain ⟨m, rfl⟩ : ∃ m : Nat, n = m := ⟨n.toNat, by omega⟩
  rw [Int.toNat_natCast] at h3
  refine ⟨m, rfl, by omega, by omega, h3, ?_, ?_⟩
  · obtain rfl | rfl | rfl | rfl : m = 1 ∨ m = 2 ∨ m = 3 ∨ m = 4 := by omega
    all_goals omega
  · obtain rfl | rfl | rfl | rfl : m = 1 ∨ m = 2 ∨ m = 3 ∨ m = 4 := by omega
    all_goals omega

theorem tok_get {n : Int} {t : List Int} (h : tokB n t = true) (k : Nat) : 0 ≤ tget t k ∧ tget t k ≤ 36 := by
  by_cases hk : k < t.length
  · exact ((tokB_iff _ _).1 h).2.2 _ (List.mem_of_getElem? (tget_some hk))
  · rw [tget, List.getD_eq_getElem?_getD, List.getElem?_eq_none (by omega)]; simp

theorem tok_zeros (m : Nat) (h1 : 1 ≤ m) (h4 : m ≤ 4) : tokB (m : Int) (List.replicate (2 ^ m) 0) = true :=
  (tokB_iff _ _).2 ⟨by omega, by simp, fun x hx => by obtain rfl := List.eq_of_mem_replicate hx; omega⟩

theorem tok_more {n : Int} {t : List Int} (h : tokB n t = true) : tokB n (t ++ [0]) = false := by
  rw [← Bool.not_eq_true, tokB_iff]
  rintro ⟨-, h2, -⟩
  have h3 := ((tokB_iff _ _).1 h).2.1
  simp at h2
  omega

/-! faults -/

/-- two events that never come true together, whose grains are not those of one of both -/
def isF (t : List Int) (a b : Nat) : Bool := (a &&& b == 0) && !(tget t a + tget t b == tget t (a ||| b))

theorem isF_comm (t : List Int) (a b : Nat) : isF t a b = isF t b a := by
  unfold isF
  rw [Nat.and_comm, Nat.or_comm, Int.add_comm]

def fault (t : List Int) : Option (Nat × Nat) := ((List.range (t.length * t.length)).find? fun k => isF t (k / t.length) (k % t.length)).map fun k => (k / t.length, k % t.length)

theorem fault_at {t : List Int} {a b : Nat} (ha : a < t.length) (hb : b < t.length) (h : isF t a b = true) (hr : ∀ i, i < a → ∀ j, j < t.length → isF t i j = false) (hc : ∀ j, j < b → isF t a j = false) : fault t = some (a, b) := by
  have hd : (a * t.length + b) / t.length = a := by rw [Nat.mul_comm, Nat.mul_add_div (by omega), Nat.div_eq_of_lt hb]; omega
  have hm : (a * t.length + b) % t.length = b := by rw [Nat.mul_comm, Nat.mul_add_mod, Nat.mod_eq_of_lt hb]
  have hlt : a * t.length + b < t.length * t.length := by
    have : (a + 1) * t.length ≤ t.length * t.length := Nat.mul_le_mul_right _ ha
    rw [Nat.add_mul] at this
    omega
  have h1 : (List.range (t.length * t.length)).find? (fun k => isF t (k / t.length) (k % t.length)) = some (a * t.length + b) := by
    rw [List.find?_range_eq_some]
    refine ⟨by rw [hd, hm]; exact h, List.mem_range.2 hlt, fun j hj => ?_⟩
    have hj2 : j % t.length < t.length := Nat.mod_lt _ (by omega)
    have hdm := Nat.div_add_mod j t.length
    rw [Nat.mul_comm] at hdm
    by_cases h2 : j / t.length < a
    · rw [hr _ h2 _ hj2]; rfl
    · have h3 : j / t.length = a := by
        rcases Nat.lt_trichotomy (j / t.length) a with h4 | h4 | h4
        · exact absurd h4 h2
        · exact h4
        · have : (a + 1) * t.length ≤ j / t.length * t.length := Nat.mul_le_mul_right _ h4
          rw [Nat.add_mul] at this
          omega
      rw [h3] at hdm ⊢
      rw [hc _ (by omega)]; rfl
  rw [fault, h1, Option.map_some, hd, hm]

theorem fault_no {t : List Int} (h : ∀ i, i < t.length → ∀ j, j < t.length → isF t i j = false) : fault t = none := by
  rw [fault, Option.map_eq_none_iff, List.find?_eq_none]
  intro k hk
  have hk := List.mem_range.1 hk
  have h0 : 0 < t.length := by
    rcases Nat.eq_zero_or_pos t.length with h | h
    · rw [h] at hk; omega
    · exact h
  rw [h _ (Nat.div_lt_of_lt_mul hk) _ (Nat.mod_lt _ h0)]
  simp

theorem fault_is {t : List Int} {a b : Nat} (h : fault t = some (a, b)) : a < t.length ∧ b < t.length ∧ isF t a b = true ∧ ∀ i, i < a → ∀ j, j < t.length → isF t i j = false := by
  rw [fault, Option.map_eq_some_iff] at h
  obtain ⟨k, hk, e⟩ := h
  rw [List.find?_range_eq_some] at hk
  obtain ⟨h1, h2, h3⟩ := hk
  injection e with e1 e2
  have h2 := List.mem_range.1 h2
  have h0 : 0 < t.length := by
    rcases Nat.eq_zero_or_pos t.length with h | h
    · rw [h] at h2; omega
    · exact h
  subst e1 e2
  refine ⟨Nat.div_lt_of_lt_mul h2, Nat.mod_lt _ h0, h1, fun i hi j hj => ?_⟩
  have hd : (i * t.length + j) / t.length = i := by rw [Nat.mul_comm, Nat.mul_add_div (by omega), Nat.div_eq_of_lt hj]; omega
  have hm : (i * t.length + j) % t.length = j := by rw [Nat.mul_comm, Nat.mul_add_mod, Nat.mod_eq_of_lt hj]
  have hdm := Nat.div_add_mod k t.length
  rw [Nat.mul_comm] at hdm
  have := h3 (i * t.length + j) (by
    have : (i + 1) * t.length ≤ k / t.length * t.length := Nat.mul_le_mul_right _ hi
    rw [Nat.add_mul] at this
    omega)
  rw [hd, hm] at this
  simpa using this

theorem fault_none {t : List Int} (h : fault t = none) {a b : Nat} (ha : a < t.length) (hb : b < t.length) : isF t a b = false := by
  rw [fault, Option.map_eq_none_iff, List.find?_eq_none] at h
  have hd : (a * t.length + b) / t.length = a := by rw [Nat.mul_comm, Nat.mul_add_div (by omega), Nat.div_eq_of_lt hb]; omega
  have hm : (a * t.length + b) % t.length = b := by rw [Nat.mul_comm, Nat.mul_add_mod, Nat.mod_eq_of_lt hb]
  have hlt : a * t.length + b < t.length * t.length := by
    have : (a + 1) * t.length ≤ t.length * t.length := Nat.mul_le_mul_right _ ha
    rw [Nat.add_mul] at this
    omega
  have := h _ (List.mem_range.2 hlt)
  rw [hd, hm] at this
  simpa using this

/-- the first event of the first fault is at most the second one -/
theorem fault_le {t : List Int} {a b : Nat} (h : fault t = some (a, b)) : a ≤ b := by
  obtain ⟨h1, h2, h3, h4⟩ := fault_is h
  apply Nat.le_of_not_lt
  intro hlt
  rw [isF_comm, h4 b hlt a h1] at h3
  cases h3

theorem isF_parts {t : List Int} {a b : Nat} (h : isF t a b = true) : a &&& b = 0 ∧ tget t a + tget t b ≠ tget t (a ||| b) := by
  unfold isF at h
  simpa using h

theorem isF_add {t : List Int} {a b : Nat} (h : isF t a b = false) (hd : a &&& b = 0) : tget t a + tget t b = tget t (a ||| b) := by
  unfold isF at h
  simpa [hd] using h

/-! what is told of a fault -/

def ffA (n : Int) (t : List Int) : Int := if tokB n t = true then (match fault t with | some (a, _) => (a : Int) | none => -1) else -1

def ffB (n : Int) (t : List Int) : Int := if tokB n t = true then (match fault t with | some (_, b) => (b : Int) | none => -1) else -1

def ffO (n : Int) (t : List Int) : Bool := tokB n t && (fault t).isSome

theorem ff_no {n : Int} {t : List Int} (h : tokB n t = false) : ffA n t = -1 ∧ ffB n t = -1 ∧ ffO n t = false := by
  rw [ffA, ffB, ffO, h]; exact ⟨rfl, rfl, rfl⟩

theorem ff_none {n : Int} {t : List Int} (h : fault t = none) : ffA n t = -1 ∧ ffB n t = -1 ∧ ffO n t = false := by
  rw [ffA, ffB, ffO, h]
  refine ⟨by split <;> rfl, by split <;> rfl, by simp⟩

theorem ff_some {n : Int} {t : List Int} {a b : Nat} (h : tokB n t = true) (hf : fault t = some (a, b)) : ffA n t = a ∧ ffB n t = b ∧ ffO n t = true := by
  rw [ffA, ffB, ffO, h, hf]; exact ⟨rfl, rfl, rfl⟩

/-- a table without a fault, with all grains -/
def addB (n : Int) (t : List Int) : Bool := tokB n t && ((fault t).isNone && decide (tget t (t.length - 1) = 36))

theorem addB_iff (n : Int) (t : List Int) : addB n t = true ↔ tokB n t = true ∧ fault t = none ∧ tget t (t.length - 1) = 36 := by
  rw [addB, Bool.and_eq_true, Bool.and_eq_true, decide_eq_true_iff, Option.isNone_iff_eq_none]

/-! tables of measures -/

def tabL (m : List Int) : List Int := (List.range (2 ^ m.length)).map fun e : Nat => onI m (e : Int)

def tabR (m : List Int) : List Int := if meaB m = true then tabL m else []

theorem tab_len (m : List Int) : (tabL m).length = 2 ^ m.length := by simp [tabL]

theorem tab_at {m : List Int} {e : Nat} (h : e < 2 ^ m.length) : (tabL m)[e]? = some (onI m (e : Int)) := by
  rw [tabL, List.getElem?_map, List.getElem?_range h]; rfl

theorem tab_get {m : List Int} {e : Nat} (h : e < 2 ^ m.length) : tget (tabL m) e = onI m (e : Int) := tget_at (tab_at h)

theorem or_bits : ∀ a b : Fin 16, ∀ k : Fin 4, (a : Nat) &&& (b : Nat) = 0 → bitI (((a : Nat) ||| (b : Nat) : Nat) : Int) k = bitI ((a : Nat) : Int) k + bitI ((b : Nat) : Int) k := by decide +kernel

theorem or_bit {a b k : Nat} (ha : a < 16) (hb : b < 16) (hk : k < 4) (h : a &&& b = 0) : bitI ((a ||| b : Nat) : Int) k = bitI (a : Int) k + bitI (b : Int) k := or_bits ⟨a, ha⟩ ⟨b, hb⟩ ⟨k, hk⟩ h

theorem pow_16 {m : Nat} (h : m ≤ 4) : 2 ^ m ≤ 16 := Nat.pow_le_pow_right (by decide) h

/-- grains on events that never come true together are added -/
theorem on_orU {m : List Int} (h4 : m.length ≤ 4) {a b : Nat} (ha : a < 16) (hb : b < 16) (h : a &&& b = 0) : onI m (a : Int) + onI m (b : Int) = onI m ((a ||| b : Nat) : Int) := by
  have := on_made (m := m) (a := ((a ||| b : Nat) : Int)) (b := (a : Int)) (c := (b : Int)) (u := 1) (v := 1) (fun k hk => by rw [or_bit ha hb (by omega) h]; omega)
  omega

theorem on_pow {m : List Int} (h4 : m.length ≤ 4) {k : Nat} (hk : k < m.length) : onI m ((2 ^ k : Nat) : Int) = tget m k := by
  rcases m with _ | ⟨x0, _ | ⟨x1, _ | ⟨x2, _ | ⟨x3, _ | ⟨x4, m⟩⟩⟩⟩⟩
  · simp at hk
  all_goals simp at hk h4
  · obtain rfl : k = 0 := by omega
    simp [onI, tget]
  · obtain rfl | rfl : k = 0 ∨ k = 1 := by omega
    all_goals simp [onI, tget]
  · obtain rfl | rfl | rfl : k = 0 ∨ k = 1 ∨ k = 2 := by omega
    all_goals simp [onI, tget]
  · obtain rfl | rfl | rfl | rfl : k = 0 ∨ k = 1 ∨ k = 2 ∨ k = 3 := by omega
    all_goals simp [onI, tget]

theorem tab_clean {m : List Int} (h4 : m.length ≤ 4) : fault (tabL m) = none := by
  apply fault_no
  intro a ha b hb
  rw [tab_len] at ha hb
  have h16 := pow_16 h4
  unfold isF
  by_cases h : a &&& b = 0
  · have hab : a ||| b < 2 ^ m.length := Nat.or_lt_two_pow ha hb
    rw [tab_get ha, tab_get hb, tab_get hab, on_orU h4 (by omega) (by omega) h]
    simp
  · simp [h]

theorem pow_pred (m : Nat) : ((2 ^ m - 1 : Nat) : Int) = 2 ^ m - 1 := by
  have : 0 < 2 ^ m := Nat.pow_pos (by decide)
  rw [Int.ofNat_sub (by omega), Int.natCast_pow]
  rfl

theorem tab_all (m : List Int) : tget (tabL m) ((tabL m).length - 1) = m.sum := by
  have h : 0 < 2 ^ m.length := Nat.pow_pos (by decide)
  rw [tab_len, tab_get (by omega), ← on_all m, pow_pred]

theorem mea_tab {m : List Int} (h : meaB m = true) : addB (m.length : Int) (tabL m) = true := by
  obtain ⟨h1, h2, h3, h4⟩ := (meaB_iff m).1 h
  rw [addB_iff]
  refine ⟨(tokB_iff _ _).2 ⟨by omega, by rw [tab_len, Int.toNat_natCast], fun x hx => ?_⟩, tab_clean h3, by rw [tab_all]; exact h4⟩
  obtain ⟨e, -, rfl⟩ := List.mem_map.1 hx
  have := onI_bound (fun x hx => (h1 x hx).1) (e : Int)
  rw [h4] at this
  exact this

/-! measures of tables -/

def measL (n : Int) (t : List Int) : List Int := (List.range n.toNat).map fun k => tget t (2 ^ k)

def measR (n : Int) (t : List Int) : List Int := if addB n t = true then measL n t else []

theorem meas_len (n : Int) (t : List Int) : (measL n t).length = n.toNat := by simp [measL]

theorem meas_get {n : Int} {t : List Int} {k : Nat} (h : k < n.toNat) : tget (measL n t) k = tget t (2 ^ k) := tget_at (by rw [measL, List.getElem?_map, List.getElem?_range h]; rfl)

theorem top_bit : ∀ e : Fin 16, e ≠ 0 → ∃ k : Fin 4, ∃ f : Fin 16, f < e ∧ 2 ^ (k : Nat) ≤ (e : Nat) ∧ 2 ^ (k : Nat) &&& (f : Nat) = 0 ∧ 2 ^ (k : Nat) ||| (f : Nat) = (e : Nat) := by decide +kernel

/-- an additive table is that of the grains of its worlds -/
theorem clean_on {n : Int} {t : List Int} (h : tokB n t = true) (hf : fault t = none) : ∀ e, e < t.length → onI (measL n t) (e : Int) = tget t e := by
  obtain ⟨m, rfl, m1, m4, hl, h16, h2⟩ := tok_len h
  have hml : (measL (m : Int) t).length = m := by rw [meas_len, Int.toNat_natCast]
  intro e
  induction e using Nat.strongRecOn with
  | _ e ih =>
    intro he
    by_cases h0 : e = 0
    · subst h0
      have := isF_add (fault_none hf he he) (by decide)
      have h00 : onI (measL (m : Int) t) ((0 : Nat) : Int) = 0 := onI_zero _
      rw [h00]
      simp at this
      omega
    · obtain ⟨k, f, hfe, hke, hand, hor⟩ := top_bit ⟨e, by omega⟩ (by intro h; exact h0 (congrArg Fin.val h))
      have hfe : (f : Nat) < e := hfe
      have hke : 2 ^ (k : Nat) ≤ e := hke
      have hor : 2 ^ (k : Nat) ||| (f : Nat) = e := hor
      have hk : (k : Nat) < m := by
        apply Nat.lt_of_not_le
        intro hle
        have := Nat.pow_le_pow_right (show 0 < 2 by decide) hle
        omega
      have hk16 : 2 ^ (k : Nat) < 16 := by omega
      have h3 := isF_add (fault_none hf (show 2 ^ (k : Nat) < t.length by omega) (show (f : Nat) < t.length by omega)) hand
      have h4 := on_orU (m := measL (m : Int) t) (by omega) hk16 f.isLt hand
      rw [hor] at h3 h4
      rw [← h4, ih f hfe (by omega), on_pow (by omega) (by omega), meas_get (by rw [Int.toNat_natCast]; exact hk)]
      exact h3

theorem add_meas {n : Int} {t : List Int} (h : addB n t = true) : meaB (measL n t) = true ∧ tabL (measL n t) = t ∧ ((measL n t).length : Int) = n := by
  obtain ⟨h1, h2, h3⟩ := (addB_iff _ _).1 h
  obtain ⟨m, rfl, m1, m4, hl, h16, h22⟩ := tok_len h1
  have hml : (measL (m : Int) t).length = m := by rw [meas_len, Int.toNat_natCast]
  refine ⟨(meaB_iff _).2 ⟨fun x hx => ?_, by omega, by omega, ?_⟩, ?_, by rw [hml]⟩
  · obtain ⟨k, -, rfl⟩ := List.mem_map.1 hx
    exact tok_get h1 _
  · rw [← on_all, hml]
    have h5 := clean_on h1 h2 (t.length - 1) (by omega)
    rw [h3] at h5
    rw [← h5, hl, pow_pred]
  · apply List.ext_getElem?
    intro i
    by_cases hi : i < t.length
    · rw [tab_at (by rw [hml, ← hl]; exact hi), clean_on h1 h2 i hi, tget_some hi]
    · rw [List.getElem?_eq_none (by rw [tab_len, hml, ← hl]; omega), List.getElem?_eq_none (by omega)]

theorem meas_tab {m : List Int} (h : meaB m = true) : measL (m.length : Int) (tabL m) = m := by
  obtain ⟨h1, h2, h3, h4⟩ := (meaB_iff m).1 h
  apply List.ext_getElem?
  intro i
  by_cases hi : i < m.length
  · have hp : 2 ^ i < 2 ^ m.length := Nat.pow_lt_pow_right (by decide) hi
    rw [measL, List.getElem?_map, List.getElem?_range (by rw [Int.toNat_natCast]; exact hi), tget_some hi]
    show some (tget (tabL m) (2 ^ i)) = _
    rw [tab_get hp, on_pow h3 hi]
  · rw [List.getElem?_eq_none (by rw [meas_len, Int.toNat_natCast]; omega), List.getElem?_eq_none (by omega)]

theorem add_iff_tab {n : Int} {t : List Int} (h : tokB n t = true) : addB n t = decide (tabR (measL n t) = t) := by
  apply bool_eq
  rw [decide_eq_true_iff]
  constructor
  · intro ha
    obtain ⟨h1, h2, -⟩ := add_meas ha
    rw [tabR, if_pos h1, h2]
  · intro he
    rw [tabR] at he
    obtain ⟨m, rfl, m1, m4, hl, h16, h22⟩ := tok_len h
    have hml : (measL (m : Int) t).length = m := by rw [meas_len, Int.toNat_natCast]
    split at he
    · next hm =>
      have := mea_tab hm
      rw [he, hml] at this
      exact this
    · rw [← he] at h22; simp at h22

/-! bets -/

/-- a bet: an event, a price, a stake -/
abbrev Bt := Int × Int × Int

def okBt (b : Bt) : Bool := evB 4 b.1 && (inB b.2.1 0 36 && inB b.2.2 (-9) 9)

def betI (k : Nat) (b : Bt) : Int := b.2.2 * (bitI b.1 k * 36 - b.2.1)

def bsI (bs : List Bt) (k : Nat) : Int := (bs.map (betI k)).sum

def bsB (bs : List Bt) (w : Int) : Bool := bs.all okBt && inB w 0 3

def bsN (bs : List Bt) (w : Int) : Int := if bsB bs w = true then bsI bs w.toNat else 0

def betsL (n : Int) (t : List Int) : List Bt :=
  if tokB n t = true then
    match fault t with
    | some (a, b) => if tget t a + tget t b < tget t (a ||| b) then [((a : Int), tget t a, -1), ((b : Int), tget t b, -1), (((a ||| b : Nat) : Int), tget t (a ||| b), 1)] else [((a : Int), tget t a, 1), ((b : Int), tget t b, 1), (((a ||| b : Nat) : Int), tget t (a ||| b), -1)]
    | none => if addB n t = true then [] else [(((t.length - 1 : Nat) : Int), tget t (t.length - 1), -1)]
  else []

def agB (n : Int) (t : List Int) : Bool := tokB n t && !addB n t

theorem bets_no {n : Int} {t : List Int} (h : agB n t = false) : betsL n t = [] := by
  rw [betsL]
  split
  · next h1 =>
    have ha : addB n t = true := by rw [agB, h1] at h; simpa using h
    obtain ⟨-, h2, -⟩ := (addB_iff _ _).1 ha
    rw [h2]
    simp [ha]
  · rfl

theorem ag_fault {n : Int} {t : List Int} {a b : Nat} (h : tokB n t = true) (hf : fault t = some (a, b)) : agB n t = true ∧ addB n t = false := by
  have : addB n t = false := by rw [addB, h, hf]; rfl
  exact ⟨by rw [agB, h, this]; rfl, this⟩

theorem ok_bet {n : Int} {t : List Int} (h : tokB n t = true) {e : Nat} (he : e < t.length) {s : Int} (hs : s = 1 ∨ s = -1) : okBt ((e : Int), tget t e, s) = true := by
  obtain ⟨m, rfl, m1, m4, hl, h16, h22⟩ := tok_len h
  have h1 := tok_get h e
  rw [okBt, Bool.and_eq_true, Bool.and_eq_true, evB_iff, inB_iff, inB_iff]
  have : allI 4 = 15 := by decide
  refine ⟨⟨by omega, by omega, ?_, ?_⟩, ⟨?_, ?_⟩, ?_, ?_⟩
  all_goals (try simp only [this])
  all_goals (try dsimp only)
  all_goals omega

/-- what the bets against a table bring in each world -/
def agI (n : Int) (t : List Int) : Int :=
  match fault t with
  | some (a, b) => if tget t a + tget t b < tget t (a ||| b) then tget t a + tget t b - tget t (a ||| b) else tget t (a ||| b) - tget t a - tget t b
  | none => tget t (t.length - 1) - 36

theorem all_bit : ∀ m : Fin 5, ∀ k : Fin 4, (k : Nat) < (m : Nat) → bitI ((2 ^ (m : Nat) - 1 : Nat) : Int) k = 1 := by decide +kernel

theorem bets_bring {n : Int} {t : List Int} (h : agB n t = true) : agI n t < 0 ∧ (betsL n t).all okBt = true ∧ (betsL n t).length ≤ 3 ∧ (∀ b ∈ betsL n t, ∃ e : Nat, b.1 = (e : Int) ∧ e < t.length ∧ b.2.1 = tget t e) ∧ ∀ k : Nat, (k : Int) < n → bsI (betsL n t) k = agI n t := by
  have ht : tokB n t = true := by rw [agB, Bool.and_eq_true] at h; exact h.1
  have hna : addB n t = false := by rw [agB, Bool.and_eq_true] at h; simpa using h.2
  obtain ⟨m, rfl, m1, m4, hl, h16, h22⟩ := tok_len ht
  rcases hf : fault t with _ | ⟨a, b⟩
  · have hb : betsL (m : Int) t = [(((t.length - 1 : Nat) : Int), tget t (t.length - 1), -1)] := by rw [betsL, ht, hf, hna]; rfl
    have hne : tget t (t.length - 1) ≠ 36 := by
      intro e
      rw [(addB_iff _ _).2 ⟨ht, hf, e⟩] at hna; cases hna
    have h36 := tok_get ht (t.length - 1)
    have hi : agI (m : Int) t = tget t (t.length - 1) - 36 := by rw [agI, hf]
    rw [hb, hi]
    refine ⟨by omega, ?_, by simp, fun b hb => ?_, fun k hk => ?_⟩
    · rw [List.all_cons, ok_bet ht (by omega) (.inr rfl)]; rfl
    · obtain rfl := List.mem_singleton.1 hb
      exact ⟨_, rfl, by omega, rfl⟩
    · have hbit : bitI ((t.length - 1 : Nat) : Int) k = 1 := by rw [hl]; exact all_bit ⟨m, by omega⟩ ⟨k, by omega⟩ (by show k < m; omega)
      simp only [bsI, List.map_cons, List.map_nil, List.sum_cons, List.sum_nil, betI, hbit]
      omega
  · obtain ⟨h1, h2, h3, -⟩ := fault_is hf
    obtain ⟨h4, h5⟩ := isF_parts h3
    have hor : a ||| b < t.length := by rw [hl] at h1 h2 ⊢; exact Nat.or_lt_two_pow h1 h2
    by_cases hlt : tget t a + tget t b < tget t (a ||| b)
    · have hb : betsL (m : Int) t = [((a : Int), tget t a, -1), ((b : Int), tget t b, -1), (((a ||| b : Nat) : Int), tget t (a ||| b), 1)] := by rw [betsL, ht, hf]; simp [hlt]
      have hi : agI (m : Int) t = tget t a + tget t b - tget t (a ||| b) := by rw [agI, hf]; simp [hlt]
      rw [hb, hi]
      refine ⟨by omega, ?_, by simp, fun x hx => ?_, fun k hk => ?_⟩
      · rw [List.all_cons, List.all_cons, List.all_cons, ok_bet ht h1 (.inr rfl), ok_bet ht h2 (.inr rfl), ok_bet ht hor (.inl rfl)]; rfl
      · simp only [List.mem_cons, List.not_mem_nil, or_false] at hx
        rcases hx with rfl | rfl | rfl
        · exact ⟨_, rfl, h1, rfl⟩
        · exact ⟨_, rfl, h2, rfl⟩
        · exact ⟨_, rfl, hor, rfl⟩
      · have := or_bit (a := a) (b := b) (k := k) (by omega) (by omega) (by omega) h4
        simp only [bsI, List.map_cons, List.map_nil, List.sum_cons, List.sum_nil, betI]
        rw [this]
        omega
    · have hb : betsL (m : Int) t = [((a : Int), tget t a, 1), ((b : Int), tget t b, 1), (((a ||| b : Nat) : Int), tget t (a ||| b), -1)] := by rw [betsL, ht, hf]; simp [hlt]
      have hi : agI (m : Int) t = tget t (a ||| b) - tget t a - tget t b := by rw [agI, hf]; simp [hlt]
      rw [hb, hi]
      refine ⟨by omega, ?_, by simp, fun x hx => ?_, fun k hk => ?_⟩
      · rw [List.all_cons, List.all_cons, List.all_cons, ok_bet ht h1 (.inl rfl), ok_bet ht h2 (.inl rfl), ok_bet ht hor (.inr rfl)]; rfl
      · simp only [List.mem_cons, List.not_mem_nil, or_false] at hx
        rcases hx with rfl | rfl | rfl
        · exact ⟨_, rfl, h1, rfl⟩
        · exact ⟨_, rfl, h2, rfl⟩
        · exact ⟨_, rfl, hor, rfl⟩
      · have := or_bit (a := a) (b := b) (k := k) (by omega) (by omega) (by omega) h4
        simp only [bsI, List.map_cons, List.map_nil, List.sum_cons, List.sum_nil, betI]
        rw [this]
        omega

/-- the other side of bets -/
def negBt (b : Bt) : Bt := (b.1, b.2.1, -b.2.2)

theorem bs_neg (bs : List Bt) (k : Nat) : bsI (bs.map negBt) k = -bsI bs k := by
  induction bs with
  | nil => rfl
  | cons b bs ih =>
    have h1 : bsI ((b :: bs).map negBt) k = betI k (negBt b) + bsI (bs.map negBt) k := rfl
    have h2 : bsI (b :: bs) k = betI k b + bsI bs k := rfl
    rw [h1, h2, ih]
    have : betI k (negBt b) = -betI k b := by simp only [betI, negBt]; rw [Int.neg_mul]
    omega

theorem bs_append (a b : List Bt) (k : Nat) : bsI (a ++ b) k = bsI a k + bsI b k := by
  unfold bsI
  rw [List.map_append, List.sum_append]

theorem ok_neg (b : Bt) : okBt (negBt b) = okBt b := by
  apply bool_eq
  simp only [okBt, negBt, Bool.and_eq_true, inB_iff]
  constructor
  · rintro ⟨h1, h2, h3⟩; exact ⟨h1, h2, by omega⟩
  · rintro ⟨h1, h2, h3⟩; exact ⟨h1, h2, by omega⟩

theorem bsB_neg (bs : List Bt) (w : Int) : bsB (bs.map negBt) w = bsB bs w := by
  unfold bsB
  congr 1
  rw [List.all_map]
  congr 1
  funext b
  exact ok_neg b

/-- quotes out of an additive table fit its measure -/
def okQt (n : Int) (t : List Int) (q : Qt) : Prop := evB n q.1 = true ∧ tget t q.1.toNat = 6 * q.2

theorem table_book {n : Int} {t : List Int} (h : addB n t = true) {qs : List Qt} (hl : qs.length ≤ 3) (hq : ∀ q ∈ qs, okQt n t q) : bokB n qs = true ∧ fitI (measL n t) qs = true := by
  obtain ⟨h1, h2, h3⟩ := (addB_iff _ _).1 h
  obtain ⟨m, rfl, m1, m4, hlen, h16, h22⟩ := tok_len h1
  constructor
  · rw [bokB_iff]
    refine ⟨by omega, hl, fun q hqm => ?_⟩
    obtain ⟨k1, k2⟩ := hq q hqm
    have h36 := tok_get h1 q.1.toNat
    rw [qokB, k1, Bool.true_and, inB_iff]
    omega
  · rw [fitI_iff]
    intro q hqm
    obtain ⟨k1, k2⟩ := hq q hqm
    obtain ⟨-, -, k3, k4⟩ := (evB_iff _ _).1 k1
    have hlt : q.1.toNat < t.length := by
      rw [hlen]
      have : allI (m : Int) = 2 ^ m - 1 := by rw [allI, Int.toNat_natCast]
      rw [this] at k4
      have h5 : ((q.1.toNat : Nat) : Int) = q.1 := Int.toNat_of_nonneg k3
      have h6 : ((2 ^ m : Nat) : Int) = 2 ^ m := by push_cast; rfl
      omega
    have := clean_on h1 h2 q.1.toNat hlt
    rw [Int.toNat_of_nonneg k3] at this
    rw [this, k2]

end Go.Proofs.Yteljcicdibbhdaa
