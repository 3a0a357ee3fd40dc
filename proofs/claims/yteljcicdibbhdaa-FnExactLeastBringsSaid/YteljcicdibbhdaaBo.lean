/- The facts of the laws of chapter 6: bounds. No condition. The facts of the laws of chapter 6: a further price of any book; pinned events; the gamble of an event. No condition. The facts of the laws of chapter 6: a further price, pinned events, what gambles bring at least. No condition. -/
import Derived.Test.YteljcicdibbhdaaSx
namespace Go.Proofs.Yteljcicdibbhdaa
set_option linter.unusedVariables false

/-! the least and the most of what is told of all measures that fit -/

def FitL (w : Nat) (qs : List Qt) (l : List Nat) : Prop := l ∈ lay w 36 ∧ fitI (natL l) qs = true

theorem any_iff (w : Nat) (qs : List Qt) : anyFit w qs = true ↔ ∃ l, FitL w qs l := by
  unfold anyFit FitL
  rw [List.any_eq_true]

/-- the least f of the ways in a list that fit, -1 before one is found -/
def leastF (qs : List Qt) (f : List Nat → Int) (best : Int) (l : List Nat) : Int := if (fitI (natL l) qs && (decide (best < 0) || decide (f l < best))) = true then f l else best

def mostF (qs : List Qt) (f : List Nat → Int) (best : Int) (l : List Nat) : Int := if fitI (natL l) qs = true then max best (f l) else best

def leastI (w : Nat) (qs : List Qt) (e : Int) : Int := (lay w 36).foldl (leastF qs fun l => onI (natL l) e) (-1)

def mostI (w : Nat) (qs : List Qt) (e : Int) : Int := (lay w 36).foldl (mostF qs fun l => onI (natL l) e) (-1)

theorem least_fold (qs : List Qt) (f : List Nat → Int) (hf : ∀ l, 0 ≤ f l) (L : List (List Nat)) (b : Int) :
    (L.foldl (leastF qs f) b = b ∨ ∃ l ∈ L, fitI (natL l) qs = true ∧ L.foldl (leastF qs f) b = f l) ∧ (∀ l ∈ L, fitI (natL l) qs = true → 0 ≤ L.foldl (leastF qs f) b ∧ L.foldl (leastF qs f) b ≤ f l) ∧ (0 ≤ b → L.foldl (leastF qs f) b ≤ b ∧ 0 ≤ L.foldl (leastF qs f) b) := by
  induction L generalizing b with
  | nil => exact ⟨.inl rfl, fun l hl => (by cases hl), fun h => ⟨Int.le_refl _, h⟩⟩
  | cons x L ih =>
    obtain ⟨h1, h2, h3⟩ := ih (leastF qs f b x)
    simp only [List.foldl_cons]
    by_cases hx : fitI (natL x) qs = true
    · have hb : 0 ≤ leastF qs f b x ∧ leastF qs f b x ≤ f x ∧ (0 ≤ b → leastF qs f b x ≤ b) ∧ (leastF qs f b x = b ∨ leastF qs f b x = f x) := by
        have := hf x
        unfold leastF
        rw [hx]
        simp only [Bool.true_and, Bool.or_eq_true, decide_eq_true_eq]
        split <;> omega
      obtain ⟨k1, k2⟩ := h3 hb.1
      refine ⟨?_, fun l hl hfl => ?_, fun h => ⟨by have := hb.2.2.1 h; omega, k2⟩⟩
      · rcases h1 with h1 | ⟨l, hl, hfl, h1⟩
        · rcases hb.2.2.2 with h4 | h4
          · exact .inl (h1.trans h4)
          · exact .inr ⟨x, by simp, hx, h1.trans h4⟩
        · exact .inr ⟨l, by simp [hl], hfl, h1⟩
      · rcases List.mem_cons.1 hl with rfl | hl
        · omega
        · exact h2 l hl hfl
    · have hb : leastF qs f b x = b := by
        unfold leastF
        rw [show fitI (natL x) qs = false from by simpa using hx]; rfl
      rw [hb] at h1 h2 h3 ⊢
      refine ⟨?_, fun l hl hfl => ?_, h3⟩
      · rcases h1 with h1 | ⟨l, hl, hfl, h1⟩
        · exact .inl h1
        · exact .inr ⟨l, by simp [hl], hfl, h1⟩
      · rcases List.mem_cons.1 hl with rfl | hl
        · exact absurd hfl hx
        · exact h2 l hl hfl

theorem most_fold (qs : List Qt) (f : List Nat → Int) (L : List (List Nat)) (b : Int) :
    (L.foldl (mostF qs f) b = b ∨ ∃ l ∈ L, fitI (natL l) qs = true ∧ L.foldl (mostF qs f) b = f l) ∧ (∀ l ∈ L, fitI (natL l) qs = true → f l ≤ L.foldl (mostF qs f) b) ∧ b ≤ L.foldl (mostF qs f) b := by
  induction L generalizing b with
  | nil => exact ⟨.inl rfl, fun l hl => (by cases hl), Int.le_refl _⟩
  | cons x L ih =>
    obtain ⟨h1, h2, h3⟩ := ih (mostF qs f b x)
    simp only [List.foldl_cons]
    by_cases hx : fitI (natL x) qs = true
    · have hb : b ≤ mostF qs f b x ∧ f x ≤ mostF qs f b x ∧ (mostF qs f b x = b ∨ mostF qs f b x = f x) := by
        unfold mostF
        rw [if_pos hx]; omega
      refine ⟨?_, fun l hl hfl => ?_, by omega⟩
      · rcases h1 with h1 | ⟨l, hl, hfl, h1⟩
        · rcases hb.2.2 with h4 | h4
          · exact .inl (h1.trans h4)
          · exact .inr ⟨x, by simp, hx, h1.trans h4⟩
        · exact .inr ⟨l, by simp [hl], hfl, h1⟩
      · rcases List.mem_cons.1 hl with rfl | hl
        · omega
        · exact h2 l hl hfl
    · have hb : mostF qs f b x = b := by
        unfold mostF
        rw [if_neg hx]
      rw [hb] at h1 h2 h3 ⊢
      refine ⟨?_, fun l hl hfl => ?_, h3⟩
      · rcases h1 with h1 | ⟨l, hl, hfl, h1⟩
        · exact .inl h1
        · exact .inr ⟨l, by simp [hl], hfl, h1⟩
      · rcases List.mem_cons.1 hl with rfl | hl
        · exact absurd hfl hx
        · exact h2 l hl hfl

theorem natL_nonneg (l : List Nat) : ∀ x ∈ natL l, 0 ≤ x := by
  intro x hx
  obtain ⟨y, -, rfl⟩ := List.mem_map.1 hx
  simp

theorem on_nonneg (l : List Nat) (e : Int) : 0 ≤ onI (natL l) e := (onI_bound (natL_nonneg l) e).1

theorem least_some {w : Nat} {qs : List Qt} (h : anyFit w qs = true) (e : Int) : (∃ l, FitL w qs l ∧ leastI w qs e = onI (natL l) e) ∧ (∀ l, FitL w qs l → leastI w qs e ≤ onI (natL l) e) ∧ 0 ≤ leastI w qs e := by
  obtain ⟨l0, hl0, hf0⟩ := (any_iff w qs).1 h
  obtain ⟨h1, h2, -⟩ := least_fold qs (fun l => onI (natL l) e) (fun l => on_nonneg l e) (lay w 36) (-1)
  refine ⟨?_, fun l hl => (h2 l hl.1 hl.2).2, (h2 l0 hl0 hf0).1⟩
  rcases h1 with h1 | ⟨l, hl, hfl, h1⟩
  · have := (h2 l0 hl0 hf0).1
    omega
  · exact ⟨l, ⟨hl, hfl⟩, h1⟩

theorem least_none {w : Nat} {qs : List Qt} (h : anyFit w qs = false) (e : Int) : leastI w qs e = -1 := by
  obtain ⟨h1, -, -⟩ := least_fold qs (fun l => onI (natL l) e) (fun l => on_nonneg l e) (lay w 36) (-1)
  rcases h1 with h1 | ⟨l, hl, hfl, -⟩
  · exact h1
  · rw [(any_iff w qs).2 ⟨l, hl, hfl⟩] at h; cases h

theorem most_some {w : Nat} {qs : List Qt} (h : anyFit w qs = true) (e : Int) : (∃ l, FitL w qs l ∧ mostI w qs e = onI (natL l) e) ∧ (∀ l, FitL w qs l → onI (natL l) e ≤ mostI w qs e) := by
  obtain ⟨l0, hl0, hf0⟩ := (any_iff w qs).1 h
  obtain ⟨h1, h2, -⟩ := most_fold qs (fun l => onI (natL l) e) (lay w 36) (-1)
  refine ⟨?_, fun l hl => h2 l hl.1 hl.2⟩
  rcases h1 with h1 | ⟨l, hl, hfl, h1⟩
  · have h3 : onI (natL l0) e ≤ mostI w qs e := h2 l0 hl0 hf0
    have h4 : mostI w qs e = -1 := h1
    have := on_nonneg l0 e
    omega
  · exact ⟨l, ⟨hl, hfl⟩, h1⟩

theorem most_none {w : Nat} {qs : List Qt} (h : anyFit w qs = false) (e : Int) : mostI w qs e = -1 := by
  obtain ⟨h1, -, -⟩ := most_fold qs (fun l => onI (natL l) e) (lay w 36) (-1)
  rcases h1 with h1 | ⟨l, hl, hfl, -⟩
  · exact h1
  · rw [(any_iff w qs).2 ⟨l, hl, hfl⟩] at h; cases h

theorem fit_len {w : Nat} (h1 : 1 ≤ w) {qs : List Qt} {l : List Nat} (h : FitL w qs l) : l.length = w ∧ l.sum = 36 := by
  obtain ⟨v, rfl⟩ : ∃ v, w = v + 1 := ⟨w - 1, by omega⟩
  exact (mem_lay _ _ _).1 h.1

/-- the bounds of an event tell those of its other -/
theorem least_most {w : Nat} (h1 : 1 ≤ w) {qs : List Qt} (h : anyFit w qs = true) {e : Int} (he : evB (w : Int) e = true) : leastI w qs e + mostI w qs (notI (w : Int) e) = 36 := by
  have key : ∀ l, FitL w qs l → onI (natL l) e + onI (natL l) (notI (w : Int) e) = 36 := by
    intro l hl
    obtain ⟨hlen, hs⟩ := fit_len h1 hl
    have := on_notI (m := natL l) (w := (w : Int)) (by rw [natL_len, hlen]) he
    rw [natL_sum, hs] at this
    exact this
  obtain ⟨⟨l, hl, el⟩, hle, -⟩ := least_some h e
  obtain ⟨⟨m, hm, em⟩, hmo⟩ := most_some h (notI (w : Int) e)
  have := key l hl
  have := key m hm
  have := hle m hm
  have := hmo l hl
  omega

theorem least_all {w : Nat} (h1 : 1 ≤ w) {qs : List Qt} (h : anyFit w qs = true) : leastI w qs (2 ^ w - 1) = 36 := by
  obtain ⟨⟨l, hl, el⟩, -, -⟩ := least_some h (2 ^ w - 1)
  obtain ⟨hlen, hs⟩ := fit_len h1 hl
  have := on_all (natL l)
  rw [natL_len, hlen, natL_sum, hs] at this
  rw [el, this]; rfl

theorem on_or (l : List Nat) (a b : Nat) : onN l a ≤ onN l (a ||| b) ∧ onN l (a ||| b) ≤ onN l a + onN l b := by
  induction l generalizing a b with
  | nil => simp [onN]
  | cons x l ih =>
    obtain ⟨h1, h2⟩ := ih (a / 2) (b / 2)
    simp only [onN]
    rw [Nat.or_div_two]
    have hm : (a ||| b) % 2 = if a % 2 = 1 ∨ b % 2 = 1 then 1 else 0 := by
      split
      · rename_i h; exact Nat.or_mod_two_eq_one.2 h
      · rename_i h
        have := mt Nat.or_mod_two_eq_one.1 h
        omega
    rw [hm]
    rcases Nat.mod_two_eq_zero_or_one a with ha | ha <;> rcases Nat.mod_two_eq_zero_or_one b with hb | hb <;> rw [ha, hb] <;> simp <;> omega

/-- what is implied has no fewer -/
theorem most_or {w : Nat} {qs : List Qt} (h : anyFit w qs = true) (a b : Nat) : mostI w qs (a : Int) ≤ mostI w qs ((a ||| b : Nat) : Int) ∧ mostI w qs ((a ||| b : Nat) : Int) ≤ mostI w qs (a : Int) + mostI w qs (b : Int) ∧ leastI w qs (a : Int) ≤ mostI w qs (a : Int) := by
  obtain ⟨⟨l, hl, el⟩, hA⟩ := most_some h (a : Int)
  obtain ⟨-, hB⟩ := most_some h (b : Int)
  obtain ⟨⟨m, hm, em⟩, hC⟩ := most_some h ((a ||| b : Nat) : Int)
  obtain ⟨-, hL, -⟩ := least_some h (a : Int)
  refine ⟨?_, ?_, ?_⟩
  · have := hC l hl
    rw [onN_cast] at this el
    have := (on_or l a b).1
    omega
  · have h1 := hA m hm
    have h2 := hB m hm
    rw [onN_cast] at h1 h2 em
    have := (on_or m a b).2
    omega
  · have := hL l hl
    omega

/-! a further price -/

theorem further_any (w : Nat) (qs : List Qt) (q : Qt) : (lay w 36).any (fun l => fitI (natL l) qs && fitI (natL l) [q]) = anyFit w (qs ++ [q]) := by
  unfold anyFit
  congr 1
  funext l
  simp [fitI]

theorem fit_app {l : List Int} {qs : List Qt} {q : Qt} : fitI l (qs ++ [q]) = true ↔ fitI l qs = true ∧ onI l q.1 = 6 * q.2 := by
  rw [fitI_iff, fitI_iff]
  constructor
  · intro h; exact ⟨fun p hp => h p (by simp [hp]), h q (by simp)⟩
  · rintro ⟨h1, h2⟩ p hp
    rcases List.mem_append.1 hp with hp | hp
    · exact h1 p hp
    · obtain rfl := List.mem_singleton.1 hp; exact h2

theorem mea_of_fit {w : Nat} (h1 : 1 ≤ w) (h4 : w ≤ 4) {qs : List Qt} {l : List Nat} (h : FitL w qs l) : meaB (natL l) = true := by
  obtain ⟨hlen, -⟩ := fit_len h1 h
  exact (mea_lay _).2 ⟨by rw [natL_len, hlen]; omega, l, by rw [natL_len, hlen]; exact h.1, rfl⟩

/-- between two measures that fit a book of fewer than three quotes there is one for a further price -/
theorem between_two {w : Nat} {qs : List Qt} {q : Qt} (hb : bokB (w : Int) (qs ++ [q]) = true) {l m : List Nat} (hl : FitL w qs l) (hm : FitL w qs m) (h1 : onI (natL l) q.1 ≤ 6 * q.2) (h2 : 6 * q.2 ≤ onI (natL m) q.1) : anyFit w (qs ++ [q]) = true := by
  obtain ⟨⟨w1, w4⟩, -, -⟩ := (bokB_iff _ _).1 hb
  rcases dual_book hb with h | ⟨ss, hlen, h2s, hlo⟩
  · exact h
  · exfalso
    -- the last stake
    obtain ⟨tt, t, rfl⟩ : ∃ tt t, ss = tt ++ [t] := by
      rcases List.eq_nil_or_concat ss with rfl | ⟨tt, t, rfl⟩
      · simp at hlen
      · exact ⟨tt, t, by simp⟩
    have hlt : tt.length = qs.length := by simpa using hlen
    rw [losesB, Bool.and_eq_true, decide_eq_true_eq] at hlo
    have key : ∀ k, FitL w qs k → t * (6 * onI (natL k) q.1 - q.2 * 36) < 0 := by
      intro k hk
      obtain ⟨hkl, hks⟩ := fit_len (by omega) hk
      have hmea := mea_of_fit (by omega) (by omega) hk
      have hbr := (br_between hmea hlo.1 (by rw [natL_len, hkl, balL_len]; simp)).2
      have he : brI (natL k) (balL (w : Int) (qs ++ [q]) (tt ++ [t])) = t * (6 * onI (natL k) q.1 - q.2 * 36) := by
        have hsum : balI (qs ++ [q]) (tt ++ [t]) = fun i => balI qs tt i + gainI q t i := funext fun i => balI_snoc _ _ _ _ _ hlt
        unfold balL
        rw [hsum, brI_add, Int.toNat_natCast]
        have e1 := brI_gain (natL k) q t
        rw [natL_len, hkl, natL_sum, hks] at e1
        have e2 := fit_bal hmea hk.2 tt
        unfold balL at e2
        rw [natL_len, hkl, Int.toNat_natCast] at e2
        rw [e1, e2]
        show 0 + t * (6 * onI (natL k) q.1 - q.2 * 36) = _
        omega
      rw [he] at hbr
      omega
    have a1 := key l hl
    have a2 := key m hm
    rcases Int.lt_trichotomy t 0 with ht | ht | ht
    · have := Int.mul_nonneg_of_nonpos_of_nonpos (a := t) (b := 6 * onI (natL l) q.1 - q.2 * 36) (by omega) (by omega)
      omega
    · subst ht
      simp at a1
    · have := Int.mul_nonneg (a := t) (b := 6 * onI (natL m) q.1 - q.2 * 36) (by omega) (by omega)
      omega

end Go.Proofs.Yteljcicdibbhdaa

namespace Go.Proofs.Yteljcicdibbhdaa
set_option linter.unusedVariables false

/-! the grains on an event as what a gamble brings -/

theorem brI_bits (m : List Int) (e : Int) : brI m ((List.range m.length).map (bitI e)) = onI m e := by
  induction m generalizing e with
  | nil => simp [brI, onI]
  | cons x m ih =>
    rw [List.length_cons, List.range_succ_eq_map, List.map_cons, List.map_map]
    have hs : (bitI e ∘ Nat.succ) = bitI (e / 2) := by
      funext k
      exact (bitI_succ e k).symm
    rw [hs]
    simp only [brI, onI]
    rw [ih, bitI_zero, Int.mul_comm]

theorem brI_mulc (m : List Int) (l : List Nat) (f : Nat → Int) (c : Int) : brI m (l.map fun k => c * f k) = c * brI m (l.map f) := by
  induction m generalizing l with
  | nil => simp [brI]
  | cons x m ih =>
    cases l with
    | nil => simp [brI]
    | cons k l =>
      simp only [List.map_cons, brI]
      rw [ih, Int.mul_add, Int.mul_left_comm]

/-- where an event's bits are made of those of two others, its grains are -/
theorem on_made {m : List Int} {a b c : Int} {u v : Int} (h : ∀ k, k < m.length → bitI a k = u * bitI b k + v * bitI c k) : onI m a = u * onI m b + v * onI m c := by
  rw [← brI_bits m a, ← brI_bits m b, ← brI_bits m c, ← brI_mulc, ← brI_mulc, ← brI_add]
  congr 1
  apply List.map_congr_left
  intro k hk
  exact h k (List.mem_range.1 hk)

/-! three events: one is made of the others, or all grains are told by them -/

def tri : List Int := [-1, 0, 1]

def madeB (w a b c : Nat) : Bool := tri.any fun u => tri.any fun v => (List.range w).all fun k => (bN a k : Int) == u * bN b k + v * bN c k

/-- world j's grains are told by the three events' -/
def toldB (w a b c j : Nat) : Bool := tri.any fun u => tri.any fun v => tri.any fun x =>
  (u * bN a j + v * bN b j + x * bN c j != 0) && (List.range w).all fun k => k == 0 || k == j || u * bN a k + v * bN b k + x * bN c k == 0

def rankB (w a b c : Nat) : Bool := madeB w a b c || madeB w b a c || madeB w c a b || (List.range w).all fun j => j == 0 || toldB w a b c j

theorem rank_tab : ∀ w : Fin 5, 1 ≤ (w : Nat) → (evens (w : Nat)).all (fun a => (evens (w : Nat)).all fun b => (evens (w : Nat)).all fun c => rankB (w : Nat) a b c) = true := by decide +kernel

theorem rank_of {w : Nat} (h1 : 1 ≤ w) (h4 : w ≤ 4) {a b c : Nat} (ha : a ∈ evens w) (hb : b ∈ evens w) (hc : c ∈ evens w) : rankB w a b c = true :=
  List.all_eq_true.1 (List.all_eq_true.1 (List.all_eq_true.1 (rank_tab ⟨w, by omega⟩ h1) a ha) b hb) c hc

theorem made_on {w a b c : Nat} (h : madeB w a b c = true) : ∃ u v : Int, ∀ l : List Nat, l.length = w → onI (natL l) (a : Int) = u * onI (natL l) (b : Int) + v * onI (natL l) (c : Int) := by
  obtain ⟨u, -, h⟩ := List.any_eq_true.1 h
  obtain ⟨v, -, h⟩ := List.any_eq_true.1 h
  refine ⟨u, v, fun l hl => on_made fun k hk => ?_⟩
  rw [natL_len, hl] at hk
  have := List.all_eq_true.1 h k (List.mem_range.2 hk)
  rw [beq_iff_eq] at this
  rw [bit_bN, bit_bN, bit_bN]
  exact this

/-- a linear form of the bits that is nothing but on worlds 0 and j -/
theorem told_eq {w a b c j : Nat} (hj : j ≠ 0) (ha : a % 2 = 0) (hb : b % 2 = 0) (hc : c % 2 = 0) (h : toldB w a b c j = true) {l m : List Nat} (hl : l.length = w) (hm : m.length = w)
    (e1 : onI (natL l) (a : Int) = onI (natL m) (a : Int)) (e2 : onI (natL l) (b : Int) = onI (natL m) (b : Int)) (e3 : onI (natL l) (c : Int) = onI (natL m) (c : Int)) : l[j]? = m[j]? := by
  obtain ⟨u, -, h⟩ := List.any_eq_true.1 h
  obtain ⟨v, -, h⟩ := List.any_eq_true.1 h
  obtain ⟨x, -, h⟩ := List.any_eq_true.1 h
  rw [Bool.and_eq_true, bne_iff_ne] at h
  obtain ⟨hne, hz⟩ := h
  by_cases hjw : j < w
  · generalize hd : u * (bN a j : Int) + v * (bN b j : Int) + x * (bN c j : Int) = d at hne
    have form : ∀ k, k < w → u * (bN a k : Int) + v * (bN b k : Int) + x * (bN c k : Int) = if k = j then d else 0 := by
      intro k hk
      have := List.all_eq_true.1 hz k (List.mem_range.2 hk)
      simp only [Bool.or_eq_true, beq_iff_eq] at this
      split
      · rename_i hkj; rw [hkj]; exact hd
      · rename_i hkj
        rcases this with (h0 | h0) | h0
        · subst h0
          have z : ∀ e : Nat, e % 2 = 0 → (bN e 0 : Int) = 0 := fun e he => by simp [bN, he]
          rw [z a ha, z b hb, z c hc]; simp
        · exact absurd h0 hkj
        · exact h0
    have on_form : ∀ l : List Nat, l.length = w → ∀ y : Nat, l[j]? = some y → u * onI (natL l) (a : Int) + v * onI (natL l) (b : Int) + x * onI (natL l) (c : Int) = d * y := by
      intro l hl y hy
      rw [← brI_bits (natL l) (a : Int), ← brI_bits (natL l) (b : Int), ← brI_bits (natL l) (c : Int), ← brI_mulc, ← brI_mulc, ← brI_mulc, ← brI_add, ← brI_add]
      have hcong : (List.range (natL l).length).map (fun k => u * bitI (a : Int) k + v * bitI (b : Int) k + x * bitI (c : Int) k) = (List.range (natL l).length).map fun k => if k = j then d else 0 := by
        apply List.map_congr_left
        intro k hk
        have hk := List.mem_range.1 hk
        rw [natL_len, hl] at hk
        rw [bit_bN, bit_bN, bit_bN]
        exact form k hk
      rw [hcong]
      clear hcong form hl
      have pick : ∀ (l : List Nat) (j : Nat) (y : Nat), l[j]? = some y → brI (natL l) ((List.range (natL l).length).map fun k => if k = j then d else 0) = d * y := by
        intro l
        induction l with
        | nil => intro j y hy; simp at hy
        | cons z l ih =>
          intro j y hy
          show brI ((z : Int) :: natL l) ((List.range ((natL l).length + 1)).map fun k => if k = j then d else 0) = d * y
          rw [List.range_succ_eq_map, List.map_cons, List.map_map]
          simp only [brI]
          cases j with
          | zero =>
            simp at hy
            subst hy
            have hz : ∀ (m : List Int) (l : List Nat), brI m (l.map fun _ => (0 : Int)) = 0 := by
              intro m
              induction m with
              | nil => intro l; simp [brI]
              | cons x m ih =>
                intro l
                cases l with
                | nil => simp [brI]
                | cons k l => simp only [List.map_cons, brI, ih]; simp
            have hc : ((fun k => if k = 0 then d else 0) ∘ Nat.succ) = fun _ => (0 : Int) := by funext k; simp
            rw [hc, hz]
            simp [Int.mul_comm]
          | succ j =>
            have hc : ((fun k => if k = j + 1 then d else 0) ∘ Nat.succ) = fun k => if k = j then d else 0 := by funext k; simp
            rw [hc, ih j y (by simpa using hy)]
            simp
      exact pick l j y hy
    have hy : l[j]? = some (l[j]'(by omega)) := List.getElem?_eq_getElem (by omega)
    have hx : m[j]? = some (m[j]'(by omega)) := List.getElem?_eq_getElem (by omega)
    have k1 := on_form l hl _ hy
    have k2 := on_form m hm _ hx
    rw [e1, e2, e3, k2] at k1
    have := Int.eq_of_mul_eq_mul_left hne k1
    rw [hy, hx]
    congr 1
    omega
  · rw [List.getElem?_eq_none (by omega), List.getElem?_eq_none (by omega)]

end Go.Proofs.Yteljcicdibbhdaa

namespace Go.Proofs.Yteljcicdibbhdaa
set_option linter.unusedVariables false

theorem norm_on' {w e : Nat} {l c : List Nat} (hl : l.length = w) (hc : c.length = w) (he : e < 2 ^ w) (hs : l.sum = c.sum) (h : onN l e = onN c e) : onN l (normE w e) = onN c (normE w e) := by
  unfold normE
  split
  · have h1 := onN_not l e (by rw [hl]; exact he)
    have h2 := onN_not c e (by rw [hc]; exact he)
    rw [hl] at h1
    rw [hc] at h2
    omega
  · exact h

theorem list_same {l m : List Nat} {w : Nat} (hl : l.length = w) (hm : m.length = w) (hs : l.sum = m.sum) (h : ∀ j, j ≠ 0 → l[j]? = m[j]?) : l = m := by
  cases l with
  | nil =>
    obtain rfl := List.eq_nil_of_length_eq_zero (l := m) (by rw [hm, ← hl]; rfl)
    rfl
  | cons x l =>
    cases m with
    | nil => simp at hl hm; omega
    | cons y m =>
      have ht : l = m := by
        apply List.ext_getElem?
        intro j
        simpa using h (j + 1) (by omega)
      subst ht
      simp only [List.sum_cons] at hs
      rw [show x = y from by omega]

/-- a book fits where all quotes but one are fitted, and that one's event is made of the others' -/
theorem fit_made {w : Nat} {k l : List Nat} (hk : k.length = w) (hl : l.length = w) (hs : k.sum = l.sum) {ea eb ec : Nat} (ba : ea < 2 ^ w) (bb : eb < 2 ^ w) (bc : ec < 2 ^ w) (h : madeB w (normE w ea) (normE w eb) (normE w ec) = true)
    (h2 : onN k eb = onN l eb) (h3 : onN k ec = onN l ec) : onN k ea = onN l ea := by
  obtain ⟨u, v, huv⟩ := made_on h
  have e1 := huv k hk
  have e2 := huv l hl
  rw [onN_cast, onN_cast, onN_cast] at e1 e2
  rw [norm_on' hk hl bb hs h2, norm_on' hk hl bc hs h3] at e1
  have := norm_on (a := 1) (b := 1) hk hl ba (by omega) (by omega : 1 * onN k (normE w ea) = 1 * onN l (normE w ea))
  omega

theorem ev_fit {w : Nat} {qs : List Qt} (hb : bokB (w : Int) qs = true) {q : Qt} (hq : q ∈ qs) : ∃ e : Nat, q.1 = (e : Int) ∧ e < 2 ^ w ∧ ∀ l, FitL w qs l → (onN l e : Int) = 6 * q.2 := by
  obtain ⟨e, he, hlt⟩ := ev_nat (((bokB_iff _ _).1 hb).2.2 q hq)
  refine ⟨e, he, hlt, fun l hl => ?_⟩
  have := (fitI_iff _ _).1 hl.2 q hq
  rwa [he, onN_cast] at this

theorem between_any {w : Nat} {qs : List Qt} {q : Qt} (hb : bokB (w : Int) qs = true) (hq : qokB (w : Int) q = true) {l m : List Nat} (hl : FitL w qs l) (hm : FitL w qs m) (h1 : onI (natL l) q.1 ≤ 6 * q.2) (h2 : 6 * q.2 ≤ onI (natL m) q.1) : anyFit w (qs ++ [q]) = true := by
  obtain ⟨⟨w1, w4⟩, hq3, hqs⟩ := (bokB_iff _ _).1 hb
  by_cases h3 : qs.length ≤ 2
  · refine between_two ((bokB_iff _ _).2 ⟨⟨w1, w4⟩, by simp; omega, fun p hp => ?_⟩) hl hm h1 h2
    rcases List.mem_append.1 hp with hp | hp
    · exact hqs p hp
    · obtain rfl := List.mem_singleton.1 hp; exact hq
  · match qs, hq3, h3, hb, hqs, hl, hm with
    | [qa, qb, qc], _, _, hb, hqs, hl, hm =>
      obtain ⟨ea, xa, ba, fa⟩ := ev_fit hb (q := qa) (by simp)
      obtain ⟨eb, xb, bb, fb⟩ := ev_fit hb (q := qb) (by simp)
      obtain ⟨ec, xc, bc, fc⟩ := ev_fit hb (q := qc) (by simp)
      obtain ⟨hll, hls⟩ := fit_len (by omega) hl
      obtain ⟨hml, hms⟩ := fit_len (by omega) hm
      have na := norm_even (by omega) ba
      have nb := norm_even (by omega) bb
      have nc := norm_even (by omega) bc
      have hr := rank_of (by omega) (by omega) (mem_evens (by omega) na.1 na.2) (mem_evens (by omega) nb.1 nb.2) (mem_evens (by omega) nc.1 nc.2)
      -- two quotes are enough where the third one is made of them
      have two : ∀ q1 q2 q3 : Qt, ∀ e1 e2 e3 : Nat, q1.1 = (e1 : Int) → q2.1 = (e2 : Int) → q3.1 = (e3 : Int) → e1 < 2 ^ w → e2 < 2 ^ w → e3 < 2 ^ w →
          (∀ x, x ∈ [qa, qb, qc] ↔ x ∈ [q1, q2, q3]) → madeB w (normE w e1) (normE w e2) (normE w e3) = true → anyFit w ([qa, qb, qc] ++ [q]) = true := by
        intro q1 q2 q3 e1 e2 e3 x1 x2 x3 b1 b2 b3 hset hmade
        have h23 : ∀ p ∈ [q2, q3], p ∈ [qa, qb, qc] := fun p hp => (hset p).2 (by simp at hp ⊢; rcases hp with h | h <;> simp [h])
        have hb23 : bokB (w : Int) ([q2, q3] ++ [q]) = true := (bokB_iff _ _).2 ⟨⟨w1, w4⟩, by simp, fun p hp => by
          rcases List.mem_append.1 hp with hp | hp
          · exact hqs p (h23 p hp)
          · obtain rfl := List.mem_singleton.1 hp; exact hq⟩
        obtain ⟨k, hk⟩ := (any_iff _ _).1 (between_two hb23 ⟨hl.1, fit_sub h23 hl.2⟩ ⟨hm.1, fit_sub h23 hm.2⟩ h1 h2)
        obtain ⟨hkl, hks⟩ := fit_len (by omega) hk
        obtain ⟨hk23, hkq⟩ := fit_app.1 hk.2
        have f2 := (fitI_iff _ _).1 hk23 q2 (by simp)
        have f3 := (fitI_iff _ _).1 hk23 q3 (by simp)
        have g1 := (fitI_iff _ _).1 hl.2 q1 ((hset q1).2 (by simp))
        have g2 := (fitI_iff _ _).1 hl.2 q2 ((hset q2).2 (by simp))
        have g3 := (fitI_iff _ _).1 hl.2 q3 ((hset q3).2 (by simp))
        rw [x2, onN_cast] at f2 g2
        rw [x3, onN_cast] at f3 g3
        rw [x1, onN_cast] at g1
        have f1 := fit_made hkl hll (by omega) b1 b2 b3 hmade (by omega) (by omega)
        refine (any_iff _ _).2 ⟨k, hk.1, fit_app.2 ⟨(fitI_iff _ _).2 fun p hp => ?_, hkq⟩⟩
        have hp := (hset p).1 hp
        simp only [List.mem_cons, List.not_mem_nil, or_false] at hp
        rcases hp with rfl | rfl | rfl
        · rw [x1, onN_cast]; omega
        · rw [x2, onN_cast]; exact f2
        · rw [x3, onN_cast]; exact f3
      unfold rankB at hr
      simp only [Bool.or_eq_true] at hr
      rcases hr with ((hr | hr) | hr) | hr
      · exact two qa qb qc ea eb ec xa xb xc ba bb bc (fun x => Iff.rfl) hr
      · exact two qb qa qc eb ea ec xb xa xc bb ba bc (fun x => by simp only [List.mem_cons, List.not_mem_nil, or_false]; constructor <;> (rintro (h | h | h) <;> simp [h])) hr
      · exact two qc qa qb ec ea eb xc xa xb bc ba bb (fun x => by simp only [List.mem_cons, List.not_mem_nil, or_false]; constructor <;> (rintro (h | h | h) <;> simp [h])) hr
      · have heq : l = m := by
          have c : ∀ e : Nat, e < 2 ^ w → (onN l e : Int) = (onN m e : Int) → onI (natL l) (normE w e : Nat) = onI (natL m) (normE w e : Nat) := by
            intro e he h
            rw [onN_cast, onN_cast]
            have := norm_on' hll hml he (by omega) (by omega : onN l e = onN m e)
            omega
          refine list_same hll hml (by omega) fun j hj => ?_
          by_cases hjw : j < w
          · have := List.all_eq_true.1 hr j (List.mem_range.2 hjw)
            simp only [Bool.or_eq_true, beq_iff_eq] at this
            rcases this with h0 | h0
            · exact absurd h0 hj
            · exact told_eq hj na.2 nb.2 nc.2 h0 hll hml (c ea ba (by rw [fa l hl, fa m hm])) (c eb bb (by rw [fb l hl, fb m hm])) (c ec bc (by rw [fc l hl, fc m hm]))
          · rw [List.getElem?_eq_none (by omega), List.getElem?_eq_none (by omega)]
        subst heq
        exact (any_iff _ _).2 ⟨l, hl.1, fit_app.2 ⟨hl.2, by omega⟩⟩
    | [], _, h3, _, _, _, _ => simp at h3
    | [_], _, h3, _, _, _, _ => simp at h3
    | [_, _], _, h3, _, _, _, _ => simp at h3
    | _ :: _ :: _ :: _ :: _, h4, _, _, _, _, _ => simp at h4

/-- a further price is fair just between its bounds -/
theorem further_iff {w : Nat} {qs : List Qt} {q : Qt} (hb : bokB (w : Int) qs = true) (hq : qokB (w : Int) q = true) :
    anyFit w (qs ++ [q]) = (decide (0 ≤ leastI w qs q.1) && (decide (leastI w qs q.1 ≤ 6 * q.2) && decide (6 * q.2 ≤ mostI w qs q.1))) := by
  rw [Bool.eq_iff_iff]
  simp only [Bool.and_eq_true, decide_eq_true_eq]
  constructor
  · intro h
    obtain ⟨l, hl⟩ := (any_iff _ _).1 h
    obtain ⟨h1, h2⟩ := fit_app.1 hl.2
    have hf : anyFit w qs = true := (any_iff _ _).2 ⟨l, hl.1, h1⟩
    obtain ⟨-, a2, a3⟩ := least_some hf q.1
    obtain ⟨-, b2⟩ := most_some hf q.1
    have := a2 l ⟨hl.1, h1⟩
    have := b2 l ⟨hl.1, h1⟩
    omega
  · rintro ⟨h0, h1, h2⟩
    cases hf : anyFit w qs with
    | false =>
      rw [least_none hf] at h0
      omega
    | true =>
      obtain ⟨⟨l, hl, el⟩, -, -⟩ := least_some hf q.1
      obtain ⟨⟨m, hm, em⟩, -⟩ := most_some hf q.1
      exact between_any hb hq hl hm (by omega) (by omega)

/-! pinned events -/

def pinB (w : Nat) (qs : List Qt) (e : Int) : Bool := decide (0 ≤ leastI w qs e) && decide (leastI w qs e = mostI w qs e)

theorem pin_none {w : Nat} {qs : List Qt} (h : anyFit w qs = false) (e : Int) : pinB w qs e = false := by
  rw [pinB, least_none h]; rfl

theorem pin_iff {w : Nat} {qs : List Qt} (h : anyFit w qs = true) (e : Int) : pinB w qs e = true ↔ ∀ l m, FitL w qs l → FitL w qs m → onI (natL l) e = onI (natL m) e := by
  obtain ⟨⟨l, hl, el⟩, hle, h0⟩ := least_some h e
  obtain ⟨⟨m, hm, em⟩, hmo⟩ := most_some h e
  rw [pinB, Bool.and_eq_true, decide_eq_true_eq, decide_eq_true_eq]
  constructor
  · rintro ⟨-, h1⟩ a b ha hb
    have := hle a ha
    have := hle b hb
    have := hmo a ha
    have := hmo b hb
    omega
  · intro hall
    have := hall l m hl hm
    omega

theorem pin_quoted {w : Nat} (h1 : 1 ≤ w) {qs : List Qt} (hb : bokB (w : Int) qs = true) (h : anyFit w qs = true) {q : Qt} (hq : q ∈ qs) : pinB w qs q.1 = true ∧ pinB w qs (notI (w : Int) q.1) = true := by
  have hev := ((qokB_iff _ _).1 (((bokB_iff _ _).1 hb).2.2 q hq)).1
  constructor
  · rw [pin_iff h]
    intro l m hl hm
    rw [(fitI_iff _ _).1 hl.2 q hq, (fitI_iff _ _).1 hm.2 q hq]
  · rw [pin_iff h]
    intro l m hl hm
    obtain ⟨hll, hls⟩ := fit_len h1 hl
    obtain ⟨hml, hms⟩ := fit_len h1 hm
    have e1 := on_notI (m := natL l) (w := (w : Int)) (by rw [natL_len, hll]) hev
    have e2 := on_notI (m := natL m) (w := (w : Int)) (by rw [natL_len, hml]) hev
    rw [natL_sum, hls, (fitI_iff _ _).1 hl.2 q hq] at e1
    rw [natL_sum, hms, (fitI_iff _ _).1 hm.2 q hq] at e2
    omega

theorem onN_pow {l : List Nat} {k x : Nat} (h : l[k]? = some x) : onN l (2 ^ k) = x := by
  induction l generalizing k with
  | nil => simp at h
  | cons y l ih =>
    have hz : ∀ l : List Nat, onN l 0 = 0 := fun l => by
      induction l with
      | nil => rfl
      | cons x l ih => simp [onN, ih]
    cases k with
    | zero => simp at h; subst h; simp [onN, hz]
    | succ k =>
      simp only [onN]
      rw [show 2 ^ (k + 1) / 2 = 2 ^ k from by rw [Nat.pow_succ]; omega, show 2 ^ (k + 1) % 2 = 0 from by rw [Nat.pow_succ]; omega, ih (by simpa using h)]
      simp

theorem lay_nodup (w g : Nat) : (lay (w + 1) g).Nodup := by
  induction w generalizing g with
  | zero => exact List.pairwise_singleton _ _
  | succ w ih =>
    unfold List.Nodup
    rw [show lay (w + 1 + 1) g = (List.range (g + 1)).flatMap fun a => (lay (w + 1) (g - a)).map fun m => a :: m from rfl, List.pairwise_flatMap]
    constructor
    · intro a _
      rw [List.pairwise_map]
      exact (ih (g - a)).imp fun h e => h (by injection e)
    · refine List.pairwise_lt_range.imp ?_
      intro a b hab x hx y hy e
      obtain ⟨m, -, rfl⟩ := List.mem_map.1 hx
      obtain ⟨n, -, rfl⟩ := List.mem_map.1 hy
      injection e with e1
      omega

/-- if all worlds are pinned, one measure fits, and the other way round -/
theorem pin_all {w : Nat} (h1 : 1 ≤ w) {qs : List Qt} (h : anyFit w qs = true) : (∀ k, k < w → pinB w qs (2 ^ k) = true) ↔ countFit w qs = 1 := by
  obtain ⟨v, rfl⟩ : ∃ v, w = v + 1 := ⟨w - 1, by omega⟩
  have hnd : ((lay (v + 1) 36).filter fun l => fitI (natL l) qs).Nodup := (lay_nodup v 36).sublist List.filter_sublist
  have hmem : ∀ l, l ∈ ((lay (v + 1) 36).filter fun l => fitI (natL l) qs) ↔ FitL (v + 1) qs l := fun l => by rw [List.mem_filter]; rfl
  have hc := count_any (v + 1) qs
  rw [h, decide_eq_true_eq] at hc
  unfold countFit at hc ⊢
  generalize ((lay (v + 1) 36).filter fun l => fitI (natL l) qs) = F at hnd hmem hc
  have hpc : ∀ (l : List Nat) (k : Nat) (x : Nat), l[k]? = some x → onI (natL l) (2 ^ k) = x := by
    intro l k x hx
    have : ((2 ^ k : Nat) : Int) = 2 ^ k := by simp
    rw [← this, onN_cast, onN_pow hx]
  constructor
  · intro hp
    match F, hc, hnd, hmem with
    | [l], _, _, _ => rfl
    | l :: m :: r, _, hnd, hmem =>
      exfalso
      have hl := (hmem l).1 (by simp)
      have hm := (hmem m).1 (by simp)
      obtain ⟨hll, -⟩ := fit_len h1 hl
      obtain ⟨hml, -⟩ := fit_len h1 hm
      have : l = m := by
        apply List.ext_getElem?
        intro k
        by_cases hk : k < v + 1
        · have e1 : l[k]? = some (l[k]'(by omega)) := List.getElem?_eq_getElem (by omega)
          have e2 : m[k]? = some (m[k]'(by omega)) := List.getElem?_eq_getElem (by omega)
          have := (pin_iff h _).1 (hp k hk) l m hl hm
          rw [hpc l k _ e1, hpc m k _ e2] at this
          rw [e1, e2]; congr 1; omega
        · rw [List.getElem?_eq_none (by omega), List.getElem?_eq_none (by omega)]
      subst this
      simp at hnd
  · intro hone k hk
    obtain ⟨l, rfl⟩ := List.length_eq_one_iff.1 hone
    rw [pin_iff h]
    intro a b ha hb
    have ha := (hmem a).2 ha
    have hb := (hmem b).2 hb
    simp at ha hb
    rw [ha, hb]

/-! what gambles bring at least -/

def leastBF (qs : List Qt) (g : List Int) (s : Int × Bool) (l : List Nat) : Int × Bool := if (fitI (natL l) qs && (!s.2 || decide (brI (natL l) g < s.1))) = true then (brI (natL l) g, true) else s

def leastBr (w : Nat) (qs : List Qt) (g : List Int) : Int × Bool := (lay w 36).foldl (leastBF qs g) (0, false)

theorem leastBr_fold (qs : List Qt) (g : List Int) (L : List (List Nat)) (s : Int × Bool) :
    (L.foldl (leastBF qs g) s = s ∨ ∃ l ∈ L, fitI (natL l) qs = true ∧ L.foldl (leastBF qs g) s = (brI (natL l) g, true)) ∧
    (∀ l ∈ L, fitI (natL l) qs = true → (L.foldl (leastBF qs g) s).2 = true ∧ (L.foldl (leastBF qs g) s).1 ≤ brI (natL l) g) ∧
    (s.2 = true → (L.foldl (leastBF qs g) s).2 = true ∧ (L.foldl (leastBF qs g) s).1 ≤ s.1) := by
  induction L generalizing s with
  | nil => exact ⟨.inl rfl, fun l hl => (by cases hl), fun h => ⟨h, Int.le_refl _⟩⟩
  | cons x L ih =>
    obtain ⟨h1, h2, h3⟩ := ih (leastBF qs g s x)
    simp only [List.foldl_cons]
    by_cases hx : fitI (natL x) qs = true
    · have hb : (leastBF qs g s x).2 = true ∧ (leastBF qs g s x).1 ≤ brI (natL x) g ∧ (s.2 = true → (leastBF qs g s x).1 ≤ s.1) ∧ (leastBF qs g s x = s ∨ leastBF qs g s x = (brI (natL x) g, true)) := by
        unfold leastBF
        rw [hx]
        simp only [Bool.true_and, Bool.or_eq_true, Bool.not_eq_true', decide_eq_true_eq]
        split
        · rename_i h
          refine ⟨rfl, Int.le_refl _, fun h2 => ?_, .inr rfl⟩
          rcases h with h | h
          · rw [h2] at h; cases h
          · exact Int.le_of_lt h
        · rename_i h
          have hs : s.2 = true := by
            cases hs : s.2 with
            | true => rfl
            | false => exact absurd (.inl hs) h
          have hlt : ¬ brI (natL x) g < s.1 := fun h2 => h (.inr h2)
          exact ⟨hs, by omega, fun _ => Int.le_refl _, .inl rfl⟩
      obtain ⟨k1, k2⟩ := h3 hb.1
      refine ⟨?_, fun l hl hfl => ?_, fun h => ⟨k1, by have := hb.2.2.1 h; omega⟩⟩
      · rcases h1 with h1 | ⟨l, hl, hfl, h1⟩
        · rcases hb.2.2.2 with h4 | h4
          · exact .inl (h1.trans h4)
          · exact .inr ⟨x, by simp, hx, h1.trans h4⟩
        · exact .inr ⟨l, by simp [hl], hfl, h1⟩
      · rcases List.mem_cons.1 hl with rfl | hl
        · exact ⟨k1, by omega⟩
        · exact h2 l hl hfl
    · have hb : leastBF qs g s x = s := by
        unfold leastBF
        rw [show fitI (natL x) qs = false from by simpa using hx]; rfl
      rw [hb] at h1 h2 h3 ⊢
      refine ⟨?_, fun l hl hfl => ?_, h3⟩
      · rcases h1 with h1 | ⟨l, hl, hfl, h1⟩
        · exact .inl h1
        · exact .inr ⟨l, by simp [hl], hfl, h1⟩
      · rcases List.mem_cons.1 hl with rfl | hl
        · exact absurd hfl hx
        · exact h2 l hl hfl

theorem leastBr_some {w : Nat} {qs : List Qt} (h : anyFit w qs = true) (g : List Int) : (leastBr w qs g).2 = true ∧ (∃ l, FitL w qs l ∧ (leastBr w qs g).1 = brI (natL l) g) ∧ ∀ l, FitL w qs l → (leastBr w qs g).1 ≤ brI (natL l) g := by
  obtain ⟨l0, hl0, hf0⟩ := (any_iff w qs).1 h
  obtain ⟨h1, h2, -⟩ := leastBr_fold qs g (lay w 36) (0, false)
  have h3 := (h2 l0 hl0 hf0).1
  refine ⟨h3, ?_, fun l hl => (h2 l hl.1 hl.2).2⟩
  rcases h1 with h1 | ⟨l, hl, hfl, h1⟩
  · rw [h1] at h3; cases h3
  · exact ⟨l, ⟨hl, hfl⟩, by unfold leastBr; rw [h1]⟩

theorem leastBr_none {w : Nat} {qs : List Qt} (h : anyFit w qs = false) (g : List Int) : leastBr w qs g = (0, false) := by
  obtain ⟨h1, -, -⟩ := leastBr_fold qs g (lay w 36) (0, false)
  rcases h1 with h1 | ⟨l, hl, hfl, -⟩
  · exact h1
  · rw [(any_iff w qs).2 ⟨l, hl, hfl⟩] at h; cases h

theorem leastBr_found (w : Nat) (qs : List Qt) (g : List Int) : (leastBr w qs g).2 = anyFit w qs := by
  cases h : anyFit w qs with
  | true => exact (leastBr_some h g).1
  | false => rw [leastBr_none h g]

/-- the gamble of an event: its bounds -/
theorem event_gamble {w : Nat} (h1 : 1 ≤ w) {qs : List Qt} (h : anyFit w qs = true) (e : Int) :
    (leastBr w qs ((List.range w).map (bitI e))).1 = leastI w qs e ∧ (leastBr w qs ((List.range w).map fun k => -bitI e k)).1 = -mostI w qs e := by
  have f1 : ∀ l, FitL w qs l → brI (natL l) ((List.range w).map (bitI e)) = onI (natL l) e := by
    intro l hl
    have := brI_bits (natL l) e
    rwa [natL_len, (fit_len h1 hl).1] at this
  have f2 : ∀ l, FitL w qs l → brI (natL l) ((List.range w).map fun k => -bitI e k) = -onI (natL l) e := by
    intro l hl
    rw [← f1 l hl]
    have := brI_mulc (natL l) (List.range w) (bitI e) (-1)
    simpa using this
  obtain ⟨⟨l, hl, el⟩, hle, -⟩ := least_some h e
  obtain ⟨⟨m, hm, em⟩, hmo⟩ := most_some h e
  obtain ⟨-, ⟨a, ha, ea⟩, hA⟩ := leastBr_some h ((List.range w).map (bitI e))
  obtain ⟨-, ⟨b, hb, eb⟩, hB⟩ := leastBr_some h ((List.range w).map fun k => -bitI e k)
  have x1 := hA l hl
  have x2 := hle a ha
  have x3 := hB m hm
  have x4 := hmo b hb
  rw [f1 a ha] at ea
  rw [f1 l hl] at x1
  rw [f2 b hb] at eb
  rw [f2 m hm] at x3
  constructor <;> omega

/-- for the bet of a quote at the stake 1 it is 0 -/
theorem leastBr_quote {w : Nat} (h1 : 1 ≤ w) (h4 : w ≤ 4) {qs : List Qt} (h : anyFit w qs = true) {q : Qt} (hq : q ∈ qs) : (leastBr w qs (gainL (w : Int) q 1)).1 = 0 := by
  obtain ⟨-, ⟨l, hl, el⟩, -⟩ := leastBr_some h (gainL (w : Int) q 1)
  have hmea := mea_of_fit h1 h4 hl
  have := (fit_gain hmea (q := q)).2 ((fitI_iff _ _).1 hl.2 q hq)
  rw [natL_len, (fit_len h1 hl).1] at this
  rw [el, this]

theorem leastBr_worst {w : Nat} (h1 : 1 ≤ w) (h4 : w ≤ 4) {qs : List Qt} (h : anyFit w qs = true) {g : List Int} (hg : gokB g = true) (hw : g.length = w) : 36 * worstI g ≤ (leastBr w qs g).1 := by
  obtain ⟨-, ⟨l, hl, el⟩, -⟩ := leastBr_some h g
  have := (br_between (mea_of_fit h1 h4 hl) hg (by rw [natL_len, (fit_len h1 hl).1, hw])).1
  omega

end Go.Proofs.Yteljcicdibbhdaa
