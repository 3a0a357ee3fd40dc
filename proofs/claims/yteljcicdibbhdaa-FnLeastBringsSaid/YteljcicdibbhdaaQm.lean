/- Quotes as pairs (event, price): the Lean functions of chapter 3 and what is true of them. No condition. -/
import Derived.Test.YteljcicdibbhdaaGm
import Derived.Test.YteljcicdibbhdaaEv2
namespace Go.Proofs.Yteljcicdibbhdaa
set_option linter.unusedVariables false

abbrev Qt := Int × Int

def qokB (w : Int) (q : Qt) : Bool := evB w q.1 && inB q.2 0 6

theorem qokB_iff (w : Int) (q : Qt) : qokB w q = true ↔ evB w q.1 = true ∧ 0 ≤ q.2 ∧ q.2 ≤ 6 := by simp [qokB, inB_iff]

def bokB (w : Int) (qs : List Qt) : Bool := wokB w && decide (qs.length ≤ 3) && qs.all (qokB w)

theorem bokB_iff (w : Int) (qs : List Qt) : bokB w qs = true ↔ (1 ≤ w ∧ w ≤ 4) ∧ qs.length ≤ 3 ∧ ∀ q ∈ qs, qokB w q = true := by
  simp only [bokB, Bool.and_eq_true, wokB_iff, decide_eq_true_eq, List.all_eq_true, and_assoc]

def stB (s : Int) : Bool := inB s (-9) 9

theorem stB_iff (s : Int) : stB s = true ↔ -9 ≤ s ∧ s ≤ 9 := inB_iff _ _ _

/-- whether world k is one of the event: 1 or 0 -/
def bitI (e : Int) (k : Nat) : Int := e / 2 ^ k % 2

theorem bitI_01 (e : Int) (k : Nat) : bitI e k = 0 ∨ bitI e k = 1 := by unfold bitI; omega

def gainI (q : Qt) (s : Int) (k : Nat) : Int := s * (bitI q.1 k * 6 - q.2)

def gainL (w : Int) (q : Qt) (s : Int) : List Int := (List.range w.toNat).map (gainI q s)

theorem gainL_len (w : Int) (q : Qt) (s : Int) : (gainL w q s).length = w.toNat := by simp [gainL]

theorem gainL_at (w : Int) (q : Qt) (s : Int) {k : Nat} (hk : k < w.toNat) : (gainL w q s)[k]? = some (gainI q s k) := by simp [gainL, hk]

def gainB (w : Int) (q : Qt) (s : Int) : Bool := qokB w q && stB s

def gainR (w : Int) (q : Qt) (s : Int) : List Int := if gainB w q s = true then gainL w q s else []

def otherQ (w : Int) (q : Qt) : Qt := (notI w q.1, 6 - q.2)

def otherR (w : Int) (q : Qt) : Qt := if qokB w q = true then otherQ w q else (0, 0)

theorem notI_eq {w e : Int} (h : evB w e = true) : notI w e = allI w - e := by rw [notI, if_pos h]

theorem ev_not {w e : Int} (h : evB w e = true) : evB w (notI w e) = true := by
  have h' := (evB_iff w e).1 h
  rw [notI_eq h, evB_iff]; omega

theorem not_not {w e : Int} (h : evB w e = true) : notI w (notI w e) = e := by
  rw [notI_eq (ev_not h), notI_eq h]; omega

theorem qok_other {w : Int} {q : Qt} (h : qokB w q = true) : qokB w (otherQ w q) = true := by
  rw [qokB_iff] at h ⊢
  exact ⟨ev_not h.1, by show 0 ≤ 6 - q.2; omega, by show 6 - q.2 ≤ 6; omega⟩

theorem other_other {w : Int} {q : Qt} (h : qokB w q = true) : otherQ w (otherQ w q) = q := by
  have h1 := ((qokB_iff w q).1 h).1
  show (notI w (notI w q.1), 6 - (6 - q.2)) = q
  rw [not_not h1, show 6 - (6 - q.2) = q.2 from by omega]

theorem bit_tab : ∀ w : Fin 5, ∀ e : Fin 16, ∀ k : Fin 4, evB ((w : Nat) : Int) ((e : Nat) : Int) = true → (k : Nat) < (w : Nat) → bitI (allI ((w : Nat) : Int) - ((e : Nat) : Int)) (k : Nat) = 1 - bitI ((e : Nat) : Int) (k : Nat) := by decide +kernel

theorem bit_not {w e : Int} {k : Nat} (h : evB w e = true) (hk : k < w.toNat) : bitI (notI w e) k = 1 - bitI e k := by
  have h' := (evB_iff w e).1 h
  obtain ⟨j, rfl⟩ := fin16 (evB_15 h).1 (evB_15 h).2
  obtain ⟨i, rfl⟩ : ∃ i : Fin 5, w = ((i : Nat) : Int) := ⟨⟨w.toNat, by omega⟩, by simp; omega⟩
  rw [notI_eq h]
  rw [Int.toNat_natCast] at hk
  exact bit_tab i j ⟨k, by omega⟩ h hk

theorem wok_of {w : Int} {q : Qt} (h : qokB w q = true) : 1 ≤ w ∧ w ≤ 4 := by
  have := (evB_iff _ _).1 ((qokB_iff w q).1 h).1
  omega

theorem gain_other {w : Int} {q : Qt} (h : qokB w q = true) (s : Int) : gainL w (otherQ w q) (-s) = gainL w q s := by
  unfold gainL
  apply List.map_congr_left
  intro k hk
  have hk := List.mem_range.1 hk
  show -s * (bitI (notI w q.1) k * 6 - (6 - q.2)) = s * (bitI q.1 k * 6 - q.2)
  rw [bit_not ((qokB_iff w q).1 h).1 hk]
  rw [show (1 - bitI q.1 k) * 6 - (6 - q.2) = -(bitI q.1 k * 6 - q.2) from by omega, Int.neg_mul_neg]

theorem gain_bound {w : Int} {q : Qt} {s : Int} (h : gainB w q s = true) (k : Nat) : -54 ≤ gainI q s k ∧ gainI q s k ≤ 54 := by
  rw [gainB, Bool.and_eq_true, qokB_iff, stB_iff] at h
  obtain ⟨⟨-, p1, p2⟩, s1, s2⟩ := h
  unfold gainI
  have hd : -6 ≤ bitI q.1 k * 6 - q.2 ∧ bitI q.1 k * 6 - q.2 ≤ 6 := by rcases bitI_01 q.1 k with h | h <;> rw [h] <;> omega
  generalize bitI q.1 k * 6 - q.2 = d at hd
  have h1 : 0 ≤ (9 - s) * (6 + d) := Int.mul_nonneg (by omega) (by omega)
  have h2 : 0 ≤ (9 + s) * (6 - d) := Int.mul_nonneg (by omega) (by omega)
  have h3 : 0 ≤ (9 + s) * (6 + d) := Int.mul_nonneg (by omega) (by omega)
  have h4 : 0 ≤ (9 - s) * (6 - d) := Int.mul_nonneg (by omega) (by omega)
  simp only [Int.sub_mul, Int.add_mul, Int.mul_add, Int.mul_sub] at h1 h2 h3 h4
  omega

theorem map_gok {w : Int} (h1 : 1 ≤ w) (h2 : w ≤ 4) {f : Nat → Int} (hf : ∀ k, -1000 ≤ f k ∧ f k ≤ 1000) : gokB ((List.range w.toNat).map f) = true := by
  rw [gokB_iff]
  refine ⟨by simp; omega, by simp; omega, fun x hx => ?_⟩
  obtain ⟨k, -, rfl⟩ := List.mem_map.1 hx
  exact hf k

theorem gain_wok {w : Int} {q : Qt} {s : Int} (h : gainB w q s = true) : 1 ≤ w ∧ w ≤ 4 := by
  rw [gainB, Bool.and_eq_true] at h
  exact wok_of h.1

theorem gain_gok {w : Int} {q : Qt} {s : Int} (h : gainB w q s = true) : gokB (gainL w q s) = true :=
  map_gok (gain_wok h).1 (gain_wok h).2 (fun k => by have := gain_bound h k; omega)

theorem gainB_neg {w : Int} {q : Qt} {s : Int} (h : gainB w q s = true) : gainB w q (-s) = true := by
  rw [gainB, Bool.and_eq_true, stB_iff] at h ⊢
  exact ⟨h.1, by omega⟩

theorem gainB_other {w : Int} {q : Qt} {s : Int} (h : gainB w q s = true) : gainB w (otherQ w q) (-s) = true := by
  rw [gainB, Bool.and_eq_true, stB_iff] at h ⊢
  exact ⟨qok_other h.1, by omega⟩

theorem sumL_map (f g : Nat → Int) (l : List Nat) : sumL (l.map f) (l.map g) = l.map fun k => f k + g k := by
  induction l with
  | nil => rfl
  | cons x l ih => simp only [List.map_cons, sumL, ih]

theorem mulL_map (f : Nat → Int) (l : List Nat) (t : Int) : mulL (l.map f) t = l.map fun k => f k * t := by
  simp [mulL, Function.comp_def]

theorem sumB_map {w : Int} (h1 : 1 ≤ w) (h2 : w ≤ 4) {f g : Nat → Int} (hf : ∀ k, -1000 ≤ f k ∧ f k ≤ 1000) (hg : ∀ k, -1000 ≤ g k ∧ g k ≤ 1000) (hs : ∀ k, -1000 ≤ f k + g k ∧ f k + g k ≤ 1000) :
    sumB ((List.range w.toNat).map f) ((List.range w.toNat).map g) = true := by
  rw [sumB, Bool.and_eq_true, gok2_iff, sumL_map]
  exact ⟨⟨map_gok h1 h2 hf, map_gok h1 h2 hg, by simp⟩, map_gok h1 h2 hs⟩

theorem gain_sum {w : Int} {q : Qt} {s : Int} (h : gainB w q s = true) : sumB (gainL w q s) (gainL w q (-s)) = true ∧ sumL (gainL w q s) (gainL w q (-s)) = mulL (gainL w q s) 0 := by
  have hneg : ∀ k, gainI q (-s) k = - gainI q s k := fun k => by simp [gainI, Int.neg_mul]
  refine ⟨sumB_map (gain_wok h).1 (gain_wok h).2 (fun k => by have := gain_bound h k; omega) (fun k => by have := gain_bound h k; rw [hneg]; omega) (fun k => by rw [hneg]; omega), ?_⟩
  unfold gainL
  rw [sumL_map, mulL_map]
  apply List.map_congr_left
  intro k _
  rw [hneg]; omega

/-! balances -/

def balI : List Qt → List Int → Nat → Int
  | q :: qs, s :: ss, k => gainI q s k + balI qs ss k
  | _, _, _ => 0

theorem balI_snoc (qs : List Qt) (ss : List Int) (q : Qt) (s : Int) (k : Nat) (h : ss.length = qs.length) : balI (qs ++ [q]) (ss ++ [s]) k = balI qs ss k + gainI q s k := by
  induction qs generalizing ss with
  | nil =>
    obtain rfl := List.eq_nil_of_length_eq_zero h
    simp [balI]
  | cons p qs ih =>
    cases ss with
    | nil => simp at h
    | cons t ss =>
      simp only [List.cons_append, balI]
      rw [ih ss (by simpa using h)]; omega

theorem balI_take {qs : List Qt} {ss : List Int} {j : Nat} {q : Qt} {s : Int} (hq : qs[j]? = some q) (hs : ss[j]? = some s) (h : ss.length = qs.length) (k : Nat) :
    balI (qs.take (j + 1)) (ss.take (j + 1)) k = balI (qs.take j) (ss.take j) k + gainI q s k := by
  rw [List.take_add_one, List.take_add_one, hq, hs]
  exact balI_snoc _ _ _ _ _ (by simp [h])

def balL (w : Int) (qs : List Qt) (ss : List Int) : List Int := (List.range w.toNat).map (balI qs ss)

theorem balL_len (w : Int) (qs : List Qt) (ss : List Int) : (balL w qs ss).length = w.toNat := by simp [balL]

theorem balL_at (w : Int) (qs : List Qt) (ss : List Int) {k : Nat} (hk : k < w.toNat) : (balL w qs ss)[k]? = some (balI qs ss k) := by simp [balL, hk]

def balB (w : Int) (qs : List Qt) (ss : List Int) : Bool := bokB w qs && decide (ss.length = qs.length) && ss.all stB

theorem balB_iff (w : Int) (qs : List Qt) (ss : List Int) : balB w qs ss = true ↔ bokB w qs = true ∧ ss.length = qs.length ∧ ∀ s ∈ ss, -9 ≤ s ∧ s ≤ 9 := by
  simp only [balB, Bool.and_eq_true, decide_eq_true_eq, List.all_eq_true, stB_iff, and_assoc]

def balR (w : Int) (qs : List Qt) (ss : List Int) : List Int := if balB w qs ss = true then balL w qs ss else []

theorem bal_bound {w : Int} {qs : List Qt} {ss : List Int} (hq : ∀ q ∈ qs, qokB w q = true) (hs : ∀ s ∈ ss, -9 ≤ s ∧ s ≤ 9) (h : ss.length = qs.length) (k : Nat) : -(54 * (qs.length : Int)) ≤ balI qs ss k ∧ balI qs ss k ≤ 54 * (qs.length : Int) := by
  induction qs generalizing ss with
  | nil => simp [balI]
  | cons q qs ih =>
    cases ss with
    | nil => simp at h
    | cons s ss =>
      have h1 := ih (ss := ss) (fun x hx => hq x (by simp [hx])) (fun x hx => hs x (by simp [hx])) (by simpa using h)
      have h2 := gain_bound (w := w) (q := q) (s := s) (by rw [gainB, Bool.and_eq_true, stB_iff]; exact ⟨hq q (by simp), hs s (by simp)⟩) k
      simp only [balI, List.length_cons]
      omega

theorem bal_162 {w : Int} {qs : List Qt} {ss : List Int} (h : balB w qs ss = true) (k : Nat) : -162 ≤ balI qs ss k ∧ balI qs ss k ≤ 162 := by
  obtain ⟨h1, h2, h3⟩ := (balB_iff _ _ _).1 h
  obtain ⟨h4, h5, h6⟩ := (bokB_iff _ _).1 h1
  have := bal_bound h6 h3 h2 k
  omega

theorem bal_wok {w : Int} {qs : List Qt} {ss : List Int} (h : balB w qs ss = true) : 1 ≤ w ∧ w ≤ 4 := ((bokB_iff _ _).1 ((balB_iff _ _ _).1 h).1).1

theorem bal_gok {w : Int} {qs : List Qt} {ss : List Int} (h : balB w qs ss = true) : gokB (balL w qs ss) = true :=
  map_gok (bal_wok h).1 (bal_wok h).2 (fun k => by have := bal_162 h k; omega)

theorem bal_nil {w : Int} (h1 : 1 ≤ w) (h2 : w ≤ 4) : gokB (balL w [] []) = true ∧ bestI (balL w [] []) = 0 := by
  have hg : gokB (balL w [] []) = true := map_gok h1 h2 (fun k => by simp [balI])
  refine ⟨hg, ?_⟩
  have := (best_greatest hg).1
  obtain ⟨k, -, e⟩ := List.mem_map.1 this
  rw [← e]; rfl

/-- the last quote left out -/
theorem bal_last {w : Int} {qs : List Qt} {ss : List Int} {q : Qt} {s : Int} (h : balB w (qs ++ [q]) (ss ++ [s]) = true) :
    balB w qs ss = true ∧ gainB w q s = true ∧ sumB (balL w qs ss) (gainL w q s) = true ∧ sumL (balL w qs ss) (gainL w q s) = balL w (qs ++ [q]) (ss ++ [s]) := by
  obtain ⟨h1, h2, h3⟩ := (balB_iff _ _ _).1 h
  obtain ⟨h4, h5, h6⟩ := (bokB_iff _ _).1 h1
  have hl : ss.length = qs.length := by simpa using h2
  have hb : balB w qs ss = true := by
    rw [balB_iff, bokB_iff]
    exact ⟨⟨h4, by simp at h5; omega, fun x hx => h6 x (by simp [hx])⟩, hl, fun x hx => h3 x (by simp [hx])⟩
  have hg : gainB w q s = true := by
    rw [gainB, Bool.and_eq_true, stB_iff]
    exact ⟨h6 q (by simp), h3 s (by simp)⟩
  have he : ∀ k, balI (qs ++ [q]) (ss ++ [s]) k = balI qs ss k + gainI q s k := fun k => balI_snoc _ _ _ _ _ hl
  refine ⟨hb, hg, sumB_map h4.1 h4.2 (fun k => by have := bal_162 hb k; omega) (fun k => by have := gain_bound hg k; omega) (fun k => by have := bal_162 h k; rw [he k] at this; omega), ?_⟩
  unfold balL gainL
  rw [sumL_map]
  apply List.map_congr_left
  intro k _
  exact (he k).symm

theorem balI_neg (qs : List Qt) (ss : List Int) (k : Nat) : balI qs (ss.map fun x => -x) k = - balI qs ss k := by
  induction qs generalizing ss with
  | nil => cases ss <;> simp [balI]
  | cons q qs ih =>
    cases ss with
    | nil => simp [balI]
    | cons s ss => simp only [List.map_cons, balI, ih]; simp [gainI, Int.neg_mul]; omega

/-- all signs of stakes exchanged -/
theorem bal_neg {w : Int} {qs : List Qt} {ss : List Int} (h : balB w qs ss = true) : balB w qs (ss.map fun x => -x) = true ∧ balL w qs (ss.map fun x => -x) = mulL (balL w qs ss) (-1) := by
  refine ⟨?_, ?_⟩
  · rw [balB_iff] at h ⊢
    refine ⟨h.1, by simpa using h.2.1, fun s hs => ?_⟩
    obtain ⟨x, hx, rfl⟩ := List.mem_map.1 hs
    have := h.2.2 x hx
    omega
  · unfold balL
    rw [mulL_map]
    apply List.map_congr_left
    intro k _
    rw [balI_neg]; omega

end Go.Proofs.Yteljcicdibbhdaa
