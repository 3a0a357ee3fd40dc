/- The facts of chapter 13: two sided prices, what fits between them, winning stakes, bounds. No condition. (gen_ja.py) -/
import Derived.Test.YtodmgcbcacblbaaJy
import Derived.Test.YtodmgcbcacblbaaBo
namespace Go.Proofs.Ytodmgcbcacblbaa
set_option linter.unusedVariables false

/-- an event, a price to buy at, a price to sell at -/
abbrev Bt := Int × Int × Int

def bidB (n : Int) (b : Bt) : Bool := evB n b.1 && (inB b.2.1 0 b.2.2 && decide (b.2.2 ≤ 6))

theorem bidB_iff (n : Int) (b : Bt) : bidB n b = true ↔ evB n b.1 = true ∧ (0 ≤ b.2.1 ∧ b.2.1 ≤ b.2.2) ∧ b.2.2 ≤ 6 := by
  simp only [bidB, Bool.and_eq_true, inB_iff, decide_eq_true_eq]

def bidsB (n : Int) (bs : List Bt) : Bool := bs.all (bidB n) && (inB n 1 4 && decide (bs.length ≤ 3))

theorem bidsB_iff (n : Int) (bs : List Bt) : bidsB n bs = true ↔ (1 ≤ n ∧ n ≤ 4) ∧ bs.length ≤ 3 ∧ ∀ b ∈ bs, bidB n b = true := by
  simp only [bidsB, Bool.and_eq_true, inB_iff, decide_eq_true_eq, List.all_eq_true]
  exact ⟨fun h => ⟨h.2.1, h.2.2, h.1⟩, fun h => ⟨h.2.2, h.1, h.2.1⟩⟩

/-- the grains are between all prices -/
def sfitI (m : List Int) (bs : List Bt) : Bool := bs.all fun b => decide (b.2.1 * 36 ≤ onI m b.1 * 6) && decide (onI m b.1 * 6 ≤ b.2.2 * 36)

theorem sfitI_iff (m : List Int) (bs : List Bt) : sfitI m bs = true ↔ ∀ b ∈ bs, 6 * b.2.1 ≤ onI m b.1 ∧ onI m b.1 ≤ 6 * b.2.2 := by
  simp only [sfitI, List.all_eq_true, Bool.and_eq_true, decide_eq_true_eq]
  constructor
  · intro h b hb; have := h b hb; omega
  · intro h b hb; have := h b hb; omega

def sfitB (m : List Int) (bs : List Bt) : Bool := meaB m && (bidsB (m.length : Int) bs && sfitI m bs)

def anyS (w : Nat) (bs : List Bt) : Bool := (lay w 36).any fun l => sfitI (natL l) bs

def sfairB (n : Int) (bs : List Bt) : Bool := bidsB n bs && anyS n.toNat bs

/-! the bets that are taken -/

def tkP (b : Bt) (s : Int) : Int := if 0 < s then b.2.2 else b.2.1

def tkQ : List Bt → List Int → List Qt
  | b :: bs, s :: ss => (b.1, tkP b s) :: tkQ bs ss
  | _, _ => []

theorem tkQ_len {bs : List Bt} {ss : List Int} (h : ss.length = bs.length) : (tkQ bs ss).length = bs.length := by
  induction bs generalizing ss with
  | nil => cases ss <;> rfl
  | cons b bs ih =>
    cases ss with
    | nil => simp at h
    | cons s ss => simp only [tkQ, List.length_cons]; rw [ih (by simpa using h)]

theorem tkQ_at {bs : List Bt} {ss : List Int} {k : Nat} {b : Bt} {s : Int} (hb : bs[k]? = some b) (hs : ss[k]? = some s) : (tkQ bs ss)[k]? = some (b.1, tkP b s) := by
  induction bs generalizing ss k with
  | nil => simp at hb
  | cons b' bs ih =>
    cases ss with
    | nil => simp at hs
    | cons s' ss =>
      cases k with
      | zero => simp at hb hs; subst hb; subst hs; rfl
      | succ k => exact ih (by simpa using hb) (by simpa using hs)

theorem tkQ_mem {bs : List Bt} {ss : List Int} {q : Qt} (h : q ∈ tkQ bs ss) : ∃ b ∈ bs, ∃ s, q = (b.1, tkP b s) := by
  induction bs generalizing ss with
  | nil => cases ss <;> cases h
  | cons b bs ih =>
    cases ss with
    | nil => cases h
    | cons s ss =>
      simp only [tkQ, List.mem_cons] at h
      rcases h with rfl | h
      · exact ⟨b, by simp, s, rfl⟩
      · obtain ⟨c, hc, t, e⟩ := ih h
        exact ⟨c, by simp [hc], t, e⟩

theorem tk_bok {n : Int} {bs : List Bt} {ss : List Int} (hb : bidsB n bs = true) (hl : ss.length = bs.length) : bokB n (tkQ bs ss) = true := by
  obtain ⟨h1, h2, h3⟩ := (bidsB_iff _ _).1 hb
  refine (bokB_iff _ _).2 ⟨h1, by rw [tkQ_len hl]; exact h2, fun q hq => ?_⟩
  obtain ⟨b, hbm, s, rfl⟩ := tkQ_mem hq
  obtain ⟨k1, k2, k3⟩ := (bidB_iff _ _).1 (h3 b hbm)
  refine (qokB_iff _ _).2 ⟨k1, ?_⟩
  show 0 ≤ tkP b s ∧ tkP b s ≤ 6
  unfold tkP
  split <;> omega

def tgB (n : Int) (bs : List Bt) (ss : List Int) : Bool := bidsB n bs && (decide (ss.length = bs.length) && balB n (tkQ bs ss) ss)

theorem tgB_iff (n : Int) (bs : List Bt) (ss : List Int) : tgB n bs ss = true ↔ bidsB n bs = true ∧ ss.length = bs.length ∧ ∀ s ∈ ss, -9 ≤ s ∧ s ≤ 9 := by
  simp only [tgB, Bool.and_eq_true, decide_eq_true_eq]
  constructor
  · rintro ⟨h1, h2, h3⟩; exact ⟨h1, h2, ((balB_iff _ _ _).1 h3).2.2⟩
  · rintro ⟨h1, h2, h3⟩; exact ⟨h1, h2, (balB_iff _ _ _).2 ⟨tk_bok h1 h2, by rw [tkQ_len h2]; exact h2, h3⟩⟩

def tgL (n : Int) (bs : List Bt) (ss : List Int) : List Int := balL n (tkQ bs ss) ss

def tgR (n : Int) (bs : List Bt) (ss : List Int) : List Int := if tgB n bs ss = true then tgL n bs ss else []

theorem tg_bal {n : Int} {bs : List Bt} {ss : List Int} (h : tgB n bs ss = true) : balB n (tkQ bs ss) ss = true := by
  rw [tgB, Bool.and_eq_true, Bool.and_eq_true] at h; exact h.2.2

theorem tg_gok {n : Int} {bs : List Bt} {ss : List Int} (h : tgB n bs ss = true) : gokB (tgL n bs ss) = true := bal_gok (tg_bal h)

theorem tg_yes {n : Int} {bs : List Bt} {ss : List Int} (h : tgB n bs ss = true) : tgR n bs ss = tgL n bs ss := by rw [tgR, if_pos h]

theorem tg_no {n : Int} {bs : List Bt} {ss : List Int} (h : tgB n bs ss = false) : tgR n bs ss = [] := by rw [tgR, h]; rfl

theorem tg_two {n : Int} {bs : List Bt} {ss : List Int} (hb : bidsB n bs = true) (hl : ss.length = bs.length) (h2 : Two2 ss) : tgB n bs ss = true :=
  (tgB_iff _ _ _).2 ⟨hb, hl, fun s hs => by have := h2 s hs; omega⟩

/-- stakes that surely win -/
def winB (n : Int) (bs : List Bt) (ss : List Int) : Bool := gokB (tgR n bs ss) && decide (0 < worstI (tgR n bs ss))

theorem win_two {n : Int} {bs : List Bt} {ss : List Int} (hb : bidsB n bs = true) (hl : ss.length = bs.length) (h2 : Two2 ss) : winB n bs ss = decide (0 < worstI (tgL n bs ss)) := by
  have h := tg_two hb hl h2
  rw [winB, tg_yes h, tg_gok h, Bool.true_and]

theorem wins_of {n : Int} {bs : List Bt} {ss : List Int} (hb : bidsB n bs = true) (hl : ss.length = bs.length) (h2 : Two2 ss) (h : ∀ k, k < n.toNat → 0 < balI (tkQ bs ss) ss k) : winB n bs ss = true := by
  rw [win_two hb hl h2, decide_eq_true_eq]
  obtain ⟨k, hk, e⟩ := List.mem_map.1 (worst_least (tg_gok (tg_two hb hl h2))).1
  rw [← e]
  exact h k (List.mem_range.1 hk)

theorem pr_tk (t : Int) (e : Int) (l u : Nat) (c : Int) : -t * (c * 6 - tkP (e, (l : Int), (u : Int)) (-t)) = pr13 t l u - t * (6 * c) := by
  unfold tkP pr13
  by_cases h : 0 < t
  · rw [if_pos h, if_neg (by omega)]
    show -t * (c * 6 - (l : Int)) = _
    grind
  · rw [if_neg h]
    by_cases h2 : 0 < -t
    · rw [if_pos h2]
      show -t * (c * 6 - (u : Int)) = _
      grind
    · obtain rfl : t = 0 := by omega
      simp

/-- either some measure is between the prices, or some stakes surely win -/
theorem dual_side {w : Nat} {bs : List Bt} (hb : bidsB (w : Int) bs = true) : anyS w bs = true ∨ ∃ ss, ss.length = bs.length ∧ Two2 ss ∧ winB (w : Int) bs ss = true := by
  obtain ⟨⟨w1, w4⟩, hq3, hq⟩ := (bidsB_iff _ _).1 hb
  have h1 : 1 ≤ w := by omega
  have h4 : w ≤ 4 := by omega
  have hp : 0 < 2 ^ w := Nat.two_pow_pos w
  have hone : ∀ b ∈ bs, ∃ e l u : Nat, b = ((e : Int), (l : Int), (u : Int)) ∧ e < 2 ^ w ∧ l ≤ u ∧ u ≤ 6 := by
    intro b hbm
    obtain ⟨k1, k2, k3⟩ := (bidB_iff _ _).1 (hq b hbm)
    obtain ⟨e, he, hlt⟩ := ev_nat (q := (b.1, 0)) (w := w) ((qokB_iff _ _).2 ⟨k1, Int.le_refl 0, (by show (0 : Int) ≤ 6; decide)⟩)
    exact ⟨e, b.2.1.toNat, b.2.2.toNat, Prod.ext he (Prod.ext (Int.toNat_of_nonneg k2.1).symm (Int.toNat_of_nonneg (by omega)).symm), hlt, by omega, by omega⟩
  have hfit : ∀ c ∈ lay w 12, (∀ b ∈ bs, ∃ e l u : Nat, b = ((e : Int), (l : Int), (u : Int)) ∧ 2 * l ≤ onN c e ∧ onN c e ≤ 2 * u) → anyS w bs = true := by
    intro c hc h
    obtain ⟨v, rfl⟩ : ∃ v, w = v + 1 := ⟨w - 1, by omega⟩
    obtain ⟨hl, hs⟩ := (mem_lay _ _ _).1 hc
    refine List.any_eq_true.2 ⟨c.map (3 * ·), (mem_lay _ _ _).2 ⟨by simp [hl], by rw [sum_scale, hs]⟩, ?_⟩
    rw [sfitI_iff]
    intro b hbm
    obtain ⟨e, l, u, rfl, k1, k2⟩ := h b hbm
    rw [onI_scale, onN_cast]
    show 6 * (l : Int) ≤ ((3 : Nat) : Int) * ((onN c e : Nat) : Int) ∧ ((3 : Nat) : Int) * ((onN c e : Nat) : Int) ≤ 6 * (u : Int)
    omega
  have hb0 : ∀ k, bN 0 k = 0 := fun k => by simp [bN]
  match bs, hb, hq3, hone, hfit with
  | [], _, _, _, hf =>
    obtain ⟨v, rfl⟩ : ∃ v, w = v + 1 := ⟨w - 1, by omega⟩
    exact .inl (hf (12 :: List.replicate v 0) ((mem_lay _ _ _).2 ⟨by simp, by simp⟩) (fun b hbm => by cases hbm))
  | [q1], hb, _, ho, hf =>
    obtain ⟨e1, l1, u1, rfl, b1, a1, c1⟩ := ho q1 (by simp)
    rcases side_all h1 h4 b1 hp hp a1 c1 (Nat.le_refl 0) (Nat.zero_le 6) (Nat.le_refl 0) (Nat.zero_le 6) with ⟨c, hc, k1, -, -⟩ | ⟨s1, s2, s3, t1, t2, t3, h⟩
    · refine .inl (hf c hc fun q hqm => ?_)
      obtain rfl := List.mem_singleton.1 hqm
      exact ⟨e1, l1, u1, rfl, k1⟩
    · refine .inr ⟨[-s1], rfl, fun s hs => by obtain rfl := List.mem_singleton.1 hs; omega, wins_of hb rfl (fun s hs => by obtain rfl := List.mem_singleton.1 hs; omega) fun k hk => ?_⟩
      have := h k (by rwa [Int.toNat_natCast] at hk)
      have e2 : pr13 s2 0 0 = 0 := by simp [pr13]
      have e3 : pr13 s3 0 0 = 0 := by simp [pr13]
      rw [e2, e3] at this
      simp only [tkQ, balI, gainI, bit_bN, hb0, pr_tk] at this ⊢
      simp at this ⊢
      omega
  | [q1, q2], hb, _, ho, hf =>
    obtain ⟨e1, l1, u1, rfl, b1, a1, c1⟩ := ho q1 (by simp)
    obtain ⟨e2, l2, u2, rfl, b2, a2, c2⟩ := ho q2 (by simp)
    rcases side_all h1 h4 b1 b2 hp a1 c1 a2 c2 (Nat.le_refl 0) (Nat.zero_le 6) with ⟨c, hc, k1, k2, -⟩ | ⟨s1, s2, s3, t1, t2, t3, h⟩
    · refine .inl (hf c hc fun q hqm => ?_)
      rcases List.mem_cons.1 hqm with rfl | hqm
      · exact ⟨e1, l1, u1, rfl, k1⟩
      · obtain rfl := List.mem_singleton.1 hqm
        exact ⟨e2, l2, u2, rfl, k2⟩
    · have h2 : Two2 [-s1, -s2] := fun s hs => by
        rcases List.mem_cons.1 hs with rfl | hs
        · omega
        · obtain rfl := List.mem_singleton.1 hs; omega
      refine .inr ⟨[-s1, -s2], rfl, h2, wins_of hb rfl h2 fun k hk => ?_⟩
      have := h k (by rwa [Int.toNat_natCast] at hk)
      have e3 : pr13 s3 0 0 = 0 := by simp [pr13]
      rw [e3] at this
      simp only [tkQ, balI, gainI, bit_bN, hb0, pr_tk] at this ⊢
      simp at this ⊢
      omega
  | [q1, q2, q3], hb, _, ho, hf =>
    obtain ⟨e1, l1, u1, rfl, b1, a1, c1⟩ := ho q1 (by simp)
    obtain ⟨e2, l2, u2, rfl, b2, a2, c2⟩ := ho q2 (by simp)
    obtain ⟨e3, l3, u3, rfl, b3, a3, c3⟩ := ho q3 (by simp)
    rcases side_all h1 h4 b1 b2 b3 a1 c1 a2 c2 a3 c3 with ⟨c, hc, k1, k2, k3⟩ | ⟨s1, s2, s3, t1, t2, t3, h⟩
    · refine .inl (hf c hc fun q hqm => ?_)
      rcases List.mem_cons.1 hqm with rfl | hqm
      · exact ⟨e1, l1, u1, rfl, k1⟩
      · rcases List.mem_cons.1 hqm with rfl | hqm
        · exact ⟨e2, l2, u2, rfl, k2⟩
        · obtain rfl := List.mem_singleton.1 hqm
          exact ⟨e3, l3, u3, rfl, k3⟩
    · have h2 : Two2 [-s1, -s2, -s3] := fun s hs => by
        rcases List.mem_cons.1 hs with rfl | hs
        · omega
        · rcases List.mem_cons.1 hs with rfl | hs
          · omega
          · obtain rfl := List.mem_singleton.1 hs; omega
      refine .inr ⟨[-s1, -s2, -s3], rfl, h2, wins_of hb rfl h2 fun k hk => ?_⟩
      have := h k (by rwa [Int.toNat_natCast] at hk)
      simp only [tkQ, balI, gainI, bit_bN, pr_tk] at this ⊢
      omega
  | _ :: _ :: _ :: _ :: _, _, h3, _, _ => simp at h3

/-- by what is between the prices, no taker wins -/
theorem br_take (m : List Int) (bs : List Bt) (ss : List Int) (hs : m.sum = 36) (h : ∀ b ∈ bs, 6 * b.2.1 ≤ onI m b.1 ∧ onI m b.1 ≤ 6 * b.2.2) : brI m ((List.range m.length).map (balI (tkQ bs ss) ss)) ≤ 0 := by
  have hz : ∀ (m : List Int) (l : List Nat), brI m (l.map fun _ => (0 : Int)) = 0 := by
    intro m
    induction m with
    | nil => intro l; simp [brI]
    | cons x m ih =>
      intro l
      cases l with
      | nil => simp [brI]
      | cons k l => simp only [List.map_cons, brI, ih]; simp
  induction bs generalizing ss with
  | nil =>
    cases ss with
    | nil => exact Int.le_of_eq (hz m _)
    | cons s ss => exact Int.le_of_eq (hz m _)
  | cons b bs ih =>
    cases ss with
    | nil => exact Int.le_of_eq (hz m _)
    | cons s ss =>
      have e : balI (tkQ (b :: bs) (s :: ss)) (s :: ss) = fun k => gainI (b.1, tkP b s) s k + balI (tkQ bs ss) ss k := rfl
      have h1 := ih ss (fun p hp => h p (by simp [hp]))
      have h2 := h b (by simp)
      have h3 : s * (6 * onI m b.1 - tkP b s * 36) ≤ 0 := by
        unfold tkP
        by_cases h : 0 < s
        · rw [if_pos h]
          exact Int.mul_nonpos_of_nonneg_of_nonpos (by omega) (by omega)
        · rw [if_neg h]
          exact Int.mul_nonpos_of_nonpos_of_nonneg (by omega) (by omega)
      rw [e, brI_add, brI_gain, hs]
      have h4 : s * (6 * onI m (b.1, tkP b s).1 - (b.1, tkP b s).2 * 36) ≤ 0 := h3
      omega

theorem weak_side {w : Nat} {bs : List Bt} {ss : List Int} (hb : tgB (w : Int) bs ss = true) (hl : 0 < worstI (tgL (w : Int) bs ss)) : anyS w bs = false := by
  rw [← Bool.not_eq_true]
  intro h
  obtain ⟨l, hm, hf⟩ := List.any_eq_true.1 h
  obtain ⟨w1, w4⟩ := bal_wok (tg_bal hb)
  obtain ⟨v, rfl⟩ : ∃ v, w = v + 1 := ⟨w - 1, by omega⟩
  have hlen := ((mem_lay _ _ _).1 hm).1
  have hmea : meaB (natL l) = true := (mea_lay _).2 ⟨by rw [natL_len, hlen]; omega, l, by rw [natL_len, hlen]; exact hm, rfl⟩
  have h0 := br_take (natL l) bs ss (mea_parts hmea).2.1 ((sfitI_iff _ _).1 hf)
  have h1 := (br_between hmea (tg_gok hb) (by rw [natL_len, hlen, tgL, balL_len]; simp)).1
  have e : (List.range (natL l).length).map (balI (tkQ bs ss) ss) = tgL ((v + 1 : Nat) : Int) bs ss := by rw [natL_len, hlen, tgL, balL, Int.toNat_natCast]
  rw [e] at h0
  omega

/-! the search, for any sign of winning -/

/-- the first stakes that go on these, k more, with so much left -/
def wsearchL (P : List Int → Bool) (ts : List Int) (k : Nat) (left : Int) : List Int :=
  match (stks k left.toNat).find? fun t => P (ts ++ t) with
  | some t => ts ++ t
  | none => []

theorem wsearch_zero (P : List Int → Bool) (ts : List Int) {left : Int} (h0 : 0 ≤ left) : wsearchL P ts 0 left = if (left == 0 && P ts) = true then ts else [] := by
  unfold wsearchL stks
  by_cases h : left = 0
  · subst h
    simp only [Int.toNat_zero, if_true, List.find?_cons, List.append_nil, beq_self_eq_true, Bool.true_and]
    cases hb : P ts <;> simp
  · have h1 : ¬ left.toNat = 0 := by omega
    have h2 : (left == 0) = false := by simp [h]
    rw [if_neg h1, h2]
    simp

def wsubL (P : List Int → Bool) (ts : List Int) (k : Nat) (left s : Int) : List Int :=
  if (s.natAbs : Int) ≤ left then wsearchL P (ts ++ [s]) k (left - s.natAbs) else []

def woverL (P : List Int → Bool) (ts : List Int) (k : Nat) (left : Int) : List Int → List Int
  | [] => []
  | s :: l => match wsubL P ts k left s with
    | [] => woverL P ts k left l
    | x :: xs => x :: xs

theorem wsearch_flat (P : List Int → Bool) (ts : List Int) (k : Nat) {left : Int} (h0 : 0 ≤ left) (l : List Int) :
    (match ((l.filter fun s => decide (s.natAbs ≤ left.toNat)).flatMap fun s => (stks k (left.toNat - s.natAbs)).map fun t => s :: t).find? fun t => P (ts ++ t) with
      | some t => ts ++ t
      | none => []) = woverL P ts k left l := by
  induction l with
  | nil => rfl
  | cons s l ih =>
    unfold woverL
    by_cases h : s.natAbs ≤ left.toNat
    · rw [List.filter_cons, if_pos (by simpa using h), List.flatMap_cons, List.find?_append]
      have e1 : (left - (s.natAbs : Int)).toNat = left.toNat - s.natAbs := by omega
      rw [wsubL, if_pos (by omega), wsearchL, e1]
      rw [List.find?_map]
      have e2 : ((fun t => P (ts ++ t)) ∘ fun t => s :: t) = fun t => P (ts ++ [s] ++ t) := by
        funext t; simp [Function.comp]
      rw [e2]
      cases hf : (stks k (left.toNat - s.natAbs)).find? fun t => P (ts ++ [s] ++ t) with
      | none => simpa using ih
      | some t =>
        obtain ⟨y, ys, hy⟩ : ∃ y ys, ts ++ [s] ++ t = y :: ys := by
          cases ts with
          | nil => exact ⟨s, t, rfl⟩
          | cons a b => exact ⟨a, b ++ [s] ++ t, rfl⟩
        have hz : ts ++ s :: t = y :: ys := by rw [← hy]; simp
        simp only [Option.map_some, Option.some_or, hz, hy]
    · rw [List.filter_cons, if_neg (by simpa using h)]
      rw [wsubL, if_neg (by omega)]
      exact ih

theorem wsearch_succ (P : List Int → Bool) (ts : List Int) (k : Nat) {left : Int} (h0 : 0 ≤ left) : wsearchL P ts (k + 1) left = woverL P ts k left tries := by
  rw [wsearchL, stks]
  exact wsearch_flat P ts k h0 tries

theorem wover_skip {P : List Int → Bool} {ts : List Int} {k : Nat} {left s : Int} {l : List Int} (h : wsubL P ts k left s = []) : woverL P ts k left (s :: l) = woverL P ts k left l := by
  rw [woverL, h]

theorem wover_stop {P : List Int → Bool} {ts : List Int} {k : Nat} {left s : Int} {l : List Int} (h : 0 < (wsubL P ts k left s).length) : woverL P ts k left (s :: l) = wsubL P ts k left s := by
  rw [woverL]
  cases hx : wsubL P ts k left s with
  | nil => rw [hx] at h; exact absurd h (Nat.lt_irrefl 0)
  | cons y ys => rfl

theorem wsub_far {P : List Int → Bool} {ts : List Int} {k : Nat} {left s : Int} (h : left < (s.natAbs : Int)) : wsubL P ts k left s = [] := by
  rw [wsubL, if_neg (by omega)]

theorem wsub_near {P : List Int → Bool} {ts : List Int} {k : Nat} {left s : Int} (h : (s.natAbs : Int) ≤ left) : wsubL P ts k left s = wsearchL P (ts ++ [s]) k (left - s.natAbs) := by
  rw [wsubL, if_pos h]

theorem wsearch_len {P : List Int → Bool} {ts : List Int} {k : Nat} {left : Int} : (wsearchL P ts k left).length = 0 ∨ (wsearchL P ts k left).length = ts.length + k := by
  unfold wsearchL
  split
  · rename_i t ht
    have := ((mem_stks _ _ _).1 (List.mem_of_find?_eq_some ht)).1
    exact .inr (by rw [List.length_append, this])
  · exact .inl rfl

def winIn (P : List Int → Bool) (n0 : Nat) (sum : Nat) : Option (List Int) := (stks n0 sum).find? P

/-- the first losing stakes from such a sum on, so many sums -/
def winFrom (P : List Int → Bool) (n0 : Nat) : Nat → Nat → Option (List Int)
  | _, 0 => none
  | sum, n + 1 => match winIn P n0 sum with
    | some ss => some ss
    | none => winFrom P n0 (sum + 1) n

theorem winIn_some {P : List Int → Bool} {n0 : Nat} {sum : Nat} {ss : List Int} (h : winIn P n0 sum = some ss) : ss.length = n0 ∧ Two2 ss ∧ absSum ss = sum ∧ P ss = true := by
  have h1 := (mem_stks _ _ _).1 (List.mem_of_find?_eq_some h)
  have h2 := List.find?_some h
  exact ⟨h1.1, h1.2.1, h1.2.2, h2⟩

theorem winIn_none {P : List Int → Bool} {n0 : Nat} {sum : Nat} (h : winIn P n0 sum = none) {ss : List Int} (h1 : ss.length = n0) (h2 : Two2 ss) (h3 : absSum ss = sum) : P ss = false := by
  have := List.find?_eq_none.1 h ss ((mem_stks _ _ _).2 ⟨h1, h2, h3⟩)
  simpa using this

theorem winFrom_some {P : List Int → Bool} {n0 : Nat} {sum n : Nat} {ss : List Int} (h : winFrom P n0 sum n = some ss) :
    ss.length = n0 ∧ Two2 ss ∧ P ss = true ∧ (sum ≤ absSum ss ∧ absSum ss < sum + n) ∧ ∀ tt : List Int, tt.length = n0 → Two2 tt → sum ≤ absSum tt → absSum tt < absSum ss → P tt = false := by
  induction n generalizing sum with
  | zero => cases h
  | succ n ih =>
    unfold winFrom at h
    split at h
    · rename_i s hs
      obtain rfl := Option.some.inj h
      obtain ⟨h1, h2, h3, h4⟩ := winIn_some hs
      exact ⟨h1, h2, h4, by omega, fun tt _ _ _ _ => by omega⟩
    · rename_i hs
      obtain ⟨h1, h2, h3, h4, h5⟩ := ih h
      refine ⟨h1, h2, h3, by omega, fun tt t1 t2 t3 t4 => ?_⟩
      rcases Nat.eq_or_lt_of_le t3 with h6 | h6
      · exact winIn_none hs t1 t2 h6.symm
      · exact h5 tt t1 t2 h6 t4

theorem winFrom_none {P : List Int → Bool} {n0 : Nat} {sum n : Nat} (h : winFrom P n0 sum n = none) (tt : List Int) (t1 : tt.length = n0) (t2 : Two2 tt) (t3 : sum ≤ absSum tt) (t4 : absSum tt < sum + n) : P tt = false := by
  induction n generalizing sum with
  | zero => omega
  | succ n ih =>
    unfold winFrom at h
    split at h
    · cases h
    · rename_i hs
      rcases Nat.eq_or_lt_of_le t3 with h6 | h6
      · exact winIn_none hs t1 t2 h6.symm
      · exact ih h h6 (by omega)

def winning (n : Int) (bs : List Bt) : Option (List Int) := if bidsB n bs = true then winFrom (winB n bs) bs.length 1 6 else none

theorem zero_wins {n : Int} {bs : List Bt} {ss : List Int} (hb : tgB n bs ss = true) (h : absSum ss = 0) : winB n bs ss = false := by
  rw [← Bool.not_eq_true, winB, Bool.and_eq_true, decide_eq_true_eq, tg_yes hb]
  rintro ⟨h1, h2⟩
  obtain ⟨k, -, e⟩ := List.mem_map.1 (worst_least h1).1
  rw [absSum_zero h] at e
  omega

theorem winning_some {n : Int} {bs : List Bt} {ss : List Int} (h : winning n bs = some ss) : bidsB n bs = true ∧ ss.length = bs.length ∧ Two2 ss ∧ winB n bs ss = true ∧ 1 ≤ absSum ss ∧
    ∀ tt : List Int, tt.length = bs.length → Two2 tt → absSum tt < absSum ss → winB n bs tt = false := by
  unfold winning at h
  split at h
  · rename_i hb
    obtain ⟨h1, h2, h3, h4, h5⟩ := winFrom_some h
    refine ⟨hb, h1, h2, h3, h4.1, fun tt t1 t2 t3 => ?_⟩
    rcases Nat.eq_zero_or_pos (absSum tt) with h0 | h0
    · exact zero_wins (tg_two hb t1 t2) h0
    · exact h5 tt t1 t2 h0 t3
  · cases h

theorem winning_none {n : Int} {bs : List Bt} (hb : bidsB n bs = true) (h : winning n bs = none) (tt : List Int) (t1 : tt.length = bs.length) (t2 : Two2 tt) : winB n bs tt = false := by
  unfold winning at h
  rw [if_pos hb] at h
  rcases Nat.eq_zero_or_pos (absSum tt) with h0 | h0
  · exact zero_wins (tg_two hb t1 t2) h0
  · have := absSum_le t2
    have := ((bidsB_iff _ _).1 hb).2.1
    exact winFrom_none h tt t1 t2 h0 (by omega)

/-- either there is a measure, or there are stakes -/
theorem winning_fair {w : Nat} {bs : List Bt} (hb : bidsB (w : Int) bs = true) : (winning (w : Int) bs).isSome = !anyS w bs := by
  cases h : winning (w : Int) bs with
  | none =>
    rcases dual_side hb with h1 | ⟨ss, h1, h2, h3⟩
    · rw [h1]; rfl
    · rw [winning_none hb h ss h1 h2] at h3; cases h3
  | some ss =>
    obtain ⟨-, h1, h2, h3, -, -⟩ := winning_some h
    rw [win_two hb h1 h2, decide_eq_true_eq] at h3
    rw [weak_side (tg_two hb h1 h2) h3]; rfl

/-- no stake may be nearer to 0 by one -/
theorem wnearer_no {n : Int} {bs : List Bt} {ss : List Int} (h : winning n bs = some ss) {k : Nat} {s : Int} (hs : ss[k]? = some s) (h0 : s ≠ 0) : (ss.set k (nearer s)).length = bs.length ∧ Two2 (ss.set k (nearer s)) ∧ winB n bs (ss.set k (nearer s)) = false := by
  obtain ⟨hb, h1, h2, h3, h4, h5⟩ := winning_some h
  have key : ∀ (ss : List Int) (k : Nat), ss[k]? = some s → absSum (ss.set k (nearer s)) + 1 = absSum ss := by
    intro ss
    induction ss with
    | nil => intro k hk; simp at hk
    | cons x ss ih =>
      intro k hk
      cases k with
      | zero =>
        simp at hk
        subst hk
        show (nearer x).natAbs + absSum ss + 1 = x.natAbs + absSum ss
        unfold nearer
        split <;> omega
      | succ k =>
        simp only [List.getElem?_cons_succ] at hk
        have := ih k hk
        show x.natAbs + absSum (ss.set k (nearer s)) + 1 = x.natAbs + absSum ss
        omega
  have hk := key ss k hs
  have hl : (ss.set k (nearer s)).length = bs.length := by rw [List.length_set]; exact h1
  have ht : Two2 (ss.set k (nearer s)) := fun x hx => by
    rcases List.mem_or_eq_of_mem_set hx with h6 | h6
    · exact h2 x h6
    · subst h6
      have := h2 s (List.mem_of_getElem? hs)
      unfold nearer
      split <;> omega
  exact ⟨hl, ht, h5 _ hl ht (by omega)⟩

/-- what is handed back -/
def winR (n : Int) (bs : List Bt) : List Int := (winning n bs).getD []

def winOk (n : Int) (bs : List Bt) : Bool := (winning n bs).isSome

theorem win_no {n : Int} {bs : List Bt} (h : bidsB n bs = false) : winR n bs = [] ∧ winOk n bs = false := by
  rw [winR, winOk, winning, h]; exact ⟨rfl, rfl⟩

theorem win_yes {n : Int} {bs : List Bt} (h : bidsB n bs = true) : winning n bs = winFrom (winB n bs) bs.length 1 6 := by rw [winning, if_pos h]

theorem win_got {n : Int} {bs : List Bt} (h : winOk n bs = true) : winning n bs = some (winR n bs) := by
  rw [winOk] at h
  rw [winR]
  cases hl : winning n bs with
  | none => rw [hl] at h; cases h
  | some ss => rfl

/-- the search from nothing on is the first winning stakes of this sum -/
theorem wsearch_in {P : List Int → Bool} {k sum : Nat} (h1 : 1 ≤ sum) : winIn P k sum = if 0 < (wsearchL P [] k (sum : Int)).length then some (wsearchL P [] k (sum : Int)) else none := by
  rw [wsearchL, winIn, Int.toNat_natCast]
  show _ = _
  simp only [List.nil_append]
  cases hf : (stks k sum).find? fun t => P t with
  | none => rfl
  | some t =>
    have h2 := ((mem_stks _ _ _).1 (List.mem_of_find?_eq_some hf)).2.2
    have : 0 < t.length := by
      cases t with
      | nil => simp [absSum] at h2; omega
      | cons a b => simp
    simp [this]

theorem win_step {P : List Int → Bool} {k sum m : Nat} : winFrom P k sum (m + 1) = match winIn P k sum with
    | some ss => some ss
    | none => winFrom P k (sum + 1) m := rfl

/-! bounds -/

def SFitL (w : Nat) (bs : List Bt) (l : List Nat) : Prop := l ∈ lay w 36 ∧ sfitI (natL l) bs = true

theorem sany_iff (w : Nat) (bs : List Bt) : anyS w bs = true ↔ ∃ l, SFitL w bs l := by
  unfold anyS SFitL
  rw [List.any_eq_true]

/-- the least f of the ways in a list that fit, -1 before one is found -/
def sleastF (bs : List Bt) (f : List Nat → Int) (best : Int) (l : List Nat) : Int := if (sfitI (natL l) bs && (decide (best < 0) || decide (f l < best))) = true then f l else best

def smostF (bs : List Bt) (f : List Nat → Int) (best : Int) (l : List Nat) : Int := if sfitI (natL l) bs = true then max best (f l) else best

def sleastI (w : Nat) (bs : List Bt) (e : Int) : Int := (lay w 36).foldl (sleastF bs fun l => onI (natL l) e) (-1)

def smostI (w : Nat) (bs : List Bt) (e : Int) : Int := (lay w 36).foldl (smostF bs fun l => onI (natL l) e) (-1)

theorem sleast_fold (bs : List Bt) (f : List Nat → Int) (hf : ∀ l, 0 ≤ f l) (L : List (List Nat)) (b : Int) :
    (L.foldl (sleastF bs f) b = b ∨ ∃ l ∈ L, sfitI (natL l) bs = true ∧ L.foldl (sleastF bs f) b = f l) ∧ (∀ l ∈ L, sfitI (natL l) bs = true → 0 ≤ L.foldl (sleastF bs f) b ∧ L.foldl (sleastF bs f) b ≤ f l) ∧ (0 ≤ b → L.foldl (sleastF bs f) b ≤ b ∧ 0 ≤ L.foldl (sleastF bs f) b) := by
  induction L generalizing b with
  | nil => exact ⟨.inl rfl, fun l hl => (by cases hl), fun h => ⟨Int.le_refl _, h⟩⟩
  | cons x L ih =>
    obtain ⟨h1, h2, h3⟩ := ih (sleastF bs f b x)
    simp only [List.foldl_cons]
    by_cases hx : sfitI (natL x) bs = true
    · have hb : 0 ≤ sleastF bs f b x ∧ sleastF bs f b x ≤ f x ∧ (0 ≤ b → sleastF bs f b x ≤ b) ∧ (sleastF bs f b x = b ∨ sleastF bs f b x = f x) := by
        have := hf x
        unfold sleastF
        rw [hx]
        simp only [Bool.true_and, Bool.or_eq_true, decide_eq_true_eq]
        split <;> omega
      obtain ⟨k1, k2⟩ := h3 hb.1
      refine ⟨?_, fun l hl hfl => ?_, fun h => ⟨by have := hb.2.2.1 h; omega, k2⟩⟩
      · rcases h1 with h1 | ⟨l, hl, hfl, h1⟩
        · rcases hb.2.2.2 with h4 | h4
          · exact .inl (h1.trans h4)
          · exact .inr ⟨x, by simp, hx, h1.trans h4⟩
        · exact .inr ⟨l, by simp [hl], hfl, h1⟩
      · rcases List.mem_cons.1 hl with rfl | hl
        · omega
        · exact h2 l hl hfl
    · have hb : sleastF bs f b x = b := by
        unfold sleastF
        rw [show sfitI (natL x) bs = false from by simpa using hx]; rfl
      rw [hb] at h1 h2 h3 ⊢
      refine ⟨?_, fun l hl hfl => ?_, h3⟩
      · rcases h1 with h1 | ⟨l, hl, hfl, h1⟩
        · exact .inl h1
        · exact .inr ⟨l, by simp [hl], hfl, h1⟩
      · rcases List.mem_cons.1 hl with rfl | hl
        · exact absurd hfl hx
        · exact h2 l hl hfl

theorem smost_fold (bs : List Bt) (f : List Nat → Int) (L : List (List Nat)) (b : Int) :
    (L.foldl (smostF bs f) b = b ∨ ∃ l ∈ L, sfitI (natL l) bs = true ∧ L.foldl (smostF bs f) b = f l) ∧ (∀ l ∈ L, sfitI (natL l) bs = true → f l ≤ L.foldl (smostF bs f) b) ∧ b ≤ L.foldl (smostF bs f) b := by
  induction L generalizing b with
  | nil => exact ⟨.inl rfl, fun l hl => (by cases hl), Int.le_refl _⟩
  | cons x L ih =>
    obtain ⟨h1, h2, h3⟩ := ih (smostF bs f b x)
    simp only [List.foldl_cons]
    by_cases hx : sfitI (natL x) bs = true
    · have hb : b ≤ smostF bs f b x ∧ f x ≤ smostF bs f b x ∧ (smostF bs f b x = b ∨ smostF bs f b x = f x) := by
        unfold smostF
        rw [if_pos hx]; omega
      refine ⟨?_, fun l hl hfl => ?_, by omega⟩
      · rcases h1 with h1 | ⟨l, hl, hfl, h1⟩
        · rcases hb.2.2 with h4 | h4
          · exact .inl (h1.trans h4)
          · exact .inr ⟨x, by simp, hx, h1.trans h4⟩
        · exact .inr ⟨l, by simp [hl], hfl, h1⟩
      · rcases List.mem_cons.1 hl with rfl | hl
        · omega
        · exact h2 l hl hfl
    · have hb : smostF bs f b x = b := by
        unfold smostF
        rw [if_neg hx]
      rw [hb] at h1 h2 h3 ⊢
      refine ⟨?_, fun l hl hfl => ?_, h3⟩
      · rcases h1 with h1 | ⟨l, hl, hfl, h1⟩
        · exact .inl h1
        · exact .inr ⟨l, by simp [hl], hfl, h1⟩
      · rcases List.mem_cons.1 hl with rfl | hl
        · exact absurd hfl hx
        · exact h2 l hl hfl

theorem sleast_some {w : Nat} {bs : List Bt} (h : anyS w bs = true) (e : Int) : (∃ l, SFitL w bs l ∧ sleastI w bs e = onI (natL l) e) ∧ (∀ l, SFitL w bs l → sleastI w bs e ≤ onI (natL l) e) ∧ 0 ≤ sleastI w bs e := by
  obtain ⟨l0, hl0, hf0⟩ := (sany_iff w bs).1 h
  obtain ⟨h1, h2, -⟩ := sleast_fold bs (fun l => onI (natL l) e) (fun l => on_nonneg l e) (lay w 36) (-1)
  refine ⟨?_, fun l hl => (h2 l hl.1 hl.2).2, (h2 l0 hl0 hf0).1⟩
  rcases h1 with h1 | ⟨l, hl, hfl, h1⟩
  · have := (h2 l0 hl0 hf0).1
    omega
  · exact ⟨l, ⟨hl, hfl⟩, h1⟩

theorem sleast_none {w : Nat} {bs : List Bt} (h : anyS w bs = false) (e : Int) : sleastI w bs e = -1 := by
  obtain ⟨h1, -, -⟩ := sleast_fold bs (fun l => onI (natL l) e) (fun l => on_nonneg l e) (lay w 36) (-1)
  rcases h1 with h1 | ⟨l, hl, hfl, -⟩
  · exact h1
  · rw [(sany_iff w bs).2 ⟨l, hl, hfl⟩] at h; cases h

theorem smost_some {w : Nat} {bs : List Bt} (h : anyS w bs = true) (e : Int) : (∃ l, SFitL w bs l ∧ smostI w bs e = onI (natL l) e) ∧ (∀ l, SFitL w bs l → onI (natL l) e ≤ smostI w bs e) := by
  obtain ⟨l0, hl0, hf0⟩ := (sany_iff w bs).1 h
  obtain ⟨h1, h2, -⟩ := smost_fold bs (fun l => onI (natL l) e) (lay w 36) (-1)
  refine ⟨?_, fun l hl => h2 l hl.1 hl.2⟩
  rcases h1 with h1 | ⟨l, hl, hfl, h1⟩
  · have h3 : onI (natL l0) e ≤ smostI w bs e := h2 l0 hl0 hf0
    have h4 : smostI w bs e = -1 := h1
    have := on_nonneg l0 e
    omega
  · exact ⟨l, ⟨hl, hfl⟩, h1⟩

theorem smost_none {w : Nat} {bs : List Bt} (h : anyS w bs = false) (e : Int) : smostI w bs e = -1 := by
  obtain ⟨h1, -, -⟩ := smost_fold bs (fun l => onI (natL l) e) (lay w 36) (-1)
  rcases h1 with h1 | ⟨l, hl, hfl, -⟩
  · exact h1
  · rw [(sany_iff w bs).2 ⟨l, hl, hfl⟩] at h; cases h

theorem sfit_len {w : Nat} (h1 : 1 ≤ w) {bs : List Bt} {l : List Nat} (h : SFitL w bs l) : l.length = w ∧ l.sum = 36 := by
  obtain ⟨v, rfl⟩ : ∃ v, w = v + 1 := ⟨w - 1, by omega⟩
  exact (mem_lay _ _ _).1 h.1

/-- the bounds of an event tell those of its other -/
theorem sleast_most {w : Nat} (h1 : 1 ≤ w) {bs : List Bt} (h : anyS w bs = true) {e : Int} (he : evB (w : Int) e = true) : sleastI w bs e + smostI w bs (notI (w : Int) e) = 36 := by
  have key : ∀ l, SFitL w bs l → onI (natL l) e + onI (natL l) (notI (w : Int) e) = 36 := by
    intro l hl
    obtain ⟨hlen, hs⟩ := sfit_len h1 hl
    have := on_notI (m := natL l) (w := (w : Int)) (by rw [natL_len, hlen]) he
    rw [natL_sum, hs] at this
    exact this
  obtain ⟨⟨l, hl, el⟩, hle, -⟩ := sleast_some h e
  obtain ⟨⟨m, hm, em⟩, hmo⟩ := smost_some h (notI (w : Int) e)
  have := key l hl
  have := key m hm
  have := hle m hm
  have := hmo l hl
  omega

end Go.Proofs.Ytodmgcbcacblbaa
