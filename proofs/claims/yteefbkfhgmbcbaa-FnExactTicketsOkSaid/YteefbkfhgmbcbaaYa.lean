/- The facts of chapter 10: pools of tickets, what is paid out, what is taken. A ticket is a pair: its world, what is paid. No condition. -/
import Derived.Test.YteefbkfhgmbcbaaQm
namespace Go.Proofs.Yteefbkfhgmbcbaa
set_option linter.unusedVariables false

/-! tickets -/

def tkOne (w : Int) (t : Qt) : Bool := inB t.1 0 (w - 1) && inB t.2 1 50

def tkB (w : Int) (ts : List Qt) : Bool := inB w 1 4 && (decide (ts.length ≤ 6) && ts.all (tkOne w))

theorem tkOne_iff (w : Int) (t : Qt) : tkOne w t = true ↔ 0 ≤ t.1 ∧ t.1 ≤ w - 1 ∧ 1 ≤ t.2 ∧ t.2 ≤ 50 := by
  rw [tkOne, Bool.and_eq_true, inB_iff, inB_iff, and_assoc]

theorem tkB_iff (w : Int) (ts : List Qt) : tkB w ts = true ↔ 1 ≤ w ∧ w ≤ 4 ∧ ts.length ≤ 6 ∧ ∀ t ∈ ts, tkOne w t = true := by
  rw [tkB, Bool.and_eq_true, Bool.and_eq_true, inB_iff, decide_eq_true_eq, List.all_eq_true, and_assoc]

theorem tkB_take {w : Int} {ts : List Qt} (h : tkB w ts = true) (k : Nat) : tkB w (ts.take k) = true := by
  rw [tkB_iff] at h ⊢
  obtain ⟨h1, h2, h3, h4⟩ := h
  exact ⟨h1, h2, by rw [List.length_take]; omega, fun t ht => h4 t (List.mem_of_mem_take ht)⟩

theorem tkB_nil {w : Int} : tkB w [] = inB w 1 4 := by simp [tkB]

/-- what is paid for all -/
def sum2 : List Qt → Int
  | [] => 0
  | t :: ts => t.2 + sum2 ts

/-- what is paid on a world -/
def onW : List Qt → Int → Int
  | [], _ => 0
  | t :: ts, x => (if t.1 = x then t.2 else 0) + onW ts x

def poolR (w : Int) (ts : List Qt) : Int := if tkB w ts = true then sum2 ts else -1

def paidL (w : Int) (ts : List Qt) : List Int := (List.range w.toNat).map fun k : Nat => onW ts (k : Int)

def paidR (w : Int) (ts : List Qt) : List Int := if tkB w ts = true then paidL w ts else []

theorem paid_len (w : Int) (ts : List Qt) : (paidL w ts).length = w.toNat := by simp [paidL]

theorem paid_at {w : Int} {ts : List Qt} {k : Nat} (h : k < w.toNat) : (paidL w ts)[k]? = some (onW ts (k : Int)) := by simp [paidL, h]

theorem sum2_app (a b : List Qt) : sum2 (a ++ b) = sum2 a + sum2 b := by
  induction a with
  | nil => simp [sum2]
  | cons t a ih => simp only [List.cons_append, sum2, ih]; omega

theorem onW_app (a b : List Qt) (x : Int) : onW (a ++ b) x = onW a x + onW b x := by
  induction a with
  | nil => simp [onW]
  | cons t a ih => simp only [List.cons_append, onW, ih]; omega

theorem take_snoc10 {ts : List Qt} {k : Nat} {t : Qt} (h : ts[k]? = some t) : ts.take (k + 1) = ts.take k ++ [t] := by
  rw [List.take_add_one, h, Option.toList_some]

theorem sum2_take {ts : List Qt} {k : Nat} {t : Qt} (h : ts[k]? = some t) : sum2 (ts.take (k + 1)) = sum2 (ts.take k) + t.2 := by
  rw [take_snoc10 h, sum2_app]; simp [sum2]

theorem onW_take {ts : List Qt} {k : Nat} {t : Qt} (h : ts[k]? = some t) (x : Int) : onW (ts.take (k + 1)) x = onW (ts.take k) x + (if t.1 = x then t.2 else 0) := by
  rw [take_snoc10 h, onW_app]; simp [onW]

/-- each number is from 1 to 50 -/
def Pays (ts : List Qt) : Prop := ∀ t ∈ ts, 1 ≤ t.2 ∧ t.2 ≤ 50

theorem pays_of {w : Int} {ts : List Qt} (h : tkB w ts = true) : Pays ts := fun t ht => ((tkOne_iff w t).1 (((tkB_iff w ts).1 h).2.2.2 t ht)).2.2

theorem Pays.tail {t : Qt} {ts : List Qt} (h : Pays (t :: ts)) : Pays ts := fun x hx => h x (List.mem_cons_of_mem _ hx)

theorem Pays.take {ts : List Qt} (h : Pays ts) (k : Nat) : Pays (ts.take k) := fun x hx => h x (List.mem_of_mem_take hx)

theorem sum2_bound {ts : List Qt} (h : Pays ts) : 0 ≤ sum2 ts ∧ sum2 ts ≤ 50 * ts.length := by
  induction ts with
  | nil => simp [sum2]
  | cons t ts ih =>
    have h1 := ih h.tail
    have h2 := h t (by simp)
    simp only [sum2, List.length_cons]
    push_cast
    omega

theorem onW_bound {ts : List Qt} (h : Pays ts) (x : Int) : 0 ≤ onW ts x ∧ onW ts x ≤ sum2 ts := by
  induction ts with
  | nil => simp [onW, sum2]
  | cons t ts ih =>
    have h1 := ih h.tail
    have h2 := h t (by simp)
    simp only [onW, sum2]
    split <;> omega

theorem onW_pos {ts : List Qt} (h : Pays ts) {t : Qt} (ht : t ∈ ts) : 1 ≤ onW ts t.1 := by
  induction ts with
  | nil => cases ht
  | cons u ts ih =>
    have h1 := (onW_bound h.tail t.1).1
    have h2 := h u (by simp)
    simp only [onW]
    rcases List.mem_cons.1 ht with e | ht
    · subst e; rw [if_pos rfl]; omega
    · have := ih h.tail ht
      split <;> omega

theorem onW_none {ts : List Qt} (h : Pays ts) {x : Int} (h0 : onW ts x = 0) {t : Qt} (ht : t ∈ ts) : t.1 ≠ x := by
  intro e
  subst e
  have := onW_pos h ht
  omega

/-- all worlds together -/
theorem paid_sum {w : Int} (hw : 1 ≤ w ∧ w ≤ 4) {ts : List Qt} (h : ∀ t ∈ ts, 0 ≤ t.1 ∧ t.1 ≤ w - 1) : (paidL w ts).sum = sum2 ts := by
  induction ts with
  | nil =>
    obtain rfl | rfl | rfl | rfl : w = 1 ∨ w = 2 ∨ w = 3 ∨ w = 4 := by omega
    all_goals (simp [paidL, onW, sum2, List.range, List.range.loop])
  | cons t ts ih =>
    have h1 := ih (fun x hx => h x (List.mem_cons_of_mem _ hx))
    have h2 := h t (by simp)
    obtain ⟨a, p⟩ := t
    dsimp only at h2
    obtain rfl | rfl | rfl | rfl : w = 1 ∨ w = 2 ∨ w = 3 ∨ w = 4 := by omega
    · obtain rfl : a = 0 := by omega
      simp [paidL, sum2, onW, List.range, List.range.loop] at h1 ⊢; omega
    · obtain rfl | rfl : a = 0 ∨ a = 1 := by omega
      all_goals (simp [paidL, sum2, onW, List.range, List.range.loop] at h1 ⊢; omega)
    · obtain rfl | rfl | rfl : a = 0 ∨ a = 1 ∨ a = 2 := by omega
      all_goals (simp [paidL, sum2, onW, List.range, List.range.loop] at h1 ⊢; omega)
    · obtain rfl | rfl | rfl | rfl : a = 0 ∨ a = 1 ∨ a = 2 ∨ a = 3 := by omega
      all_goals (simp [paidL, sum2, onW, List.range, List.range.loop] at h1 ⊢; omega)

/-! what is paid out -/

def shareI (pool on : Int) (x : Int) (t : Qt) : Int := if on = 0 then t.2 else if t.1 = x then t.2 * pool / on else 0

def shareL (ts : List Qt) (x : Int) : List Int := ts.map (shareI (sum2 ts) (onW ts x) x)

/-- the rest is handed out, one each, to the first ones on the world -/
def hand (x : Int) : List Qt → List Int → Int → List Int
  | t :: ts, s :: ss, l => if 0 < l ∧ t.1 = x then (s + 1) :: hand x ts ss (l - 1) else s :: hand x ts ss l
  | _, ss, _ => ss

/-- how many are on the world -/
def cntW : List Qt → Int → Int
  | [], _ => 0
  | t :: ts, x => (if t.1 = x then 1 else 0) + cntW ts x

theorem cntW_nonneg (ts : List Qt) (x : Int) : 0 ≤ cntW ts x := by
  induction ts with
  | nil => simp [cntW]
  | cons t ts ih => simp only [cntW]; split <;> omega

def leftI (ts : List Qt) (x : Int) : Int := sum2 ts - (shareL ts x).sum

def outL (ts : List Qt) (x : Int) : List Int := hand x ts (shareL ts x) (leftI ts x)

def outB (w : Int) (ts : List Qt) (x : Int) : Bool := tkB w ts && inB x 0 (w - 1)

def outR (w : Int) (ts : List Qt) (x : Int) : List Int := if outB w ts x = true then outL ts x else []

theorem hand_len (x : Int) (ts : List Qt) (ss : List Int) (l : Int) : (hand x ts ss l).length = ss.length := by
  induction ts generalizing ss l with
  | nil => rfl
  | cons t ts ih =>
    cases ss with
    | nil => rfl
    | cons s ss => rw [hand]; split <;> simp [ih]

theorem share_len (ts : List Qt) (x : Int) : (shareL ts x).length = ts.length := by simp [shareL]

theorem out_len (ts : List Qt) (x : Int) : (outL ts x).length = ts.length := by rw [outL, hand_len, share_len]

/-- nothing is left, nothing is handed out -/
theorem hand_zero (x : Int) (ts : List Qt) (ss : List Int) (l : Int) (h : l ≤ 0) : hand x ts ss l = ss := by
  induction ts generalizing ss with
  | nil => rfl
  | cons t ts ih =>
    cases ss with
    | nil => rfl
    | cons s ss => rw [hand, if_neg (by omega), ih]

theorem hand_sum (x : Int) (ts : List Qt) (ss : List Int) (l : Int) (hl : ss.length = ts.length) (h0 : 0 ≤ l) (h1 : l ≤ cntW ts x) : (hand x ts ss l).sum = ss.sum + l := by
  induction ts generalizing ss l with
  | nil =>
    have : ss = [] := List.eq_nil_of_length_eq_zero hl
    subst this
    simp only [cntW] at h1
    simp [hand]; omega
  | cons t ts ih =>
    cases ss with
    | nil => simp at hl
    | cons s ss =>
      rw [hand]
      have hl' : ss.length = ts.length := by simpa using hl
      simp only [cntW] at h1
      split
      · next h => 
        rw [if_pos h.2] at h1
        rw [List.sum_cons, ih ss (l - 1) hl' (by omega) (by omega), List.sum_cons]; omega
      · next h =>
        have hc := cntW_nonneg ts x
        rw [List.sum_cons, ih ss l hl' h0 (by split at h1 <;> omega), List.sum_cons]; omega

/-- each gets its share, or one more; more only on the world; and the first ones before -/
theorem hand_at (x : Int) (ts : List Qt) (ss : List Int) (l : Int) {k : Nat} {t : Qt} {s : Int} (ht : ts[k]? = some t) (hs : ss[k]? = some s) : (hand x ts ss l)[k]? = some (if 0 < l - cntW (ts.take k) x ∧ t.1 = x then s + 1 else s) := by
  induction ts generalizing ss l k with
  | nil => simp at ht
  | cons u ts ih =>
    cases ss with
    | nil => simp at hs
    | cons r ss =>
      rw [hand]
      cases k with
      | zero =>
        obtain rfl : u = t := by simpa using ht
        obtain rfl : r = s := by simpa using hs
        simp only [List.take_zero, cntW, Int.sub_zero]
        split <;> simp
      | succ k =>
        have ht' : ts[k]? = some t := by simpa using ht
        have hs' : ss[k]? = some s := by simpa using hs
        split
        · next h =>
          rw [List.getElem?_cons_succ, ih ss (l - 1) ht' hs']
          simp only [List.take_succ_cons, cntW, if_pos h.2]
          rw [show l - 1 - cntW (ts.take k) x = l - (1 + cntW (ts.take k) x) from by omega]
        · next h =>
          rw [List.getElem?_cons_succ, ih ss l ht' hs']
          simp only [List.take_succ_cons, cntW]
          have hc := cntW_nonneg (ts.take k) x
          by_cases hu : u.1 = x
          · have hl : l ≤ 0 := by
              rcases (show 0 < l ∨ l ≤ 0 from by omega) with h1 | h1
              · exact absurd ⟨h1, hu⟩ h
              · exact h1
            rw [if_pos hu, if_neg (by omega), if_neg (by omega)]
          · rw [if_neg hu, Int.zero_add]

theorem share_at {ts : List Qt} {x : Int} {k : Nat} {t : Qt} (h : ts[k]? = some t) : (shareL ts x)[k]? = some (shareI (sum2 ts) (onW ts x) x t) := by rw [shareL, List.getElem?_map, h]; rfl

theorem out_at {ts : List Qt} {x : Int} {k : Nat} {t : Qt} (h : ts[k]? = some t) : (outL ts x)[k]? = some (if 0 < leftI ts x - cntW (ts.take k) x ∧ t.1 = x then shareI (sum2 ts) (onW ts x) x t + 1 else shareI (sum2 ts) (onW ts x) x t) := hand_at x ts _ _ h (share_at h)

/-- what is left is less than the number of tickets on the world -/
theorem left_part (pool on x : Int) (hon : 1 ≤ on) (hp : 0 ≤ pool) (ts : List Qt) (h : Pays ts) : 0 ≤ pool * onW ts x - on * (ts.map (shareI pool on x)).sum ∧ pool * onW ts x - on * (ts.map (shareI pool on x)).sum ≤ (on - 1) * cntW ts x := by
  induction ts with
  | nil => simp [onW, cntW]
  | cons t ts ih =>
    obtain ⟨h1, h2⟩ := ih h.tail
    have h3 := h t (by simp)
    simp only [List.map_cons, List.sum_cons, onW, cntW, shareI, if_neg (show ¬ on = 0 from by omega)]
    by_cases hx : t.1 = x
    · rw [if_pos hx, if_pos hx, if_pos hx]
      have e := Int.mul_ediv_add_emod (t.2 * pool) on
      have m0 := Int.emod_nonneg (t.2 * pool) (show on ≠ 0 from by omega)
      have m1 := Int.emod_lt_of_pos (t.2 * pool) (show 0 < on from by omega)
      generalize t.2 * pool / on = q at e
      generalize t.2 * pool % on = r at e m0 m1
      have e1 : pool * (t.2 + onW ts x) = t.2 * pool + pool * onW ts x := by rw [Int.mul_add, Int.mul_comm pool]
      have e2 : on * (q + (ts.map (shareI pool on x)).sum) = on * q + on * (ts.map (shareI pool on x)).sum := Int.mul_add _ _ _
      have e3 : (on - 1) * (1 + cntW ts x) = (on - 1) + (on - 1) * cntW ts x := by rw [Int.mul_add, Int.mul_one]
      rw [e1, e2, e3]
      omega
    · rw [if_neg hx, if_neg hx, if_neg hx, Int.zero_add, Int.zero_add, Int.zero_add]
      exact ⟨h1, h2⟩

theorem share_zero {ts : List Qt} {x : Int} (h : onW ts x = 0) : (shareL ts x).sum = sum2 ts := by
  have : ∀ us : List Qt, (us.map (shareI (sum2 ts) (onW ts x) x)).sum = sum2 us := by
    intro us
    induction us with
    | nil => rfl
    | cons t us ih => rw [List.map_cons, List.sum_cons, ih, shareI, if_pos h]; rfl
  exact this ts

theorem left_bound {ts : List Qt} (h : Pays ts) (x : Int) : 0 ≤ leftI ts x ∧ leftI ts x ≤ cntW ts x := by
  by_cases h0 : onW ts x = 0
  · rw [leftI, share_zero h0]
    have := cntW_nonneg ts x
    omega
  · have hb := onW_bound h x
    have hs := sum2_bound h
    obtain ⟨h1, h2⟩ := left_part (sum2 ts) (onW ts x) x (by omega) hs.1 ts h
    have hc := cntW_nonneg ts x
    unfold leftI shareL
    generalize (ts.map (shareI (sum2 ts) (onW ts x) x)).sum = S at h1 h2
    have e : sum2 ts * onW ts x - onW ts x * S = onW ts x * (sum2 ts - S) := by rw [Int.mul_sub, Int.mul_comm (sum2 ts)]
    rw [e] at h1 h2
    have hon : 1 ≤ onW ts x := by omega
    generalize onW ts x = on at h1 h2 hon
    constructor
    · exact Int.nonneg_of_mul_nonneg_right h1 (by omega)
    · have h3 : on * (sum2 ts - S) ≤ on * cntW ts x := by
        refine Int.le_trans h2 ?_
        exact Int.mul_le_mul_of_nonneg_right (by omega) hc
      exact Int.le_of_mul_le_mul_left h3 (by omega)

/-- the pool is paid out to the last -/
theorem out_sum {ts : List Qt} (h : Pays ts) (x : Int) : (outL ts x).sum = sum2 ts := by
  obtain ⟨h1, h2⟩ := left_bound h x
  rw [outL, hand_sum x ts _ _ (share_len ts x) h1 h2, leftI]; omega

theorem share_ge {ts : List Qt} (h : Pays ts) {x : Int} {t : Qt} (ht : t ∈ ts) : 0 ≤ shareI (sum2 ts) (onW ts x) x t ∧ (t.1 = x → t.2 ≤ shareI (sum2 ts) (onW ts x) x t) := by
  have hb := onW_bound h x
  have hs := sum2_bound h
  have h2 := h t ht
  unfold shareI
  split
  · exact ⟨by omega, fun _ => Int.le_refl _⟩
  · next h0 =>
    split
    · have hge : t.2 ≤ t.2 * sum2 ts / onW ts x := by
        apply Int.le_ediv_of_mul_le (by omega)
        exact Int.mul_le_mul_of_nonneg_left hb.2 (by omega)
      exact ⟨by omega, fun _ => hge⟩
    · next hx => exact ⟨Int.le_refl _, fun e => absurd e hx⟩

theorem out_ge {ts : List Qt} (h : Pays ts) {x : Int} {k : Nat} {t : Qt} (ht : ts[k]? = some t) : ∃ n, (outL ts x)[k]? = some n ∧ 0 ≤ n ∧ (t.1 = x → t.2 ≤ n) := by
  obtain ⟨h1, h2⟩ := share_ge h (x := x) (List.mem_of_getElem? ht)
  refine ⟨_, out_at ht, ?_, fun e => ?_⟩
  · split <;> omega
  · have := h2 e
    split <;> omega

theorem cntW_take_le (ts : List Qt) (x : Int) {j k : Nat} (h : j ≤ k) : cntW (ts.take j) x ≤ cntW (ts.take k) x := by
  induction ts generalizing j k with
  | nil => simp [cntW]
  | cons t ts ih =>
    cases j with
    | zero => rw [List.take_zero]; exact cntW_nonneg _ _
    | succ j =>
      cases k with
      | zero => omega
      | succ k =>
        have := ih (j := j) (k := k) (by omega)
        simp only [List.take_succ_cons, cntW]; omega

/-- of two on the world that paid as much the first one gets as much, or one more -/
theorem out_near {ts : List Qt} {x : Int} {j k : Nat} (hjk : j < k) {t u : Qt} (ht : ts[k]? = some t) (hu : ts[j]? = some u) (h1 : t.1 = x) (h2 : u.1 = x) (h3 : t.2 = u.2) : ∃ n m, (outL ts x)[k]? = some n ∧ (outL ts x)[j]? = some m ∧ n ≤ m ∧ m ≤ n + 1 := by
  refine ⟨_, _, out_at ht, out_at hu, ?_, ?_⟩
  all_goals
    have e : shareI (sum2 ts) (onW ts x) x t = shareI (sum2 ts) (onW ts x) x u := by unfold shareI; rw [h1, h2, h3]
    have hc := cntW_take_le ts x (Nat.le_of_lt hjk)
    rw [e]
    generalize shareI (sum2 ts) (onW ts x) x u = s
    split <;> split <;> omega

theorem sum_ge_at {xs : List Int} (h : ∀ x ∈ xs, 0 ≤ x) {k : Nat} {n : Int} (hk : xs[k]? = some n) : n ≤ xs.sum := by
  induction xs generalizing k with
  | nil => simp at hk
  | cons x xs ih =>
    have h1 := h x (by simp)
    have h2 : ∀ y ∈ xs, 0 ≤ y := fun y hy => h y (List.mem_cons_of_mem _ hy)
    have h3 : 0 ≤ xs.sum := by
      clear ih hk
      induction xs with
      | nil => simp
      | cons y ys ih2 => 
        rw [List.sum_cons]
        have := h2 y (by simp)
        have := ih2 (fun z hz => by rcases List.mem_cons.1 hz with e | e; · subst e; exact h1
                                    · exact h z (by simp [e])) (fun z hz => h2 z (List.mem_cons_of_mem _ hz))
        omega
    cases k with
    | zero => obtain rfl : x = n := by simpa using hk
              rw [List.sum_cons]; omega
    | succ k =>
      have := ih h2 (k := k) (by simpa using hk)
      rw [List.sum_cons]; omega

theorem out_all_nonneg {ts : List Qt} (h : Pays ts) (x : Int) : ∀ n ∈ outL ts x, 0 ≤ n := by
  intro n hn
  obtain ⟨k, hk⟩ := List.mem_iff_getElem?.1 hn
  have hl : k < ts.length := by rw [← out_len ts x]; exact (List.getElem?_eq_some_iff.1 hk).1
  obtain ⟨m, hm, h0, -⟩ := out_ge h (x := x) (List.getElem?_eq_getElem hl)
  rw [hm] at hk
  obtain rfl := Option.some.inj hk
  exact h0

theorem out_le {ts : List Qt} (h : Pays ts) (x : Int) {k : Nat} {n : Int} (hk : (outL ts x)[k]? = some n) : n ≤ sum2 ts := by
  rw [← out_sum h x]
  exact sum_ge_at (out_all_nonneg h x) hk

/-! what is taken -/

def takI (ts : List Qt) (a : Nat) (x : Int) : Int := (outL ts x).getD a 0 - (ts.getD a (0, 0)).2

def takL (w : Int) (ts : List Qt) (a : Nat) : List Int := (List.range w.toNat).map fun k : Nat => takI ts a (k : Int)

def takB (w : Int) (ts : List Qt) (a : Int) : Bool := tkB w ts && inB a 0 ((ts.length : Int) - 1)

def takR (w : Int) (ts : List Qt) (a : Int) : List Int := if takB w ts a = true then takL w ts a.toNat else []

theorem tak_len (w : Int) (ts : List Qt) (a : Nat) : (takL w ts a).length = w.toNat := by simp [takL]

theorem tak_at {w : Int} {ts : List Qt} {a k : Nat} (h : k < w.toNat) : (takL w ts a)[k]? = some (takI ts a (k : Int)) := by simp [takL, h]

theorem takB_iff (w : Int) (ts : List Qt) (a : Int) : takB w ts a = true ↔ tkB w ts = true ∧ 0 ≤ a ∧ a ≤ (ts.length : Int) - 1 := by
  rw [takB, Bool.and_eq_true, inB_iff]

theorem takI_is {ts : List Qt} {a : Nat} {t : Qt} (ht : ts[a]? = some t) {x n : Int} (hn : (outL ts x)[a]? = some n) : takI ts a x = n - t.2 := by
  rw [takI, List.getD_eq_getElem?_getD, hn, List.getD_eq_getElem?_getD, ht]; rfl

theorem tak_bound {ts : List Qt} (h : Pays ts) {a : Nat} {t : Qt} (ht : ts[a]? = some t) (x : Int) : -t.2 ≤ takI ts a x ∧ takI ts a x ≤ sum2 ts ∧ (t.1 = x → 0 ≤ takI ts a x) := by
  obtain ⟨n, hn, h0, h1⟩ := out_ge h (x := x) ht
  have h2 := out_le h x hn
  have h3 := h t (List.mem_of_getElem? ht)
  rw [takI_is ht hn]
  exact ⟨by omega, by omega, fun e => by have := h1 e; omega⟩

/-- in each world all tickets together bring nothing -/
theorem tak_sum {ts : List Qt} (h : Pays ts) (x : Int) : ((List.range ts.length).map fun k => takI ts k x).sum = 0 := by
  have key : ∀ n, n ≤ ts.length → ((List.range n).map fun k => takI ts k x).sum = ((outL ts x).take n).sum - sum2 (ts.take n) := by
    intro n
    induction n with
    | zero => intro _; simp [sum2]
    | succ n ih =>
      intro hn
      obtain ⟨t, ht⟩ : ∃ t, ts[n]? = some t := ⟨_, List.getElem?_eq_getElem hn⟩
      obtain ⟨m, hm, -⟩ := out_ge h (x := x) ht
      rw [List.range_succ, List.map_append, List.sum_append, ih (by omega), List.take_add_one, hm, Option.toList_some, List.sum_append, sum2_take ht]
      simp only [List.map_cons, List.map_nil, List.sum_cons, List.sum_nil, takI_is ht hm]
      omega
  have := key ts.length (Nat.le_refl _)
  rw [List.take_of_length_le (by rw [out_len]; exact Nat.le_refl _), List.take_length, out_sum h x] at this
  omega

/-- where all tickets are on other worlds, a ticket is lost -/
theorem tak_lost {ts : List Qt} (h : Pays ts) {a : Nat} {t : Qt} (ht : ts[a]? = some t) {x : Int} (hx : onW ts x ≠ 0) (hne : t.1 ≠ x) : takI ts a x = -t.2 := by
  have := out_at (x := x) ht
  rw [if_neg (fun e => hne e.2), shareI, if_neg hx, if_neg hne] at this
  rw [takI_is ht this]; omega

/-- where all tickets are on one world, each gets what it paid -/
theorem tak_same {ts : List Qt} (h : Pays ts) {a : Nat} {t : Qt} (ht : ts[a]? = some t) (hall : ∀ u ∈ ts, u.1 = t.1) : takI ts a t.1 = 0 := by
  have hon : onW ts t.1 = sum2 ts := by
    have : ∀ us : List Qt, (∀ u ∈ us, u.1 = t.1) → onW us t.1 = sum2 us := by
      intro us
      induction us with
      | nil => intro _; rfl
      | cons u us ih =>
        intro hu
        rw [onW, sum2, if_pos (hu u (by simp)), ih (fun v hv => hu v (List.mem_cons_of_mem _ hv))]
    exact this ts hall
  have hp := onW_pos h (List.mem_of_getElem? ht)
  have hb := tak_bound h ht t.1
  have h0 := hb.2.2 rfl
  -- all brings nothing together, and none brings less than nothing
  have hs := tak_sum h t.1
  have hl : a < ts.length := (List.getElem?_eq_some_iff.1 ht).1
  have hnn : ∀ y ∈ (List.range ts.length).map fun k => takI ts k t.1, 0 ≤ y := by
    intro y hy
    obtain ⟨k, hk, rfl⟩ := List.mem_map.1 hy
    have hk := List.mem_range.1 hk
    have hu : ts[k]? = some ts[k] := List.getElem?_eq_getElem hk
    exact (tak_bound h hu t.1).2.2 (hall _ (List.mem_of_getElem? hu))
  have := sum_ge_at hnn (k := a) (n := takI ts a t.1) (by simp [hl])
  omega

end Go.Proofs.Yteefbkfhgmbcbaa
