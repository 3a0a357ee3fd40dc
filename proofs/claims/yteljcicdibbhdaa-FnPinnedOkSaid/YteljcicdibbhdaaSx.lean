/- Either some measure fits, or some stakes surely lose: the table. No condition. Either some measure fits, or some stakes surely lose: the table for four worlds, a part. No condition. Either some measure fits, or some stakes surely lose: the table for four worlds, a part. No condition. Either some measure fits, or some stakes surely lose: the table for four worlds, a part. No condition. Either some measure fits, or some stakes surely lose: the table for four worlds, a part. No condition. Either some measure fits a book, or some stakes surely lose in it. No condition. The facts of the laws of chapter 5. No condition. Two prices for one event: the stakes, and what they lose. No condition. -/
import Derived.Test.YteljcicdibbhdaaMw
namespace Go.Proofs.Yteljcicdibbhdaa
set_option linter.unusedVariables false

/-- whether world k is one of the event -/
def bN (e k : Nat) : Nat := e / 2 ^ k % 2

/-- the stakes that are enough where no event holds world 0: what they bring and what they cost, apart -/
def trio : List ((Int × Int × Int) × (Nat → Nat → Nat → Nat) × (Nat → Nat → Nat → Nat)) :=
  [((1, 0, 0), (fun a _ _ => a), (fun _ _ _ => 0)), ((0, 1, 0), (fun _ b _ => b), (fun _ _ _ => 0)), ((0, 0, 1), (fun _ _ c => c), (fun _ _ _ => 0)),
    ((1, -1, 0), (fun a _ _ => a), (fun _ b _ => b)), ((-1, 1, 0), (fun _ b _ => b), (fun a _ _ => a)),
    ((1, 0, -1), (fun a _ _ => a), (fun _ _ c => c)), ((-1, 0, 1), (fun _ _ c => c), (fun a _ _ => a)),
    ((0, 1, -1), (fun _ b _ => b), (fun _ _ c => c)), ((0, -1, 1), (fun _ _ c => c), (fun _ b _ => b)),
    ((1, 1, 0), (fun a b _ => a + b), (fun _ _ _ => 0)), ((1, 0, 1), (fun a _ c => a + c), (fun _ _ _ => 0)), ((0, 1, 1), (fun _ b c => b + c), (fun _ _ _ => 0)),
    ((1, 1, -1), (fun a b _ => a + b), (fun _ _ c => c)), ((1, -1, 1), (fun a _ c => a + c), (fun _ b _ => b)), ((-1, 1, 1), (fun _ b c => b + c), (fun a _ _ => a)),
    ((1, -1, -1), (fun a _ _ => a), (fun _ b c => b + c)), ((-1, 1, -1), (fun _ b _ => b), (fun a _ c => a + c)), ((-1, -1, 1), (fun _ _ c => c), (fun a b _ => a + b)),
    ((1, 1, 1), (fun a b c => a + b + c), (fun _ _ _ => 0))]

/-- six times the most that stakes bring in a world, before prices -/
def topB (w e1 e2 e3 : Nat) (f g : Nat → Nat → Nat → Nat) : Nat :=
  (List.range w).foldl (fun m k => Nat.max m (6 * (f (bN e1 k) (bN e2 k) (bN e3 k) - g (bN e1 k) (bN e2 k) (bN e3 k)))) 0

def feasB (w e1 e2 e3 : Nat) : List Nat :=
  ((lay w 12).filter fun c => Nat.beq (onN c e1 % 2 + onN c e2 % 2 + onN c e3 % 2) 0).map fun c => onN c e1 / 2 + 7 * (onN c e2 / 2) + 49 * (onN c e3 / 2)

def hasN (n : Nat) : List Nat → Bool
  | [] => false
  | x :: l => Nat.beq x n || hasN n l

def dualF (f : List Nat) (t : List (Nat × (Nat → Nat → Nat → Nat) × (Nat → Nat → Nat → Nat))) : Bool :=
  (List.range 7).all fun p1 => (List.range 7).all fun p2 => (List.range 7).all fun p3 =>
    (t.any fun x => Nat.ble (x.1 + x.2.2 p1 p2 p3 + 1) (x.2.1 p1 p2 p3)) || hasN (p1 + 7 * p2 + 49 * p3) f

def dualB (w e1 e2 e3 : Nat) : Bool := dualF (feasB w e1 e2 e3) (trio.map fun s => (topB w e1 e2 e3 s.2.1 s.2.2, s.2))

def evens (w : Nat) : List Nat := (List.range (2 ^ (w - 1))).map (2 * ·)

theorem dual1 : (evens 1).all (fun a => (evens 1).all fun b => (evens 1).all fun c => !(Nat.ble a b && Nat.ble b c) || dualB 1 a b c) = true := by decide +kernel

theorem dual2 : (evens 2).all (fun a => (evens 2).all fun b => (evens 2).all fun c => !(Nat.ble a b && Nat.ble b c) || dualB 2 a b c) = true := by decide +kernel

theorem dual3 : (evens 3).all (fun a => (evens 3).all fun b => (evens 3).all fun c => !(Nat.ble a b && Nat.ble b c) || dualB 3 a b c) = true := by decide +kernel

end Go.Proofs.Yteljcicdibbhdaa

namespace Go.Proofs.Yteljcicdibbhdaa

theorem dual4a : ([0] : List Nat).all (fun a => (evens 4).all fun b => (evens 4).all fun c => !(Nat.ble a b && Nat.ble b c) || dualB 4 a b c) = true := by decide +kernel

end Go.Proofs.Yteljcicdibbhdaa

namespace Go.Proofs.Yteljcicdibbhdaa

theorem dual4b : ([2] : List Nat).all (fun a => (evens 4).all fun b => (evens 4).all fun c => !(Nat.ble a b && Nat.ble b c) || dualB 4 a b c) = true := by decide +kernel

end Go.Proofs.Yteljcicdibbhdaa

namespace Go.Proofs.Yteljcicdibbhdaa

theorem dual4c : ([4, 6] : List Nat).all (fun a => (evens 4).all fun b => (evens 4).all fun c => !(Nat.ble a b && Nat.ble b c) || dualB 4 a b c) = true := by decide +kernel

end Go.Proofs.Yteljcicdibbhdaa

namespace Go.Proofs.Yteljcicdibbhdaa

theorem dual4d : ([8, 10, 12, 14] : List Nat).all (fun a => (evens 4).all fun b => (evens 4).all fun c => !(Nat.ble a b && Nat.ble b c) || dualB 4 a b c) = true := by decide +kernel

end Go.Proofs.Yteljcicdibbhdaa

namespace Go.Proofs.Yteljcicdibbhdaa
set_option linter.unusedVariables false

theorem dual_tab {w : Nat} (h1 : 1 ≤ w) (h4 : w ≤ 4) {a b c : Nat} (ha : a ∈ evens w) (hb : b ∈ evens w) (hc : c ∈ evens w) (hab : a ≤ b) (hbc : b ≤ c) : dualB w a b c = true := by
  have key : ∀ l : List Nat, a ∈ l → l.all (fun a => (evens w).all fun b => (evens w).all fun c => !(Nat.ble a b && Nat.ble b c) || dualB w a b c) = true → dualB w a b c = true := by
    intro l hl h
    have h := List.all_eq_true.1 (List.all_eq_true.1 (List.all_eq_true.1 h a hl) b hb) c hc
    simpa [Nat.ble_eq_true_of_le hab, Nat.ble_eq_true_of_le hbc] using h
  obtain rfl | rfl | rfl | rfl : w = 1 ∨ w = 2 ∨ w = 3 ∨ w = 4 := by omega
  · exact key _ ha dual1
  · exact key _ ha dual2
  · exact key _ ha dual3
  · have : a ∈ [0] ∨ a ∈ [2] ∨ a ∈ [4, 6] ∨ a ∈ [8, 10, 12, 14] := by
      rw [show evens 4 = [0, 2, 4, 6, 8, 10, 12, 14] from by decide] at ha
      simp only [List.mem_cons, List.not_mem_nil, or_false] at ha ⊢
      omega
    rcases this with h | h | h | h
    · exact key _ h dual4a
    · exact key _ h dual4b
    · exact key _ h dual4c
    · exact key _ h dual4d

theorem mem_evens {w e : Nat} (h1 : 1 ≤ w) (h : e < 2 ^ w) (h2 : e % 2 = 0) : e ∈ evens w := by
  obtain ⟨v, rfl⟩ : ∃ v, w = v + 1 := ⟨w - 1, by omega⟩
  have hp : 2 ^ (v + 1) = 2 * 2 ^ v := by rw [Nat.pow_succ, Nat.mul_comm]
  unfold evens
  rw [List.mem_map]
  exact ⟨e / 2, List.mem_range.2 (by show e / 2 < 2 ^ v; omega), by show 2 * (e / 2) = e; omega⟩

theorem hasN_mem {n : Nat} {l : List Nat} (h : hasN n l = true) : n ∈ l := by
  induction l with
  | nil => cases h
  | cons x l ih =>
    simp only [hasN, Bool.or_eq_true] at h
    rcases h with h | h
    · simp [Nat.eq_of_beq_eq_true h]
    · simp [ih h]

theorem trio_eq {x : (Int × Int × Int) × (Nat → Nat → Nat → Nat) × (Nat → Nat → Nat → Nat)} (h : x ∈ trio) (a b c : Nat) :
    ((x.2.1 a b c : Nat) : Int) - ((x.2.2 a b c : Nat) : Int) = x.1.1 * a + x.1.2.1 * b + x.1.2.2 * c := by
  unfold trio at h
  simp only [List.mem_cons, List.not_mem_nil, or_false] at h
  rcases h with h | h | h | h | h | h | h | h | h | h | h | h | h | h | h | h | h | h | h <;> subst h <;> simp <;> omega

theorem trio_small {x : (Int × Int × Int) × (Nat → Nat → Nat → Nat) × (Nat → Nat → Nat → Nat)} (h : x ∈ trio) : (-2 ≤ x.1.1 ∧ x.1.1 ≤ 2) ∧ (-2 ≤ x.1.2.1 ∧ x.1.2.1 ≤ 2) ∧ (-2 ≤ x.1.2.2 ∧ x.1.2.2 ≤ 2) := by
  unfold trio at h
  simp only [List.mem_cons, List.not_mem_nil, or_false] at h
  rcases h with h | h | h | h | h | h | h | h | h | h | h | h | h | h | h | h | h | h | h <;> subst h <;> simp

theorem foldl_maxN (l : List Nat) (f : Nat → Nat) (s : Nat) : s ≤ l.foldl (fun m k => Nat.max m (f k)) s ∧ ∀ k ∈ l, f k ≤ l.foldl (fun m k => Nat.max m (f k)) s := by
  induction l generalizing s with
  | nil => simp
  | cons x l ih =>
    obtain ⟨h1, h2⟩ := ih (Nat.max s (f x))
    have hm : s ≤ Nat.max s (f x) ∧ f x ≤ Nat.max s (f x) := ⟨Nat.le_max_left _ _, Nat.le_max_right _ _⟩
    simp only [List.foldl_cons]
    refine ⟨by omega, fun k hk => ?_⟩
    rcases List.mem_cons.1 hk with rfl | hk
    · omega
    · exact h2 k hk

/-- a way of units of three that fits, or stakes that surely lose -/
def DualP (w : Nat) (e1 p1 e2 p2 e3 p3 : Nat) : Prop :=
  (∃ c ∈ lay w 12, onN c e1 = 2 * p1 ∧ onN c e2 = 2 * p2 ∧ onN c e3 = 2 * p3) ∨
  ∃ s1 s2 s3 : Int, (-2 ≤ s1 ∧ s1 ≤ 2) ∧ (-2 ≤ s2 ∧ s2 ≤ 2) ∧ (-2 ≤ s3 ∧ s3 ≤ 2) ∧ ∀ k, k < w → s1 * (6 * (bN e1 k : Int) - p1) + s2 * (6 * (bN e2 k : Int) - p2) + s3 * (6 * (bN e3 k : Int) - p3) < 0

theorem on_le {w g : Nat} {c : List Nat} (h : c ∈ lay (w + 1) g) (e : Nat) : onN c e ≤ g := by
  obtain ⟨-, hs⟩ := (mem_lay _ _ _).1 h
  rw [← hs]
  clear h hs
  induction c generalizing e with
  | nil => simp [onN]
  | cons x c ih =>
    simp only [onN, List.sum_cons]
    have := ih (e / 2)
    rcases Nat.mod_two_eq_zero_or_one e with h | h <;> rw [h] <;> omega

theorem dual_sorted {w : Nat} (h1 : 1 ≤ w) (h4 : w ≤ 4) {a b c : Nat} (ha : a ∈ evens w) (hb : b ∈ evens w) (hc : c ∈ evens w) (hab : a ≤ b) (hbc : b ≤ c) {p1 p2 p3 : Nat} (q1 : p1 ≤ 6) (q2 : p2 ≤ 6) (q3 : p3 ≤ 6) :
    DualP w a p1 b p2 c p3 := by
  have h := dual_tab h1 h4 ha hb hc hab hbc
  obtain ⟨v, rfl⟩ : ∃ v, w = v + 1 := ⟨w - 1, by omega⟩
  unfold dualB dualF at h
  have h := List.all_eq_true.1 (List.all_eq_true.1 (List.all_eq_true.1 h p1 (List.mem_range.2 (by omega))) p2 (List.mem_range.2 (by omega))) p3 (List.mem_range.2 (by omega))
  rw [Bool.or_eq_true] at h
  rcases h with h | h
  · obtain ⟨y, hy, hlt⟩ := List.any_eq_true.1 h
    obtain ⟨x, hx, rfl⟩ := List.mem_map.1 hy
    have hlt := Nat.le_of_ble_eq_true hlt
    obtain ⟨t1, t2, t3⟩ := trio_small hx
    refine .inr ⟨x.1.1, x.1.2.1, x.1.2.2, t1, t2, t3, fun k hk => ?_⟩
    have hk2 := (foldl_maxN (List.range (v + 1)) (fun k => 6 * (x.2.1 (bN a k) (bN b k) (bN c k) - x.2.2 (bN a k) (bN b k) (bN c k))) 0).2 k (List.mem_range.2 hk)
    have hle : 6 * (x.2.1 (bN a k) (bN b k) (bN c k) - x.2.2 (bN a k) (bN b k) (bN c k)) ≤ topB (v + 1) a b c x.2.1 x.2.2 := hk2
    have e1 := trio_eq hx (bN a k) (bN b k) (bN c k)
    have e2 := trio_eq hx p1 p2 p3
    have hlt : topB (v + 1) a b c x.2.1 x.2.2 + x.2.2 p1 p2 p3 + 1 ≤ x.2.1 p1 p2 p3 := hlt
    generalize topB (v + 1) a b c x.2.1 x.2.2 = top at hle hlt
    simp only [Int.mul_sub, Int.mul_left_comm _ 6]
    generalize x.2.1 (bN a k) (bN b k) (bN c k) = u1 at hle e1
    generalize x.2.2 (bN a k) (bN b k) (bN c k) = u2 at hle e1
    generalize x.2.1 p1 p2 p3 = u3 at hlt e2
    generalize x.2.2 p1 p2 p3 = u4 at hlt e2
    omega
  · have hm := hasN_mem h
    unfold feasB at hm
    obtain ⟨m, hm, e⟩ := List.mem_map.1 hm
    obtain ⟨hm1, hm2⟩ := List.mem_filter.1 hm
    have hm2 := Nat.eq_of_beq_eq_true hm2
    have b1 := on_le hm1 a
    have b2 := on_le hm1 b
    have b3 := on_le hm1 c
    refine .inl ⟨m, hm1, ?_, ?_, ?_⟩ <;> omega

theorem dual_swap12 {w e1 p1 e2 p2 e3 p3 : Nat} (h : DualP w e1 p1 e2 p2 e3 p3) : DualP w e2 p2 e1 p1 e3 p3 := by
  rcases h with ⟨c, hc, h1, h2, h3⟩ | ⟨s1, s2, s3, h1, h2, h3, h⟩
  · exact .inl ⟨c, hc, h2, h1, h3⟩
  · exact .inr ⟨s2, s1, s3, h2, h1, h3, fun k hk => by have := h k hk; omega⟩

theorem dual_swap23 {w e1 p1 e2 p2 e3 p3 : Nat} (h : DualP w e1 p1 e2 p2 e3 p3) : DualP w e1 p1 e3 p3 e2 p2 := by
  rcases h with ⟨c, hc, h1, h2, h3⟩ | ⟨s1, s2, s3, h1, h2, h3, h⟩
  · exact .inl ⟨c, hc, h1, h3, h2⟩
  · exact .inr ⟨s1, s3, s2, h1, h3, h2, fun k hk => by have := h k hk; omega⟩

theorem dual_even {w : Nat} (h1 : 1 ≤ w) (h4 : w ≤ 4) {a b c : Nat} (ha : a ∈ evens w) (hb : b ∈ evens w) (hc : c ∈ evens w) {p1 p2 p3 : Nat} (q1 : p1 ≤ 6) (q2 : p2 ≤ 6) (q3 : p3 ≤ 6) : DualP w a p1 b p2 c p3 := by
  rcases Nat.le_total a b with hab | hab
  · rcases Nat.le_total b c with hbc | hbc
    · exact dual_sorted h1 h4 ha hb hc hab hbc q1 q2 q3
    · rcases Nat.le_total a c with hac | hac
      · exact dual_swap23 (dual_sorted h1 h4 ha hc hb hac hbc q1 q3 q2)
      · exact dual_swap23 (dual_swap12 (dual_sorted h1 h4 hc ha hb hac hab q3 q1 q2))
  · rcases Nat.le_total a c with hac | hac
    · exact dual_swap12 (dual_sorted h1 h4 hb ha hc hab hac q2 q1 q3)
    · rcases Nat.le_total b c with hbc | hbc
      · exact dual_swap12 (dual_swap23 (dual_sorted h1 h4 hb hc ha hbc hac q2 q3 q1))
      · exact dual_swap12 (dual_swap23 (dual_swap12 (dual_sorted h1 h4 hc hb ha hbc hab q3 q2 q1)))

theorem bN_not {w e k : Nat} (he : e < 2 ^ w) (hk : k < w) : (bN (2 ^ w - 1 - e) k : Int) = 1 - bN e k := by
  suffices h : bN (2 ^ w - 1 - e) k + bN e k = 1 by omega
  unfold bN
  induction k generalizing w e with
  | zero =>
    obtain ⟨v, rfl⟩ : ∃ v, w = v + 1 := ⟨w - 1, by omega⟩
    have hp : 2 ^ (v + 1) = 2 * 2 ^ v := by rw [Nat.pow_succ, Nat.mul_comm]
    simp only [Nat.pow_zero, Nat.div_one]
    omega
  | succ k ih =>
    obtain ⟨v, rfl⟩ : ∃ v, w = v + 1 := ⟨w - 1, by omega⟩
    have hp : 2 ^ (v + 1) = 2 * 2 ^ v := by rw [Nat.pow_succ, Nat.mul_comm]
    have := ih (w := v) (e := e / 2) (by omega) (by omega)
    rw [show 2 ^ v - 1 - e / 2 = (2 ^ (v + 1) - 1 - e) / 2 from by omega, Nat.div_div_eq_div_mul, Nat.div_div_eq_div_mul] at this
    rw [show 2 ^ (k + 1) = 2 * 2 ^ k from by rw [Nat.pow_succ, Nat.mul_comm]]
    exact this

def normP (e p : Nat) : Nat := if e % 2 = 1 then 6 - p else p

theorem dual_norm1 {w e1 p1 e2 p2 e3 p3 : Nat} (he : e1 < 2 ^ w) (hp : p1 ≤ 6) (h1 : 1 ≤ w) (h : DualP w (normE w e1) (normP e1 p1) e2 p2 e3 p3) : DualP w e1 p1 e2 p2 e3 p3 := by
  unfold normE normP at h
  split at h
  · obtain ⟨v, rfl⟩ : ∃ v, w = v + 1 := ⟨w - 1, by omega⟩
    rcases h with ⟨c, hc, k1, k2, k3⟩ | ⟨s1, s2, s3, k1, k2, k3, k⟩
    · obtain ⟨hl, hs⟩ := (mem_lay _ _ _).1 hc
      have := onN_not c e1 (by rw [hl]; exact he)
      rw [hl, hs] at this
      exact .inl ⟨c, hc, by omega, k2, k3⟩
    · refine .inr ⟨-s1, s2, s3, by omega, k2, k3, fun i hi => ?_⟩
      have := k i hi
      rw [bN_not he hi] at this
      have e : s1 * (6 * (1 - (bN e1 i : Int)) - ((6 - p1 : Nat) : Int)) = -s1 * (6 * (bN e1 i : Int) - (p1 : Int)) := by
        rw [show 6 * (1 - (bN e1 i : Int)) - ((6 - p1 : Nat) : Int) = -(6 * (bN e1 i : Int) - (p1 : Int)) from by omega, Int.mul_neg, Int.neg_mul]
      omega
  · exact h

theorem dual_all {w : Nat} (h1 : 1 ≤ w) (h4 : w ≤ 4) {e1 e2 e3 p1 p2 p3 : Nat} (b1 : e1 < 2 ^ w) (b2 : e2 < 2 ^ w) (b3 : e3 < 2 ^ w) (q1 : p1 ≤ 6) (q2 : p2 ≤ 6) (q3 : p3 ≤ 6) : DualP w e1 p1 e2 p2 e3 p3 := by
  have hp : ∀ e p, p ≤ 6 → normP e p ≤ 6 := fun e p h => by unfold normP; split <;> omega
  have hev : ∀ e, e < 2 ^ w → normE w e ∈ evens w := fun e he => mem_evens h1 (norm_even h1 he).1 (norm_even h1 he).2
  refine dual_norm1 b1 q1 h1 (dual_swap12 (dual_norm1 b2 q2 h1 (dual_swap12 (dual_swap23 (dual_swap12 (dual_norm1 b3 q3 h1 ?_))))))
  have := dual_even h1 h4 (hev e1 b1) (hev e2 b2) (hev e3 b3) (hp e1 p1 q1) (hp e2 p2 q2) (hp e3 p3 q3)
  exact dual_swap12 (dual_swap23 this)

end Go.Proofs.Yteljcicdibbhdaa

namespace Go.Proofs.Yteljcicdibbhdaa
set_option linter.unusedVariables false

theorem bit_bN (e k : Nat) : bitI (e : Int) k = (bN e k : Nat) := by
  unfold bitI bN
  have hpow : ((2 ^ k : Nat) : Int) = 2 ^ k := by simp
  rw [← hpow]
  omega

theorem loses_of {w : Int} (h1 : 1 ≤ w) (h4 : w ≤ 4) {f : Nat → Int} (hb : ∀ k, -1000 ≤ f k ∧ f k ≤ 1000) (h : ∀ k, k < w.toNat → f k < 0) : losesB ((List.range w.toNat).map f) = true := by
  have hg := map_gok h1 h4 hb
  rw [losesB, hg, Bool.true_and, decide_eq_true_eq]
  obtain ⟨k, hk, e⟩ := List.mem_map.1 (best_greatest hg).1
  rw [← e]
  exact h k (List.mem_range.1 hk)

def Two2 (ss : List Int) : Prop := ∀ s ∈ ss, -2 ≤ s ∧ s ≤ 2

theorem balB_two {w : Int} {qs : List Qt} {ss : List Int} (hb : bokB w qs = true) (hl : ss.length = qs.length) (h2 : Two2 ss) : balB w qs ss = true :=
  (balB_iff _ _ _).2 ⟨hb, hl, fun s hs => by have := h2 s hs; omega⟩

/-- either some measure fits, or some stakes surely lose -/
theorem dual_book {w : Nat} {qs : List Qt} (hb : bokB (w : Int) qs = true) : anyFit w qs = true ∨ ∃ ss, ss.length = qs.length ∧ Two2 ss ∧ losesB (balL (w : Int) qs ss) = true := by
  obtain ⟨⟨w1, w4⟩, hq3, hq⟩ := (bokB_iff _ _).1 hb
  have h1 : 1 ≤ w := by omega
  have h4 : w ≤ 4 := by omega
  have hp : 0 < 2 ^ w := Nat.two_pow_pos w
  have hone : ∀ q ∈ qs, ∃ e p : Nat, q = ((e : Int), (p : Int)) ∧ e < 2 ^ w ∧ p ≤ 6 := by
    intro q hqm
    obtain ⟨e, he, hlt⟩ := ev_nat (hq q hqm)
    have hp := ((qokB_iff _ _).1 (hq q hqm)).2
    exact ⟨e, q.2.toNat, Prod.ext he (by show q.2 = _; omega), hlt, by omega⟩
  have hfit : ∀ c ∈ lay w 12, (∀ q ∈ qs, ∃ e p : Nat, q = ((e : Int), (p : Int)) ∧ onN c e = 2 * p) → anyFit w qs = true := by
    intro c hc h
    refine unit_fit h1 (u := 3) (by decide) (List.any_eq_true.2 ⟨c, hc, List.all_eq_true.2 fun q hqm => ?_⟩)
    obtain ⟨e, p, rfl, hon⟩ := h q hqm
    rw [beq_iff_eq, onN_cast, hon]
    show ((2 * p : Nat) : Int) * (3 : Int) * 6 = (p : Int) * 36
    omega
  have hb0 : ∀ k, bN 0 k = 0 := fun k => by simp [bN]
  have hlose : ∀ ss, ss.length = qs.length → Two2 ss → (∀ k, k < w → balI qs ss k < 0) → losesB (balL (w : Int) qs ss) = true := by
    intro ss hl h2 h
    exact loses_of w1 w4 (fun k => by have := bal_162 (balB_two hb hl h2) k; omega) (fun k hk => h k (by rwa [Int.toNat_natCast] at hk))
  match qs, hq3, hone, hfit, hlose with
  | [], _, _, _, _ => exact .inl (any_nil h1)
  | [q1], _, ho, hf, hlo =>
    obtain ⟨e1, p1, rfl, b1, a1⟩ := ho q1 (by simp)
    rcases dual_all h1 h4 b1 hp hp a1 (Nat.zero_le 6) (Nat.zero_le 6) with ⟨c, hc, k1, -, -⟩ | ⟨s1, s2, s3, t1, t2, t3, h⟩
    · refine .inl (hf c hc fun q hqm => ?_)
      obtain rfl := List.mem_singleton.1 hqm
      exact ⟨e1, p1, rfl, k1⟩
    · refine .inr ⟨[s1], rfl, fun s hs => by obtain rfl := List.mem_singleton.1 hs; exact t1, hlo _ rfl (fun s hs => by obtain rfl := List.mem_singleton.1 hs; exact t1) fun k hk => ?_⟩
      have := h k hk
      simp only [balI, gainI, bit_bN, hb0] at this ⊢
      rw [Int.mul_comm _ 6]
      simp at this ⊢
      omega
  | [q1, q2], _, ho, hf, hlo =>
    obtain ⟨e1, p1, rfl, b1, a1⟩ := ho q1 (by simp)
    obtain ⟨e2, p2, rfl, b2, a2⟩ := ho q2 (by simp)
    rcases dual_all h1 h4 b1 b2 hp a1 a2 (Nat.zero_le 6) with ⟨c, hc, k1, k2, -⟩ | ⟨s1, s2, s3, t1, t2, t3, h⟩
    · refine .inl (hf c hc fun q hqm => ?_)
      rcases List.mem_cons.1 hqm with rfl | hqm
      · exact ⟨e1, p1, rfl, k1⟩
      · obtain rfl := List.mem_singleton.1 hqm
        exact ⟨e2, p2, rfl, k2⟩
    · have h2 : Two2 [s1, s2] := fun s hs => by
        rcases List.mem_cons.1 hs with rfl | hs
        · exact t1
        · obtain rfl := List.mem_singleton.1 hs; exact t2
      refine .inr ⟨[s1, s2], rfl, h2, hlo _ rfl h2 fun k hk => ?_⟩
      have := h k hk
      simp only [balI, gainI, bit_bN, hb0] at this ⊢
      rw [Int.mul_comm _ 6, Int.mul_comm _ 6]
      simp at this ⊢
      omega
  | [q1, q2, q3], _, ho, hf, hlo =>
    obtain ⟨e1, p1, rfl, b1, a1⟩ := ho q1 (by simp)
    obtain ⟨e2, p2, rfl, b2, a2⟩ := ho q2 (by simp)
    obtain ⟨e3, p3, rfl, b3, a3⟩ := ho q3 (by simp)
    rcases dual_all h1 h4 b1 b2 b3 a1 a2 a3 with ⟨c, hc, k1, k2, k3⟩ | ⟨s1, s2, s3, t1, t2, t3, h⟩
    · refine .inl (hf c hc fun q hqm => ?_)
      rcases List.mem_cons.1 hqm with rfl | hqm
      · exact ⟨e1, p1, rfl, k1⟩
      · rcases List.mem_cons.1 hqm with rfl | hqm
        · exact ⟨e2, p2, rfl, k2⟩
        · obtain rfl := List.mem_singleton.1 hqm
          exact ⟨e3, p3, rfl, k3⟩
    · have h2 : Two2 [s1, s2, s3] := fun s hs => by
        rcases List.mem_cons.1 hs with rfl | hs
        · exact t1
        · rcases List.mem_cons.1 hs with rfl | hs
          · exact t2
          · obtain rfl := List.mem_singleton.1 hs; exact t3
      refine .inr ⟨[s1, s2, s3], rfl, h2, hlo _ rfl h2 fun k hk => ?_⟩
      have := h k hk
      simp only [balI, gainI, bit_bN] at this ⊢
      rw [Int.mul_comm _ 6, Int.mul_comm _ 6, Int.mul_comm _ 6]
      omega
  | _ :: _ :: _ :: _ :: _, h3, _, _, _ => simp at h3

/-- what surely loses has no measure -/
theorem weak_dual {w : Nat} {qs : List Qt} {ss : List Int} (hb : balB (w : Int) qs ss = true) (hl : losesB (balL (w : Int) qs ss) = true) : anyFit w qs = false := by
  rw [← Bool.not_eq_true]
  intro h
  obtain ⟨l, hm, hf⟩ := List.any_eq_true.1 h
  obtain ⟨w1, w4⟩ := bal_wok hb
  obtain ⟨v, rfl⟩ : ∃ v, w = v + 1 := ⟨w - 1, by omega⟩
  have hlen := ((mem_lay _ _ _).1 hm).1
  have hmea : meaB (natL l) = true := (mea_lay _).2 ⟨by rw [natL_len, hlen]; omega, l, by rw [natL_len, hlen]; exact hm, rfl⟩
  have h0 := fit_bal hmea hf ss
  rw [natL_len, hlen] at h0
  rw [losesB, Bool.and_eq_true, decide_eq_true_eq] at hl
  have := (br_between hmea hl.1 (by rw [natL_len, hlen, balL_len]; simp)).2
  omega

/-! stakes in order -/

def tries : List Int := [-2, -1, 0, 1, 2]

/-- so many stakes whose sum without signs is so much, lesser numbers first -/
def stks : Nat → Nat → List (List Int)
  | 0, left => if left = 0 then [[]] else []
  | n + 1, left => (tries.filter fun s => decide (s.natAbs ≤ left)).flatMap fun s => (stks n (left - s.natAbs)).map fun t => s :: t

def absSum (ss : List Int) : Nat := (ss.map Int.natAbs).sum

theorem mem_stks (n left : Nat) (ss : List Int) : ss ∈ stks n left ↔ ss.length = n ∧ Two2 ss ∧ absSum ss = left := by
  induction n generalizing left ss with
  | zero =>
    unfold stks
    split
    · rename_i h
      rw [List.mem_singleton]
      constructor
      · rintro rfl; exact ⟨rfl, fun s hs => (by cases hs), by rw [h]; rfl⟩
      · rintro ⟨h1, -, -⟩; exact List.eq_nil_of_length_eq_zero h1
    · rename_i h
      constructor
      · intro hx; cases hx
      · rintro ⟨h1, -, h3⟩
        obtain rfl := List.eq_nil_of_length_eq_zero h1
        exact absurd h3.symm h
  | succ n ih =>
    simp only [stks, List.mem_flatMap, List.mem_filter, List.mem_map, decide_eq_true_eq]
    constructor
    · rintro ⟨s, ⟨hs, hle⟩, t, ht, rfl⟩
      obtain ⟨h1, h2, h3⟩ := (ih _ _).1 ht
      refine ⟨by simp [h1], fun x hx => ?_, ?_⟩
      · rcases List.mem_cons.1 hx with rfl | hx
        · simp only [tries, List.mem_cons, List.not_mem_nil, or_false] at hs; omega
        · exact h2 x hx
      · show s.natAbs + absSum t = left
        omega
    · rintro ⟨h1, h2, h3⟩
      match ss, h1 with
      | s :: t, h1 =>
        have hs := h2 s (by simp)
        have h3 : s.natAbs + absSum t = left := h3
        exact ⟨s, ⟨by simp only [tries, List.mem_cons, List.not_mem_nil, or_false]; omega, by omega⟩, t, (ih _ _).2 ⟨by simpa using h1, fun x hx => h2 x (by simp [hx]), by omega⟩, rfl⟩

def loseIn (w : Int) (qs : List Qt) (sum : Nat) : Option (List Int) := (stks qs.length sum).find? fun ss => losesB (balL w qs ss)

/-- the first losing stakes from such a sum on, so many sums -/
def loseFrom (w : Int) (qs : List Qt) : Nat → Nat → Option (List Int)
  | _, 0 => none
  | sum, n + 1 => match loseIn w qs sum with
    | some ss => some ss
    | none => loseFrom w qs (sum + 1) n

def losing (w : Int) (qs : List Qt) : Option (List Int) := if bokB w qs = true then loseFrom w qs 1 6 else none

theorem loseIn_some {w : Int} {qs : List Qt} {sum : Nat} {ss : List Int} (h : loseIn w qs sum = some ss) : ss.length = qs.length ∧ Two2 ss ∧ absSum ss = sum ∧ losesB (balL w qs ss) = true := by
  have h1 := (mem_stks _ _ _).1 (List.mem_of_find?_eq_some h)
  have h2 := List.find?_some h
  exact ⟨h1.1, h1.2.1, h1.2.2, h2⟩

theorem loseIn_none {w : Int} {qs : List Qt} {sum : Nat} (h : loseIn w qs sum = none) {ss : List Int} (h1 : ss.length = qs.length) (h2 : Two2 ss) (h3 : absSum ss = sum) : losesB (balL w qs ss) = false := by
  have := List.find?_eq_none.1 h ss ((mem_stks _ _ _).2 ⟨h1, h2, h3⟩)
  simpa using this

theorem loseFrom_some {w : Int} {qs : List Qt} {sum n : Nat} {ss : List Int} (h : loseFrom w qs sum n = some ss) :
    ss.length = qs.length ∧ Two2 ss ∧ losesB (balL w qs ss) = true ∧ (sum ≤ absSum ss ∧ absSum ss < sum + n) ∧ ∀ tt : List Int, tt.length = qs.length → Two2 tt → sum ≤ absSum tt → absSum tt < absSum ss → losesB (balL w qs tt) = false := by
  induction n generalizing sum with
  | zero => cases h
  | succ n ih =>
    unfold loseFrom at h
    split at h
    · rename_i s hs
      obtain rfl := Option.some.inj h
      obtain ⟨h1, h2, h3, h4⟩ := loseIn_some hs
      exact ⟨h1, h2, h4, by omega, fun tt _ _ _ _ => by omega⟩
    · rename_i hs
      obtain ⟨h1, h2, h3, h4, h5⟩ := ih h
      refine ⟨h1, h2, h3, by omega, fun tt t1 t2 t3 t4 => ?_⟩
      rcases Nat.eq_or_lt_of_le t3 with h6 | h6
      · exact loseIn_none hs t1 t2 h6.symm
      · exact h5 tt t1 t2 h6 t4

theorem loseFrom_none {w : Int} {qs : List Qt} {sum n : Nat} (h : loseFrom w qs sum n = none) (tt : List Int) (t1 : tt.length = qs.length) (t2 : Two2 tt) (t3 : sum ≤ absSum tt) (t4 : absSum tt < sum + n) : losesB (balL w qs tt) = false := by
  induction n generalizing sum with
  | zero => omega
  | succ n ih =>
    unfold loseFrom at h
    split at h
    · cases h
    · rename_i hs
      rcases Nat.eq_or_lt_of_le t3 with h6 | h6
      · exact loseIn_none hs t1 t2 h6.symm
      · exact ih h h6 (by omega)

theorem absSum_le {ss : List Int} (h : Two2 ss) : absSum ss ≤ 2 * ss.length := by
  induction ss with
  | nil => simp [absSum]
  | cons s ss ih =>
    have h1 := ih (fun x hx => h x (by simp [hx]))
    have h2 := h s (by simp)
    show s.natAbs + absSum ss ≤ 2 * (ss.length + 1)
    omega

theorem absSum_zero {ss : List Int} (h : absSum ss = 0) (qs : List Qt) (k : Nat) : balI qs ss k = 0 := by
  induction ss generalizing qs with
  | nil => cases qs <;> rfl
  | cons s ss ih =>
    have h1 : s.natAbs + absSum ss = 0 := h
    cases qs with
    | nil => rfl
    | cons q qs =>
      simp only [balI, gainI]
      rw [ih (by omega) qs, show s = 0 from by omega]; simp

theorem zero_loses {w : Int} {qs : List Qt} {ss : List Int} (hb : balB w qs ss = true) (h : absSum ss = 0) : losesB (balL w qs ss) = false := by
  rw [← Bool.not_eq_true, losesB, Bool.and_eq_true, decide_eq_true_eq]
  rintro ⟨h1, h2⟩
  obtain ⟨k, -, e⟩ := List.mem_map.1 (best_greatest h1).1
  rw [absSum_zero h] at e
  omega

theorem losing_some {w : Int} {qs : List Qt} {ss : List Int} (h : losing w qs = some ss) : bokB w qs = true ∧ ss.length = qs.length ∧ Two2 ss ∧ losesB (balL w qs ss) = true ∧ 1 ≤ absSum ss ∧
    ∀ tt : List Int, tt.length = qs.length → Two2 tt → absSum tt < absSum ss → losesB (balL w qs tt) = false := by
  unfold losing at h
  split at h
  · rename_i hb
    obtain ⟨h1, h2, h3, h4, h5⟩ := loseFrom_some h
    refine ⟨hb, h1, h2, h3, h4.1, fun tt t1 t2 t3 => ?_⟩
    rcases Nat.eq_zero_or_pos (absSum tt) with h0 | h0
    · exact zero_loses (balB_two hb t1 t2) h0
    · exact h5 tt t1 t2 h0 t3
  · cases h

theorem losing_none {w : Int} {qs : List Qt} (hb : bokB w qs = true) (h : losing w qs = none) (tt : List Int) (t1 : tt.length = qs.length) (t2 : Two2 tt) : losesB (balL w qs tt) = false := by
  unfold losing at h
  rw [if_pos hb] at h
  rcases Nat.eq_zero_or_pos (absSum tt) with h0 | h0
  · exact zero_loses (balB_two hb t1 t2) h0
  · have := absSum_le t2
    have := ((bokB_iff _ _).1 hb).2.1
    exact loseFrom_none h tt t1 t2 h0 (by omega)

/-- either there is a measure, or there are stakes -/
theorem losing_fair {w : Nat} {qs : List Qt} (hb : bokB (w : Int) qs = true) : (losing (w : Int) qs).isSome = !anyFit w qs := by
  cases h : losing (w : Int) qs with
  | none =>
    rcases dual_book hb with h1 | ⟨ss, h1, h2, h3⟩
    · rw [h1]; rfl
    · rw [losing_none hb h ss h1 h2] at h3; cases h3
  | some ss =>
    obtain ⟨-, h1, h2, h3, -, -⟩ := losing_some h
    rw [weak_dual (balB_two hb h1 h2) h3]; rfl

/-- a sure loss is 1 or more -/
theorem sure_loss {w : Int} {qs : List Qt} {ss : List Int} (h : losing w qs = some ss) : bestI (balL w qs ss) ≤ -1 := by
  have := (losing_some h).2.2.2.1
  rw [losesB, Bool.and_eq_true, decide_eq_true_eq] at this
  omega

def nearer (s : Int) : Int := if 0 < s then s - 1 else s + 1

/-- no stake may be nearer to 0 by one -/
theorem nearer_no {w : Int} {qs : List Qt} {ss : List Int} (h : losing w qs = some ss) {k : Nat} {s : Int} (hs : ss[k]? = some s) (h0 : s ≠ 0) : losesB (balL w qs (ss.set k (nearer s))) = false := by
  obtain ⟨hb, h1, h2, h3, h4, h5⟩ := losing_some h
  have key : ∀ (ss : List Int) (k : Nat), ss[k]? = some s → absSum (ss.set k (nearer s)) + 1 = absSum ss := by
    intro ss
    induction ss with
    | nil => intro k hk; simp at hk
    | cons x ss ih =>
      intro k hk
      cases k with
      | zero =>
        simp at hk
        subst hk
        show (nearer x).natAbs + absSum ss + 1 = x.natAbs + absSum ss
        unfold nearer
        split <;> omega
      | succ k =>
        simp only [List.getElem?_cons_succ] at hk
        have := ih k hk
        show x.natAbs + absSum (ss.set k (nearer s)) + 1 = x.natAbs + absSum ss
        omega
  have hk := key ss k hs
  refine h5 _ (by rw [List.length_set]; exact h1) (fun x hx => ?_) (by omega)
  rcases List.mem_or_eq_of_mem_set hx with h6 | h6
  · exact h2 x h6
  · subst h6
    have := h2 s (List.mem_of_getElem? hs)
    unfold nearer
    split <;> omega

end Go.Proofs.Yteljcicdibbhdaa

namespace Go.Proofs.Yteljcicdibbhdaa
set_option linter.unusedVariables false

/-- the stakes against two prices -/
def pairS (p r : Int) : List Int := if r < p then [1, -1] else [-1, 1]

/-- the difference -/
def pairD (p r : Int) : Int := if r < p then r - p else p - r

def pairT (w e p r : Int) : Bool := decide (losing w [(e, p), (e, r)] = some (pairS p r)) && decide (bestI (balL w [(e, p), (e, r)] (pairS p r)) = pairD p r)

set_option maxRecDepth 100000 in
theorem pair_tab : ∀ w : Fin 5, ∀ e : Fin 16, ∀ p : Fin 7, ∀ r : Fin 7, evB ((w : Nat) : Int) ((e : Nat) : Int) = true → (e : Nat) ≠ 0 → ((e : Nat) : Int) ≠ allI ((w : Nat) : Int) → (r : Nat) ≠ (p : Nat) → pairT ((w : Nat) : Int) ((e : Nat) : Int) ((p : Nat) : Int) ((r : Nat) : Int) = true := by decide +kernel

theorem two_prices {w e p r : Int} (h : qokB w (e, p) = true) (r0 : 0 ≤ r) (r6 : r ≤ 6) (hne : r ≠ p) (h0 : e ≠ 0) (h1 : e ≠ allI w) :
    losing w [(e, p), (e, r)] = some (pairS p r) ∧ bestI (balL w [(e, p), (e, r)] (pairS p r)) = pairD p r := by
  obtain ⟨he, p0, p6⟩ := (qokB_iff _ _).1 h
  obtain ⟨w1, w4⟩ := wok_of h
  have e0 : 0 ≤ e ∧ e < 16 := by
    have := evB_15 he
    omega
  have p0 : 0 ≤ p := p0
  have p6 : p ≤ 6 := p6
  obtain ⟨w', rfl⟩ : ∃ n : Nat, w = n := ⟨w.toNat, by omega⟩
  obtain ⟨e', rfl⟩ : ∃ n : Nat, e = n := ⟨e.toNat, by omega⟩
  obtain ⟨p', rfl⟩ : ∃ n : Nat, p = n := ⟨p.toNat, by omega⟩
  obtain ⟨r', rfl⟩ : ∃ n : Nat, r = n := ⟨r.toNat, by omega⟩
  have := pair_tab ⟨w', by omega⟩ ⟨e', by omega⟩ ⟨p', by omega⟩ ⟨r', by omega⟩ he (fun (h : e' = 0) => h0 (by rw [h]; rfl)) h1 (fun (h : r' = p') => hne (by rw [h]))
  rw [pairT, Bool.and_eq_true, decide_eq_true_eq, decide_eq_true_eq] at this
  exact this

end Go.Proofs.Yteljcicdibbhdaa
