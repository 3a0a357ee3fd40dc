/- spec.SumTerm. Conditions: none. (gen_xk.py) -/
import Derived.Test.YtfdlfgokoponmaaDoorXj
import Derived.Test.YtfdlfgokoponmaaDoorXa
namespace Go.Proofs.YtfdlfgokoponmaaDoor
open Go.RowKit
set_option linter.unusedVariables false

theorem mlit0 (w : World) (base : Nat) (hb : base ≤ w.heap.size) : MOwn (w.alloc (.cells #[] 59)) base (.slice (some ⟨w.heap.size, 0, none⟩) 0 0) [] :=
  World.ownsRow_lit w #[] 0 hb (by unfold maxLen; omega) rfl

/-- the sum over the first k worlds -/
def sumO (E k : Nat) : Option Tm := (List.range k).foldl (addW E) none

def sumP (E k : Nat) : List Mk := match sumO E k with | none => [] | some t => encT t

theorem sumO_succ (E k : Nat) : sumO E (k + 1) = addW E (sumO E k) k := by
  unfold sumO
  rw [List.range_succ, List.foldl_append]
  rfl

theorem sumP_no {E k : Nat} (h : E / 2 ^ k % 2 = 0) : sumP E (k + 1) = sumP E k := by
  unfold sumP
  rw [sumO_succ]
  unfold addW
  rw [if_pos h]

theorem sumP_first {E k : Nat} (h : ¬ E / 2 ^ k % 2 = 0) (h0 : (sumP E k).length = 0) : sumP E (k + 1) = sumP E k ++ encT (worldT k) := by
  unfold sumP at h0 ⊢
  rw [sumO_succ]
  unfold addW
  rw [if_neg h]
  cases hs : sumO E k with
  | none => rfl
  | some t =>
    rw [hs] at h0
    have := enc_pos t
    dsimp only at h0
    omega

theorem sumP_more {E k : Nat} (h : ¬ E / 2 ^ k % 2 = 0) (h0 : ¬ (sumP E k).length = 0) : sumP E (k + 1) = sumP E k ++ encT (worldT k) ++ [(3, 0)] := by
  unfold sumP at h0 ⊢
  rw [sumO_succ]
  unfold addW
  rw [if_neg h]
  cases hs : sumO E k with
  | none => rw [hs] at h0; exact absurd rfl h0
  | some t => rfl

theorem sumP_len (E k : Nat) : (sumP E k).length ≤ 6 * k := by
  induction k with
  | zero => simp [sumP, sumO]
  | succ k ih =>
    have hw : (encT (worldT k)).length ≤ 5 := by
      unfold worldT
      split <;> split <;> simp [encT]
    by_cases h : E / 2 ^ k % 2 = 0
    · rw [sumP_no h]; omega
    · by_cases h0 : (sumP E k).length = 0
      · rw [sumP_first h h0, List.length_append]; omega
      · rw [sumP_more h h0]; simp only [List.length_append, List.length_cons, List.length_nil]; omega

/-- SumTerm's row -/
def sumTR (e : Int) : List Mk := if evB 4 e = true then encT (sumT e.toNat) else []

theorem sumTR_some {E : Nat} (h : E < 16) (h0 : ¬ (sumP E 4).length = 0) : sumTR (E : Int) = sumP E 4 := by
  have hE : evB 4 (E : Int) = true := by rw [evB_iff]; simp [allI]; omega
  rw [sumTR, if_pos hE]
  unfold sumP at h0 ⊢
  unfold sumT
  rw [Int.toNat_natCast, show [0, 1, 2, 3].foldl (addW E) none = sumO E 4 from rfl]
  cases hs : sumO E 4 with
  | none => rw [hs] at h0; exact absurd rfl h0
  | some t => rfl

theorem sumTR_zero {E : Nat} (h : E < 16) (h0 : (sumP E 4).length = 0) : sumTR (E : Int) = [(0, 0), (0, 0), (1, 0), (2, 0)] := by
  have hE : evB 4 (E : Int) = true := by rw [evB_iff]; simp [allI]; omega
  rw [sumTR, if_pos hE]
  unfold sumP at h0
  unfold sumT
  rw [Int.toNat_natCast, show [0, 1, 2, 3].foldl (addW E) none = sumO E 4 from rfl]
  cases hs : sumO E 4 with
  | none => rfl
  | some t =>
    rw [hs] at h0
    have := enc_pos t
    dsimp only at h0
    omega

/-- a fresh row of marks -/
def MRow (ms : List Mk) (w : World) (e : Ending) (w' : World) : Prop := ∃ v, e = .returned v ∧ MOwn w' w.heap.size v ms ∧ Below w.heap.size w w'

theorem mrow_ret {ms ns : List Mk} {w w' : World} {v : Value} (h : ms = ns) (o : MOwn w' w.heap.size v ns) (b : Below w.heap.size w w') : MRow ms w (.returned v) w' := by
  subst h
  exact ⟨v, rfl, o, b⟩

end Go.Proofs.YtfdlfgokoponmaaDoor
