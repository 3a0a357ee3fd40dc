/- spec.SumTerm. Conditions: none. (gen_xk.py) -/
import Derived.Test.YtkochmmlcenncaaXj
import Derived.Test.YtkochmmlcenncaaXa
namespace Go.Proofs.Ytkochmmlcenncaa
open Go.RowKit
set_option linter.unusedVariables false

theorem mlit0 (w : World) (base : Nat) (hb : base ≤ w.heap.size) : MOwn (w.alloc (.cells #[] 27)) base (.slice (some ⟨w.heap.size, 0, none⟩) 0 0) [] :=
  World.ownsRow_lit w #[] 0 hb (by unfold maxLen; omega) rfl

/-- the sum over the first k worlds -/
def sumO (E k : Nat) : Option Tm := (List.range k).foldl (addW E) none

def sumP (E k : Nat) : List Mk := match sumO E k with | none => [] | some t => encT t

theorem sumO_succ (E k : Nat) : sumO E (k + 1) = addW E (sumO E k) k := by
  unfold sumO
  rw [List.range_succ, List.foldl_append]
  rfl

theorem sumP_no {E k : Nat} (h : E / 2 ^ k % 2 = 0) : sumP E (k + 1) = sumP E k := by
  unfold sumP
  rw [sumO_succ]
  unfold addW
  rw [if_pos h]

theorem sumP_first {E k : Nat} (h : ¬ E / 2 ^ k % 2 = 0) (h0 : (sumP E k).length = 0) : sumP E (k + 1) = sumP E k ++ encT (worldT k) := by
  unfold sumP at h0 ⊢
  rw [sumO_succ]
  unfold addW
  rw [if_neg h]
  cases hs : sumO E k with
  | none => rfl
  | some t =>
    rw [hs] at h0
    have := enc_pos t
    dsimp only at h0
    omega

theorem sumP_more {E k : Nat} (h : ¬ E / 2 ^ k % 2 = 0) (h0 : ¬ (sumP E k).length = 0) : sumP E (k + 1) = sumP E k ++ encT (worldT k) ++ [(3, 0)] := by
  unfold sumP at h0 ⊢
  rw [sumO_succ]
  unfold addW
  rw [if_neg h]
  cases hs : sumO E k with
  | none => rw [hs] at h0; exact absurd rfl h0
  | some t => rfl

theorem sumP_len (E k : Nat) : (sumP E k).length ≤ 6 * k := by
  induction k with
  | zero => simp [sumP, sumO]
  | succ k ih =>
    have hw : (encT (worldT k)).length ≤ 5 := by
      unfold worldT
      split <;> split <;> simp [encT]
    by_cases h : E / 2 ^ k % 2 = 0
    · rw [sumP_no h]; omega
    · by_cases h0 : (sumP E k).length = 0
      · rw [sumP_first h h0, List.length_append]; omega
      · rw [sumP_more h h0]; simp only [List.length_append, List.length_cons, List.length_nil]; omega

/-- SumTerm's row -/
def sumTR (e : Int) : List Mk := if evB 4 e = true then encT (sumT e.toNat) else []

theorem sumTR_some {E : Nat} (h : E < 16) (h0 : ¬ (sumP E 4).length = 0) : sumTR (E : Int) = sumP E 4 := by
  have hE : evB 4 (E : Int) = true := by rw [evB_iff]; simp [allI]; omega
  rw [sumTR, if_pos hE]
  unfold sumP at h0 ⊢
  unfold sumT
  rw [Int.toNat_natCast, show [0, 1, 2, 3].foldl (addW E) none = sumO E 4 from rfl]
  cases hs : sumO E 4 with
  | none => rw [hs] at h0; exact absurd rfl h0
  | some t => rfl

theorem sumTR_zero {E : Nat} (h : E < 16) (h0 : (sumP E 4).length = 0) : sumTR (E : Int) = [(0, 0), (0, 0), (1, 0), (2, 0)] := by
  have hE : evB 4 (E : Int) = true := by rw [evB_iff]; simp [allI]; omega
  rw [sumTR, if_pos hE]
  unfold sumP at h0
  unfold sumT
  rw [Int.toNat_natCast, show [0, 1, 2, 3].foldl (addW E) none = sumO E 4 from rfl]
  cases hs : sumO E 4 with
  | none => rfl
  | some t =>
    rw [hs] at h0
    have := enc_pos t
    dsimp only at h0
    omega

/-- a fresh row of marks -/
def MRow (ms : List Mk) (w : World) (e : Ending) (w' : World) : Prop := ∃ v, e = .returned v ∧ MOwn w' w.heap.size v ms ∧ Below w.heap.size w w'

theorem mrow_ret {ms ns : List Mk} {w w' : World} {v : Value} (h : ms = ns) (o : MOwn w' w.heap.size v ns) (b : Below w.heap.size w w') : MRow ms w (.returned v) w' := by
  subst h
  exact ⟨v, rfl, o, b⟩

set_option maxHeartbeats 8000000 in
theorem specSumTerm_any (w : World) (e : Int) :
    Calls Try.prog 30 #[.int .i64 e] w (MRow (sumTR e) w) := by
  rcases Bool.eq_false_or_eq_true (evB 4 e) with h | h
  · obtain ⟨-, -, h0, h1⟩ := (evB_iff _ _).1 h
    have h15 : e ≤ 15 := by simpa [allI] using h1
    obtain ⟨E, rfl⟩ : ∃ E : Nat, e = E := ⟨e.toNat, by omega⟩
    have hE : E < 16 := by omega
    clear h0 h1
    go_enter Try.func30, Try.ntmps30
    go_wp2_with fail
    refine (specEventOk_any _ _ _).mono ?_
    rintro r w2 ⟨rfl, rfl⟩
    rw [h]
    have H0 : Hid (MOwn (w.alloc (.cells #[] 27)) w.heap.size (.slice (some ⟨w.heap.size, 0, none⟩) 0 0) [] ∧ Below w.heap.size w (w.alloc (.cells #[] 27))) := Lib.hid ⟨mlit0 w w.heap.size (Nat.le_refl _), (Below.refl _ _).alloc (Nat.le_refl _) _⟩
    go_wp2_with fail
    go_loopw [3, 4] (fun p i wr => ∃ (k n c : Nat) (A : Option Addr), i = .int .i64 (k : Int) ∧ p = .slice A n c ∧ k ≤ 4 ∧ Hid (MOwn wr w.heap.size (.slice A n c) (sumP E k) ∧ Below w.heap.size w wr ∧ (sumP E k).length = n)) (fun _ i _ => 4 - (intOf i).toNat)
    case atStart => exact ⟨0, 0, 0, _, rfl, rfl, by omega, Lib.hid ⟨H0.out.1, H0.out.2, rfl⟩⟩
    case round =>
      obtain ⟨k, n, c, A, rfl, rfl, hk, H⟩ := hrel
      clear H0
      by_cases hlt : k < 4
      · have hlen := sumP_len E k
        have hn24 : n ≤ 24 := by have := H.out.2.2; omega
        have HL := Lib.hid hlen
        clear hlen
        by_cases hbit : E / 2 ^ k % 2 = 0
        · have HN := Lib.hid (sumP_no hbit)
          have hb1 : ((E : Int) / 2 ^ k).tmod 2 = 0 := by
            rw [show ((E : Int) / 2 ^ k) = ((E / 2 ^ k : Nat) : Int) from by simp]
            obtain ⟨z, hz⟩ : ∃ z, E / 2 ^ k = z := ⟨_, rfl⟩
            rw [hz] at hbit ⊢
            rw [Int.tmod_eq_emod_of_nonneg (by omega)]
            omega
          have hbt : (((E : Int) / 2 ^ k).tmod 2 == 0) = true := by rw [hb1]; rfl
          clear hb1 hbit
          go_wp2_with fail
          go_roundw
          case rel => exact ⟨k + 1, n, c, A, by go_num, rfl, by omega, Lib.hid ⟨by rw [HN.out]; exact H.out.1, H.out.2.1, by rw [HN.out]; exact H.out.2.2⟩⟩
          case measure => simp [intOf]; omega
        · have hb1 : ((E : Int) / 2 ^ k).tmod 2 = 1 := by
            rw [show ((E : Int) / 2 ^ k) = ((E / 2 ^ k : Nat) : Int) from by simp]
            obtain ⟨z, hz⟩ : ∃ z, E / 2 ^ k = z := ⟨_, rfl⟩
            rw [hz] at hbit ⊢
            rw [Int.tmod_eq_emod_of_nonneg (by omega)]
            omega
          have hbt : (((E : Int) / 2 ^ k).tmod 2 == 0) = false := by rw [hb1]; rfl
          have HBIT := Lib.hid hbit
          clear hb1 hbit
          have hbt2 : ((E : Int) / 2 ^ k % 2 == 0) = false := by rw [Int.tmod_eq_emod_of_nonneg (Int.ediv_nonneg (by omega) (by have : (0 : Int) < 2 ^ k := Int.pow_pos (by omega); omega))] at hbt; exact hbt
          obtain rfl | rfl | rfl | rfl : k = 0 ∨ k = 1 ∨ k = 2 ∨ k = 3 := by omega
          · skip
            have h0 : (sumP E 0).length = 0 := rfl
            have HN := Lib.hid (sumP_first HBIT.out h0)
            obtain rfl : n = 0 := by rw [← H.out.2.2]; rfl
            clear h0
            have K0 : Hid (MOwn wr w.heap.size (.slice A 0 c) (sumP E 0) ∧ Below w.heap.size w wr ∧ (sumP E 0).length ≤ 24) := Lib.hid ⟨H.out.1, H.out.2.1, Nat.le_trans HL.out (by decide)⟩
            go_wp2_with (at_builtin; refine wp_app_mark rfl _ _ rfl _ w.heap.size _ _ _ _ (by rfl) K0.out.1 (by rfl) ?q0 ?r0 ?_)
            case q0 => exact Nat.le_trans K0.out.2.2 (by decide)
            case r0 => exact K0.out.2.1.size
            intro v1 w1 o1 b1 _
            have K1 : Hid (MOwn w1 w.heap.size v1 ((sumP E 0) ++ [((0 : Int), (0 : Int))]) ∧ Below w.heap.size w w1 ∧ ((sumP E 0) ++ [((0 : Int), (0 : Int))]).length ≤ 25) := Lib.hid ⟨by simpa using o1, K0.out.2.1.trans b1, by rw [List.length_append]; have := K0.out.2.2; simp only [List.length_cons, List.length_nil]; omega⟩
            clear o1 b1
            go_wp2_with (at_builtin; refine wp_app_mark rfl _ _ rfl _ w.heap.size _ _ _ _ (by rfl) K1.out.1 (by rfl) ?q1 ?r1 ?_)
            case q1 => exact Nat.le_trans K1.out.2.2 (by decide)
            case r1 => exact K1.out.2.1.size
            intro v2 w2 o2 b2 _
            have K2 : Hid (MOwn w2 w.heap.size v2 (((sumP E 0) ++ [((0 : Int), (0 : Int))]) ++ [((1 : Int), (0 : Int))]) ∧ Below w.heap.size w w2 ∧ (((sumP E 0) ++ [((0 : Int), (0 : Int))]) ++ [((1 : Int), (0 : Int))]).length ≤ 26) := Lib.hid ⟨by simpa using o2, K1.out.2.1.trans b2, by rw [List.length_append]; have := K1.out.2.2; simp only [List.length_cons, List.length_nil]; omega⟩
            clear o2 b2
            go_wp2_with (at_builtin; refine wp_app_mark rfl _ _ rfl _ w.heap.size _ _ _ _ (by rfl) K2.out.1 (by rfl) ?q2 ?r2 ?_)
            case q2 => exact Nat.le_trans K2.out.2.2 (by decide)
            case r2 => exact K2.out.2.1.size
            intro v3 w3 o3 b3 _
            have K3 : Hid (MOwn w3 w.heap.size v3 ((((sumP E 0) ++ [((0 : Int), (0 : Int))]) ++ [((1 : Int), (0 : Int))]) ++ [((0 : Int), (1 : Int))]) ∧ Below w.heap.size w w3 ∧ ((((sumP E 0) ++ [((0 : Int), (0 : Int))]) ++ [((1 : Int), (0 : Int))]) ++ [((0 : Int), (1 : Int))]).length ≤ 27) := Lib.hid ⟨by simpa using o3, K2.out.2.1.trans b3, by rw [List.length_append]; have := K2.out.2.2; simp only [List.length_cons, List.length_nil]; omega⟩
            clear o3 b3
            go_wp2_with (at_builtin; refine wp_app_mark rfl _ _ rfl _ w.heap.size _ _ _ _ (by rfl) K3.out.1 (by rfl) ?q3 ?r3 ?_)
            case q3 => exact Nat.le_trans K3.out.2.2 (by decide)
            case r3 => exact K3.out.2.1.size
            intro v4 w4 o4 b4 _
            have K4 : Hid (MOwn w4 w.heap.size v4 (((((sumP E 0) ++ [((0 : Int), (0 : Int))]) ++ [((1 : Int), (0 : Int))]) ++ [((0 : Int), (1 : Int))]) ++ [((1 : Int), (0 : Int))]) ∧ Below w.heap.size w w4 ∧ (((((sumP E 0) ++ [((0 : Int), (0 : Int))]) ++ [((1 : Int), (0 : Int))]) ++ [((0 : Int), (1 : Int))]) ++ [((1 : Int), (0 : Int))]).length ≤ 28) := Lib.hid ⟨by simpa using o4, K3.out.2.1.trans b4, by rw [List.length_append]; have := K3.out.2.2; simp only [List.length_cons, List.length_nil]; omega⟩
            clear o4 b4
            go_wp2_with (at_builtin; refine wp_app_mark rfl _ _ rfl _ w.heap.size _ _ _ _ (by rfl) K4.out.1 (by rfl) ?q4 ?r4 ?_)
            case q4 => exact Nat.le_trans K4.out.2.2 (by decide)
            case r4 => exact K4.out.2.1.size
            intro v5 w5 o5 b5 _
            have K5 : Hid (MOwn w5 w.heap.size v5 ((((((sumP E 0) ++ [((0 : Int), (0 : Int))]) ++ [((1 : Int), (0 : Int))]) ++ [((0 : Int), (1 : Int))]) ++ [((1 : Int), (0 : Int))]) ++ [((2 : Int), (0 : Int))]) ∧ Below w.heap.size w w5 ∧ ((((((sumP E 0) ++ [((0 : Int), (0 : Int))]) ++ [((1 : Int), (0 : Int))]) ++ [((0 : Int), (1 : Int))]) ++ [((1 : Int), (0 : Int))]) ++ [((2 : Int), (0 : Int))]).length ≤ 29) := Lib.hid ⟨by simpa using o5, K4.out.2.1.trans b5, by rw [List.length_append]; have := K4.out.2.2; simp only [List.length_cons, List.length_nil]; omega⟩
            clear o5 b5
            go_wp2_with fail
            obtain ⟨A9, c9, rfl, hl9, -⟩ := (K5.out.1.rd qC_len).form
            go_roundw
            case rel => exact ⟨1, _, c9, A9, by go_num, rfl, by omega, Lib.hid ⟨by rw [HN.out]; simpa [worldT, encT, letM] using K5.out.1, K5.out.2.1, by rw [HN.out]; simp [worldT, encT, letM]⟩⟩
            case measure => simp [intOf]
          · skip
            by_cases h0 : (sumP E 1).length = 0
            · have HN := Lib.hid (sumP_first HBIT.out h0)
              obtain rfl : n = 0 := by rw [← H.out.2.2]; exact h0
              clear h0
              have K0 : Hid (MOwn wr w.heap.size (.slice A 0 c) (sumP E 1) ∧ Below w.heap.size w wr ∧ (sumP E 1).length ≤ 24) := Lib.hid ⟨H.out.1, H.out.2.1, Nat.le_trans HL.out (by decide)⟩
              go_wp2_with (at_builtin; refine wp_app_mark rfl _ _ rfl _ w.heap.size _ _ _ _ (by rfl) K0.out.1 (by rfl) ?q0 ?r0 ?_)
              case q0 => exact Nat.le_trans K0.out.2.2 (by decide)
              case r0 => exact K0.out.2.1.size
              intro v1 w1 o1 b1 _
              have K1 : Hid (MOwn w1 w.heap.size v1 ((sumP E 1) ++ [((0 : Int), (0 : Int))]) ∧ Below w.heap.size w w1 ∧ ((sumP E 1) ++ [((0 : Int), (0 : Int))]).length ≤ 25) := Lib.hid ⟨by simpa using o1, K0.out.2.1.trans b1, by rw [List.length_append]; have := K0.out.2.2; simp only [List.length_cons, List.length_nil]; omega⟩
              clear o1 b1
              go_wp2_with (at_builtin; refine wp_app_mark rfl _ _ rfl _ w.heap.size _ _ _ _ (by rfl) K1.out.1 (by rfl) ?q1 ?r1 ?_)
              case q1 => exact Nat.le_trans K1.out.2.2 (by decide)
              case r1 => exact K1.out.2.1.size
              intro v2 w2 o2 b2 _
              have K2 : Hid (MOwn w2 w.heap.size v2 (((sumP E 1) ++ [((0 : Int), (0 : Int))]) ++ [((0 : Int), (1 : Int))]) ∧ Below w.heap.size w w2 ∧ (((sumP E 1) ++ [((0 : Int), (0 : Int))]) ++ [((0 : Int), (1 : Int))]).length ≤ 26) := Lib.hid ⟨by simpa using o2, K1.out.2.1.trans b2, by rw [List.length_append]; have := K1.out.2.2; simp only [List.length_cons, List.length_nil]; omega⟩
              clear o2 b2
              go_wp2_with (at_builtin; refine wp_app_mark rfl _ _ rfl _ w.heap.size _ _ _ _ (by rfl) K2.out.1 (by rfl) ?q2 ?r2 ?_)
              case q2 => exact Nat.le_trans K2.out.2.2 (by decide)
              case r2 => exact K2.out.2.1.size
              intro v3 w3 o3 b3 _
              have K3 : Hid (MOwn w3 w.heap.size v3 ((((sumP E 1) ++ [((0 : Int), (0 : Int))]) ++ [((0 : Int), (1 : Int))]) ++ [((1 : Int), (0 : Int))]) ∧ Below w.heap.size w w3 ∧ ((((sumP E 1) ++ [((0 : Int), (0 : Int))]) ++ [((0 : Int), (1 : Int))]) ++ [((1 : Int), (0 : Int))]).length ≤ 27) := Lib.hid ⟨by simpa using o3, K2.out.2.1.trans b3, by rw [List.length_append]; have := K2.out.2.2; simp only [List.length_cons, List.length_nil]; omega⟩
              clear o3 b3
              go_wp2_with (at_builtin; refine wp_app_mark rfl _ _ rfl _ w.heap.size _ _ _ _ (by rfl) K3.out.1 (by rfl) ?q3 ?r3 ?_)
              case q3 => exact Nat.le_trans K3.out.2.2 (by decide)
              case r3 => exact K3.out.2.1.size
              intro v4 w4 o4 b4 _
              have K4 : Hid (MOwn w4 w.heap.size v4 (((((sumP E 1) ++ [((0 : Int), (0 : Int))]) ++ [((0 : Int), (1 : Int))]) ++ [((1 : Int), (0 : Int))]) ++ [((2 : Int), (0 : Int))]) ∧ Below w.heap.size w w4 ∧ (((((sumP E 1) ++ [((0 : Int), (0 : Int))]) ++ [((0 : Int), (1 : Int))]) ++ [((1 : Int), (0 : Int))]) ++ [((2 : Int), (0 : Int))]).length ≤ 28) := Lib.hid ⟨by simpa using o4, K3.out.2.1.trans b4, by rw [List.length_append]; have := K3.out.2.2; simp only [List.length_cons, List.length_nil]; omega⟩
              clear o4 b4
              go_wp2_with fail
              obtain ⟨A9, c9, rfl, hl9, -⟩ := (K4.out.1.rd qC_len).form
              go_roundw
              case rel => exact ⟨2, _, c9, A9, by go_num, rfl, by omega, Lib.hid ⟨by rw [HN.out]; simpa [worldT, encT, letM] using K4.out.1, K4.out.2.1, by rw [HN.out]; simp [worldT, encT, letM]⟩⟩
              case measure => simp [intOf]
            · have HN := Lib.hid (sumP_more HBIT.out h0)
              have hnz : ((n : Int) == 0) = false := by have := H.out.2.2; simp; omega
              clear h0
              have K0 : Hid (MOwn wr w.heap.size (.slice A n c) (sumP E 1) ∧ Below w.heap.size w wr ∧ (sumP E 1).length ≤ 24) := Lib.hid ⟨H.out.1, H.out.2.1, Nat.le_trans HL.out (by decide)⟩
              go_wp2_with (at_builtin; refine wp_app_mark rfl _ _ rfl _ w.heap.size _ _ _ _ (by rfl) K0.out.1 (by rfl) ?q0 ?r0 ?_)
              case q0 => exact Nat.le_trans K0.out.2.2 (by decide)
              case r0 => exact K0.out.2.1.size
              intro v1 w1 o1 b1 _
              have K1 : Hid (MOwn w1 w.heap.size v1 ((sumP E 1) ++ [((0 : Int), (0 : Int))]) ∧ Below w.heap.size w w1 ∧ ((sumP E 1) ++ [((0 : Int), (0 : Int))]).length ≤ 25) := Lib.hid ⟨by simpa using o1, K0.out.2.1.trans b1, by rw [List.length_append]; have := K0.out.2.2; simp only [List.length_cons, List.length_nil]; omega⟩
              clear o1 b1
              go_wp2_with (at_builtin; refine wp_app_mark rfl _ _ rfl _ w.heap.size _ _ _ _ (by rfl) K1.out.1 (by rfl) ?q1 ?r1 ?_)
              case q1 => exact Nat.le_trans K1.out.2.2 (by decide)
              case r1 => exact K1.out.2.1.size
              intro v2 w2 o2 b2 _
              have K2 : Hid (MOwn w2 w.heap.size v2 (((sumP E 1) ++ [((0 : Int), (0 : Int))]) ++ [((0 : Int), (1 : Int))]) ∧ Below w.heap.size w w2 ∧ (((sumP E 1) ++ [((0 : Int), (0 : Int))]) ++ [((0 : Int), (1 : Int))]).length ≤ 26) := Lib.hid ⟨by simpa using o2, K1.out.2.1.trans b2, by rw [List.length_append]; have := K1.out.2.2; simp only [List.length_cons, List.length_nil]; omega⟩
              clear o2 b2
              go_wp2_with (at_builtin; refine wp_app_mark rfl _ _ rfl _ w.heap.size _ _ _ _ (by rfl) K2.out.1 (by rfl) ?q2 ?r2 ?_)
              case q2 => exact Nat.le_trans K2.out.2.2 (by decide)
              case r2 => exact K2.out.2.1.size
              intro v3 w3 o3 b3 _
              have K3 : Hid (MOwn w3 w.heap.size v3 ((((sumP E 1) ++ [((0 : Int), (0 : Int))]) ++ [((0 : Int), (1 : Int))]) ++ [((1 : Int), (0 : Int))]) ∧ Below w.heap.size w w3 ∧ ((((sumP E 1) ++ [((0 : Int), (0 : Int))]) ++ [((0 : Int), (1 : Int))]) ++ [((1 : Int), (0 : Int))]).length ≤ 27) := Lib.hid ⟨by simpa using o3, K2.out.2.1.trans b3, by rw [List.length_append]; have := K2.out.2.2; simp only [List.length_cons, List.length_nil]; omega⟩
              clear o3 b3
              go_wp2_with (at_builtin; refine wp_app_mark rfl _ _ rfl _ w.heap.size _ _ _ _ (by rfl) K3.out.1 (by rfl) ?q3 ?r3 ?_)
              case q3 => exact Nat.le_trans K3.out.2.2 (by decide)
              case r3 => exact K3.out.2.1.size
              intro v4 w4 o4 b4 _
              have K4 : Hid (MOwn w4 w.heap.size v4 (((((sumP E 1) ++ [((0 : Int), (0 : Int))]) ++ [((0 : Int), (1 : Int))]) ++ [((1 : Int), (0 : Int))]) ++ [((2 : Int), (0 : Int))]) ∧ Below w.heap.size w w4 ∧ (((((sumP E 1) ++ [((0 : Int), (0 : Int))]) ++ [((0 : Int), (1 : Int))]) ++ [((1 : Int), (0 : Int))]) ++ [((2 : Int), (0 : Int))]).length ≤ 28) := Lib.hid ⟨by simpa using o4, K3.out.2.1.trans b4, by rw [List.length_append]; have := K3.out.2.2; simp only [List.length_cons, List.length_nil]; omega⟩
              clear o4 b4
              go_wp2_with (at_builtin; refine wp_app_mark rfl _ _ rfl _ w.heap.size _ _ _ _ (by rfl) K4.out.1 (by rfl) ?q4 ?r4 ?_)
              case q4 => exact Nat.le_trans K4.out.2.2 (by decide)
              case r4 => exact K4.out.2.1.size
              intro v5 w5 o5 b5 _
              have K5 : Hid (MOwn w5 w.heap.size v5 ((((((sumP E 1) ++ [((0 : Int), (0 : Int))]) ++ [((0 : Int), (1 : Int))]) ++ [((1 : Int), (0 : Int))]) ++ [((2 : Int), (0 : Int))]) ++ [((3 : Int), (0 : Int))]) ∧ Below w.heap.size w w5 ∧ ((((((sumP E 1) ++ [((0 : Int), (0 : Int))]) ++ [((0 : Int), (1 : Int))]) ++ [((1 : Int), (0 : Int))]) ++ [((2 : Int), (0 : Int))]) ++ [((3 : Int), (0 : Int))]).length ≤ 29) := Lib.hid ⟨by simpa using o5, K4.out.2.1.trans b5, by rw [List.length_append]; have := K4.out.2.2; simp only [List.length_cons, List.length_nil]; omega⟩
              clear o5 b5
              go_wp2_with fail
              obtain ⟨A9, c9, rfl, hl9, -⟩ := (K5.out.1.rd qC_len).form
              go_roundw
              case rel => exact ⟨2, _, c9, A9, by go_num, rfl, by omega, Lib.hid ⟨by rw [HN.out]; simpa [worldT, encT, letM] using K5.out.1, K5.out.2.1, by rw [HN.out]; simp [worldT, encT, letM]⟩⟩
              case measure => simp [intOf]
          · skip
            by_cases h0 : (sumP E 2).length = 0
            · have HN := Lib.hid (sumP_first HBIT.out h0)
              obtain rfl : n = 0 := by rw [← H.out.2.2]; exact h0
              clear h0
              have K0 : Hid (MOwn wr w.heap.size (.slice A 0 c) (sumP E 2) ∧ Below w.heap.size w wr ∧ (sumP E 2).length ≤ 24) := Lib.hid ⟨H.out.1, H.out.2.1, Nat.le_trans HL.out (by decide)⟩
              go_wp2_with (at_builtin; refine wp_app_mark rfl _ _ rfl _ w.heap.size _ _ _ _ (by rfl) K0.out.1 (by rfl) ?q0 ?r0 ?_)
              case q0 => exact Nat.le_trans K0.out.2.2 (by decide)
              case r0 => exact K0.out.2.1.size
              intro v1 w1 o1 b1 _
              have K1 : Hid (MOwn w1 w.heap.size v1 ((sumP E 2) ++ [((0 : Int), (0 : Int))]) ∧ Below w.heap.size w w1 ∧ ((sumP E 2) ++ [((0 : Int), (0 : Int))]).length ≤ 25) := Lib.hid ⟨by simpa using o1, K0.out.2.1.trans b1, by rw [List.length_append]; have := K0.out.2.2; simp only [List.length_cons, List.length_nil]; omega⟩
              clear o1 b1
              go_wp2_with (at_builtin; refine wp_app_mark rfl _ _ rfl _ w.heap.size _ _ _ _ (by rfl) K1.out.1 (by rfl) ?q1 ?r1 ?_)
              case q1 => exact Nat.le_trans K1.out.2.2 (by decide)
              case r1 => exact K1.out.2.1.size
              intro v2 w2 o2 b2 _
              have K2 : Hid (MOwn w2 w.heap.size v2 (((sumP E 2) ++ [((0 : Int), (0 : Int))]) ++ [((1 : Int), (0 : Int))]) ∧ Below w.heap.size w w2 ∧ (((sumP E 2) ++ [((0 : Int), (0 : Int))]) ++ [((1 : Int), (0 : Int))]).length ≤ 26) := Lib.hid ⟨by simpa using o2, K1.out.2.1.trans b2, by rw [List.length_append]; have := K1.out.2.2; simp only [List.length_cons, List.length_nil]; omega⟩
              clear o2 b2
              go_wp2_with (at_builtin; refine wp_app_mark rfl _ _ rfl _ w.heap.size _ _ _ _ (by rfl) K2.out.1 (by rfl) ?q2 ?r2 ?_)
              case q2 => exact Nat.le_trans K2.out.2.2 (by decide)
              case r2 => exact K2.out.2.1.size
              intro v3 w3 o3 b3 _
              have K3 : Hid (MOwn w3 w.heap.size v3 ((((sumP E 2) ++ [((0 : Int), (0 : Int))]) ++ [((1 : Int), (0 : Int))]) ++ [((0 : Int), (1 : Int))]) ∧ Below w.heap.size w w3 ∧ ((((sumP E 2) ++ [((0 : Int), (0 : Int))]) ++ [((1 : Int), (0 : Int))]) ++ [((0 : Int), (1 : Int))]).length ≤ 27) := Lib.hid ⟨by simpa using o3, K2.out.2.1.trans b3, by rw [List.length_append]; have := K2.out.2.2; simp only [List.length_cons, List.length_nil]; omega⟩
              clear o3 b3
              go_wp2_with (at_builtin; refine wp_app_mark rfl _ _ rfl _ w.heap.size _ _ _ _ (by rfl) K3.out.1 (by rfl) ?q3 ?r3 ?_)
              case q3 => exact Nat.le_trans K3.out.2.2 (by decide)
              case r3 => exact K3.out.2.1.size
              intro v4 w4 o4 b4 _
              have K4 : Hid (MOwn w4 w.heap.size v4 (((((sumP E 2) ++ [((0 : Int), (0 : Int))]) ++ [((1 : Int), (0 : Int))]) ++ [((0 : Int), (1 : Int))]) ++ [((2 : Int), (0 : Int))]) ∧ Below w.heap.size w w4 ∧ (((((sumP E 2) ++ [((0 : Int), (0 : Int))]) ++ [((1 : Int), (0 : Int))]) ++ [((0 : Int), (1 : Int))]) ++ [((2 : Int), (0 : Int))]).length ≤ 28) := Lib.hid ⟨by simpa using o4, K3.out.2.1.trans b4, by rw [List.length_append]; have := K3.out.2.2; simp only [List.length_cons, List.length_nil]; omega⟩
              clear o4 b4
              go_wp2_with fail
              obtain ⟨A9, c9, rfl, hl9, -⟩ := (K4.out.1.rd qC_len).form
              go_roundw
              case rel => exact ⟨3, _, c9, A9, by go_num, rfl, by omega, Lib.hid ⟨by rw [HN.out]; simpa [worldT, encT, letM] using K4.out.1, K4.out.2.1, by rw [HN.out]; simp [worldT, encT, letM]⟩⟩
              case measure => simp [intOf]
            · have HN := Lib.hid (sumP_more HBIT.out h0)
              have hnz : ((n : Int) == 0) = false := by have := H.out.2.2; simp; omega
              clear h0
              have K0 : Hid (MOwn wr w.heap.size (.slice A n c) (sumP E 2) ∧ Below w.heap.size w wr ∧ (sumP E 2).length ≤ 24) := Lib.hid ⟨H.out.1, H.out.2.1, Nat.le_trans HL.out (by decide)⟩
              go_wp2_with (at_builtin; refine wp_app_mark rfl _ _ rfl _ w.heap.size _ _ _ _ (by rfl) K0.out.1 (by rfl) ?q0 ?r0 ?_)
              case q0 => exact Nat.le_trans K0.out.2.2 (by decide)
              case r0 => exact K0.out.2.1.size
              intro v1 w1 o1 b1 _
              have K1 : Hid (MOwn w1 w.heap.size v1 ((sumP E 2) ++ [((0 : Int), (0 : Int))]) ∧ Below w.heap.size w w1 ∧ ((sumP E 2) ++ [((0 : Int), (0 : Int))]).length ≤ 25) := Lib.hid ⟨by simpa using o1, K0.out.2.1.trans b1, by rw [List.length_append]; have := K0.out.2.2; simp only [List.length_cons, List.length_nil]; omega⟩
              clear o1 b1
              go_wp2_with (at_builtin; refine wp_app_mark rfl _ _ rfl _ w.heap.size _ _ _ _ (by rfl) K1.out.1 (by rfl) ?q1 ?r1 ?_)
              case q1 => exact Nat.le_trans K1.out.2.2 (by decide)
              case r1 => exact K1.out.2.1.size
              intro v2 w2 o2 b2 _
              have K2 : Hid (MOwn w2 w.heap.size v2 (((sumP E 2) ++ [((0 : Int), (0 : Int))]) ++ [((1 : Int), (0 : Int))]) ∧ Below w.heap.size w w2 ∧ (((sumP E 2) ++ [((0 : Int), (0 : Int))]) ++ [((1 : Int), (0 : Int))]).length ≤ 26) := Lib.hid ⟨by simpa using o2, K1.out.2.1.trans b2, by rw [List.length_append]; have := K1.out.2.2; simp only [List.length_cons, List.length_nil]; omega⟩
              clear o2 b2
              go_wp2_with (at_builtin; refine wp_app_mark rfl _ _ rfl _ w.heap.size _ _ _ _ (by rfl) K2.out.1 (by rfl) ?q2 ?r2 ?_)
              case q2 => exact Nat.le_trans K2.out.2.2 (by decide)
              case r2 => exact K2.out.2.1.size
              intro v3 w3 o3 b3 _
              have K3 : Hid (MOwn w3 w.heap.size v3 ((((sumP E 2) ++ [((0 : Int), (0 : Int))]) ++ [((1 : Int), (0 : Int))]) ++ [((0 : Int), (1 : Int))]) ∧ Below w.heap.size w w3 ∧ ((((sumP E 2) ++ [((0 : Int), (0 : Int))]) ++ [((1 : Int), (0 : Int))]) ++ [((0 : Int), (1 : Int))]).length ≤ 27) := Lib.hid ⟨by simpa using o3, K2.out.2.1.trans b3, by rw [List.length_append]; have := K2.out.2.2; simp only [List.length_cons, List.length_nil]; omega⟩
              clear o3 b3
              go_wp2_with (at_builtin; refine wp_app_mark rfl _ _ rfl _ w.heap.size _ _ _ _ (by rfl) K3.out.1 (by rfl) ?q3 ?r3 ?_)
              case q3 => exact Nat.le_trans K3.out.2.2 (by decide)
              case r3 => exact K3.out.2.1.size
              intro v4 w4 o4 b4 _
              have K4 : Hid (MOwn w4 w.heap.size v4 (((((sumP E 2) ++ [((0 : Int), (0 : Int))]) ++ [((1 : Int), (0 : Int))]) ++ [((0 : Int), (1 : Int))]) ++ [((2 : Int), (0 : Int))]) ∧ Below w.heap.size w w4 ∧ (((((sumP E 2) ++ [((0 : Int), (0 : Int))]) ++ [((1 : Int), (0 : Int))]) ++ [((0 : Int), (1 : Int))]) ++ [((2 : Int), (0 : Int))]).length ≤ 28) := Lib.hid ⟨by simpa using o4, K3.out.2.1.trans b4, by rw [List.length_append]; have := K3.out.2.2; simp only [List.length_cons, List.length_nil]; omega⟩
              clear o4 b4
              go_wp2_with (at_builtin; refine wp_app_mark rfl _ _ rfl _ w.heap.size _ _ _ _ (by rfl) K4.out.1 (by rfl) ?q4 ?r4 ?_)
              case q4 => exact Nat.le_trans K4.out.2.2 (by decide)
              case r4 => exact K4.out.2.1.size
              intro v5 w5 o5 b5 _
              have K5 : Hid (MOwn w5 w.heap.size v5 ((((((sumP E 2) ++ [((0 : Int), (0 : Int))]) ++ [((1 : Int), (0 : Int))]) ++ [((0 : Int), (1 : Int))]) ++ [((2 : Int), (0 : Int))]) ++ [((3 : Int), (0 : Int))]) ∧ Below w.heap.size w w5 ∧ ((((((sumP E 2) ++ [((0 : Int), (0 : Int))]) ++ [((1 : Int), (0 : Int))]) ++ [((0 : Int), (1 : Int))]) ++ [((2 : Int), (0 : Int))]) ++ [((3 : Int), (0 : Int))]).length ≤ 29) := Lib.hid ⟨by simpa using o5, K4.out.2.1.trans b5, by rw [List.length_append]; have := K4.out.2.2; simp only [List.length_cons, List.length_nil]; omega⟩
              clear o5 b5
              go_wp2_with fail
              obtain ⟨A9, c9, rfl, hl9, -⟩ := (K5.out.1.rd qC_len).form
              go_roundw
              case rel => exact ⟨3, _, c9, A9, by go_num, rfl, by omega, Lib.hid ⟨by rw [HN.out]; simpa [worldT, encT, letM] using K5.out.1, K5.out.2.1, by rw [HN.out]; simp [worldT, encT, letM]⟩⟩
              case measure => simp [intOf]
          · skip
            by_cases h0 : (sumP E 3).length = 0
            · have HN := Lib.hid (sumP_first HBIT.out h0)
              obtain rfl : n = 0 := by rw [← H.out.2.2]; exact h0
              clear h0
              have K0 : Hid (MOwn wr w.heap.size (.slice A 0 c) (sumP E 3) ∧ Below w.heap.size w wr ∧ (sumP E 3).length ≤ 24) := Lib.hid ⟨H.out.1, H.out.2.1, Nat.le_trans HL.out (by decide)⟩
              go_wp2_with (at_builtin; refine wp_app_mark rfl _ _ rfl _ w.heap.size _ _ _ _ (by rfl) K0.out.1 (by rfl) ?q0 ?r0 ?_)
              case q0 => exact Nat.le_trans K0.out.2.2 (by decide)
              case r0 => exact K0.out.2.1.size
              intro v1 w1 o1 b1 _
              have K1 : Hid (MOwn w1 w.heap.size v1 ((sumP E 3) ++ [((0 : Int), (0 : Int))]) ∧ Below w.heap.size w w1 ∧ ((sumP E 3) ++ [((0 : Int), (0 : Int))]).length ≤ 25) := Lib.hid ⟨by simpa using o1, K0.out.2.1.trans b1, by rw [List.length_append]; have := K0.out.2.2; simp only [List.length_cons, List.length_nil]; omega⟩
              clear o1 b1
              go_wp2_with (at_builtin; refine wp_app_mark rfl _ _ rfl _ w.heap.size _ _ _ _ (by rfl) K1.out.1 (by rfl) ?q1 ?r1 ?_)
              case q1 => exact Nat.le_trans K1.out.2.2 (by decide)
              case r1 => exact K1.out.2.1.size
              intro v2 w2 o2 b2 _
              have K2 : Hid (MOwn w2 w.heap.size v2 (((sumP E 3) ++ [((0 : Int), (0 : Int))]) ++ [((0 : Int), (1 : Int))]) ∧ Below w.heap.size w w2 ∧ (((sumP E 3) ++ [((0 : Int), (0 : Int))]) ++ [((0 : Int), (1 : Int))]).length ≤ 26) := Lib.hid ⟨by simpa using o2, K1.out.2.1.trans b2, by rw [List.length_append]; have := K1.out.2.2; simp only [List.length_cons, List.length_nil]; omega⟩
              clear o2 b2
              go_wp2_with (at_builtin; refine wp_app_mark rfl _ _ rfl _ w.heap.size _ _ _ _ (by rfl) K2.out.1 (by rfl) ?q2 ?r2 ?_)
              case q2 => exact Nat.le_trans K2.out.2.2 (by decide)
              case r2 => exact K2.out.2.1.size
              intro v3 w3 o3 b3 _
              have K3 : Hid (MOwn w3 w.heap.size v3 ((((sumP E 3) ++ [((0 : Int), (0 : Int))]) ++ [((0 : Int), (1 : Int))]) ++ [((2 : Int), (0 : Int))]) ∧ Below w.heap.size w w3 ∧ ((((sumP E 3) ++ [((0 : Int), (0 : Int))]) ++ [((0 : Int), (1 : Int))]) ++ [((2 : Int), (0 : Int))]).length ≤ 27) := Lib.hid ⟨by simpa using o3, K2.out.2.1.trans b3, by rw [List.length_append]; have := K2.out.2.2; simp only [List.length_cons, List.length_nil]; omega⟩
              clear o3 b3
              go_wp2_with fail
              obtain ⟨A9, c9, rfl, hl9, -⟩ := (K3.out.1.rd qC_len).form
              go_roundw
              case rel => exact ⟨4, _, c9, A9, by go_num, rfl, by omega, Lib.hid ⟨by rw [HN.out]; simpa [worldT, encT, letM] using K3.out.1, K3.out.2.1, by rw [HN.out]; simp [worldT, encT, letM]⟩⟩
              case measure => simp [intOf]
            · have HN := Lib.hid (sumP_more HBIT.out h0)
              have hnz : ((n : Int) == 0) = false := by have := H.out.2.2; simp; omega
              clear h0
              have K0 : Hid (MOwn wr w.heap.size (.slice A n c) (sumP E 3) ∧ Below w.heap.size w wr ∧ (sumP E 3).length ≤ 24) := Lib.hid ⟨H.out.1, H.out.2.1, Nat.le_trans HL.out (by decide)⟩
              go_wp2_with (at_builtin; refine wp_app_mark rfl _ _ rfl _ w.heap.size _ _ _ _ (by rfl) K0.out.1 (by rfl) ?q0 ?r0 ?_)
              case q0 => exact Nat.le_trans K0.out.2.2 (by decide)
              case r0 => exact K0.out.2.1.size
              intro v1 w1 o1 b1 _
              have K1 : Hid (MOwn w1 w.heap.size v1 ((sumP E 3) ++ [((0 : Int), (0 : Int))]) ∧ Below w.heap.size w w1 ∧ ((sumP E 3) ++ [((0 : Int), (0 : Int))]).length ≤ 25) := Lib.hid ⟨by simpa using o1, K0.out.2.1.trans b1, by rw [List.length_append]; have := K0.out.2.2; simp only [List.length_cons, List.length_nil]; omega⟩
              clear o1 b1
              go_wp2_with (at_builtin; refine wp_app_mark rfl _ _ rfl _ w.heap.size _ _ _ _ (by rfl) K1.out.1 (by rfl) ?q1 ?r1 ?_)
              case q1 => exact Nat.le_trans K1.out.2.2 (by decide)
              case r1 => exact K1.out.2.1.size
              intro v2 w2 o2 b2 _
              have K2 : Hid (MOwn w2 w.heap.size v2 (((sumP E 3) ++ [((0 : Int), (0 : Int))]) ++ [((0 : Int), (1 : Int))]) ∧ Below w.heap.size w w2 ∧ (((sumP E 3) ++ [((0 : Int), (0 : Int))]) ++ [((0 : Int), (1 : Int))]).length ≤ 26) := Lib.hid ⟨by simpa using o2, K1.out.2.1.trans b2, by rw [List.length_append]; have := K1.out.2.2; simp only [List.length_cons, List.length_nil]; omega⟩
              clear o2 b2
              go_wp2_with (at_builtin; refine wp_app_mark rfl _ _ rfl _ w.heap.size _ _ _ _ (by rfl) K2.out.1 (by rfl) ?q2 ?r2 ?_)
              case q2 => exact Nat.le_trans K2.out.2.2 (by decide)
              case r2 => exact K2.out.2.1.size
              intro v3 w3 o3 b3 _
              have K3 : Hid (MOwn w3 w.heap.size v3 ((((sumP E 3) ++ [((0 : Int), (0 : Int))]) ++ [((0 : Int), (1 : Int))]) ++ [((2 : Int), (0 : Int))]) ∧ Below w.heap.size w w3 ∧ ((((sumP E 3) ++ [((0 : Int), (0 : Int))]) ++ [((0 : Int), (1 : Int))]) ++ [((2 : Int), (0 : Int))]).length ≤ 27) := Lib.hid ⟨by simpa using o3, K2.out.2.1.trans b3, by rw [List.length_append]; have := K2.out.2.2; simp only [List.length_cons, List.length_nil]; omega⟩
              clear o3 b3
              go_wp2_with (at_builtin; refine wp_app_mark rfl _ _ rfl _ w.heap.size _ _ _ _ (by rfl) K3.out.1 (by rfl) ?q3 ?r3 ?_)
              case q3 => exact Nat.le_trans K3.out.2.2 (by decide)
              case r3 => exact K3.out.2.1.size
              intro v4 w4 o4 b4 _
              have K4 : Hid (MOwn w4 w.heap.size v4 (((((sumP E 3) ++ [((0 : Int), (0 : Int))]) ++ [((0 : Int), (1 : Int))]) ++ [((2 : Int), (0 : Int))]) ++ [((3 : Int), (0 : Int))]) ∧ Below w.heap.size w w4 ∧ (((((sumP E 3) ++ [((0 : Int), (0 : Int))]) ++ [((0 : Int), (1 : Int))]) ++ [((2 : Int), (0 : Int))]) ++ [((3 : Int), (0 : Int))]).length ≤ 28) := Lib.hid ⟨by simpa using o4, K3.out.2.1.trans b4, by rw [List.length_append]; have := K3.out.2.2; simp only [List.length_cons, List.length_nil]; omega⟩
              clear o4 b4
              go_wp2_with fail
              obtain ⟨A9, c9, rfl, hl9, -⟩ := (K4.out.1.rd qC_len).form
              go_roundw
              case rel => exact ⟨4, _, c9, A9, by go_num, rfl, by omega, Lib.hid ⟨by rw [HN.out]; simpa [worldT, encT, letM] using K4.out.1, K4.out.2.1, by rw [HN.out]; simp [worldT, encT, letM]⟩⟩
              case measure => simp [intOf]
      · have hk4 : k = 4 := by omega
        subst hk4
        by_cases h0 : (sumP E 4).length = 0
        · have HR := Lib.hid (sumTR_zero hE h0)
          obtain rfl : n = 0 := by rw [← H.out.2.2]; exact h0
          clear h0
          go_wp2_with fail
          go_ret
          exact mrow_ret HR.out (World.ownsRow_lit wr #[.int .i64 0, .int .i64 0, .int .i64 0, .int .i64 0, .int .i64 1, .int .i64 0, .int .i64 2, .int .i64 0] 4 H.out.2.1.size (by unfold maxLen; omega) rfl) (H.out.2.1.alloc H.out.2.1.size _)
        · have HR := Lib.hid (sumTR_some hE h0)
          have hnz : ((n : Int) == 0) = false := by have := H.out.2.2; simp; omega
          clear h0
          go_wp2_with fail
          go_ret
          exact mrow_ret HR.out H.out.1 H.out.2.1
  · have HR : Hid (sumTR e = []) := Lib.hid (by rw [sumTR, h]; rfl)
    go_enter Try.func30, Try.ntmps30
    go_wp2_with fail
    refine (specEventOk_any _ _ _).mono ?_
    rintro r w2 ⟨rfl, rfl⟩
    rw [h]
    go_wp2_with fail
    go_ret
    exact mrow_ret HR.out (mlit0 w w.heap.size (Nat.le_refl _)) ((Below.refl _ _).alloc (Nat.le_refl _) _)

end Go.Proofs.Ytkochmmlcenncaa
