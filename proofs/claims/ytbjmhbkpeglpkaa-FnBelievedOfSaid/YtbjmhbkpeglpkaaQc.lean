/- Contracts of the functions on quotes that hand back no row. Conditions: none, or stated at each. Contracts on the way to GainOf. Conditions: valid quotes and stakes where it is said. spec.GainOf. Conditions: none. -/
import Derived.Test.YtbjmhbkpeglpkaaGf
import Derived.Test.YtbjmhbkpeglpkaaQm
import Derived.Handy
namespace Go.Proofs.Ytbjmhbkpeglpkaa
open Go.RowKit
set_option linter.unusedVariables false

/-- a quote as a value -/
def qV (q : Qt) : Value := .agg #[.int .i64 q.1, .int .i64 q.2]

theorem qok_mk {w e p : Int} {b c : Bool} (h : evB w e = b) (k : inB p 0 6 = c) : qokB w (e, p) = (b && c) := by rw [qokB, h, k]

theorem qok_true {w e p : Int} (h : qokB w (e, p) = true) : evB w e = true ∧ 0 ≤ p ∧ p ≤ 6 ∧ 1 ≤ w ∧ w ≤ 4 ∧ 0 ≤ e ∧ e ≤ 15 := by
  have h1 := (qokB_iff _ _).1 h
  have h2 := (evB_iff _ _).1 h1.1
  have h3 := evB_15 h1.1
  exact ⟨h1.1, h1.2.1, h1.2.2, h2.1, h2.2.1, h3.1, h3.2⟩

theorem other_yes {w e p : Int} (h : qokB w (e, p) = true) : otherR w (e, p) = (notI w e, 6 - p) := by rw [otherR, if_pos h]; rfl

theorem other_no {w : Int} {q : Qt} (h : qokB w q = false) : otherR w q = (0, 0) := by rw [otherR, h]; rfl

theorem ret_q {a b c d : Int} (h : a = c) (k : b = d) : Ending.returned (.agg #[.int .i64 a, .int .i64 b]) = .returned (.agg #[.int .i64 c, .int .i64 d]) := by rw [h, k]

end Go.Proofs.Ytbjmhbkpeglpkaa

namespace Go.Proofs.Ytbjmhbkpeglpkaa
open Go.RowKit
set_option linter.unusedVariables false

theorem hasq_tab : ∀ e : Fin 16, ∀ a : Fin 4, (bits BinOp.and IntKind.i64 (((e : Nat) : Int) / 2 ^ (a : Nat)) 1 == 1) = (bitI ((e : Nat) : Int) (a : Nat) == 1) := by decide +kernel

set_option maxHeartbeats 1000000 in
theorem hasQ_any (e : Int) (a : Nat) (h0 : 0 ≤ e) (h1 : e ≤ 15) (ha : a < 4) (W : World) :
    Calls Try.prog 77 #[.int .i64 e, .int .i64 (a : Int)] W fun r W' => r = .returned (.bool (bitI e a == 1)) ∧ W = W' := by
  obtain ⟨k, rfl⟩ := fin16 h0 h1
  have ht := hasq_tab k ⟨a, ha⟩
  have H := Lib.hid ht
  clear ht
  obtain rfl | rfl | rfl | rfl : a = 0 ∨ a = 1 ∨ a = 2 ∨ a = 3 := by omega
  all_goals
    go_enter Try.func77, Try.ntmps77
    go_wp2
    go_ret
    exact ⟨ret_bool (by have := H.out; simpa using this), rfl⟩

theorem gain_one {e p s : Int} {k : Nat} (h : (bitI e k == 1) = true) : gainI (e, p) s k = s * (6 - p) := by
  rw [beq_iff_eq] at h
  simp [gainI, h]

theorem gain_zero {e p s : Int} {k : Nat} (h : (bitI e k == 1) = false) : gainI (e, p) s k = s * -p := by
  have : bitI e k = 0 := by
    rw [beq_eq_false_iff_ne] at h
    rcases bitI_01 e k with h1 | h1
    · exact h1
    · exact absurd h1 h
  simp [gainI, this]

theorem mul_96 {s d : Int} (hs : -9 ≤ s ∧ s ≤ 9) (hd : -6 ≤ d ∧ d ≤ 6) : -54 ≤ s * d ∧ s * d ≤ 54 := by
  have h1 : 0 ≤ (9 - s) * (6 + d) := Int.mul_nonneg (by omega) (by omega)
  have h2 : 0 ≤ (9 + s) * (6 - d) := Int.mul_nonneg (by omega) (by omega)
  have h3 : 0 ≤ (9 + s) * (6 + d) := Int.mul_nonneg (by omega) (by omega)
  have h4 : 0 ≤ (9 - s) * (6 - d) := Int.mul_nonneg (by omega) (by omega)
  simp only [Int.sub_mul, Int.add_mul, Int.mul_add, Int.mul_sub] at h1 h2 h3 h4
  omega

/-- a quote that lies within bounds: its event is one of at most four worlds, its price one of 0..6; and a stake -/
def Fit (q : Qt) (s : Int) : Prop := (0 ≤ q.1 ∧ q.1 ≤ 15) ∧ (0 ≤ q.2 ∧ q.2 ≤ 6) ∧ -9 ≤ s ∧ s ≤ 9

theorem fit_of {w : Int} {q : Qt} {s : Int} (h : gainB w q s = true) : Fit q s := by
  rw [gainB, Bool.and_eq_true, stB_iff] at h
  obtain ⟨h1, h2, h3, -, -, h6, h7⟩ := qok_true (w := w) (e := q.1) (p := q.2) h.1
  exact ⟨⟨h6, h7⟩, ⟨h2, h3⟩, h.2⟩

theorem bit_tmod (e : Int) (h : 0 ≤ e) (k : Nat) : (e / 2 ^ k).tmod 2 = bitI e k := by
  rw [Int.tmod_eq_emod_of_nonneg (Int.ediv_nonneg h (Int.pow_nonneg (by decide)))]
  rfl

theorem newInts_of {W w1 w2 : World} {xs : List Int} {e : Ending} (hb : Below W.heap.size W w1) (h : NewInts xs w1 e w2) : NewInts xs W e w2 := by
  obtain ⟨v, rfl, o, b⟩ := h
  exact ⟨v, rfl, o.base hb.size, below_step hb b hb.size⟩

theorem newInts_nil {W w1 : World} {xs : List Int} (h : xs = []) (hb : Below W.heap.size W w1) : NewInts xs W (.returned (.slice none 0 0)) w1 := by
  subst h
  exact ⟨_, rfl, nil_own _ _, hb⟩

theorem newInts_ret {W w1 : World} {xs ys : List Int} {v : Value} (h : xs = ys) (o : IOwn w1 W.heap.size v ys) (hb : Below W.heap.size W w1) : NewInts xs W (.returned v) w1 := by
  subst h
  exact ⟨v, rfl, o, hb⟩

theorem gainB_no1 {w : Int} {q : Qt} (s : Int) (h : qokB w q = false) : gainB w q s = false := by rw [gainB, h]; rfl

theorem gainB_no2 {w : Int} (q : Qt) {s : Int} (h : stB s = false) : gainB w q s = false := by rw [gainB, h]; simp

theorem gainB_yes {w : Int} {q : Qt} {s : Int} (h : qokB w q = true) (k : stB s = true) : gainB w q s = true := by rw [gainB, h, k]; rfl

theorem gainR_no {w : Int} {q : Qt} {s : Int} (h : gainB w q s = false) : gainR w q s = [] := by rw [gainR, h]; rfl

theorem gainR_yes {w : Int} {q : Qt} {s : Int} (h : gainB w q s = true) : gainR w q s = gainL w q s := by rw [gainR, if_pos h]

end Go.Proofs.Ytbjmhbkpeglpkaa

namespace Go.Proofs.Ytbjmhbkpeglpkaa
open Go.RowKit
set_option linter.unusedVariables false

theorem AppRel.keep {w wr w' : World} {zs : List Int} {k : Nat} {p : Value} (h : AppRel w zs k p wr) (hb : Below wr.heap.size wr w') : AppRel w zs k p w' :=
  ⟨h.1.keep (SameAt.of_below hb), below_step h.2 hb h.2.size⟩

theorem inB_stB (s : Int) : inB s (-9) 9 = stB s := rfl

theorem app_start' (W : World) (o : Obj) (zs : List Int) : AppRel (W.alloc o) zs 0 (.slice (some ⟨W.heap.size + 1, 0, none⟩) 0 0) ((W.alloc o).alloc (.cells #[] 3)) := by
  have h := app_start (W.alloc o) zs
  rw [show (W.alloc o).heap.size = W.heap.size + 1 from by simp] at h
  exact h

theorem lit_own' (W : World) (o : Obj) : IOwn ((W.alloc o).alloc (.cells #[] 3)) W.heap.size (.slice (some ⟨W.heap.size + 1, 0, none⟩) 0 0) [] := by
  have h := lit_own (W.alloc o) W.heap.size (by simp)
  rw [show (W.alloc o).heap.size = W.heap.size + 1 from by simp] at h
  exact h

end Go.Proofs.Ytbjmhbkpeglpkaa
