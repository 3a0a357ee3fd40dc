/- The program's SumTerm. No condition. (gen_xpj.py) -/
import Derived.Test.YtfdlfgokoponmaaXpc
import Derived.Test.YtfdlfgokoponmaaXpb
namespace Go.Proofs.Ytfdlfgokoponmaa
open Go.RowKit
set_option linter.unusedVariables false
set_option linter.unusedSimpArgs false

/-- the letters of a world, the first j of them -/
def wlL (k j : Nat) : List Mk := if j = 0 then [] else if j = 1 then (if k % 2 = 0 then [(0, 0), (1, 0)] else [(0, 0)]) else (if k % 2 = 0 then [(0, 0), (1, 0)] else [(0, 0)]) ++ (if k < 2 then [(0, 1), (1, 0)] else [(0, 1)])

theorem wl_world {k : Nat} : wlL k 2 ++ [(2, 0)] = encT (worldT k) := by
  unfold worldT wlL
  by_cases h1 : k % 2 = 0 <;> by_cases h2 : k < 2 <;> simp [h1, h2, encT, letM]

theorem wl_len (k j : Nat) : (wlL k j).length ≤ 4 := by
  unfold wlL
  by_cases h0 : j = 0 <;> by_cases h3 : j = 1 <;> by_cases h1 : k % 2 = 0 <;> by_cases h2 : k < 2 <;> simp [h0, h1, h2, h3]

/-- marks behind marks -/
def AddPost (ms ns : List Mk) (base : Nat) (w : World) (e : Ending) (w' : World) : Prop := ∃ v, e = .returned v ∧ MOwn w' base v (ms ++ ns) ∧ Below base w w'

set_option maxRecDepth 100000 in
set_option maxHeartbeats 4000000 in
theorem addWorld_0_first (w : World) (base : Nat) (hb : base ≤ w.heap.size) (v : Value) (ms : List Mk) (hms : ms.length ≤ 100) (h0 : ms.length = 0) (o : MOwn w base v ms) :
    Calls Try.prog 37 #[v, .int .i64 0] w (AddPost ms (encT (worldT 0)) base w) := by
  obtain ⟨A0, n0, c0, rfl⟩ := mform o
  have hn0 : n0 = ms.length := by
    obtain ⟨A, cp, e, -, -⟩ := (o.rd qC_len).form
    injection e
  have hnz : ((n0 : Int) == 0) = true := by simp; omega
  have HMS := Lib.hid hms
  have HO := Lib.hid o
  clear o hn0 h0 hms
  go_enter Try.func37, Try.ntmps37
  go_wp2_with fail
  go_loopw [0, 10] (fun p i wr => ∃ (j : Nat) (A : Option Addr) (n c : Nat), i = .int .i64 (j : Int) ∧ j ≤ 2 ∧ p = .slice A n c ∧ Hid (MOwn wr base (.slice A n c) (ms ++ wlL 0 j) ∧ Below base w wr ∧ (ms ++ wlL 0 j).length ≤ 1000)) (fun _ i _ => 2 - (intOf i).toNat)
  case atStart => exact ⟨0, A0, n0, c0, rfl, by omega, rfl, Lib.hid ⟨by simpa [wlL] using HO.out, Below.refl _ _, by have := HMS.out; simp [wlL]; omega⟩⟩
  case round =>
    obtain ⟨j, A, n, c, rfl, hj, rfl, H⟩ := hrel
    obtain rfl | rfl | rfl : j = 0 ∨ j = 1 ∨ j = 2 := by omega
    · skip
      go_wp2_with (at_builtin; refine wp_app_mark rfl _ _ rfl _ base _ (ms ++ wlL 0 0) _ _ (by rfl) H.out.1 (by rfl) ?q1 ?r1 ?_)
      case q1 => have := H.out.2.2; omega
      case r1 => exact Nat.le_trans hb H.out.2.1.size
      intro v1 w1 o1 b1 _
      have K1 : Hid (MOwn w1 base v1 (ms ++ (wlL 0 0 ++ [((0 : Int), (0 : Int))])) ∧ Below base w w1 ∧ (ms ++ (wlL 0 0 ++ [((0 : Int), (0 : Int))])).length ≤ 1000) := Lib.hid ⟨by rw [← List.append_assoc]; simpa using o1, H.out.2.1.trans b1, by have h3 := wl_len 0 0; have h2 := HMS.out; simp only [List.length_append, List.length_cons, List.length_nil]; omega⟩
      clear o1 b1
      go_wp2_with fail
      refine (hasLetter_any 0 0 (by decide) (by decide) (by decide) _).mono ?_
      rintro r w' ⟨rfl, rfl⟩
      rw [show (bitI 0 0 == 1) = false from rfl]
      go_wp2_with (at_builtin; refine wp_app_mark rfl _ _ rfl _ base _ (ms ++ (wlL 0 0 ++ [((0 : Int), (0 : Int))])) _ _ (by rfl) K1.out.1 (by rfl) ?q2 ?r2 ?_)
      case q2 => have := K1.out.2.2; omega
      case r2 => exact Nat.le_trans hb K1.out.2.1.size
      intro v2 w2 o2 b2 _
      obtain ⟨A9, n9, c9, rfl⟩ := mform o2
      have h9 : ms ++ wlL 0 1 = ms ++ (wlL 0 0 ++ [((0 : Int), (0 : Int))]) ++ [((1 : Int), (0 : Int))] := by simp [wlL]
      have K2 : Hid (MOwn w2 base (.slice A9 n9 c9) (ms ++ wlL 0 1) ∧ Below base w w2) := Lib.hid ⟨by rw [h9]; simpa using o2, K1.out.2.1.trans b2⟩
      clear h9
      clear o2 b2
      go_wp2_with fail
      go_roundw
      case rel => exact ⟨1, A9, n9, c9, by rfl, by omega, rfl, Lib.hid ⟨K2.out.1, K2.out.2, by have h3 := wl_len 0 1; have h2 := HMS.out; simp only [List.length_append]; omega⟩⟩
      case measure => simp [intOf]
    · skip
      go_wp2_with (at_builtin; refine wp_app_mark rfl _ _ rfl _ base _ (ms ++ wlL 0 1) _ _ (by rfl) H.out.1 (by rfl) ?q1 ?r1 ?_)
      case q1 => have := H.out.2.2; omega
      case r1 => exact Nat.le_trans hb H.out.2.1.size
      intro v1 w1 o1 b1 _
      have K1 : Hid (MOwn w1 base v1 (ms ++ (wlL 0 1 ++ [((0 : Int), (1 : Int))])) ∧ Below base w w1 ∧ (ms ++ (wlL 0 1 ++ [((0 : Int), (1 : Int))])).length ≤ 1000) := Lib.hid ⟨by rw [← List.append_assoc]; simpa using o1, H.out.2.1.trans b1, by have h3 := wl_len 0 1; have h2 := HMS.out; simp only [List.length_append, List.length_cons, List.length_nil]; omega⟩
      clear o1 b1
      go_wp2_with fail
      refine (hasLetter_any 0 1 (by decide) (by decide) (by decide) _).mono ?_
      rintro r w' ⟨rfl, rfl⟩
      rw [show (bitI 0 1 == 1) = false from rfl]
      go_wp2_with (at_builtin; refine wp_app_mark rfl _ _ rfl _ base _ (ms ++ (wlL 0 1 ++ [((0 : Int), (1 : Int))])) _ _ (by rfl) K1.out.1 (by rfl) ?q2 ?r2 ?_)
      case q2 => have := K1.out.2.2; omega
      case r2 => exact Nat.le_trans hb K1.out.2.1.size
      intro v2 w2 o2 b2 _
      obtain ⟨A9, n9, c9, rfl⟩ := mform o2
      have h9 : ms ++ wlL 0 2 = ms ++ (wlL 0 1 ++ [((0 : Int), (1 : Int))]) ++ [((1 : Int), (0 : Int))] := by simp [wlL]
      have K2 : Hid (MOwn w2 base (.slice A9 n9 c9) (ms ++ wlL 0 2) ∧ Below base w w2) := Lib.hid ⟨by rw [h9]; simpa using o2, K1.out.2.1.trans b2⟩
      clear h9
      clear o2 b2
      go_wp2_with fail
      go_roundw
      case rel => exact ⟨2, A9, n9, c9, by rfl, by omega, rfl, Lib.hid ⟨K2.out.1, K2.out.2, by have h3 := wl_len 0 2; have h2 := HMS.out; simp only [List.length_append]; omega⟩⟩
      case measure => simp [intOf]
    · skip
      go_wp2_with (at_builtin; refine wp_app_mark rfl _ _ rfl _ base _ (ms ++ wlL 0 2) _ _ (by rfl) H.out.1 (by rfl) ?q1 ?r1 ?_)
      case q1 => have := H.out.2.2; omega
      case r1 => exact Nat.le_trans hb H.out.2.1.size
      intro v1 w1 o1 b1 _
      have K1 : Hid (MOwn w1 base v1 (ms ++ encT (worldT 0)) ∧ Below base w w1 ∧ (ms ++ encT (worldT 0)).length ≤ 1000) := Lib.hid ⟨by rw [← wl_world, ← List.append_assoc]; simpa using o1, H.out.2.1.trans b1, by rw [← wl_world]; have h3 := wl_len 0 2; have h2 := HMS.out; simp only [List.length_append, List.length_cons, List.length_nil]; omega⟩
      clear o1 b1
      go_wp2_with fail
      go_ret
      exact ⟨_, rfl, K1.out.1, K1.out.2.1⟩

set_option maxRecDepth 100000 in
set_option maxHeartbeats 4000000 in
theorem addWorld_0_more (w : World) (base : Nat) (hb : base ≤ w.heap.size) (v : Value) (ms : List Mk) (hms : ms.length ≤ 100) (h0 : ¬ ms.length = 0) (o : MOwn w base v ms) :
    Calls Try.prog 37 #[v, .int .i64 0] w (AddPost ms (encT (worldT 0) ++ [(3, 0)]) base w) := by
  obtain ⟨A0, n0, c0, rfl⟩ := mform o
  have hn0 : n0 = ms.length := by
    obtain ⟨A, cp, e, -, -⟩ := (o.rd qC_len).form
    injection e
  have hnz : ((n0 : Int) == 0) = false := by simp; omega
  have HMS := Lib.hid hms
  have HO := Lib.hid o
  clear o hn0 h0 hms
  go_enter Try.func37, Try.ntmps37
  go_wp2_with fail
  go_loopw [0, 10] (fun p i wr => ∃ (j : Nat) (A : Option Addr) (n c : Nat), i = .int .i64 (j : Int) ∧ j ≤ 2 ∧ p = .slice A n c ∧ Hid (MOwn wr base (.slice A n c) (ms ++ wlL 0 j) ∧ Below base w wr ∧ (ms ++ wlL 0 j).length ≤ 1000)) (fun _ i _ => 2 - (intOf i).toNat)
  case atStart => exact ⟨0, A0, n0, c0, rfl, by omega, rfl, Lib.hid ⟨by simpa [wlL] using HO.out, Below.refl _ _, by have := HMS.out; simp [wlL]; omega⟩⟩
  case round =>
    obtain ⟨j, A, n, c, rfl, hj, rfl, H⟩ := hrel
    obtain rfl | rfl | rfl : j = 0 ∨ j = 1 ∨ j = 2 := by omega
    · skip
      go_wp2_with (at_builtin; refine wp_app_mark rfl _ _ rfl _ base _ (ms ++ wlL 0 0) _ _ (by rfl) H.out.1 (by rfl) ?q1 ?r1 ?_)
      case q1 => have := H.out.2.2; omega
      case r1 => exact Nat.le_trans hb H.out.2.1.size
      intro v1 w1 o1 b1 _
      have K1 : Hid (MOwn w1 base v1 (ms ++ (wlL 0 0 ++ [((0 : Int), (0 : Int))])) ∧ Below base w w1 ∧ (ms ++ (wlL 0 0 ++ [((0 : Int), (0 : Int))])).length ≤ 1000) := Lib.hid ⟨by rw [← List.append_assoc]; simpa using o1, H.out.2.1.trans b1, by have h3 := wl_len 0 0; have h2 := HMS.out; simp only [List.length_append, List.length_cons, List.length_nil]; omega⟩
      clear o1 b1
      go_wp2_with fail
      refine (hasLetter_any 0 0 (by decide) (by decide) (by decide) _).mono ?_
      rintro r w' ⟨rfl, rfl⟩
      rw [show (bitI 0 0 == 1) = false from rfl]
      go_wp2_with (at_builtin; refine wp_app_mark rfl _ _ rfl _ base _ (ms ++ (wlL 0 0 ++ [((0 : Int), (0 : Int))])) _ _ (by rfl) K1.out.1 (by rfl) ?q2 ?r2 ?_)
      case q2 => have := K1.out.2.2; omega
      case r2 => exact Nat.le_trans hb K1.out.2.1.size
      intro v2 w2 o2 b2 _
      obtain ⟨A9, n9, c9, rfl⟩ := mform o2
      have h9 : ms ++ wlL 0 1 = ms ++ (wlL 0 0 ++ [((0 : Int), (0 : Int))]) ++ [((1 : Int), (0 : Int))] := by simp [wlL]
      have K2 : Hid (MOwn w2 base (.slice A9 n9 c9) (ms ++ wlL 0 1) ∧ Below base w w2) := Lib.hid ⟨by rw [h9]; simpa using o2, K1.out.2.1.trans b2⟩
      clear h9
      clear o2 b2
      go_wp2_with fail
      go_roundw
      case rel => exact ⟨1, A9, n9, c9, by rfl, by omega, rfl, Lib.hid ⟨K2.out.1, K2.out.2, by have h3 := wl_len 0 1; have h2 := HMS.out; simp only [List.length_append]; omega⟩⟩
      case measure => simp [intOf]
    · skip
      go_wp2_with (at_builtin; refine wp_app_mark rfl _ _ rfl _ base _ (ms ++ wlL 0 1) _ _ (by rfl) H.out.1 (by rfl) ?q1 ?r1 ?_)
      case q1 => have := H.out.2.2; omega
      case r1 => exact Nat.le_trans hb H.out.2.1.size
      intro v1 w1 o1 b1 _
      have K1 : Hid (MOwn w1 base v1 (ms ++ (wlL 0 1 ++ [((0 : Int), (1 : Int))])) ∧ Below base w w1 ∧ (ms ++ (wlL 0 1 ++ [((0 : Int), (1 : Int))])).length ≤ 1000) := Lib.hid ⟨by rw [← List.append_assoc]; simpa using o1, H.out.2.1.trans b1, by have h3 := wl_len 0 1; have h2 := HMS.out; simp only [List.length_append, List.length_cons, List.length_nil]; omega⟩
      clear o1 b1
      go_wp2_with fail
      refine (hasLetter_any 0 1 (by decide) (by decide) (by decide) _).mono ?_
      rintro r w' ⟨rfl, rfl⟩
      rw [show (bitI 0 1 == 1) = false from rfl]
      go_wp2_with (at_builtin; refine wp_app_mark rfl _ _ rfl _ base _ (ms ++ (wlL 0 1 ++ [((0 : Int), (1 : Int))])) _ _ (by rfl) K1.out.1 (by rfl) ?q2 ?r2 ?_)
      case q2 => have := K1.out.2.2; omega
      case r2 => exact Nat.le_trans hb K1.out.2.1.size
      intro v2 w2 o2 b2 _
      obtain ⟨A9, n9, c9, rfl⟩ := mform o2
      have h9 : ms ++ wlL 0 2 = ms ++ (wlL 0 1 ++ [((0 : Int), (1 : Int))]) ++ [((1 : Int), (0 : Int))] := by simp [wlL]
      have K2 : Hid (MOwn w2 base (.slice A9 n9 c9) (ms ++ wlL 0 2) ∧ Below base w w2) := Lib.hid ⟨by rw [h9]; simpa using o2, K1.out.2.1.trans b2⟩
      clear h9
      clear o2 b2
      go_wp2_with fail
      go_roundw
      case rel => exact ⟨2, A9, n9, c9, by rfl, by omega, rfl, Lib.hid ⟨K2.out.1, K2.out.2, by have h3 := wl_len 0 2; have h2 := HMS.out; simp only [List.length_append]; omega⟩⟩
      case measure => simp [intOf]
    · skip
      go_wp2_with (at_builtin; refine wp_app_mark rfl _ _ rfl _ base _ (ms ++ wlL 0 2) _ _ (by rfl) H.out.1 (by rfl) ?q1 ?r1 ?_)
      case q1 => have := H.out.2.2; omega
      case r1 => exact Nat.le_trans hb H.out.2.1.size
      intro v1 w1 o1 b1 _
      have K1 : Hid (MOwn w1 base v1 (ms ++ encT (worldT 0)) ∧ Below base w w1 ∧ (ms ++ encT (worldT 0)).length ≤ 1000) := Lib.hid ⟨by rw [← wl_world, ← List.append_assoc]; simpa using o1, H.out.2.1.trans b1, by rw [← wl_world]; have h3 := wl_len 0 2; have h2 := HMS.out; simp only [List.length_append, List.length_cons, List.length_nil]; omega⟩
      clear o1 b1
      go_wp2_with (at_builtin; refine wp_app_mark rfl _ _ rfl _ base _ (ms ++ encT (worldT 0)) _ _ (by rfl) K1.out.1 (by rfl) ?q2 ?r2 ?_)
      case q2 => have := K1.out.2.2; omega
      case r2 => exact Nat.le_trans hb K1.out.2.1.size
      intro v2 w2 o2 b2 _
      have K2 : Hid (MOwn w2 base v2 (ms ++ (encT (worldT 0) ++ [(3, 0)])) ∧ Below base w w2) := Lib.hid ⟨by rw [← List.append_assoc]; simpa using o2, K1.out.2.1.trans b2⟩
      clear o2 b2
      go_wp2_with fail
      go_ret
      exact ⟨_, rfl, K2.out.1, K2.out.2⟩

set_option maxRecDepth 100000 in
set_option maxHeartbeats 4000000 in
theorem addWorld_1_first (w : World) (base : Nat) (hb : base ≤ w.heap.size) (v : Value) (ms : List Mk) (hms : ms.length ≤ 100) (h0 : ms.length = 0) (o : MOwn w base v ms) :
    Calls Try.prog 37 #[v, .int .i64 1] w (AddPost ms (encT (worldT 1)) base w) := by
  obtain ⟨A0, n0, c0, rfl⟩ := mform o
  have hn0 : n0 = ms.length := by
    obtain ⟨A, cp, e, -, -⟩ := (o.rd qC_len).form
    injection e
  have hnz : ((n0 : Int) == 0) = true := by simp; omega
  have HMS := Lib.hid hms
  have HO := Lib.hid o
  clear o hn0 h0 hms
  go_enter Try.func37, Try.ntmps37
  go_wp2_with fail
  go_loopw [0, 10] (fun p i wr => ∃ (j : Nat) (A : Option Addr) (n c : Nat), i = .int .i64 (j : Int) ∧ j ≤ 2 ∧ p = .slice A n c ∧ Hid (MOwn wr base (.slice A n c) (ms ++ wlL 1 j) ∧ Below base w wr ∧ (ms ++ wlL 1 j).length ≤ 1000)) (fun _ i _ => 2 - (intOf i).toNat)
  case atStart => exact ⟨0, A0, n0, c0, rfl, by omega, rfl, Lib.hid ⟨by simpa [wlL] using HO.out, Below.refl _ _, by have := HMS.out; simp [wlL]; omega⟩⟩
  case round =>
    obtain ⟨j, A, n, c, rfl, hj, rfl, H⟩ := hrel
    obtain rfl | rfl | rfl : j = 0 ∨ j = 1 ∨ j = 2 := by omega
    · skip
      go_wp2_with (at_builtin; refine wp_app_mark rfl _ _ rfl _ base _ (ms ++ wlL 1 0) _ _ (by rfl) H.out.1 (by rfl) ?q1 ?r1 ?_)
      case q1 => have := H.out.2.2; omega
      case r1 => exact Nat.le_trans hb H.out.2.1.size
      intro v1 w1 o1 b1 _
      have K1 : Hid (MOwn w1 base v1 (ms ++ (wlL 1 0 ++ [((0 : Int), (0 : Int))])) ∧ Below base w w1 ∧ (ms ++ (wlL 1 0 ++ [((0 : Int), (0 : Int))])).length ≤ 1000) := Lib.hid ⟨by rw [← List.append_assoc]; simpa using o1, H.out.2.1.trans b1, by have h3 := wl_len 1 0; have h2 := HMS.out; simp only [List.length_append, List.length_cons, List.length_nil]; omega⟩
      clear o1 b1
      go_wp2_with fail
      refine (hasLetter_any 1 0 (by decide) (by decide) (by decide) _).mono ?_
      rintro r w' ⟨rfl, rfl⟩
      rw [show (bitI 1 0 == 1) = true from rfl]
      go_wp2_with fail
      obtain ⟨A9, n9, c9, rfl⟩ := mform K1.out.1
      go_roundw
      case rel => exact ⟨1, A9, n9, c9, by rfl, by omega, rfl, Lib.hid ⟨K1.out.1, K1.out.2.1, by have h3 := wl_len 1 1; have h2 := HMS.out; simp only [List.length_append]; omega⟩⟩
      case measure => simp [intOf]
    · skip
      go_wp2_with (at_builtin; refine wp_app_mark rfl _ _ rfl _ base _ (ms ++ wlL 1 1) _ _ (by rfl) H.out.1 (by rfl) ?q1 ?r1 ?_)
      case q1 => have := H.out.2.2; omega
      case r1 => exact Nat.le_trans hb H.out.2.1.size
      intro v1 w1 o1 b1 _
      have K1 : Hid (MOwn w1 base v1 (ms ++ (wlL 1 1 ++ [((0 : Int), (1 : Int))])) ∧ Below base w w1 ∧ (ms ++ (wlL 1 1 ++ [((0 : Int), (1 : Int))])).length ≤ 1000) := Lib.hid ⟨by rw [← List.append_assoc]; simpa using o1, H.out.2.1.trans b1, by have h3 := wl_len 1 1; have h2 := HMS.out; simp only [List.length_append, List.length_cons, List.length_nil]; omega⟩
      clear o1 b1
      go_wp2_with fail
      refine (hasLetter_any 1 1 (by decide) (by decide) (by decide) _).mono ?_
      rintro r w' ⟨rfl, rfl⟩
      rw [show (bitI 1 1 == 1) = false from rfl]
      go_wp2_with (at_builtin; refine wp_app_mark rfl _ _ rfl _ base _ (ms ++ (wlL 1 1 ++ [((0 : Int), (1 : Int))])) _ _ (by rfl) K1.out.1 (by rfl) ?q2 ?r2 ?_)
      case q2 => have := K1.out.2.2; omega
      case r2 => exact Nat.le_trans hb K1.out.2.1.size
      intro v2 w2 o2 b2 _
      obtain ⟨A9, n9, c9, rfl⟩ := mform o2
      have h9 : ms ++ wlL 1 2 = ms ++ (wlL 1 1 ++ [((0 : Int), (1 : Int))]) ++ [((1 : Int), (0 : Int))] := by simp [wlL]
      have K2 : Hid (MOwn w2 base (.slice A9 n9 c9) (ms ++ wlL 1 2) ∧ Below base w w2) := Lib.hid ⟨by rw [h9]; simpa using o2, K1.out.2.1.trans b2⟩
      clear h9
      clear o2 b2
      go_wp2_with fail
      go_roundw
      case rel => exact ⟨2, A9, n9, c9, by rfl, by omega, rfl, Lib.hid ⟨K2.out.1, K2.out.2, by have h3 := wl_len 1 2; have h2 := HMS.out; simp only [List.length_append]; omega⟩⟩
      case measure => simp [intOf]
    · skip
      go_wp2_with (at_builtin; refine wp_app_mark rfl _ _ rfl _ base _ (ms ++ wlL 1 2) _ _ (by rfl) H.out.1 (by rfl) ?q1 ?r1 ?_)
      case q1 => have := H.out.2.2; omega
      case r1 => exact Nat.le_trans hb H.out.2.1.size
      intro v1 w1 o1 b1 _
      have K1 : Hid (MOwn w1 base v1 (ms ++ encT (worldT 1)) ∧ Below base w w1 ∧ (ms ++ encT (worldT 1)).length ≤ 1000) := Lib.hid ⟨by rw [← wl_world, ← List.append_assoc]; simpa using o1, H.out.2.1.trans b1, by rw [← wl_world]; have h3 := wl_len 1 2; have h2 := HMS.out; simp only [List.length_append, List.length_cons, List.length_nil]; omega⟩
      clear o1 b1
      go_wp2_with fail
      go_ret
      exact ⟨_, rfl, K1.out.1, K1.out.2.1⟩

set_option maxRecDepth 100000 in
set_option maxHeartbeats 4000000 in
theorem addWorld_1_more (w : World) (base : Nat) (hb : base ≤ w.heap.size) (v : Value) (ms : List Mk) (hms : ms.length ≤ 100) (h0 : ¬ ms.length = 0) (o : MOwn w base v ms) :
    Calls Try.prog 37 #[v, .int .i64 1] w (AddPost ms (encT (worldT 1) ++ [(3, 0)]) base w) := by
  obtain ⟨A0, n0, c0, rfl⟩ := mform o
  have hn0 : n0 = ms.length := by
    obtain ⟨A, cp, e, -, -⟩ := (o.rd qC_len).form
    injection e
  have hnz : ((n0 : Int) == 0) = false := by simp; omega
  have HMS := Lib.hid hms
  have HO := Lib.hid o
  clear o hn0 h0 hms
  go_enter Try.func37, Try.ntmps37
  go_wp2_with fail
  go_loopw [0, 10] (fun p i wr => ∃ (j : Nat) (A : Option Addr) (n c : Nat), i = .int .i64 (j : Int) ∧ j ≤ 2 ∧ p = .slice A n c ∧ Hid (MOwn wr base (.slice A n c) (ms ++ wlL 1 j) ∧ Below base w wr ∧ (ms ++ wlL 1 j).length ≤ 1000)) (fun _ i _ => 2 - (intOf i).toNat)
  case atStart => exact ⟨0, A0, n0, c0, rfl, by omega, rfl, Lib.hid ⟨by simpa [wlL] using HO.out, Below.refl _ _, by have := HMS.out; simp [wlL]; omega⟩⟩
  case round =>
    obtain ⟨j, A, n, c, rfl, hj, rfl, H⟩ := hrel
    obtain rfl | rfl | rfl : j = 0 ∨ j = 1 ∨ j = 2 := by omega
    · skip
      go_wp2_with (at_builtin; refine wp_app_mark rfl _ _ rfl _ base _ (ms ++ wlL 1 0) _ _ (by rfl) H.out.1 (by rfl) ?q1 ?r1 ?_)
      case q1 => have := H.out.2.2; omega
      case r1 => exact Nat.le_trans hb H.out.2.1.size
      intro v1 w1 o1 b1 _
      have K1 : Hid (MOwn w1 base v1 (ms ++ (wlL 1 0 ++ [((0 : Int), (0 : Int))])) ∧ Below base w w1 ∧ (ms ++ (wlL 1 0 ++ [((0 : Int), (0 : Int))])).length ≤ 1000) := Lib.hid ⟨by rw [← List.append_assoc]; simpa using o1, H.out.2.1.trans b1, by have h3 := wl_len 1 0; have h2 := HMS.out; simp only [List.length_append, List.length_cons, List.length_nil]; omega⟩
      clear o1 b1
      go_wp2_with fail
      refine (hasLetter_any 1 0 (by decide) (by decide) (by decide) _).mono ?_
      rintro r w' ⟨rfl, rfl⟩
      rw [show (bitI 1 0 == 1) = true from rfl]
      go_wp2_with fail
      obtain ⟨A9, n9, c9, rfl⟩ := mform K1.out.1
      go_roundw
      case rel => exact ⟨1, A9, n9, c9, by rfl, by omega, rfl, Lib.hid ⟨K1.out.1, K1.out.2.1, by have h3 := wl_len 1 1; have h2 := HMS.out; simp only [List.length_append]; omega⟩⟩
      case measure => simp [intOf]
    · skip
      go_wp2_with (at_builtin; refine wp_app_mark rfl _ _ rfl _ base _ (ms ++ wlL 1 1) _ _ (by rfl) H.out.1 (by rfl) ?q1 ?r1 ?_)
      case q1 => have := H.out.2.2; omega
      case r1 => exact Nat.le_trans hb H.out.2.1.size
      intro v1 w1 o1 b1 _
      have K1 : Hid (MOwn w1 base v1 (ms ++ (wlL 1 1 ++ [((0 : Int), (1 : Int))])) ∧ Below base w w1 ∧ (ms ++ (wlL 1 1 ++ [((0 : Int), (1 : Int))])).length ≤ 1000) := Lib.hid ⟨by rw [← List.append_assoc]; simpa using o1, H.out.2.1.trans b1, by have h3 := wl_len 1 1; have h2 := HMS.out; simp only [List.length_append, List.length_cons, List.length_nil]; omega⟩
      clear o1 b1
      go_wp2_with fail
      refine (hasLetter_any 1 1 (by decide) (by decide) (by decide) _).mono ?_
      rintro r w' ⟨rfl, rfl⟩
      rw [show (bitI 1 1 == 1) = false from rfl]
      go_wp2_with (at_builtin; refine wp_app_mark rfl _ _ rfl _ base _ (ms ++ (wlL 1 1 ++ [((0 : Int), (1 : Int))])) _ _ (by rfl) K1.out.1 (by rfl) ?q2 ?r2 ?_)
      case q2 => have := K1.out.2.2; omega
      case r2 => exact Nat.le_trans hb K1.out.2.1.size
      intro v2 w2 o2 b2 _
      obtain ⟨A9, n9, c9, rfl⟩ := mform o2
      have h9 : ms ++ wlL 1 2 = ms ++ (wlL 1 1 ++ [((0 : Int), (1 : Int))]) ++ [((1 : Int), (0 : Int))] := by simp [wlL]
      have K2 : Hid (MOwn w2 base (.slice A9 n9 c9) (ms ++ wlL 1 2) ∧ Below base w w2) := Lib.hid ⟨by rw [h9]; simpa using o2, K1.out.2.1.trans b2⟩
      clear h9
      clear o2 b2
      go_wp2_with fail
      go_roundw
      case rel => exact ⟨2, A9, n9, c9, by rfl, by omega, rfl, Lib.hid ⟨K2.out.1, K2.out.2, by have h3 := wl_len 1 2; have h2 := HMS.out; simp only [List.length_append]; omega⟩⟩
      case measure => simp [intOf]
    · skip
      go_wp2_with (at_builtin; refine wp_app_mark rfl _ _ rfl _ base _ (ms ++ wlL 1 2) _ _ (by rfl) H.out.1 (by rfl) ?q1 ?r1 ?_)
      case q1 => have := H.out.2.2; omega
      case r1 => exact Nat.le_trans hb H.out.2.1.size
      intro v1 w1 o1 b1 _
      have K1 : Hid (MOwn w1 base v1 (ms ++ encT (worldT 1)) ∧ Below base w w1 ∧ (ms ++ encT (worldT 1)).length ≤ 1000) := Lib.hid ⟨by rw [← wl_world, ← List.append_assoc]; simpa using o1, H.out.2.1.trans b1, by rw [← wl_world]; have h3 := wl_len 1 2; have h2 := HMS.out; simp only [List.length_append, List.length_cons, List.length_nil]; omega⟩
      clear o1 b1
      go_wp2_with (at_builtin; refine wp_app_mark rfl _ _ rfl _ base _ (ms ++ encT (worldT 1)) _ _ (by rfl) K1.out.1 (by rfl) ?q2 ?r2 ?_)
      case q2 => have := K1.out.2.2; omega
      case r2 => exact Nat.le_trans hb K1.out.2.1.size
      intro v2 w2 o2 b2 _
      have K2 : Hid (MOwn w2 base v2 (ms ++ (encT (worldT 1) ++ [(3, 0)])) ∧ Below base w w2) := Lib.hid ⟨by rw [← List.append_assoc]; simpa using o2, K1.out.2.1.trans b2⟩
      clear o2 b2
      go_wp2_with fail
      go_ret
      exact ⟨_, rfl, K2.out.1, K2.out.2⟩

set_option maxRecDepth 100000 in
set_option maxHeartbeats 4000000 in
theorem addWorld_2_first (w : World) (base : Nat) (hb : base ≤ w.heap.size) (v : Value) (ms : List Mk) (hms : ms.length ≤ 100) (h0 : ms.length = 0) (o : MOwn w base v ms) :
    Calls Try.prog 37 #[v, .int .i64 2] w (AddPost ms (encT (worldT 2)) base w) := by
  obtain ⟨A0, n0, c0, rfl⟩ := mform o
  have hn0 : n0 = ms.length := by
    obtain ⟨A, cp, e, -, -⟩ := (o.rd qC_len).form
    injection e
  have hnz : ((n0 : Int) == 0) = true := by simp; omega
  have HMS := Lib.hid hms
  have HO := Lib.hid o
  clear o hn0 h0 hms
  go_enter Try.func37, Try.ntmps37
  go_wp2_with fail
  go_loopw [0, 10] (fun p i wr => ∃ (j : Nat) (A : Option Addr) (n c : Nat), i = .int .i64 (j : Int) ∧ j ≤ 2 ∧ p = .slice A n c ∧ Hid (MOwn wr base (.slice A n c) (ms ++ wlL 2 j) ∧ Below base w wr ∧ (ms ++ wlL 2 j).length ≤ 1000)) (fun _ i _ => 2 - (intOf i).toNat)
  case atStart => exact ⟨0, A0, n0, c0, rfl, by omega, rfl, Lib.hid ⟨by simpa [wlL] using HO.out, Below.refl _ _, by have := HMS.out; simp [wlL]; omega⟩⟩
  case round =>
    obtain ⟨j, A, n, c, rfl, hj, rfl, H⟩ := hrel
    obtain rfl | rfl | rfl : j = 0 ∨ j = 1 ∨ j = 2 := by omega
    · skip
      go_wp2_with (at_builtin; refine wp_app_mark rfl _ _ rfl _ base _ (ms ++ wlL 2 0) _ _ (by rfl) H.out.1 (by rfl) ?q1 ?r1 ?_)
      case q1 => have := H.out.2.2; omega
      case r1 => exact Nat.le_trans hb H.out.2.1.size
      intro v1 w1 o1 b1 _
      have K1 : Hid (MOwn w1 base v1 (ms ++ (wlL 2 0 ++ [((0 : Int), (0 : Int))])) ∧ Below base w w1 ∧ (ms ++ (wlL 2 0 ++ [((0 : Int), (0 : Int))])).length ≤ 1000) := Lib.hid ⟨by rw [← List.append_assoc]; simpa using o1, H.out.2.1.trans b1, by have h3 := wl_len 2 0; have h2 := HMS.out; simp only [List.length_append, List.length_cons, List.length_nil]; omega⟩
      clear o1 b1
      go_wp2_with fail
      refine (hasLetter_any 2 0 (by decide) (by decide) (by decide) _).mono ?_
      rintro r w' ⟨rfl, rfl⟩
      rw [show (bitI 2 0 == 1) = false from rfl]
      go_wp2_with (at_builtin; refine wp_app_mark rfl _ _ rfl _ base _ (ms ++ (wlL 2 0 ++ [((0 : Int), (0 : Int))])) _ _ (by rfl) K1.out.1 (by rfl) ?q2 ?r2 ?_)
      case q2 => have := K1.out.2.2; omega
      case r2 => exact Nat.le_trans hb K1.out.2.1.size
      intro v2 w2 o2 b2 _
      obtain ⟨A9, n9, c9, rfl⟩ := mform o2
      have h9 : ms ++ wlL 2 1 = ms ++ (wlL 2 0 ++ [((0 : Int), (0 : Int))]) ++ [((1 : Int), (0 : Int))] := by simp [wlL]
      have K2 : Hid (MOwn w2 base (.slice A9 n9 c9) (ms ++ wlL 2 1) ∧ Below base w w2) := Lib.hid ⟨by rw [h9]; simpa using o2, K1.out.2.1.trans b2⟩
      clear h9
      clear o2 b2
      go_wp2_with fail
      go_roundw
      case rel => exact ⟨1, A9, n9, c9, by rfl, by omega, rfl, Lib.hid ⟨K2.out.1, K2.out.2, by have h3 := wl_len 2 1; have h2 := HMS.out; simp only [List.length_append]; omega⟩⟩
      case measure => simp [intOf]
    · skip
      go_wp2_with (at_builtin; refine wp_app_mark rfl _ _ rfl _ base _ (ms ++ wlL 2 1) _ _ (by rfl) H.out.1 (by rfl) ?q1 ?r1 ?_)
      case q1 => have := H.out.2.2; omega
      case r1 => exact Nat.le_trans hb H.out.2.1.size
      intro v1 w1 o1 b1 _
      have K1 : Hid (MOwn w1 base v1 (ms ++ (wlL 2 1 ++ [((0 : Int), (1 : Int))])) ∧ Below base w w1 ∧ (ms ++ (wlL 2 1 ++ [((0 : Int), (1 : Int))])).length ≤ 1000) := Lib.hid ⟨by rw [← List.append_assoc]; simpa using o1, H.out.2.1.trans b1, by have h3 := wl_len 2 1; have h2 := HMS.out; simp only [List.length_append, List.length_cons, List.length_nil]; omega⟩
      clear o1 b1
      go_wp2_with fail
      refine (hasLetter_any 2 1 (by decide) (by decide) (by decide) _).mono ?_
      rintro r w' ⟨rfl, rfl⟩
      rw [show (bitI 2 1 == 1) = true from rfl]
      go_wp2_with fail
      obtain ⟨A9, n9, c9, rfl⟩ := mform K1.out.1
      go_roundw
      case rel => exact ⟨2, A9, n9, c9, by rfl, by omega, rfl, Lib.hid ⟨K1.out.1, K1.out.2.1, by have h3 := wl_len 2 2; have h2 := HMS.out; simp only [List.length_append]; omega⟩⟩
      case measure => simp [intOf]
    · skip
      go_wp2_with (at_builtin; refine wp_app_mark rfl _ _ rfl _ base _ (ms ++ wlL 2 2) _ _ (by rfl) H.out.1 (by rfl) ?q1 ?r1 ?_)
      case q1 => have := H.out.2.2; omega
      case r1 => exact Nat.le_trans hb H.out.2.1.size
      intro v1 w1 o1 b1 _
      have K1 : Hid (MOwn w1 base v1 (ms ++ encT (worldT 2)) ∧ Below base w w1 ∧ (ms ++ encT (worldT 2)).length ≤ 1000) := Lib.hid ⟨by rw [← wl_world, ← List.append_assoc]; simpa using o1, H.out.2.1.trans b1, by rw [← wl_world]; have h3 := wl_len 2 2; have h2 := HMS.out; simp only [List.length_append, List.length_cons, List.length_nil]; omega⟩
      clear o1 b1
      go_wp2_with fail
      go_ret
      exact ⟨_, rfl, K1.out.1, K1.out.2.1⟩

set_option maxRecDepth 100000 in
set_option maxHeartbeats 4000000 in
theorem addWorld_2_more (w : World) (base : Nat) (hb : base ≤ w.heap.size) (v : Value) (ms : List Mk) (hms : ms.length ≤ 100) (h0 : ¬ ms.length = 0) (o : MOwn w base v ms) :
    Calls Try.prog 37 #[v, .int .i64 2] w (AddPost ms (encT (worldT 2) ++ [(3, 0)]) base w) := by
  obtain ⟨A0, n0, c0, rfl⟩ := mform o
  have hn0 : n0 = ms.length := by
    obtain ⟨A, cp, e, -, -⟩ := (o.rd qC_len).form
    injection e
  have hnz : ((n0 : Int) == 0) = false := by simp; omega
  have HMS := Lib.hid hms
  have HO := Lib.hid o
  clear o hn0 h0 hms
  go_enter Try.func37, Try.ntmps37
  go_wp2_with fail
  go_loopw [0, 10] (fun p i wr => ∃ (j : Nat) (A : Option Addr) (n c : Nat), i = .int .i64 (j : Int) ∧ j ≤ 2 ∧ p = .slice A n c ∧ Hid (MOwn wr base (.slice A n c) (ms ++ wlL 2 j) ∧ Below base w wr ∧ (ms ++ wlL 2 j).length ≤ 1000)) (fun _ i _ => 2 - (intOf i).toNat)
  case atStart => exact ⟨0, A0, n0, c0, rfl, by omega, rfl, Lib.hid ⟨by simpa [wlL] using HO.out, Below.refl _ _, by have := HMS.out; simp [wlL]; omega⟩⟩
  case round =>
    obtain ⟨j, A, n, c, rfl, hj, rfl, H⟩ := hrel
    obtain rfl | rfl | rfl : j = 0 ∨ j = 1 ∨ j = 2 := by omega
    · skip
      go_wp2_with (at_builtin; refine wp_app_mark rfl _ _ rfl _ base _ (ms ++ wlL 2 0) _ _ (by rfl) H.out.1 (by rfl) ?q1 ?r1 ?_)
      case q1 => have := H.out.2.2; omega
      case r1 => exact Nat.le_trans hb H.out.2.1.size
      intro v1 w1 o1 b1 _
      have K1 : Hid (MOwn w1 base v1 (ms ++ (wlL 2 0 ++ [((0 : Int), (0 : Int))])) ∧ Below base w w1 ∧ (ms ++ (wlL 2 0 ++ [((0 : Int), (0 : Int))])).length ≤ 1000) := Lib.hid ⟨by rw [← List.append_assoc]; simpa using o1, H.out.2.1.trans b1, by have h3 := wl_len 2 0; have h2 := HMS.out; simp only [List.length_append, List.length_cons, List.length_nil]; omega⟩
      clear o1 b1
      go_wp2_with fail
      refine (hasLetter_any 2 0 (by decide) (by decide) (by decide) _).mono ?_
      rintro r w' ⟨rfl, rfl⟩
      rw [show (bitI 2 0 == 1) = false from rfl]
      go_wp2_with (at_builtin; refine wp_app_mark rfl _ _ rfl _ base _ (ms ++ (wlL 2 0 ++ [((0 : Int), (0 : Int))])) _ _ (by rfl) K1.out.1 (by rfl) ?q2 ?r2 ?_)
      case q2 => have := K1.out.2.2; omega
      case r2 => exact Nat.le_trans hb K1.out.2.1.size
      intro v2 w2 o2 b2 _
      obtain ⟨A9, n9, c9, rfl⟩ := mform o2
      have h9 : ms ++ wlL 2 1 = ms ++ (wlL 2 0 ++ [((0 : Int), (0 : Int))]) ++ [((1 : Int), (0 : Int))] := by simp [wlL]
      have K2 : Hid (MOwn w2 base (.slice A9 n9 c9) (ms ++ wlL 2 1) ∧ Below base w w2) := Lib.hid ⟨by rw [h9]; simpa using o2, K1.out.2.1.trans b2⟩
      clear h9
      clear o2 b2
      go_wp2_with fail
      go_roundw
      case rel => exact ⟨1, A9, n9, c9, by rfl, by omega, rfl, Lib.hid ⟨K2.out.1, K2.out.2, by have h3 := wl_len 2 1; have h2 := HMS.out; simp only [List.length_append]; omega⟩⟩
      case measure => simp [intOf]
    · skip
      go_wp2_with (at_builtin; refine wp_app_mark rfl _ _ rfl _ base _ (ms ++ wlL 2 1) _ _ (by rfl) H.out.1 (by rfl) ?q1 ?r1 ?_)
      case q1 => have := H.out.2.2; omega
      case r1 => exact Nat.le_trans hb H.out.2.1.size
      intro v1 w1 o1 b1 _
      have K1 : Hid (MOwn w1 base v1 (ms ++ (wlL 2 1 ++ [((0 : Int), (1 : Int))])) ∧ Below base w w1 ∧ (ms ++ (wlL 2 1 ++ [((0 : Int), (1 : Int))])).length ≤ 1000) := Lib.hid ⟨by rw [← List.append_assoc]; simpa using o1, H.out.2.1.trans b1, by have h3 := wl_len 2 1; have h2 := HMS.out; simp only [List.length_append, List.length_cons, List.length_nil]; omega⟩
      clear o1 b1
      go_wp2_with fail
      refine (hasLetter_any 2 1 (by decide) (by decide) (by decide) _).mono ?_
      rintro r w' ⟨rfl, rfl⟩
      rw [show (bitI 2 1 == 1) = true from rfl]
      go_wp2_with fail
      obtain ⟨A9, n9, c9, rfl⟩ := mform K1.out.1
      go_roundw
      case rel => exact ⟨2, A9, n9, c9, by rfl, by omega, rfl, Lib.hid ⟨K1.out.1, K1.out.2.1, by have h3 := wl_len 2 2; have h2 := HMS.out; simp only [List.length_append]; omega⟩⟩
      case measure => simp [intOf]
    · skip
      go_wp2_with (at_builtin; refine wp_app_mark rfl _ _ rfl _ base _ (ms ++ wlL 2 2) _ _ (by rfl) H.out.1 (by rfl) ?q1 ?r1 ?_)
      case q1 => have := H.out.2.2; omega
      case r1 => exact Nat.le_trans hb H.out.2.1.size
      intro v1 w1 o1 b1 _
      have K1 : Hid (MOwn w1 base v1 (ms ++ encT (worldT 2)) ∧ Below base w w1 ∧ (ms ++ encT (worldT 2)).length ≤ 1000) := Lib.hid ⟨by rw [← wl_world, ← List.append_assoc]; simpa using o1, H.out.2.1.trans b1, by rw [← wl_world]; have h3 := wl_len 2 2; have h2 := HMS.out; simp only [List.length_append, List.length_cons, List.length_nil]; omega⟩
      clear o1 b1
      go_wp2_with (at_builtin; refine wp_app_mark rfl _ _ rfl _ base _ (ms ++ encT (worldT 2)) _ _ (by rfl) K1.out.1 (by rfl) ?q2 ?r2 ?_)
      case q2 => have := K1.out.2.2; omega
      case r2 => exact Nat.le_trans hb K1.out.2.1.size
      intro v2 w2 o2 b2 _
      have K2 : Hid (MOwn w2 base v2 (ms ++ (encT (worldT 2) ++ [(3, 0)])) ∧ Below base w w2) := Lib.hid ⟨by rw [← List.append_assoc]; simpa using o2, K1.out.2.1.trans b2⟩
      clear o2 b2
      go_wp2_with fail
      go_ret
      exact ⟨_, rfl, K2.out.1, K2.out.2⟩

set_option maxRecDepth 100000 in
set_option maxHeartbeats 4000000 in
theorem addWorld_3_first (w : World) (base : Nat) (hb : base ≤ w.heap.size) (v : Value) (ms : List Mk) (hms : ms.length ≤ 100) (h0 : ms.length = 0) (o : MOwn w base v ms) :
    Calls Try.prog 37 #[v, .int .i64 3] w (AddPost ms (encT (worldT 3)) base w) := by
  obtain ⟨A0, n0, c0, rfl⟩ := mform o
  have hn0 : n0 = ms.length := by
    obtain ⟨A, cp, e, -, -⟩ := (o.rd qC_len).form
    injection e
  have hnz : ((n0 : Int) == 0) = true := by simp; omega
  have HMS := Lib.hid hms
  have HO := Lib.hid o
  clear o hn0 h0 hms
  go_enter Try.func37, Try.ntmps37
  go_wp2_with fail
  go_loopw [0, 10] (fun p i wr => ∃ (j : Nat) (A : Option Addr) (n c : Nat), i = .int .i64 (j : Int) ∧ j ≤ 2 ∧ p = .slice A n c ∧ Hid (MOwn wr base (.slice A n c) (ms ++ wlL 3 j) ∧ Below base w wr ∧ (ms ++ wlL 3 j).length ≤ 1000)) (fun _ i _ => 2 - (intOf i).toNat)
  case atStart => exact ⟨0, A0, n0, c0, rfl, by omega, rfl, Lib.hid ⟨by simpa [wlL] using HO.out, Below.refl _ _, by have := HMS.out; simp [wlL]; omega⟩⟩
  case round =>
    obtain ⟨j, A, n, c, rfl, hj, rfl, H⟩ := hrel
    obtain rfl | rfl | rfl : j = 0 ∨ j = 1 ∨ j = 2 := by omega
    · skip
      go_wp2_with (at_builtin; refine wp_app_mark rfl _ _ rfl _ base _ (ms ++ wlL 3 0) _ _ (by rfl) H.out.1 (by rfl) ?q1 ?r1 ?_)
      case q1 => have := H.out.2.2; omega
      case r1 => exact Nat.le_trans hb H.out.2.1.size
      intro v1 w1 o1 b1 _
      have K1 : Hid (MOwn w1 base v1 (ms ++ (wlL 3 0 ++ [((0 : Int), (0 : Int))])) ∧ Below base w w1 ∧ (ms ++ (wlL 3 0 ++ [((0 : Int), (0 : Int))])).length ≤ 1000) := Lib.hid ⟨by rw [← List.append_assoc]; simpa using o1, H.out.2.1.trans b1, by have h3 := wl_len 3 0; have h2 := HMS.out; simp only [List.length_append, List.length_cons, List.length_nil]; omega⟩
      clear o1 b1
      go_wp2_with fail
      refine (hasLetter_any 3 0 (by decide) (by decide) (by decide) _).mono ?_
      rintro r w' ⟨rfl, rfl⟩
      rw [show (bitI 3 0 == 1) = true from rfl]
      go_wp2_with fail
      obtain ⟨A9, n9, c9, rfl⟩ := mform K1.out.1
      go_roundw
      case rel => exact ⟨1, A9, n9, c9, by rfl, by omega, rfl, Lib.hid ⟨K1.out.1, K1.out.2.1, by have h3 := wl_len 3 1; have h2 := HMS.out; simp only [List.length_append]; omega⟩⟩
      case measure => simp [intOf]
    · skip
      go_wp2_with (at_builtin; refine wp_app_mark rfl _ _ rfl _ base _ (ms ++ wlL 3 1) _ _ (by rfl) H.out.1 (by rfl) ?q1 ?r1 ?_)
      case q1 => have := H.out.2.2; omega
      case r1 => exact Nat.le_trans hb H.out.2.1.size
      intro v1 w1 o1 b1 _
      have K1 : Hid (MOwn w1 base v1 (ms ++ (wlL 3 1 ++ [((0 : Int), (1 : Int))])) ∧ Below base w w1 ∧ (ms ++ (wlL 3 1 ++ [((0 : Int), (1 : Int))])).length ≤ 1000) := Lib.hid ⟨by rw [← List.append_assoc]; simpa using o1, H.out.2.1.trans b1, by have h3 := wl_len 3 1; have h2 := HMS.out; simp only [List.length_append, List.length_cons, List.length_nil]; omega⟩
      clear o1 b1
      go_wp2_with fail
      refine (hasLetter_any 3 1 (by decide) (by decide) (by decide) _).mono ?_
      rintro r w' ⟨rfl, rfl⟩
      rw [show (bitI 3 1 == 1) = true from rfl]
      go_wp2_with fail
      obtain ⟨A9, n9, c9, rfl⟩ := mform K1.out.1
      go_roundw
      case rel => exact ⟨2, A9, n9, c9, by rfl, by omega, rfl, Lib.hid ⟨K1.out.1, K1.out.2.1, by have h3 := wl_len 3 2; have h2 := HMS.out; simp only [List.length_append]; omega⟩⟩
      case measure => simp [intOf]
    · skip
      go_wp2_with (at_builtin; refine wp_app_mark rfl _ _ rfl _ base _ (ms ++ wlL 3 2) _ _ (by rfl) H.out.1 (by rfl) ?q1 ?r1 ?_)
      case q1 => have := H.out.2.2; omega
      case r1 => exact Nat.le_trans hb H.out.2.1.size
      intro v1 w1 o1 b1 _
      have K1 : Hid (MOwn w1 base v1 (ms ++ encT (worldT 3)) ∧ Below base w w1 ∧ (ms ++ encT (worldT 3)).length ≤ 1000) := Lib.hid ⟨by rw [← wl_world, ← List.append_assoc]; simpa using o1, H.out.2.1.trans b1, by rw [← wl_world]; have h3 := wl_len 3 2; have h2 := HMS.out; simp only [List.length_append, List.length_cons, List.length_nil]; omega⟩
      clear o1 b1
      go_wp2_with fail
      go_ret
      exact ⟨_, rfl, K1.out.1, K1.out.2.1⟩

set_option maxRecDepth 100000 in
set_option maxHeartbeats 4000000 in
theorem addWorld_3_more (w : World) (base : Nat) (hb : base ≤ w.heap.size) (v : Value) (ms : List Mk) (hms : ms.length ≤ 100) (h0 : ¬ ms.length = 0) (o : MOwn w base v ms) :
    Calls Try.prog 37 #[v, .int .i64 3] w (AddPost ms (encT (worldT 3) ++ [(3, 0)]) base w) := by
  obtain ⟨A0, n0, c0, rfl⟩ := mform o
  have hn0 : n0 = ms.length := by
    obtain ⟨A, cp, e, -, -⟩ := (o.rd qC_len).form
    injection e
  have hnz : ((n0 : Int) == 0) = false := by simp; omega
  have HMS := Lib.hid hms
  have HO := Lib.hid o
  clear o hn0 h0 hms
  go_enter Try.func37, Try.ntmps37
  go_wp2_with fail
  go_loopw [0, 10] (fun p i wr => ∃ (j : Nat) (A : Option Addr) (n c : Nat), i = .int .i64 (j : Int) ∧ j ≤ 2 ∧ p = .slice A n c ∧ Hid (MOwn wr base (.slice A n c) (ms ++ wlL 3 j) ∧ Below base w wr ∧ (ms ++ wlL 3 j).length ≤ 1000)) (fun _ i _ => 2 - (intOf i).toNat)
  case atStart => exact ⟨0, A0, n0, c0, rfl, by omega, rfl, Lib.hid ⟨by simpa [wlL] using HO.out, Below.refl _ _, by have := HMS.out; simp [wlL]; omega⟩⟩
  case round =>
    obtain ⟨j, A, n, c, rfl, hj, rfl, H⟩ := hrel
    obtain rfl | rfl | rfl : j = 0 ∨ j = 1 ∨ j = 2 := by omega
    · skip
      go_wp2_with (at_builtin; refine wp_app_mark rfl _ _ rfl _ base _ (ms ++ wlL 3 0) _ _ (by rfl) H.out.1 (by rfl) ?q1 ?r1 ?_)
      case q1 => have := H.out.2.2; omega
      case r1 => exact Nat.le_trans hb H.out.2.1.size
      intro v1 w1 o1 b1 _
      have K1 : Hid (MOwn w1 base v1 (ms ++ (wlL 3 0 ++ [((0 : Int), (0 : Int))])) ∧ Below base w w1 ∧ (ms ++ (wlL 3 0 ++ [((0 : Int), (0 : Int))])).length ≤ 1000) := Lib.hid ⟨by rw [← List.append_assoc]; simpa using o1, H.out.2.1.trans b1, by have h3 := wl_len 3 0; have h2 := HMS.out; simp only [List.length_append, List.length_cons, List.length_nil]; omega⟩
      clear o1 b1
      go_wp2_with fail
      refine (hasLetter_any 3 0 (by decide) (by decide) (by decide) _).mono ?_
      rintro r w' ⟨rfl, rfl⟩
      rw [show (bitI 3 0 == 1) = true from rfl]
      go_wp2_with fail
      obtain ⟨A9, n9, c9, rfl⟩ := mform K1.out.1
      go_roundw
      case rel => exact ⟨1, A9, n9, c9, by rfl, by omega, rfl, Lib.hid ⟨K1.out.1, K1.out.2.1, by have h3 := wl_len 3 1; have h2 := HMS.out; simp only [List.length_append]; omega⟩⟩
      case measure => simp [intOf]
    · skip
      go_wp2_with (at_builtin; refine wp_app_mark rfl _ _ rfl _ base _ (ms ++ wlL 3 1) _ _ (by rfl) H.out.1 (by rfl) ?q1 ?r1 ?_)
      case q1 => have := H.out.2.2; omega
      case r1 => exact Nat.le_trans hb H.out.2.1.size
      intro v1 w1 o1 b1 _
      have K1 : Hid (MOwn w1 base v1 (ms ++ (wlL 3 1 ++ [((0 : Int), (1 : Int))])) ∧ Below base w w1 ∧ (ms ++ (wlL 3 1 ++ [((0 : Int), (1 : Int))])).length ≤ 1000) := Lib.hid ⟨by rw [← List.append_assoc]; simpa using o1, H.out.2.1.trans b1, by have h3 := wl_len 3 1; have h2 := HMS.out; simp only [List.length_append, List.length_cons, List.length_nil]; omega⟩
      clear o1 b1
      go_wp2_with fail
      refine (hasLetter_any 3 1 (by decide) (by decide) (by decide) _).mono ?_
      rintro r w' ⟨rfl, rfl⟩
      rw [show (bitI 3 1 == 1) = true from rfl]
      go_wp2_with fail
      obtain ⟨A9, n9, c9, rfl⟩ := mform K1.out.1
      go_roundw
      case rel => exact ⟨2, A9, n9, c9, by rfl, by omega, rfl, Lib.hid ⟨K1.out.1, K1.out.2.1, by have h3 := wl_len 3 2; have h2 := HMS.out; simp only [List.length_append]; omega⟩⟩
      case measure => simp [intOf]
    · skip
      go_wp2_with (at_builtin; refine wp_app_mark rfl _ _ rfl _ base _ (ms ++ wlL 3 2) _ _ (by rfl) H.out.1 (by rfl) ?q1 ?r1 ?_)
      case q1 => have := H.out.2.2; omega
      case r1 => exact Nat.le_trans hb H.out.2.1.size
      intro v1 w1 o1 b1 _
      have K1 : Hid (MOwn w1 base v1 (ms ++ encT (worldT 3)) ∧ Below base w w1 ∧ (ms ++ encT (worldT 3)).length ≤ 1000) := Lib.hid ⟨by rw [← wl_world, ← List.append_assoc]; simpa using o1, H.out.2.1.trans b1, by rw [← wl_world]; have h3 := wl_len 3 2; have h2 := HMS.out; simp only [List.length_append, List.length_cons, List.length_nil]; omega⟩
      clear o1 b1
      go_wp2_with (at_builtin; refine wp_app_mark rfl _ _ rfl _ base _ (ms ++ encT (worldT 3)) _ _ (by rfl) K1.out.1 (by rfl) ?q2 ?r2 ?_)
      case q2 => have := K1.out.2.2; omega
      case r2 => exact Nat.le_trans hb K1.out.2.1.size
      intro v2 w2 o2 b2 _
      have K2 : Hid (MOwn w2 base v2 (ms ++ (encT (worldT 3) ++ [(3, 0)])) ∧ Below base w w2) := Lib.hid ⟨by rw [← List.append_assoc]; simpa using o2, K1.out.2.1.trans b2⟩
      clear o2 b2
      go_wp2_with fail
      go_ret
      exact ⟨_, rfl, K2.out.1, K2.out.2⟩

theorem bitq_tab : ∀ E : Fin 16, ∀ k : Fin 4, (bitI ((E : Nat) : Int) (k : Nat) == 1) = !decide ((E : Nat) / 2 ^ (k : Nat) % 2 = 0) := by decide +kernel

theorem sum_pos : ∀ E : Fin 16, (E : Nat) ≠ 0 → ¬ (sumP (E : Nat) 4).length = 0 := by decide

theorem mlit4 (w : World) (base : Nat) (hb : base ≤ w.heap.size) (cs : Array Value) (ms : List Mk) (h : cs.toList = ms.flatMap qC) (h4 : ms.length = 4) : MOwn (w.alloc (.cells cs 34)) base (.slice (some ⟨w.heap.size, 0, none⟩) 4 4) ms := by
  unfold MOwn GOwn
  rw [h4, ← h]
  exact World.ownsRow_lit w cs 4 hb (by unfold maxLen; omega) (by rw [← Array.length_toList, h, flat_len qC_len, h4])

set_option maxRecDepth 100000 in
set_option maxHeartbeats 4000000 in
theorem implSumTerm_any (w : World) (e : Int) :
    Calls Try.prog 16 #[.int .i64 e] w (MRow (sumTR e) w) := by
  rcases Bool.eq_false_or_eq_true (evB 4 e) with h | h
  · obtain ⟨-, -, h0, h1⟩ := (evB_iff _ _).1 h
    have h15 : e ≤ 15 := by simpa [allI] using h1
    obtain ⟨E, rfl⟩ : ∃ E : Nat, e = E := ⟨e.toNat, by omega⟩
    have hE : E < 16 := by omega
    clear h0 h1
    go_enter Try.func16, Try.ntmps16
    go_wp2_with fail
    refine (implEventOk_any _ _ _).mono ?_
    rintro r w2 ⟨rfl, rfl⟩
    rw [h]
    clear h
    by_cases hz : E = 0
    · subst hz
      have HZ := Lib.hid (sumTR_zero (E := 0) (by decide) (by decide))
      go_wp2_with fail
      go_ret
      exact mrow_ret HZ.out (mlit4 _ _ (Nat.le_refl _) _ _ rfl rfl) ((Below.refl _ _).alloc (Nat.le_refl _) _)
    · have hz' : ((E : Int) == 0) = false := by simp; omega
      have HP := Lib.hid (sum_pos ⟨E, hE⟩ hz)
      go_wp2_with fail
      go_loopw [3, 15] (fun p i wr => ∃ (k : Nat) (A : Option Addr) (n c : Nat), i = .int .i64 (k : Int) ∧ p = .slice A n c ∧ k ≤ 4 ∧ Hid (MOwn wr w.heap.size (.slice A n c) (sumP E k) ∧ Below w.heap.size w wr)) (fun _ i _ => 4 - (intOf i).toNat)
      case atStart => exact ⟨0, none, 0, 0, rfl, rfl, by omega, Lib.hid ⟨GOwn.nil _ _ _ _ _, Below.refl _ _⟩⟩
      case round =>
        obtain ⟨k, A, n, c, rfl, rfl, hk, H⟩ := hrel
        have HL := Lib.hid (sumP_len E k)
        obtain rfl | rfl | rfl | rfl | rfl : k = 0 ∨ k = 1 ∨ k = 2 ∨ k = 3 ∨ k = 4 := by omega
        · have hbt := bitq_tab ⟨E, hE⟩ ⟨0, by decide⟩
          by_cases hbit : E / 2 ^ 0 % 2 = 0
          · have HN := Lib.hid (sumP_no hbit)
            have hb0 : (bitI (E : Int) 0 == 1) = false := by rw [hbt]; simp only [hbit, decide_true, Bool.not_true]
            clear hbt hbit
            go_wp2_with fail
            refine (hasQ9_any (E : Int) 0 (by omega) (by omega) (by decide) _).mono ?_
            rintro r w' ⟨rfl, hw'⟩
            obtain rfl := hw'.symm
            rw [hb0]
            go_wp2_with fail
            go_roundw
            case rel => exact ⟨1, A, n, c, by rfl, rfl, by omega, Lib.hid ⟨by rw [HN.out]; exact H.out.1, H.out.2⟩⟩
            case measure => simp [intOf]
          · have hb0 : (bitI (E : Int) 0 == 1) = true := by rw [hbt]; simp only [hbit, decide_false, Bool.not_false]
            have HBIT := Lib.hid hbit
            clear hbt hbit
            by_cases h0 : (sumP E 0).length = 0
            · have HN := Lib.hid (sumP_first HBIT.out h0)
              have HA := Lib.hid (addWorld_0_first wr w.heap.size H.out.2.size (.slice A n c) (sumP E 0) (by have := HL.out; omega) h0 H.out.1)
              clear h0
              go_wp2_with fail
              refine (hasQ9_any (E : Int) 0 (by omega) (by omega) (by decide) _).mono ?_
              rintro r w' ⟨rfl, hw'⟩
              obtain rfl := hw'.symm
              rw [hb0]
              go_wp2_with fail
              refine HA.out.mono ?_
              rintro r w3 ⟨v3, rfl, o3, b3⟩
              obtain ⟨A9, n9, c9, rfl⟩ := mform o3
              have H3 := Lib.hid (And.intro o3 b3)
              clear o3 b3
              go_wp2_with fail
              go_roundw
              case rel => exact ⟨1, A9, n9, c9, by rfl, rfl, by omega, Lib.hid ⟨by rw [HN.out]; exact H3.out.1, H.out.2.trans H3.out.2⟩⟩
              case measure => simp [intOf]
            · have HN := Lib.hid (sumP_more HBIT.out h0)
              have HA := Lib.hid (addWorld_0_more wr w.heap.size H.out.2.size (.slice A n c) (sumP E 0) (by have := HL.out; omega) h0 H.out.1)
              clear h0
              go_wp2_with fail
              refine (hasQ9_any (E : Int) 0 (by omega) (by omega) (by decide) _).mono ?_
              rintro r w' ⟨rfl, hw'⟩
              obtain rfl := hw'.symm
              rw [hb0]
              go_wp2_with fail
              refine HA.out.mono ?_
              rintro r w3 ⟨v3, rfl, o3, b3⟩
              obtain ⟨A9, n9, c9, rfl⟩ := mform o3
              have H3 := Lib.hid (And.intro o3 b3)
              clear o3 b3
              go_wp2_with fail
              go_roundw
              case rel => exact ⟨1, A9, n9, c9, by rfl, rfl, by omega, Lib.hid ⟨by rw [HN.out, List.append_assoc]; exact H3.out.1, H.out.2.trans H3.out.2⟩⟩
              case measure => simp [intOf]
        · have hbt := bitq_tab ⟨E, hE⟩ ⟨1, by decide⟩
          by_cases hbit : E / 2 ^ 1 % 2 = 0
          · have HN := Lib.hid (sumP_no hbit)
            have hb0 : (bitI (E : Int) 1 == 1) = false := by rw [hbt]; simp only [hbit, decide_true, Bool.not_true]
            clear hbt hbit
            go_wp2_with fail
            refine (hasQ9_any (E : Int) 1 (by omega) (by omega) (by decide) _).mono ?_
            rintro r w' ⟨rfl, hw'⟩
            obtain rfl := hw'.symm
            rw [hb0]
            go_wp2_with fail
            go_roundw
            case rel => exact ⟨2, A, n, c, by rfl, rfl, by omega, Lib.hid ⟨by rw [HN.out]; exact H.out.1, H.out.2⟩⟩
            case measure => simp [intOf]
          · have hb0 : (bitI (E : Int) 1 == 1) = true := by rw [hbt]; simp only [hbit, decide_false, Bool.not_false]
            have HBIT := Lib.hid hbit
            clear hbt hbit
            by_cases h0 : (sumP E 1).length = 0
            · have HN := Lib.hid (sumP_first HBIT.out h0)
              have HA := Lib.hid (addWorld_1_first wr w.heap.size H.out.2.size (.slice A n c) (sumP E 1) (by have := HL.out; omega) h0 H.out.1)
              clear h0
              go_wp2_with fail
              refine (hasQ9_any (E : Int) 1 (by omega) (by omega) (by decide) _).mono ?_
              rintro r w' ⟨rfl, hw'⟩
              obtain rfl := hw'.symm
              rw [hb0]
              go_wp2_with fail
              refine HA.out.mono ?_
              rintro r w3 ⟨v3, rfl, o3, b3⟩
              obtain ⟨A9, n9, c9, rfl⟩ := mform o3
              have H3 := Lib.hid (And.intro o3 b3)
              clear o3 b3
              go_wp2_with fail
              go_roundw
              case rel => exact ⟨2, A9, n9, c9, by rfl, rfl, by omega, Lib.hid ⟨by rw [HN.out]; exact H3.out.1, H.out.2.trans H3.out.2⟩⟩
              case measure => simp [intOf]
            · have HN := Lib.hid (sumP_more HBIT.out h0)
              have HA := Lib.hid (addWorld_1_more wr w.heap.size H.out.2.size (.slice A n c) (sumP E 1) (by have := HL.out; omega) h0 H.out.1)
              clear h0
              go_wp2_with fail
              refine (hasQ9_any (E : Int) 1 (by omega) (by omega) (by decide) _).mono ?_
              rintro r w' ⟨rfl, hw'⟩
              obtain rfl := hw'.symm
              rw [hb0]
              go_wp2_with fail
              refine HA.out.mono ?_
              rintro r w3 ⟨v3, rfl, o3, b3⟩
              obtain ⟨A9, n9, c9, rfl⟩ := mform o3
              have H3 := Lib.hid (And.intro o3 b3)
              clear o3 b3
              go_wp2_with fail
              go_roundw
              case rel => exact ⟨2, A9, n9, c9, by rfl, rfl, by omega, Lib.hid ⟨by rw [HN.out, List.append_assoc]; exact H3.out.1, H.out.2.trans H3.out.2⟩⟩
              case measure => simp [intOf]
        · have hbt := bitq_tab ⟨E, hE⟩ ⟨2, by decide⟩
          by_cases hbit : E / 2 ^ 2 % 2 = 0
          · have HN := Lib.hid (sumP_no hbit)
            have hb0 : (bitI (E : Int) 2 == 1) = false := by rw [hbt]; simp only [hbit, decide_true, Bool.not_true]
            clear hbt hbit
            go_wp2_with fail
            refine (hasQ9_any (E : Int) 2 (by omega) (by omega) (by decide) _).mono ?_
            rintro r w' ⟨rfl, hw'⟩
            obtain rfl := hw'.symm
            rw [hb0]
            go_wp2_with fail
            go_roundw
            case rel => exact ⟨3, A, n, c, by rfl, rfl, by omega, Lib.hid ⟨by rw [HN.out]; exact H.out.1, H.out.2⟩⟩
            case measure => simp [intOf]
          · have hb0 : (bitI (E : Int) 2 == 1) = true := by rw [hbt]; simp only [hbit, decide_false, Bool.not_false]
            have HBIT := Lib.hid hbit
            clear hbt hbit
            by_cases h0 : (sumP E 2).length = 0
            · have HN := Lib.hid (sumP_first HBIT.out h0)
              have HA := Lib.hid (addWorld_2_first wr w.heap.size H.out.2.size (.slice A n c) (sumP E 2) (by have := HL.out; omega) h0 H.out.1)
              clear h0
              go_wp2_with fail
              refine (hasQ9_any (E : Int) 2 (by omega) (by omega) (by decide) _).mono ?_
              rintro r w' ⟨rfl, hw'⟩
              obtain rfl := hw'.symm
              rw [hb0]
              go_wp2_with fail
              refine HA.out.mono ?_
              rintro r w3 ⟨v3, rfl, o3, b3⟩
              obtain ⟨A9, n9, c9, rfl⟩ := mform o3
              have H3 := Lib.hid (And.intro o3 b3)
              clear o3 b3
              go_wp2_with fail
              go_roundw
              case rel => exact ⟨3, A9, n9, c9, by rfl, rfl, by omega, Lib.hid ⟨by rw [HN.out]; exact H3.out.1, H.out.2.trans H3.out.2⟩⟩
              case measure => simp [intOf]
            · have HN := Lib.hid (sumP_more HBIT.out h0)
              have HA := Lib.hid (addWorld_2_more wr w.heap.size H.out.2.size (.slice A n c) (sumP E 2) (by have := HL.out; omega) h0 H.out.1)
              clear h0
              go_wp2_with fail
              refine (hasQ9_any (E : Int) 2 (by omega) (by omega) (by decide) _).mono ?_
              rintro r w' ⟨rfl, hw'⟩
              obtain rfl := hw'.symm
              rw [hb0]
              go_wp2_with fail
              refine HA.out.mono ?_
              rintro r w3 ⟨v3, rfl, o3, b3⟩
              obtain ⟨A9, n9, c9, rfl⟩ := mform o3
              have H3 := Lib.hid (And.intro o3 b3)
              clear o3 b3
              go_wp2_with fail
              go_roundw
              case rel => exact ⟨3, A9, n9, c9, by rfl, rfl, by omega, Lib.hid ⟨by rw [HN.out, List.append_assoc]; exact H3.out.1, H.out.2.trans H3.out.2⟩⟩
              case measure => simp [intOf]
        · have hbt := bitq_tab ⟨E, hE⟩ ⟨3, by decide⟩
          by_cases hbit : E / 2 ^ 3 % 2 = 0
          · have HN := Lib.hid (sumP_no hbit)
            have hb0 : (bitI (E : Int) 3 == 1) = false := by rw [hbt]; simp only [hbit, decide_true, Bool.not_true]
            clear hbt hbit
            go_wp2_with fail
            refine (hasQ9_any (E : Int) 3 (by omega) (by omega) (by decide) _).mono ?_
            rintro r w' ⟨rfl, hw'⟩
            obtain rfl := hw'.symm
            rw [hb0]
            go_wp2_with fail
            go_roundw
            case rel => exact ⟨4, A, n, c, by rfl, rfl, by omega, Lib.hid ⟨by rw [HN.out]; exact H.out.1, H.out.2⟩⟩
            case measure => simp [intOf]
          · have hb0 : (bitI (E : Int) 3 == 1) = true := by rw [hbt]; simp only [hbit, decide_false, Bool.not_false]
            have HBIT := Lib.hid hbit
            clear hbt hbit
            by_cases h0 : (sumP E 3).length = 0
            · have HN := Lib.hid (sumP_first HBIT.out h0)
              have HA := Lib.hid (addWorld_3_first wr w.heap.size H.out.2.size (.slice A n c) (sumP E 3) (by have := HL.out; omega) h0 H.out.1)
              clear h0
              go_wp2_with fail
              refine (hasQ9_any (E : Int) 3 (by omega) (by omega) (by decide) _).mono ?_
              rintro r w' ⟨rfl, hw'⟩
              obtain rfl := hw'.symm
              rw [hb0]
              go_wp2_with fail
              refine HA.out.mono ?_
              rintro r w3 ⟨v3, rfl, o3, b3⟩
              obtain ⟨A9, n9, c9, rfl⟩ := mform o3
              have H3 := Lib.hid (And.intro o3 b3)
              clear o3 b3
              go_wp2_with fail
              go_roundw
              case rel => exact ⟨4, A9, n9, c9, by rfl, rfl, by omega, Lib.hid ⟨by rw [HN.out]; exact H3.out.1, H.out.2.trans H3.out.2⟩⟩
              case measure => simp [intOf]
            · have HN := Lib.hid (sumP_more HBIT.out h0)
              have HA := Lib.hid (addWorld_3_more wr w.heap.size H.out.2.size (.slice A n c) (sumP E 3) (by have := HL.out; omega) h0 H.out.1)
              clear h0
              go_wp2_with fail
              refine (hasQ9_any (E : Int) 3 (by omega) (by omega) (by decide) _).mono ?_
              rintro r w' ⟨rfl, hw'⟩
              obtain rfl := hw'.symm
              rw [hb0]
              go_wp2_with fail
              refine HA.out.mono ?_
              rintro r w3 ⟨v3, rfl, o3, b3⟩
              obtain ⟨A9, n9, c9, rfl⟩ := mform o3
              have H3 := Lib.hid (And.intro o3 b3)
              clear o3 b3
              go_wp2_with fail
              go_roundw
              case rel => exact ⟨4, A9, n9, c9, by rfl, rfl, by omega, Lib.hid ⟨by rw [HN.out, List.append_assoc]; exact H3.out.1, H.out.2.trans H3.out.2⟩⟩
              case measure => simp [intOf]
        · go_wp2_with fail
          go_ret
          exact mrow_ret (sumTR_some hE HP.out) H.out.1 H.out.2
  · have HN : Hid (sumTR e = []) := Lib.hid (by rw [sumTR, h]; rfl)
    go_enter Try.func16, Try.ntmps16
    go_wp2_with fail
    refine (implEventOk_any _ _ _).mono ?_
    rintro r w2 ⟨rfl, rfl⟩
    rw [h]
    clear h
    go_wp2_with fail
    go_ret
    exact mrow_ret HN.out (GOwn.nil _ _ _ _ _) (Below.refl _ _)

end Go.Proofs.Ytfdlfgokoponmaa
