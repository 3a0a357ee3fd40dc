/- What the program's machine of marks is given: partsOfMark, eventOfMark, phraseOfMark. Conditions: stated. (gen_xpc.py) -/
import Derived.Test.YtfdlfgokoponmaaXo
import Derived.Test.YtfdlfgokoponmaaRh
namespace Go.Proofs.Ytfdlfgokoponmaa
open Go.RowKit
set_option linter.unusedVariables false
set_option linter.unusedSimpArgs false

theorem mbox {W wr : World} {x y : Value} {t : TypeId} (h : Below (W.alloc (.cells #[x, y] t)).heap.size (W.alloc (.cells #[x, y] t)) wr) : Blk wr W.heap.size t #[x, y] :=
  (h.block W.heap.size (by simp)).trans (heap_alloc_new W _)

theorem set_two {w : World} {g : Nat} {t : TypeId} {x y : Value} (h : Blk w g t #[x, y]) (u v : Value) :
    ((w.setCell ⟨g, 0, none⟩ u).setCell ⟨g, 1, none⟩ v).cell? ⟨g, 0, none⟩ = some u ∧ ((w.setCell ⟨g, 0, none⟩ u).setCell ⟨g, 1, none⟩ v).cell? ⟨g, 1, none⟩ = some v := by
  have BB := (h.set_ 0 u).set_ 1 v
  exact ⟨BB.cell 0, BB.cell 1⟩

/-- how many parts a mark takes -/
def PtPost (n : Int) (b : Bool) (w : World) (e : Ending) (w' : World) : Prop := e = .returned (.tuple #[.int .i64 n, .bool b]) ∧ Below w.heap.size w w'

set_option maxHeartbeats 1000000 in
theorem parts_a (w : World) : Calls Try.prog 55 #[.agg #[.int .i64 0, .int .i64 0]] w (PtPost 0 true w) := by
  go_enter Try.func55, Try.ntmps55
  go_wp2
  all_goals first
    | (go_ret2; exact ⟨rfl, by go_grown⟩)
    | (exfalso; simp_all; done)

set_option maxHeartbeats 1000000 in
theorem parts_b (w : World) : Calls Try.prog 55 #[.agg #[.int .i64 0, .int .i64 1]] w (PtPost 0 true w) := by
  go_enter Try.func55, Try.ntmps55
  go_wp2
  all_goals first
    | (go_ret2; exact ⟨rfl, by go_grown⟩)
    | (exfalso; simp_all; done)

set_option maxHeartbeats 1000000 in
theorem parts_no (w : World) : Calls Try.prog 55 #[.agg #[.int .i64 1, .int .i64 0]] w (PtPost 1 true w) := by
  go_enter Try.func55, Try.ntmps55
  go_wp2
  all_goals first
    | (go_ret2; exact ⟨rfl, by go_grown⟩)
    | (exfalso; simp_all; done)

set_option maxHeartbeats 1000000 in
theorem parts_an (w : World) : Calls Try.prog 55 #[.agg #[.int .i64 2, .int .i64 0]] w (PtPost 2 true w) := by
  go_enter Try.func55, Try.ntmps55
  go_wp2
  all_goals first
    | (go_ret2; exact ⟨rfl, by go_grown⟩)
    | (exfalso; simp_all; done)

set_option maxHeartbeats 1000000 in
theorem parts_vel (w : World) : Calls Try.prog 55 #[.agg #[.int .i64 3, .int .i64 0]] w (PtPost 2 true w) := by
  go_enter Try.func55, Try.ntmps55
  go_wp2
  all_goals first
    | (go_ret2; exact ⟨rfl, by go_grown⟩)
    | (exfalso; simp_all; done)

set_option maxHeartbeats 1000000 in
theorem parts_else (k a : Int) (h1 : ¬ (k = 0 ∧ a = 0)) (h2 : ¬ (k = 0 ∧ a = 1)) (h3 : ¬ (k = 1 ∧ a = 0)) (h4 : ¬ (k = 2 ∧ a = 0)) (h5 : ¬ (k = 3 ∧ a = 0)) (w : World) :
    Calls Try.prog 55 #[.agg #[.int .i64 k, .int .i64 a]] w (PtPost 0 false w) := by
  have h1' : (k == 0 && a == 0) = false := by simpa [Bool.eq_false_iff] using h1
  have h2' : (k == 0 && a == 1) = false := by simpa [Bool.eq_false_iff] using h2
  have h3' : (k == 1 && a == 0) = false := by simpa [Bool.eq_false_iff] using h3
  have h4' : (k == 2 && a == 0) = false := by simpa [Bool.eq_false_iff] using h4
  have h5' : (k == 3 && a == 0) = false := by simpa [Bool.eq_false_iff] using h5
  clear h1 h2 h3 h4 h5
  go_enter Try.func55, Try.ntmps55
  go_wp2
  all_goals first
    | (go_ret2; exact ⟨rfl, by go_grown⟩)
    | (exfalso; simp_all; done)

theorem hasq9_tab : ∀ e : Fin 16, ∀ a : Fin 4, (bits BinOp.and IntKind.i64 (((e : Nat) : Int) / 2 ^ (a : Nat)) 1 == 1) = (bitI ((e : Nat) : Int) (a : Nat) == 1) := by decide +kernel

set_option maxHeartbeats 1000000 in
theorem hasQ9_any (e : Int) (a : Nat) (h0 : 0 ≤ e) (h1 : e ≤ 15) (ha : a < 4) (W : World) :
    Calls Try.prog 36 #[.int .i64 e, .int .i64 (a : Int)] W fun r W' => r = .returned (.bool (bitI e a == 1)) ∧ W = W' := by
  obtain ⟨k, rfl⟩ := fin16 h0 h1
  have ht := hasq9_tab k ⟨a, ha⟩
  have H := Lib.hid ht
  clear ht
  obtain rfl | rfl | rfl | rfl : a = 0 ∨ a = 1 ∨ a = 2 ∨ a = 3 := by omega
  all_goals
    go_enter Try.func36, Try.ntmps36
    go_wp2
    go_ret
    exact ⟨ret_bool (by have := H.out; simpa using this), rfl⟩

set_option maxHeartbeats 1000000 in
theorem hasLetter_any (e : Int) (a : Nat) (h0 : 0 ≤ e) (h1 : e ≤ 15) (ha : a < 4) (W : World) :
    Calls Try.prog 54 #[.int .i64 e, .int .i64 (a : Int)] W fun r W' => r = .returned (.bool (bitI e a == 1)) ∧ W = W' := by
  go_enter Try.func54, Try.ntmps54
  go_wp2_with fail
  refine (hasQ9_any e a h0 h1 ha _).mono ?_
  rintro r w' ⟨rfl, rfl⟩
  go_wp2_with fail
  go_ret
  exact ⟨rfl, rfl⟩

def pE (b : Bool) (k : Nat) : Int := if b = true then (if k < 3 then 0 else if k = 3 then 4 else 12) else (if k < 2 then 0 else if k < 4 then 2 else 10)

set_option maxHeartbeats 2000000 in
theorem eventOfLetter_false (w : World) :
    Calls Try.prog 57 #[.int .i64 0] w (NumP 10 w) := by
  go_enter Try.func57, Try.ntmps57
  go_wp2_with fail
  go_loopw [3, 5] (fun e i wr => ∃ k : Nat, i = .int .i64 (k : Int) ∧ k ≤ 4 ∧ e = .int .i64 (pE false k) ∧ w = wr) (fun _ i _ => 4 - (intOf i).toNat)
  case atStart => exact ⟨0, rfl, by omega, rfl, rfl⟩
  case round =>
    obtain ⟨k, rfl, hk, rfl, rfl⟩ := hrel
    obtain rfl | rfl | rfl | rfl | rfl : k = 0 ∨ k = 1 ∨ k = 2 ∨ k = 3 ∨ k = 4 := by omega
    · rw [show pE false 0 = 0 from rfl]
      go_wp2_with fail
      refine (hasLetter_any 0 0 (by decide) (by decide) (by decide) _).mono ?_
      rintro r w' ⟨rfl, rfl⟩
      rw [show (bitI 0 0 == 1) = false from rfl]
      go_wp2_with fail
      go_roundw
      case rel => exact ⟨1, rfl, by omega, rfl, by first | trivial | rfl⟩
      case measure => simp [intOf]
    · rw [show pE false 1 = 0 from rfl]
      go_wp2_with fail
      refine (hasLetter_any 1 0 (by decide) (by decide) (by decide) _).mono ?_
      rintro r w' ⟨rfl, rfl⟩
      rw [show (bitI 1 0 == 1) = true from rfl]
      go_wp2_with fail
      go_roundw
      case rel => exact ⟨2, rfl, by omega, rfl, by first | trivial | rfl⟩
      case measure => simp [intOf]
    · rw [show pE false 2 = 2 from rfl]
      go_wp2_with fail
      refine (hasLetter_any 2 0 (by decide) (by decide) (by decide) _).mono ?_
      rintro r w' ⟨rfl, rfl⟩
      rw [show (bitI 2 0 == 1) = false from rfl]
      go_wp2_with fail
      go_roundw
      case rel => exact ⟨3, rfl, by omega, rfl, by first | trivial | rfl⟩
      case measure => simp [intOf]
    · rw [show pE false 3 = 2 from rfl]
      go_wp2_with fail
      refine (hasLetter_any 3 0 (by decide) (by decide) (by decide) _).mono ?_
      rintro r w' ⟨rfl, rfl⟩
      rw [show (bitI 3 0 == 1) = true from rfl]
      go_wp2_with fail
      go_roundw
      case rel => exact ⟨4, rfl, by omega, rfl, by first | trivial | rfl⟩
      case measure => simp [intOf]
    · rw [show pE false 4 = 10 from rfl]
      go_wp2_with fail
      go_ret
      exact ⟨rfl, Below.refl _ _⟩

set_option maxHeartbeats 2000000 in
theorem eventOfLetter_true (w : World) :
    Calls Try.prog 57 #[.int .i64 1] w (NumP 12 w) := by
  go_enter Try.func57, Try.ntmps57
  go_wp2_with fail
  go_loopw [3, 5] (fun e i wr => ∃ k : Nat, i = .int .i64 (k : Int) ∧ k ≤ 4 ∧ e = .int .i64 (pE true k) ∧ w = wr) (fun _ i _ => 4 - (intOf i).toNat)
  case atStart => exact ⟨0, rfl, by omega, rfl, rfl⟩
  case round =>
    obtain ⟨k, rfl, hk, rfl, rfl⟩ := hrel
    obtain rfl | rfl | rfl | rfl | rfl : k = 0 ∨ k = 1 ∨ k = 2 ∨ k = 3 ∨ k = 4 := by omega
    · rw [show pE true 0 = 0 from rfl]
      go_wp2_with fail
      refine (hasLetter_any 0 1 (by decide) (by decide) (by decide) _).mono ?_
      rintro r w' ⟨rfl, rfl⟩
      rw [show (bitI 0 1 == 1) = false from rfl]
      go_wp2_with fail
      go_roundw
      case rel => exact ⟨1, rfl, by omega, rfl, by first | trivial | rfl⟩
      case measure => simp [intOf]
    · rw [show pE true 1 = 0 from rfl]
      go_wp2_with fail
      refine (hasLetter_any 1 1 (by decide) (by decide) (by decide) _).mono ?_
      rintro r w' ⟨rfl, rfl⟩
      rw [show (bitI 1 1 == 1) = false from rfl]
      go_wp2_with fail
      go_roundw
      case rel => exact ⟨2, rfl, by omega, rfl, by first | trivial | rfl⟩
      case measure => simp [intOf]
    · rw [show pE true 2 = 0 from rfl]
      go_wp2_with fail
      refine (hasLetter_any 2 1 (by decide) (by decide) (by decide) _).mono ?_
      rintro r w' ⟨rfl, rfl⟩
      rw [show (bitI 2 1 == 1) = true from rfl]
      go_wp2_with fail
      go_roundw
      case rel => exact ⟨3, rfl, by omega, rfl, by first | trivial | rfl⟩
      case measure => simp [intOf]
    · rw [show pE true 3 = 4 from rfl]
      go_wp2_with fail
      refine (hasLetter_any 3 1 (by decide) (by decide) (by decide) _).mono ?_
      rintro r w' ⟨rfl, rfl⟩
      rw [show (bitI 3 1 == 1) = true from rfl]
      go_wp2_with fail
      go_roundw
      case rel => exact ⟨4, rfl, by omega, rfl, by first | trivial | rfl⟩
      case measure => simp [intOf]
    · rw [show pE true 4 = 12 from rfl]
      go_wp2_with fail
      go_ret
      exact ⟨rfl, Below.refl _ _⟩

set_option maxHeartbeats 1000000 in
theorem ev_letter (b : Bool) (w : World) (v : Value) :
    Calls Try.prog 39 #[.agg #[.int .i64 0, .int .i64 (letM b).2], v] w (NumP ((evT (.lt b) : Nat) : Int) w) := by
  cases b
  · simp only [letM]
    go_enter Try.func39, Try.ntmps39
    go_wp2_with fail
    refine (eventOfLetter_false _).mono ?_
    rintro r w2 ⟨rfl, b2⟩
    have HB : Hid (Below w.heap.size w w2) := Lib.hid (below_step ((Below.refl _ w).alloc (Nat.le_refl _) _) b2 (by simp))
    clear b2
    go_wp2_with fail
    go_ret
    exact ⟨rfl, HB.out⟩
  · simp only [letM]
    go_enter Try.func39, Try.ntmps39
    go_wp2_with fail
    refine (eventOfLetter_true _).mono ?_
    rintro r w2 ⟨rfl, b2⟩
    have HB : Hid (Below w.heap.size w w2) := Lib.hid (below_step ((Below.refl _ w).alloc (Nat.le_refl _) _) b2 (by simp))
    clear b2
    go_wp2_with fail
    go_ret
    exact ⟨rfl, HB.out⟩

theorem not_tree (x : Tm) : notI 4 ((evT x : Nat) : Int) = ((evT (.no x) : Nat) : Int) := by
  have h := evT_16 x
  have he : evB 4 ((evT x : Nat) : Int) = true := (evB_iff _ _).2 ⟨by omega, by omega, by omega, by rw [show allI 4 = 15 from by decide]; omega⟩
  rw [notI, if_pos he, show allI 4 = 15 from by decide, evT]
  omega

set_option maxHeartbeats 1000000 in
theorem ev_no (x : Tm) (w : World) (g o n c : Nat) (hn : 1 ≤ n) (hc : w.cell? ⟨g, o, none⟩ = some (.int .i64 ((evT x : Nat) : Int))) :
    Calls Try.prog 39 #[.agg #[.int .i64 1, .int .i64 0], .slice (some ⟨g, o, none⟩) n c] w (NumP ((evT (.no x) : Nat) : Int) w) := by
  have hlt := World.block_lt_of_cell? w _ hc
  have hn' : (0 : Int) < (n : Int) := by omega
  have hc1 : (w.alloc (.cells #[.int .i64 1, .int .i64 0] 34)).cell? ⟨g, o, none⟩ = some (.int .i64 ((evT x : Nat) : Int)) := (World.cell?_of_block (a := ⟨g, o, none⟩) (Below.heap_alloc w _ _ hlt)).trans hc
  have HN := Lib.hid (not_tree x)
  have HB : Hid (Below w.heap.size w (w.alloc (.cells #[.int .i64 1, .int .i64 0] 34))) := Lib.hid ((Below.refl _ w).alloc (Nat.le_refl _) _)
  go_enter Try.func39, Try.ntmps39
  go_wp2_with fail
  refine (implNotEvent_any _ _ _).mono ?_
  rintro r w2 ⟨rfl, rfl⟩
  rw [HN.out]
  go_wp2_with fail
  go_ret
  exact ⟨rfl, HB.out⟩

set_option maxHeartbeats 1000000 in
theorem ev_an (x y : Tm) (w : World) (g o n c : Nat) (hn : 2 ≤ n) (hc : w.cell? ⟨g, o, none⟩ = some (.int .i64 ((evT x : Nat) : Int))) (hc2 : w.cell? ⟨g, o + 1, none⟩ = some (.int .i64 ((evT y : Nat) : Int))) :
    Calls Try.prog 39 #[.agg #[.int .i64 2, .int .i64 0], .slice (some ⟨g, o, none⟩) n c] w (NumP ((evT (.an x y) : Nat) : Int) w) := by
  have hlt := World.block_lt_of_cell? w _ hc
  have hn' : (0 : Int) < (n : Int) := by omega
  have hn2 : (1 : Int) < (n : Int) := by omega
  have hc1 : (w.alloc (.cells #[.int .i64 2, .int .i64 0] 34)).cell? ⟨g, o, none⟩ = some (.int .i64 ((evT x : Nat) : Int)) := (World.cell?_of_block (a := ⟨g, o, none⟩) (Below.heap_alloc w _ _ hlt)).trans hc
  have hc3 : (w.alloc (.cells #[.int .i64 2, .int .i64 0] 34)).cell? ⟨g, o + 1, none⟩ = some (.int .i64 ((evT y : Nat) : Int)) := (World.cell?_of_block (a := ⟨g, o + 1, none⟩) (Below.heap_alloc w _ _ hlt)).trans hc2
  have hop : bits BinOp.and IntKind.i64 ((evT x : Nat) : Int) ((evT y : Nat) : Int) = ((evT (.an x y) : Nat) : Int) := and_16 ⟨evT x, evT_16 x⟩ ⟨evT y, evT_16 y⟩
  have HB : Hid (Below w.heap.size w (w.alloc (.cells #[.int .i64 2, .int .i64 0] 34))) := Lib.hid ((Below.refl _ w).alloc (Nat.le_refl _) _)
  clear hc hc2
  go_enter Try.func39, Try.ntmps39
  go_upto_region 5 with fail
  go_region
  all_goals
    go_wp2_with fail
    go_ret
    exact ⟨rfl, HB.out.drew⟩

set_option maxHeartbeats 1000000 in
theorem ev_vel (x y : Tm) (w : World) (g o n c : Nat) (hn : 2 ≤ n) (hc : w.cell? ⟨g, o, none⟩ = some (.int .i64 ((evT x : Nat) : Int))) (hc2 : w.cell? ⟨g, o + 1, none⟩ = some (.int .i64 ((evT y : Nat) : Int))) :
    Calls Try.prog 39 #[.agg #[.int .i64 3, .int .i64 0], .slice (some ⟨g, o, none⟩) n c] w (NumP ((evT (.vel x y) : Nat) : Int) w) := by
  have hlt := World.block_lt_of_cell? w _ hc
  have hn' : (0 : Int) < (n : Int) := by omega
  have hn2 : (1 : Int) < (n : Int) := by omega
  have hc1 : (w.alloc (.cells #[.int .i64 3, .int .i64 0] 34)).cell? ⟨g, o, none⟩ = some (.int .i64 ((evT x : Nat) : Int)) := (World.cell?_of_block (a := ⟨g, o, none⟩) (Below.heap_alloc w _ _ hlt)).trans hc
  have hc3 : (w.alloc (.cells #[.int .i64 3, .int .i64 0] 34)).cell? ⟨g, o + 1, none⟩ = some (.int .i64 ((evT y : Nat) : Int)) := (World.cell?_of_block (a := ⟨g, o + 1, none⟩) (Below.heap_alloc w _ _ hlt)).trans hc2
  have hop : bits BinOp.or IntKind.i64 ((evT x : Nat) : Int) ((evT y : Nat) : Int) = ((evT (.vel x y) : Nat) : Int) := or_16 ⟨evT x, evT_16 x⟩ ⟨evT y, evT_16 y⟩
  have HB : Hid (Below w.heap.size w (w.alloc (.cells #[.int .i64 3, .int .i64 0] 34))) := Lib.hid ((Below.refl _ w).alloc (Nat.le_refl _) _)
  clear hc hc2
  go_enter Try.func39, Try.ntmps39
  go_upto_region 7 with fail
  go_region
  all_goals
    go_wp2_with fail
    go_ret
    exact ⟨rfl, HB.out.drew⟩

end Go.Proofs.Ytfdlfgokoponmaa
