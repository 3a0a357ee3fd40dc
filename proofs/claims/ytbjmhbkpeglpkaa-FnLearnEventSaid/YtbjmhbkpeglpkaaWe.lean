/- The draws of chapter 8. Conditions: a row of bytes that came in. -/
import Derived.Test.YtbjmhbkpeglpkaaWb
import Derived.Test.YtbjmhbkpeglpkaaDm
import Derived.Test.YtbjmhbkpeglpkaaRd3
import Derived.Test.YtbjmhbkpeglpkaaRh
namespace Go.Proofs.Ytbjmhbkpeglpkaa
open Go.RowKit
set_option linter.unusedVariables false

def orI (a b : Int) : Int := ((a.toNat ||| b.toNat : Nat) : Int)

theorem or_tab8 : ∀ a b : Fin 16, bits BinOp.or IntKind.i64 ((a : Nat) : Int) ((b : Nat) : Int) = orI ((a : Nat) : Int) ((b : Nat) : Int) ∧ 0 ≤ orI ((a : Nat) : Int) ((b : Nat) : Int) ∧ orI ((a : Nat) : Int) ((b : Nat) : Int) ≤ 15 := by decide +kernel

theorem or_is {a b : Int} (ha : 0 ≤ a ∧ a ≤ 15) (hb : 0 ≤ b ∧ b ≤ 15) : ∃ z, bits BinOp.or IntKind.i64 a b = z ∧ 0 ≤ z ∧ z ≤ 15 := by
  obtain ⟨i, rfl⟩ := fin16 ha.1 ha.2
  obtain ⟨j, rfl⟩ := fin16 hb.1 hb.2
  exact ⟨_, or_tab8 i j⟩

theorem GamRel.front8 {w w1 wr : World} {R P Q : Nat} {v : Value} {xs : List Int} (k : Picked R Q w w1) (hR : R < w.heap.size) (h : GamRel w1 R P v xs wr) : GamRel w R P v xs wr :=
  ⟨h.1, h.2.1.base k.grown.size, grow_trans k.grown h.2.2.1, hR⟩

theorem GamRel.drew8 {w wr : World} {R P : Nat} {v : Value} {xs : List Int} (h : GamRel w R P v xs wr) : GamRel w R P v xs wr.drew :=
  ⟨h.1, h.2.1, ⟨h.2.2.1.os, h.2.2.1.tape, h.2.2.1.output, h.2.2.1.size, h.2.2.1.block⟩, h.2.2.2⟩

theorem GamRel.below8 {w wr w' : World} {R P : Nat} {p : Value} {xs : List Int} (h : GamRel w R P p xs wr) (hb : Below wr.heap.size wr w') : GamRel w R P p xs w' := by
  obtain ⟨h1, h2, h3, h4⟩ := h
  exact ⟨h1.keep hb.size (fun b hl => hb.block b hl), h2.keep (SameAt.of_below hb), ⟨hb.os.trans h3.os, hb.tape.trans h3.tape, hb.output.trans h3.output, Nat.le_trans h3.size hb.size, fun k hk hne => (hb.block k (by have := h3.size; omega)).trans (h3.block k hk hne)⟩, h4⟩

/-- a row that need be no measure, and two events -/
def GivR (w : World) (R P : Nat) (e : Ending) (w' : World) : Prop := ∃ (v : Value) (xs : List Int) (a b : Int), e = .returned (.tuple #[v, .int .i64 a, .int .i64 b]) ∧ GamRel w R P v xs w' ∧ xs.length ≤ 4 ∧ Bnd 37 xs ∧ 0 ≤ a ∧ a ≤ 31 ∧ 0 ≤ b ∧ b ≤ 15

/-- the same, drawn out of a code -/
def DrawGiv (w : World) (e : Ending) (w' : World) : Prop := ∃ (v : Value) (xs : List Int) (a b : Int), e = .returned (.tuple #[v, .int .i64 a, .int .i64 b]) ∧ IOwn w' w.heap.size v xs ∧ xs.length ≤ 4 ∧ Bnd 37 xs ∧ 0 ≤ a ∧ a ≤ 31 ∧ 0 ≤ b ∧ b ≤ 15 ∧ Below w.heap.size w w'

def DrawGiv4 (w : World) (e : Ending) (w' : World) : Prop := ∃ (v : Value) (xs : List Int) (a b p : Int), e = .returned (.tuple #[v, .int .i64 a, .int .i64 b, .int .i64 p]) ∧ IOwn w' w.heap.size v xs ∧ xs.length ≤ 4 ∧ Bnd 37 xs ∧ 0 ≤ a ∧ a ≤ 31 ∧ 0 ≤ b ∧ b ≤ 15 ∧ 0 ≤ p ∧ p ≤ 7 ∧ Below w.heap.size w w'

def DrawAft (w : World) (e : Ending) (w' : World) : Prop := ∃ (v : Value) (xs : List Int) (b : Int), e = .returned (.tuple #[v, .int .i64 b]) ∧ IOwn w' w.heap.size v xs ∧ xs.length ≤ 4 ∧ Bnd 37 xs ∧ 0 ≤ b ∧ b ≤ 15 ∧ Below w.heap.size w w'

def DrawFour (w : World) (e : Ending) (w' : World) : Prop := ∃ x y z p : Int, e = .returned (.tuple #[.int .i64 x, .int .i64 y, .int .i64 z, .int .i64 p]) ∧ 0 ≤ p ∧ p ≤ 7 ∧ Below w.heap.size w w'

theorem drawn8 {w w1 w2 : World} {Q : Nat} {v : Value} {xs : List Int} (ho : Opened w w1) (h : GamRel w1 w.heap.size Q v xs w2) : IOwn w2 w.heap.size v xs ∧ Below w.heap.size w w2 :=
  ⟨h.2.1.base ho.below.size, ho.below.grown h.2.2.1 ho.below.size (fun g hg => by injection hg with hg; omega)⟩

set_option maxRecDepth 100000 in
set_option maxHeartbeats 8000000 in
theorem l20Given_any (w : World) (R P : Nat) (hP : P ≤ 90000) (h : Rd w R P) :
    Calls Try.prog 71 #[.pointer (some ⟨R, 0, none⟩)] w (GivR w R (P + 15)) := by
  have hR := h.lt
  go_enter Try.func71, Try.ntmps71
  go_wp2_with fail
  refine (pick_any _ R P _ (by omega) h).mono ?_
  rintro e w1 ⟨v1, rfl, ⟨p1, p2, -⟩, k1⟩
  have p2 := p2 (by decide)
  have K1 := Lib.hid k1
  clear k1 h
  obtain rfl | rfl | rfl | rfl : v1 = 0 ∨ v1 = 1 ∨ v1 = 2 ∨ v1 = 3 := by omega
  · go_wp2_with fail
    refine (l20Measure_any _ R (P + 1) _ 14 (by omega) K1.out.rd (by omega) (by omega) (by decide) (by decide)).mono ?_
    rintro e w2 ⟨v2, m, rfl, h2, hlm, hbd⟩
    have H2 := Lib.hid (GamRel.front8 K1.out hR h2)
    have HBD := Lib.hid hbd
    clear h2 hbd K1
    go_wp2_with fail
    refine (pick_any _ R (P + 9) _ (by omega) H2.out.1).mono ?_
    rintro e w3 ⟨a, rfl, ⟨p3a, p3b, -⟩, k1⟩
    have p3b := p3b (by decide)
    have H3 := Lib.hid (H2.out.picked k1)
    clear k1
    clear H2
    go_wp2_with fail
    refine wp_region_held_drew (S := fun _ => True) (by kernel_rfl) (trivial) (fun hHeld => ?_)
    refine take_in (i := 0) (v := ?_) rfl (by kernel_rfl) (fun _ _ _ h => h) rfl ?_ hHeld ?_
    rotate_left
    · intro w hSw; go_simp; all_goals with_reducible rfl
    try simp only [Act.put, List.setIfInBounds_toArray, List.set_cons_zero, List.set_cons_succ]
    refine take_in (i := 1) (v := ?_) rfl (by kernel_rfl) (fun _ _ _ h => h) rfl ?_ hHeld ?_
    rotate_left
    · intro w hSw; go_simp; all_goals with_reducible rfl
    try simp only [Act.put, List.setIfInBounds_toArray, List.set_cons_zero, List.set_cons_succ]
    refine take_in (i := 2) (v := ?_) rfl (by kernel_rfl) (fun _ _ _ h => h) rfl ?_ hHeld ?_
    rotate_left
    · intro w hSw; go_simp; all_goals with_reducible rfl
    try simp only [Act.put, List.setIfInBounds_toArray, List.set_cons_zero, List.set_cons_succ]
    refine take_in (i := 4) (v := ?_) rfl (by kernel_rfl) (fun _ _ _ h => h) rfl ?_ hHeld ?_
    rotate_left
    · intro w hSw; go_simp; all_goals with_reducible rfl
    try simp only [Act.put, List.setIfInBounds_toArray, List.set_cons_zero, List.set_cons_succ]
    refine take_in (i := 5) (v := ?_) rfl (by kernel_rfl) (fun _ _ _ h => h) rfl ?_ hHeld ?_
    rotate_left
    · intro w hSw; go_simp; all_goals with_reducible rfl
    try simp only [Act.put, List.setIfInBounds_toArray, List.set_cons_zero, List.set_cons_succ]
    refine take_in (i := 6) (v := ?_) rfl (by kernel_rfl) (fun _ _ _ h => h) rfl ?_ hHeld ?_
    rotate_left
    · intro w hSw; go_simp; all_goals with_reducible rfl
    try simp only [Act.put, List.setIfInBounds_toArray, List.set_cons_zero, List.set_cons_succ]
    have H3d := Lib.hid H3.out.drew8
    refine ready_one (i := 3) rfl (by kernel_rfl) (fun K hK => ?_)
    go_simp
    go_at_call 53
    refine (pick_any w3.drew R (P + 10) _ (by omega) H3d.out.1).mono ?_
    rintro e w4 ⟨x, rfl, ⟨p4a, p4b, -⟩, k1⟩
    have p4b := p4b (by decide)
    have H4 := Lib.hid (H3d.out.picked k1)
    clear k1
    refine hK.out _ _ (trivial) (fun hHeld => ?_)
    clear hK K
    try simp only [Act.put, List.setIfInBounds_toArray, List.set_cons_zero, List.set_cons_succ]
    refine ready_one (i := 7) rfl (by kernel_rfl) (fun K hK => ?_)
    go_simp
    go_at_call 53
    refine (pick_any w4 R (P + 11) _ (by omega) H4.out.1).mono ?_
    rintro e w5 ⟨y, rfl, ⟨p5a, p5b, -⟩, k1⟩
    have p5b := p5b (by decide)
    have H5 := Lib.hid (H4.out.picked k1)
    clear k1
    have p4b : x < 2 := p4b
    have p5b : y < 2 := p5b
    obtain ⟨z, hz, zz1, zz2⟩ := or_is (a := x) (b := y) (by omega) (by omega)
    refine hK.out _ _ (trivial) (fun hHeld => ?_)
    clear hK K
    try simp only [Act.put, List.setIfInBounds_toArray, List.set_cons_zero, List.set_cons_succ]
    refine take_in (i := 8) (v := ?_) rfl (by kernel_rfl) (fun _ _ _ h => h) rfl ?_ hHeld ?_
    rotate_left
    · intro w hSw; go_simp; all_goals with_reducible rfl
    try simp only [Act.put, List.setIfInBounds_toArray, List.set_cons_zero, List.set_cons_succ]
    refine take_in (i := 9) (v := ?_) rfl (by kernel_rfl) (fun _ _ _ h => h) rfl ?_ hHeld ?_
    rotate_left
    · intro w hSw; go_simp; all_goals with_reducible rfl
    try simp only [Act.put, List.setIfInBounds_toArray, List.set_cons_zero, List.set_cons_succ]
    refine wpAnyH_done (by kernel_rfl) ?_ _
    clear H3 H3d H4
    go_wp2_with fail
    refine (pick_any _ R (P + 12) _ (by omega) H5.out.1).mono ?_
    rintro e w6 ⟨t, rfl, ⟨p6a, p6b, -⟩, k1⟩
    have p6b := p6b (by decide)
    have H6 := Lib.hid (H5.out.picked k1)
    clear k1
    clear H5
    go_wp2_with fail
    go_returns
    exact ⟨_, _, _, _, rfl, H6.out.mono (by omega), hlm, HBD.out, by omega, by omega, by omega, by omega⟩
  · go_wp2_with fail
    refine (l20Measure_any _ R (P + 1) _ 14 (by omega) K1.out.rd (by omega) (by omega) (by decide) (by decide)).mono ?_
    rintro e w2 ⟨v2, m, rfl, h2, hlm, hbd⟩
    have H2 := Lib.hid (GamRel.front8 K1.out hR h2)
    have HBD := Lib.hid hbd
    clear h2 hbd K1
    go_wp2_with fail
    refine (pick_any _ R (P + 9) _ (by omega) H2.out.1).mono ?_
    rintro e w3 ⟨a, rfl, ⟨p3a, p3b, -⟩, k1⟩
    have p3b := p3b (by decide)
    have H3 := Lib.hid (H2.out.picked k1)
    clear k1
    clear H2
    go_wp2_with fail
    refine wp_region_held_drew (S := fun _ => True) (by kernel_rfl) (trivial) (fun hHeld => ?_)
    refine take_in (i := 0) (v := ?_) rfl (by kernel_rfl) (fun _ _ _ h => h) rfl ?_ hHeld ?_
    rotate_left
    · intro w hSw; go_simp; all_goals with_reducible rfl
    try simp only [Act.put, List.setIfInBounds_toArray, List.set_cons_zero, List.set_cons_succ]
    refine take_in (i := 1) (v := ?_) rfl (by kernel_rfl) (fun _ _ _ h => h) rfl ?_ hHeld ?_
    rotate_left
    · intro w hSw; go_simp; all_goals with_reducible rfl
    try simp only [Act.put, List.setIfInBounds_toArray, List.set_cons_zero, List.set_cons_succ]
    refine take_in (i := 2) (v := ?_) rfl (by kernel_rfl) (fun _ _ _ h => h) rfl ?_ hHeld ?_
    rotate_left
    · intro w hSw; go_simp; all_goals with_reducible rfl
    try simp only [Act.put, List.setIfInBounds_toArray, List.set_cons_zero, List.set_cons_succ]
    refine take_in (i := 4) (v := ?_) rfl (by kernel_rfl) (fun _ _ _ h => h) rfl ?_ hHeld ?_
    rotate_left
    · intro w hSw; go_simp; all_goals with_reducible rfl
    try simp only [Act.put, List.setIfInBounds_toArray, List.set_cons_zero, List.set_cons_succ]
    refine take_in (i := 5) (v := ?_) rfl (by kernel_rfl) (fun _ _ _ h => h) rfl ?_ hHeld ?_
    rotate_left
    · intro w hSw; go_simp; all_goals with_reducible rfl
    try simp only [Act.put, List.setIfInBounds_toArray, List.set_cons_zero, List.set_cons_succ]
    refine take_in (i := 6) (v := ?_) rfl (by kernel_rfl) (fun _ _ _ h => h) rfl ?_ hHeld ?_
    rotate_left
    · intro w hSw; go_simp; all_goals with_reducible rfl
    try simp only [Act.put, List.setIfInBounds_toArray, List.set_cons_zero, List.set_cons_succ]
    have H3d := Lib.hid H3.out.drew8
    refine ready_one (i := 3) rfl (by kernel_rfl) (fun K hK => ?_)
    go_simp
    go_at_call 53
    refine (pick_any w3.drew R (P + 10) _ (by omega) H3d.out.1).mono ?_
    rintro e w4 ⟨x, rfl, ⟨p4a, p4b, -⟩, k1⟩
    have p4b := p4b (by decide)
    have H4 := Lib.hid (H3d.out.picked k1)
    clear k1
    refine hK.out _ _ (trivial) (fun hHeld => ?_)
    clear hK K
    try simp only [Act.put, List.setIfInBounds_toArray, List.set_cons_zero, List.set_cons_succ]
    refine ready_one (i := 7) rfl (by kernel_rfl) (fun K hK => ?_)
    go_simp
    go_at_call 53
    refine (pick_any w4 R (P + 11) _ (by omega) H4.out.1).mono ?_
    rintro e w5 ⟨y, rfl, ⟨p5a, p5b, -⟩, k1⟩
    have p5b := p5b (by decide)
    have H5 := Lib.hid (H4.out.picked k1)
    clear k1
    have p4b : x < 4 := p4b
    have p5b : y < 4 := p5b
    obtain ⟨z, hz, zz1, zz2⟩ := or_is (a := x) (b := y) (by omega) (by omega)
    refine hK.out _ _ (trivial) (fun hHeld => ?_)
    clear hK K
    try simp only [Act.put, List.setIfInBounds_toArray, List.set_cons_zero, List.set_cons_succ]
    refine take_in (i := 8) (v := ?_) rfl (by kernel_rfl) (fun _ _ _ h => h) rfl ?_ hHeld ?_
    rotate_left
    · intro w hSw; go_simp; all_goals with_reducible rfl
    try simp only [Act.put, List.setIfInBounds_toArray, List.set_cons_zero, List.set_cons_succ]
    refine take_in (i := 9) (v := ?_) rfl (by kernel_rfl) (fun _ _ _ h => h) rfl ?_ hHeld ?_
    rotate_left
    · intro w hSw; go_simp; all_goals with_reducible rfl
    try simp only [Act.put, List.setIfInBounds_toArray, List.set_cons_zero, List.set_cons_succ]
    refine wpAnyH_done (by kernel_rfl) ?_ _
    clear H3 H3d H4
    go_wp2_with fail
    refine (pick_any _ R (P + 12) _ (by omega) H5.out.1).mono ?_
    rintro e w6 ⟨t, rfl, ⟨p6a, p6b, -⟩, k1⟩
    have p6b := p6b (by decide)
    have H6 := Lib.hid (H5.out.picked k1)
    clear k1
    clear H5
    go_wp2_with fail
    go_returns
    exact ⟨_, _, _, _, rfl, H6.out.mono (by omega), hlm, HBD.out, by omega, by omega, by omega, by omega⟩
  · go_wp2_with fail
    refine (l20Measure_any _ R (P + 1) _ 14 (by omega) K1.out.rd (by omega) (by omega) (by decide) (by decide)).mono ?_
    rintro e w2 ⟨v2, m, rfl, h2, hlm, hbd⟩
    have H2 := Lib.hid (GamRel.front8 K1.out hR h2)
    have HBD := Lib.hid hbd
    clear h2 hbd K1
    go_wp2_with fail
    refine (pick_any _ R (P + 9) _ (by omega) H2.out.1).mono ?_
    rintro e w3 ⟨a, rfl, ⟨p3a, p3b, -⟩, k1⟩
    have p3b := p3b (by decide)
    have H3 := Lib.hid (H2.out.picked k1)
    clear k1
    clear H2
    go_wp2_with fail
    refine wp_region_held_drew (S := fun _ => True) (by kernel_rfl) (trivial) (fun hHeld => ?_)
    refine take_in (i := 0) (v := ?_) rfl (by kernel_rfl) (fun _ _ _ h => h) rfl ?_ hHeld ?_
    rotate_left
    · intro w hSw; go_simp; all_goals with_reducible rfl
    try simp only [Act.put, List.setIfInBounds_toArray, List.set_cons_zero, List.set_cons_succ]
    refine take_in (i := 1) (v := ?_) rfl (by kernel_rfl) (fun _ _ _ h => h) rfl ?_ hHeld ?_
    rotate_left
    · intro w hSw; go_simp; all_goals with_reducible rfl
    try simp only [Act.put, List.setIfInBounds_toArray, List.set_cons_zero, List.set_cons_succ]
    refine take_in (i := 2) (v := ?_) rfl (by kernel_rfl) (fun _ _ _ h => h) rfl ?_ hHeld ?_
    rotate_left
    · intro w hSw; go_simp; all_goals with_reducible rfl
    try simp only [Act.put, List.setIfInBounds_toArray, List.set_cons_zero, List.set_cons_succ]
    refine take_in (i := 4) (v := ?_) rfl (by kernel_rfl) (fun _ _ _ h => h) rfl ?_ hHeld ?_
    rotate_left
    · intro w hSw; go_simp; all_goals with_reducible rfl
    try simp only [Act.put, List.setIfInBounds_toArray, List.set_cons_zero, List.set_cons_succ]
    refine take_in (i := 5) (v := ?_) rfl (by kernel_rfl) (fun _ _ _ h => h) rfl ?_ hHeld ?_
    rotate_left
    · intro w hSw; go_simp; all_goals with_reducible rfl
    try simp only [Act.put, List.setIfInBounds_toArray, List.set_cons_zero, List.set_cons_succ]
    refine take_in (i := 6) (v := ?_) rfl (by kernel_rfl) (fun _ _ _ h => h) rfl ?_ hHeld ?_
    rotate_left
    · intro w hSw; go_simp; all_goals with_reducible rfl
    try simp only [Act.put, List.setIfInBounds_toArray, List.set_cons_zero, List.set_cons_succ]
    have H3d := Lib.hid H3.out.drew8
    refine ready_one (i := 3) rfl (by kernel_rfl) (fun K hK => ?_)
    go_simp
    go_at_call 53
    refine (pick_any w3.drew R (P + 10) _ (by omega) H3d.out.1).mono ?_
    rintro e w4 ⟨x, rfl, ⟨p4a, p4b, -⟩, k1⟩
    have p4b := p4b (by decide)
    have H4 := Lib.hid (H3d.out.picked k1)
    clear k1
    refine hK.out _ _ (trivial) (fun hHeld => ?_)
    clear hK K
    try simp only [Act.put, List.setIfInBounds_toArray, List.set_cons_zero, List.set_cons_succ]
    refine ready_one (i := 7) rfl (by kernel_rfl) (fun K hK => ?_)
    go_simp
    go_at_call 53
    refine (pick_any w4 R (P + 11) _ (by omega) H4.out.1).mono ?_
    rintro e w5 ⟨y, rfl, ⟨p5a, p5b, -⟩, k1⟩
    have p5b := p5b (by decide)
    have H5 := Lib.hid (H4.out.picked k1)
    clear k1
    have p4b : x < 8 := p4b
    have p5b : y < 8 := p5b
    obtain ⟨z, hz, zz1, zz2⟩ := or_is (a := x) (b := y) (by omega) (by omega)
    refine hK.out _ _ (trivial) (fun hHeld => ?_)
    clear hK K
    try simp only [Act.put, List.setIfInBounds_toArray, List.set_cons_zero, List.set_cons_succ]
    refine take_in (i := 8) (v := ?_) rfl (by kernel_rfl) (fun _ _ _ h => h) rfl ?_ hHeld ?_
    rotate_left
    · intro w hSw; go_simp; all_goals with_reducible rfl
    try simp only [Act.put, List.setIfInBounds_toArray, List.set_cons_zero, List.set_cons_succ]
    refine take_in (i := 9) (v := ?_) rfl (by kernel_rfl) (fun _ _ _ h => h) rfl ?_ hHeld ?_
    rotate_left
    · intro w hSw; go_simp; all_goals with_reducible rfl
    try simp only [Act.put, List.setIfInBounds_toArray, List.set_cons_zero, List.set_cons_succ]
    refine wpAnyH_done (by kernel_rfl) ?_ _
    clear H3 H3d H4
    go_wp2_with fail
    refine (pick_any _ R (P + 12) _ (by omega) H5.out.1).mono ?_
    rintro e w6 ⟨t, rfl, ⟨p6a, p6b, -⟩, k1⟩
    have p6b := p6b (by decide)
    have H6 := Lib.hid (H5.out.picked k1)
    clear k1
    clear H5
    go_wp2_with fail
    go_returns
    exact ⟨_, _, _, _, rfl, H6.out.mono (by omega), hlm, HBD.out, by omega, by omega, by omega, by omega⟩
  · go_wp2_with fail
    refine (l20Measure_any _ R (P + 1) _ 14 (by omega) K1.out.rd (by omega) (by omega) (by decide) (by decide)).mono ?_
    rintro e w2 ⟨v2, m, rfl, h2, hlm, hbd⟩
    have H2 := Lib.hid (GamRel.front8 K1.out hR h2)
    have HBD := Lib.hid hbd
    clear h2 hbd K1
    go_wp2_with fail
    refine (pick_any _ R (P + 9) _ (by omega) H2.out.1).mono ?_
    rintro e w3 ⟨a, rfl, ⟨p3a, p3b, -⟩, k1⟩
    have p3b := p3b (by decide)
    have H3 := Lib.hid (H2.out.picked k1)
    clear k1
    clear H2
    go_wp2_with fail
    refine wp_region_held_drew (S := fun _ => True) (by kernel_rfl) (trivial) (fun hHeld => ?_)
    refine take_in (i := 0) (v := ?_) rfl (by kernel_rfl) (fun _ _ _ h => h) rfl ?_ hHeld ?_
    rotate_left
    · intro w hSw; go_simp; all_goals with_reducible rfl
    try simp only [Act.put, List.setIfInBounds_toArray, List.set_cons_zero, List.set_cons_succ]
    refine take_in (i := 1) (v := ?_) rfl (by kernel_rfl) (fun _ _ _ h => h) rfl ?_ hHeld ?_
    rotate_left
    · intro w hSw; go_simp; all_goals with_reducible rfl
    try simp only [Act.put, List.setIfInBounds_toArray, List.set_cons_zero, List.set_cons_succ]
    refine take_in (i := 2) (v := ?_) rfl (by kernel_rfl) (fun _ _ _ h => h) rfl ?_ hHeld ?_
    rotate_left
    · intro w hSw; go_simp; all_goals with_reducible rfl
    try simp only [Act.put, List.setIfInBounds_toArray, List.set_cons_zero, List.set_cons_succ]
    refine take_in (i := 4) (v := ?_) rfl (by kernel_rfl) (fun _ _ _ h => h) rfl ?_ hHeld ?_
    rotate_left
    · intro w hSw; go_simp; all_goals with_reducible rfl
    try simp only [Act.put, List.setIfInBounds_toArray, List.set_cons_zero, List.set_cons_succ]
    refine take_in (i := 5) (v := ?_) rfl (by kernel_rfl) (fun _ _ _ h => h) rfl ?_ hHeld ?_
    rotate_left
    · intro w hSw; go_simp; all_goals with_reducible rfl
    try simp only [Act.put, List.setIfInBounds_toArray, List.set_cons_zero, List.set_cons_succ]
    refine take_in (i := 6) (v := ?_) rfl (by kernel_rfl) (fun _ _ _ h => h) rfl ?_ hHeld ?_
    rotate_left
    · intro w hSw; go_simp; all_goals with_reducible rfl
    try simp only [Act.put, List.setIfInBounds_toArray, List.set_cons_zero, List.set_cons_succ]
    have H3d := Lib.hid H3.out.drew8
    refine ready_one (i := 3) rfl (by kernel_rfl) (fun K hK => ?_)
    go_simp
    go_at_call 53
    refine (pick_any w3.drew R (P + 10) _ (by omega) H3d.out.1).mono ?_
    rintro e w4 ⟨x, rfl, ⟨p4a, p4b, -⟩, k1⟩
    have p4b := p4b (by decide)
    have H4 := Lib.hid (H3d.out.picked k1)
    clear k1
    refine hK.out _ _ (trivial) (fun hHeld => ?_)
    clear hK K
    try simp only [Act.put, List.setIfInBounds_toArray, List.set_cons_zero, List.set_cons_succ]
    refine ready_one (i := 7) rfl (by kernel_rfl) (fun K hK => ?_)
    go_simp
    go_at_call 53
    refine (pick_any w4 R (P + 11) _ (by omega) H4.out.1).mono ?_
    rintro e w5 ⟨y, rfl, ⟨p5a, p5b, -⟩, k1⟩
    have p5b := p5b (by decide)
    have H5 := Lib.hid (H4.out.picked k1)
    clear k1
    have p4b : x < 16 := p4b
    have p5b : y < 16 := p5b
    obtain ⟨z, hz, zz1, zz2⟩ := or_is (a := x) (b := y) (by omega) (by omega)
    refine hK.out _ _ (trivial) (fun hHeld => ?_)
    clear hK K
    try simp only [Act.put, List.setIfInBounds_toArray, List.set_cons_zero, List.set_cons_succ]
    refine take_in (i := 8) (v := ?_) rfl (by kernel_rfl) (fun _ _ _ h => h) rfl ?_ hHeld ?_
    rotate_left
    · intro w hSw; go_simp; all_goals with_reducible rfl
    try simp only [Act.put, List.setIfInBounds_toArray, List.set_cons_zero, List.set_cons_succ]
    refine take_in (i := 9) (v := ?_) rfl (by kernel_rfl) (fun _ _ _ h => h) rfl ?_ hHeld ?_
    rotate_left
    · intro w hSw; go_simp; all_goals with_reducible rfl
    try simp only [Act.put, List.setIfInBounds_toArray, List.set_cons_zero, List.set_cons_succ]
    refine wpAnyH_done (by kernel_rfl) ?_ _
    clear H3 H3d H4
    go_wp2_with fail
    refine (pick_any _ R (P + 12) _ (by omega) H5.out.1).mono ?_
    rintro e w6 ⟨t, rfl, ⟨p6a, p6b, -⟩, k1⟩
    have p6b := p6b (by decide)
    have H6 := Lib.hid (H5.out.picked k1)
    clear k1
    clear H5
    go_wp2_with fail
    go_returns
    exact ⟨_, _, _, _, rfl, H6.out.mono (by omega), hlm, HBD.out, by omega, by omega, by omega, by omega⟩

set_option maxRecDepth 100000 in
set_option maxHeartbeats 4000000 in
theorem drawAfterEvent_any (w : World) (a : Option Addr) (len cap : Nat) (zs : List Int) (h : IsRowC .u8 w a len cap zs) :
    Calls Try.prog 38 #[.slice a len cap] w (DrawAft w) := by
  go_enter Try.func38, Try.ntmps38
  go_wp2_with fail
  refine (open_any w a len cap zs h).mono ?_
  rintro e w1 ⟨rfl, ho⟩
  go_wp2_with fail
  refine (l20Given_any _ w.heap.size 0 (by decide) ho.rd).mono ?_
  rintro e w2 ⟨v, xs, x, y, rfl, h2, hl, hb, x1, x2, y1, y2⟩
  have HB := Lib.hid hb
  clear hb
  have HO := Lib.hid (drawn8 ho h2)
  clear ho h2
  go_wp2_with fail
  go_ret2
  exact ⟨_, _, _, rfl, HO.out.1, hl, HB.out, y1, y2, HO.out.2⟩

end Go.Proofs.Ytbjmhbkpeglpkaa
