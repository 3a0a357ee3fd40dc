/- Contract of the program's BetsAgainst. Conditions: a row that reads as a list. -/
import Derived.Test.YtkanfolgppbklaaVb
namespace Go.Proofs.Ytkanfolgppbklaa
open Go.RowKit
set_option linter.unusedVariables false

theorem bnil_own (w : World) (base : Nat) : BOwn w base (.slice none 0 0) [] := by simpa [GOwn] using World.ownsRow_nil w base 30 3

set_option maxRecDepth 100000 in
set_option maxHeartbeats 8000000 in
theorem onFault_less (w : World) (v : Value) (t : List Int) (a b M : Nat) (x y z : Int) (hv : IRd w v t) (hx : t[a]? = some x) (hy : t[b]? = some y) (hz : t[M]? = some z) (hM : a ||| b = M) (h16 : t.length ≤ 16) (x0 : 0 ≤ x ∧ x ≤ 36) (y0 : 0 ≤ y ∧ y ≤ 36) (z0 : 0 ≤ z ∧ z ≤ 36) (hcmp : x + y < z) :
    Calls Try.prog 29 #[v, .int .i64 (a : Int), .int .i64 (b : Int)] w (NewBs [((a : Int), x, -1), ((b : Int), y, -1), ((M : Int), z, 1)] w) := by
  have hal : a < t.length := (List.getElem?_eq_some_iff.1 hx).1
  have hbl : b < t.length := (List.getElem?_eq_some_iff.1 hy).1
  have hMl : M < t.length := (List.getElem?_eq_some_iff.1 hz).1
  have hor := or_nat (a := a) (b := b) (by omega) (by omega)
  rw [hM] at hor
  have HV : Hid (∀ wr, Below w.heap.size w wr → IRd wr v t) := Lib.hid (fun wr h => hv.keep (SameAt.of_below h))
  have HX := Lib.hid (And.intro hx (And.intro hy hz))
  obtain ⟨A, c, rfl, hl, hm, -⟩ := id hv
  obtain ⟨B, off, x', rfl, -, hx', hcx'⟩ := hv.at_ hal
  have HTM : Hid (Calls Try.prog 44 #[.slice (some ⟨B, off, none⟩) t.length c, .int .i64 (a : Int), .int .i64 (b : Int)] w fun r w' => r = .returned (.int .i64 (x + y - z)) ∧ Below w.heap.size w w') := Lib.hid (tooMany_any w _ t a b M x y z hv hx hy hz hM h16 x0 y0 z0)
  have i1 : (0 : Int) ≤ (a : Int) := by omega
  have i2 : (a : Int) < (t.length : Int) := by omega
  have i3 : (0 : Int) ≤ (b : Int) := by omega
  have i4 : (b : Int) < (t.length : Int) := by omega
  have i5 : (0 : Int) ≤ (M : Int) := by omega
  have i6 : (M : Int) < (t.length : Int) := by omega
  obtain ⟨d, hd⟩ : ∃ d, x + y - z = d := ⟨_, rfl⟩
  rw [hd] at HTM
  have hdc : d < 0 := by omega
  clear hx hy hz hx' hcx' hM hv hd hcmp
  go_enter Try.func29, Try.ntmps29
  go_wp2_with fail
  refine HTM.out.mono ?_
  rintro r w2 ⟨rfl, b2⟩
  have HB2 := Lib.hid b2
  have HCC : Hid (∀ w', Below w2.heap.size w2 w' → w'.cell? ⟨B, off + a, none⟩ = some (.int .i64 x) ∧ w'.cell? ⟨B, off + b, none⟩ = some (.int .i64 y) ∧ w'.cell? ⟨B, off + M, none⟩ = some (.int .i64 z)) := Lib.hid (fun w' hb' => by
    have hr := HV.out w' (below_step b2 hb' b2.size)
    exact ⟨IRd.cellk hr HX.out.1, IRd.cellk hr HX.out.2.1, IRd.cellk hr HX.out.2.2⟩)
  clear b2
  go_wp2_with fail
  refine wp_region_held_drew (S := fun w' => w'.cell? ⟨B, off + a, none⟩ = some (.int .i64 x) ∧ w'.cell? ⟨B, off + b, none⟩ = some (.int .i64 y) ∧ w'.cell? ⟨B, off + M, none⟩ = some (.int .i64 z)) (by kernel_rfl) (HCC.out w2.drew (Below.refl _ _).drew) (fun hHeld => ?_)
  refine take_in (i := 0) (v := ?_) rfl (by kernel_rfl) (fun _ _ _ h => h) rfl ?_ hHeld ?_
  rotate_left
  · intro w hSw; go_simp; all_goals with_reducible rfl
  try simp only [Act.put, List.setIfInBounds_toArray, List.set_cons_zero, List.set_cons_succ]
  refine take_in (i := 1) (v := ?_) rfl (by kernel_rfl) (fun _ _ _ h => h) rfl ?_ hHeld ?_
  rotate_left
  · intro w hSw; go_simp; all_goals with_reducible rfl
  try simp only [Act.put, List.setIfInBounds_toArray, List.set_cons_zero, List.set_cons_succ]
  refine take_in (i := 2) (v := ?_) rfl (by kernel_rfl) (fun _ _ _ h => h) rfl ?_ hHeld ?_
  rotate_left
  · intro w hSw; go_simp; all_goals with_reducible rfl
  try simp only [Act.put, List.setIfInBounds_toArray, List.set_cons_zero, List.set_cons_succ]
  refine take_in (i := 3) (v := ?_) rfl (by kernel_rfl) (fun _ _ _ h => h) rfl ?_ hHeld ?_
  rotate_left
  · intro w hSw; go_simp; all_goals with_reducible rfl
  try simp only [Act.put, List.setIfInBounds_toArray, List.set_cons_zero, List.set_cons_succ]
  refine take_in (i := 4) (v := ?_) rfl (by kernel_rfl) (fun _ _ _ h => h) rfl ?_ hHeld ?_
  rotate_left
  · intro w hSw; obtain ⟨h1, h2, h3⟩ := hSw; go_simp; all_goals with_reducible rfl
  try simp only [Act.put, List.setIfInBounds_toArray, List.set_cons_zero, List.set_cons_succ]
  refine take_in (i := 5) (v := ?_) rfl (by kernel_rfl) (fun _ _ _ h => h) rfl ?_ hHeld ?_
  rotate_left
  · intro w hSw; go_simp; all_goals with_reducible rfl
  try simp only [Act.put, List.setIfInBounds_toArray, List.set_cons_zero, List.set_cons_succ]
  refine take_in (i := 6) (v := ?_) rfl (by kernel_rfl) (fun _ _ _ h => h) rfl ?_ hHeld ?_
  rotate_left
  · intro w hSw; go_simp; all_goals with_reducible rfl
  try simp only [Act.put, List.setIfInBounds_toArray, List.set_cons_zero, List.set_cons_succ]
  refine take_in (i := 7) (v := ?_) rfl (by kernel_rfl) (fun _ _ _ h => h) rfl ?_ hHeld ?_
  rotate_left
  · intro w hSw; go_simp; all_goals with_reducible rfl
  try simp only [Act.put, List.setIfInBounds_toArray, List.set_cons_zero, List.set_cons_succ]
  refine take_in (i := 8) (v := ?_) rfl (by kernel_rfl) (fun _ _ _ h => h) rfl ?_ hHeld ?_
  rotate_left
  · intro w hSw; go_simp; all_goals with_reducible rfl
  try simp only [Act.put, List.setIfInBounds_toArray, List.set_cons_zero, List.set_cons_succ]
  refine take_in (i := 9) (v := ?_) rfl (by kernel_rfl) (fun _ _ _ h => h) rfl ?_ hHeld ?_
  rotate_left
  · intro w hSw; go_simp; all_goals with_reducible rfl
  try simp only [Act.put, List.setIfInBounds_toArray, List.set_cons_zero, List.set_cons_succ]
  refine take_in (i := 10) (v := ?_) rfl (by kernel_rfl) (fun _ _ _ h => h) rfl ?_ hHeld ?_
  rotate_left
  · intro w hSw; go_simp; all_goals with_reducible rfl
  try simp only [Act.put, List.setIfInBounds_toArray, List.set_cons_zero, List.set_cons_succ]
  refine take_in (i := 11) (v := ?_) rfl (by kernel_rfl) (fun _ _ _ h => h) rfl ?_ hHeld ?_
  rotate_left
  · intro w hSw; obtain ⟨h1, h2, h3⟩ := hSw; go_simp; all_goals with_reducible rfl
  try simp only [Act.put, List.setIfInBounds_toArray, List.set_cons_zero, List.set_cons_succ]
  refine take_in (i := 12) (v := ?_) rfl (by kernel_rfl) (fun _ _ _ h => h) rfl ?_ hHeld ?_
  rotate_left
  · intro w hSw; go_simp; all_goals with_reducible rfl
  try simp only [Act.put, List.setIfInBounds_toArray, List.set_cons_zero, List.set_cons_succ]
  refine take_in (i := 13) (v := ?_) rfl (by kernel_rfl) (fun _ _ _ h => h) rfl ?_ hHeld ?_
  rotate_left
  · intro w hSw; go_simp; all_goals with_reducible rfl
  try simp only [Act.put, List.setIfInBounds_toArray, List.set_cons_zero, List.set_cons_succ]
  refine take_in (i := 14) (v := ?_) rfl (by kernel_rfl) (fun _ _ _ h => h) rfl ?_ hHeld ?_
  rotate_left
  · intro w hSw; go_simp; all_goals with_reducible rfl
  try simp only [Act.put, List.setIfInBounds_toArray, List.set_cons_zero, List.set_cons_succ]
  refine take_in (i := 15) (v := ?_) rfl (by kernel_rfl) (fun _ _ _ h => h) rfl ?_ hHeld ?_
  rotate_left
  · intro w hSw; go_simp; all_goals with_reducible rfl
  try simp only [Act.put, List.setIfInBounds_toArray, List.set_cons_zero, List.set_cons_succ]
  refine take_in (i := 16) (v := ?_) rfl (by kernel_rfl) (fun _ _ _ h => h) rfl ?_ hHeld ?_
  rotate_left
  · intro w hSw; go_simp; all_goals with_reducible rfl
  try simp only [Act.put, List.setIfInBounds_toArray, List.set_cons_zero, List.set_cons_succ]
  refine take_in (i := 17) (v := ?_) rfl (by kernel_rfl) (fun _ _ _ h => h) rfl ?_ hHeld ?_
  rotate_left
  · intro w hSw; go_simp; all_goals with_reducible rfl
  try simp only [Act.put, List.setIfInBounds_toArray, List.set_cons_zero, List.set_cons_succ]
  refine take_in (i := 18) (v := ?_) rfl (by kernel_rfl) (fun _ _ _ h => h) rfl ?_ hHeld ?_
  rotate_left
  · intro w hSw; go_simp; all_goals with_reducible rfl
  try simp only [Act.put, List.setIfInBounds_toArray, List.set_cons_zero, List.set_cons_succ]
  refine take_in (i := 19) (v := ?_) rfl (by kernel_rfl) (fun _ _ _ h => h) rfl ?_ hHeld ?_
  rotate_left
  · intro w hSw; go_simp; all_goals with_reducible rfl
  try simp only [Act.put, List.setIfInBounds_toArray, List.set_cons_zero, List.set_cons_succ]
  refine take_in (i := 20) (v := ?_) rfl (by kernel_rfl) (fun _ _ _ h => h) rfl ?_ hHeld ?_
  rotate_left
  · intro w hSw; go_simp; all_goals with_reducible rfl
  try simp only [Act.put, List.setIfInBounds_toArray, List.set_cons_zero, List.set_cons_succ]
  refine take_in (i := 21) (v := ?_) rfl (by kernel_rfl) (fun _ _ _ h => h) rfl ?_ hHeld ?_
  rotate_left
  · intro w hSw; go_simp; all_goals with_reducible rfl
  try simp only [Act.put, List.setIfInBounds_toArray, List.set_cons_zero, List.set_cons_succ]
  refine take_in (i := 22) (v := ?_) rfl (by kernel_rfl) (fun _ _ _ h => h) rfl ?_ hHeld ?_
  rotate_left
  · intro w hSw; obtain ⟨h1, h2, h3⟩ := hSw; go_simp; all_goals with_reducible rfl
  try simp only [Act.put, List.setIfInBounds_toArray, List.set_cons_zero, List.set_cons_succ]
  refine take_in (i := 23) (v := ?_) rfl (by kernel_rfl) (fun _ _ _ h => h) rfl ?_ hHeld ?_
  rotate_left
  · intro w hSw; go_simp; all_goals with_reducible rfl
  try simp only [Act.put, List.setIfInBounds_toArray, List.set_cons_zero, List.set_cons_succ]
  refine take_in (i := 24) (v := ?_) rfl (by kernel_rfl) (fun _ _ _ h => h) rfl ?_ hHeld ?_
  rotate_left
  · intro w hSw; go_simp; all_goals with_reducible rfl
  try simp only [Act.put, List.setIfInBounds_toArray, List.set_cons_zero, List.set_cons_succ]
  refine take_in (i := 25) (v := ?_) rfl (by kernel_rfl) (fun _ _ _ h => h) rfl ?_ hHeld ?_
  rotate_left
  · intro w hSw; go_simp; all_goals with_reducible rfl
  try simp only [Act.put, List.setIfInBounds_toArray, List.set_cons_zero, List.set_cons_succ]
  refine ready_one (i := 26) rfl (by kernel_rfl) (fun K hK => ?_)
  go_simp
  refine hK.out _ (w2.drew.alloc (.cells #[.int .i64 (a : Int), .int .i64 x, .int .i64 (-1), .int .i64 (b : Int), .int .i64 y, .int .i64 (-1), .int .i64 (M : Int), .int .i64 z, .int .i64 (1)] 30)) (HCC.out _ (((Below.refl _ _).drew).alloc (Nat.le_refl _) _)) (fun hHeld => ?_)
  clear hK K
  try simp only [Act.put, List.setIfInBounds_toArray, List.set_cons_zero, List.set_cons_succ]
  refine take_in (i := 27) (v := ?_) rfl (by kernel_rfl) (fun _ _ _ h => h) rfl ?_ hHeld ?_
  rotate_left
  · intro w hSw; go_simp; all_goals with_reducible rfl
  try simp only [Act.put, List.setIfInBounds_toArray, List.set_cons_zero, List.set_cons_succ]
  refine wpAnyH_done (by kernel_rfl) ?_ _
  go_wp2_with fail
  go_returns
  exact ⟨_, rfl, lit_three w2.drew _ HB2.out.size ((a : Int), x, -1) ((b : Int), y, -1) ((M : Int), z, 1), HB2.out.drew.alloc HB2.out.size _⟩

set_option maxRecDepth 100000 in
set_option maxHeartbeats 8000000 in
theorem onFault_more (w : World) (v : Value) (t : List Int) (a b M : Nat) (x y z : Int) (hv : IRd w v t) (hx : t[a]? = some x) (hy : t[b]? = some y) (hz : t[M]? = some z) (hM : a ||| b = M) (h16 : t.length ≤ 16) (x0 : 0 ≤ x ∧ x ≤ 36) (y0 : 0 ≤ y ∧ y ≤ 36) (z0 : 0 ≤ z ∧ z ≤ 36) (hcmp : z ≤ x + y) :
    Calls Try.prog 29 #[v, .int .i64 (a : Int), .int .i64 (b : Int)] w (NewBs [((a : Int), x, 1), ((b : Int), y, 1), ((M : Int), z, -1)] w) := by
  have hal : a < t.length := (List.getElem?_eq_some_iff.1 hx).1
  have hbl : b < t.length := (List.getElem?_eq_some_iff.1 hy).1
  have hMl : M < t.length := (List.getElem?_eq_some_iff.1 hz).1
  have hor := or_nat (a := a) (b := b) (by omega) (by omega)
  rw [hM] at hor
  have HV : Hid (∀ wr, Below w.heap.size w wr → IRd wr v t) := Lib.hid (fun wr h => hv.keep (SameAt.of_below h))
  have HX := Lib.hid (And.intro hx (And.intro hy hz))
  obtain ⟨A, c, rfl, hl, hm, -⟩ := id hv
  obtain ⟨B, off, x', rfl, -, hx', hcx'⟩ := hv.at_ hal
  have HTM : Hid (Calls Try.prog 44 #[.slice (some ⟨B, off, none⟩) t.length c, .int .i64 (a : Int), .int .i64 (b : Int)] w fun r w' => r = .returned (.int .i64 (x + y - z)) ∧ Below w.heap.size w w') := Lib.hid (tooMany_any w _ t a b M x y z hv hx hy hz hM h16 x0 y0 z0)
  have i1 : (0 : Int) ≤ (a : Int) := by omega
  have i2 : (a : Int) < (t.length : Int) := by omega
  have i3 : (0 : Int) ≤ (b : Int) := by omega
  have i4 : (b : Int) < (t.length : Int) := by omega
  have i5 : (0 : Int) ≤ (M : Int) := by omega
  have i6 : (M : Int) < (t.length : Int) := by omega
  obtain ⟨d, hd⟩ : ∃ d, x + y - z = d := ⟨_, rfl⟩
  rw [hd] at HTM
  have hdc : 0 ≤ d := by omega
  clear hx hy hz hx' hcx' hM hv hd hcmp
  go_enter Try.func29, Try.ntmps29
  go_wp2_with fail
  refine HTM.out.mono ?_
  rintro r w2 ⟨rfl, b2⟩
  have HB2 := Lib.hid b2
  have HCC : Hid (∀ w', Below w2.heap.size w2 w' → w'.cell? ⟨B, off + a, none⟩ = some (.int .i64 x) ∧ w'.cell? ⟨B, off + b, none⟩ = some (.int .i64 y) ∧ w'.cell? ⟨B, off + M, none⟩ = some (.int .i64 z)) := Lib.hid (fun w' hb' => by
    have hr := HV.out w' (below_step b2 hb' b2.size)
    exact ⟨IRd.cellk hr HX.out.1, IRd.cellk hr HX.out.2.1, IRd.cellk hr HX.out.2.2⟩)
  clear b2
  go_wp2_with fail
  refine wp_region_held_drew (S := fun w' => w'.cell? ⟨B, off + a, none⟩ = some (.int .i64 x) ∧ w'.cell? ⟨B, off + b, none⟩ = some (.int .i64 y) ∧ w'.cell? ⟨B, off + M, none⟩ = some (.int .i64 z)) (by kernel_rfl) (HCC.out w2.drew (Below.refl _ _).drew) (fun hHeld => ?_)
  refine take_in (i := 0) (v := ?_) rfl (by kernel_rfl) (fun _ _ _ h => h) rfl ?_ hHeld ?_
  rotate_left
  · intro w hSw; go_simp; all_goals with_reducible rfl
  try simp only [Act.put, List.setIfInBounds_toArray, List.set_cons_zero, List.set_cons_succ]
  refine take_in (i := 1) (v := ?_) rfl (by kernel_rfl) (fun _ _ _ h => h) rfl ?_ hHeld ?_
  rotate_left
  · intro w hSw; go_simp; all_goals with_reducible rfl
  try simp only [Act.put, List.setIfInBounds_toArray, List.set_cons_zero, List.set_cons_succ]
  refine take_in (i := 2) (v := ?_) rfl (by kernel_rfl) (fun _ _ _ h => h) rfl ?_ hHeld ?_
  rotate_left
  · intro w hSw; go_simp; all_goals with_reducible rfl
  try simp only [Act.put, List.setIfInBounds_toArray, List.set_cons_zero, List.set_cons_succ]
  refine take_in (i := 3) (v := ?_) rfl (by kernel_rfl) (fun _ _ _ h => h) rfl ?_ hHeld ?_
  rotate_left
  · intro w hSw; go_simp; all_goals with_reducible rfl
  try simp only [Act.put, List.setIfInBounds_toArray, List.set_cons_zero, List.set_cons_succ]
  refine take_in (i := 4) (v := ?_) rfl (by kernel_rfl) (fun _ _ _ h => h) rfl ?_ hHeld ?_
  rotate_left
  · intro w hSw; obtain ⟨h1, h2, h3⟩ := hSw; go_simp; all_goals with_reducible rfl
  try simp only [Act.put, List.setIfInBounds_toArray, List.set_cons_zero, List.set_cons_succ]
  refine take_in (i := 5) (v := ?_) rfl (by kernel_rfl) (fun _ _ _ h => h) rfl ?_ hHeld ?_
  rotate_left
  · intro w hSw; go_simp; all_goals with_reducible rfl
  try simp only [Act.put, List.setIfInBounds_toArray, List.set_cons_zero, List.set_cons_succ]
  refine take_in (i := 6) (v := ?_) rfl (by kernel_rfl) (fun _ _ _ h => h) rfl ?_ hHeld ?_
  rotate_left
  · intro w hSw; go_simp; all_goals with_reducible rfl
  try simp only [Act.put, List.setIfInBounds_toArray, List.set_cons_zero, List.set_cons_succ]
  refine take_in (i := 7) (v := ?_) rfl (by kernel_rfl) (fun _ _ _ h => h) rfl ?_ hHeld ?_
  rotate_left
  · intro w hSw; go_simp; all_goals with_reducible rfl
  try simp only [Act.put, List.setIfInBounds_toArray, List.set_cons_zero, List.set_cons_succ]
  refine take_in (i := 8) (v := ?_) rfl (by kernel_rfl) (fun _ _ _ h => h) rfl ?_ hHeld ?_
  rotate_left
  · intro w hSw; go_simp; all_goals with_reducible rfl
  try simp only [Act.put, List.setIfInBounds_toArray, List.set_cons_zero, List.set_cons_succ]
  refine take_in (i := 9) (v := ?_) rfl (by kernel_rfl) (fun _ _ _ h => h) rfl ?_ hHeld ?_
  rotate_left
  · intro w hSw; go_simp; all_goals with_reducible rfl
  try simp only [Act.put, List.setIfInBounds_toArray, List.set_cons_zero, List.set_cons_succ]
  refine take_in (i := 10) (v := ?_) rfl (by kernel_rfl) (fun _ _ _ h => h) rfl ?_ hHeld ?_
  rotate_left
  · intro w hSw; go_simp; all_goals with_reducible rfl
  try simp only [Act.put, List.setIfInBounds_toArray, List.set_cons_zero, List.set_cons_succ]
  refine take_in (i := 11) (v := ?_) rfl (by kernel_rfl) (fun _ _ _ h => h) rfl ?_ hHeld ?_
  rotate_left
  · intro w hSw; obtain ⟨h1, h2, h3⟩ := hSw; go_simp; all_goals with_reducible rfl
  try simp only [Act.put, List.setIfInBounds_toArray, List.set_cons_zero, List.set_cons_succ]
  refine take_in (i := 12) (v := ?_) rfl (by kernel_rfl) (fun _ _ _ h => h) rfl ?_ hHeld ?_
  rotate_left
  · intro w hSw; go_simp; all_goals with_reducible rfl
  try simp only [Act.put, List.setIfInBounds_toArray, List.set_cons_zero, List.set_cons_succ]
  refine take_in (i := 13) (v := ?_) rfl (by kernel_rfl) (fun _ _ _ h => h) rfl ?_ hHeld ?_
  rotate_left
  · intro w hSw; go_simp; all_goals with_reducible rfl
  try simp only [Act.put, List.setIfInBounds_toArray, List.set_cons_zero, List.set_cons_succ]
  refine take_in (i := 14) (v := ?_) rfl (by kernel_rfl) (fun _ _ _ h => h) rfl ?_ hHeld ?_
  rotate_left
  · intro w hSw; go_simp; all_goals with_reducible rfl
  try simp only [Act.put, List.setIfInBounds_toArray, List.set_cons_zero, List.set_cons_succ]
  refine take_in (i := 15) (v := ?_) rfl (by kernel_rfl) (fun _ _ _ h => h) rfl ?_ hHeld ?_
  rotate_left
  · intro w hSw; go_simp; all_goals with_reducible rfl
  try simp only [Act.put, List.setIfInBounds_toArray, List.set_cons_zero, List.set_cons_succ]
  refine take_in (i := 16) (v := ?_) rfl (by kernel_rfl) (fun _ _ _ h => h) rfl ?_ hHeld ?_
  rotate_left
  · intro w hSw; go_simp; all_goals with_reducible rfl
  try simp only [Act.put, List.setIfInBounds_toArray, List.set_cons_zero, List.set_cons_succ]
  refine take_in (i := 17) (v := ?_) rfl (by kernel_rfl) (fun _ _ _ h => h) rfl ?_ hHeld ?_
  rotate_left
  · intro w hSw; go_simp; all_goals with_reducible rfl
  try simp only [Act.put, List.setIfInBounds_toArray, List.set_cons_zero, List.set_cons_succ]
  refine take_in (i := 18) (v := ?_) rfl (by kernel_rfl) (fun _ _ _ h => h) rfl ?_ hHeld ?_
  rotate_left
  · intro w hSw; go_simp; all_goals with_reducible rfl
  try simp only [Act.put, List.setIfInBounds_toArray, List.set_cons_zero, List.set_cons_succ]
  refine take_in (i := 19) (v := ?_) rfl (by kernel_rfl) (fun _ _ _ h => h) rfl ?_ hHeld ?_
  rotate_left
  · intro w hSw; go_simp; all_goals with_reducible rfl
  try simp only [Act.put, List.setIfInBounds_toArray, List.set_cons_zero, List.set_cons_succ]
  refine take_in (i := 20) (v := ?_) rfl (by kernel_rfl) (fun _ _ _ h => h) rfl ?_ hHeld ?_
  rotate_left
  · intro w hSw; go_simp; all_goals with_reducible rfl
  try simp only [Act.put, List.setIfInBounds_toArray, List.set_cons_zero, List.set_cons_succ]
  refine take_in (i := 21) (v := ?_) rfl (by kernel_rfl) (fun _ _ _ h => h) rfl ?_ hHeld ?_
  rotate_left
  · intro w hSw; go_simp; all_goals with_reducible rfl
  try simp only [Act.put, List.setIfInBounds_toArray, List.set_cons_zero, List.set_cons_succ]
  refine take_in (i := 22) (v := ?_) rfl (by kernel_rfl) (fun _ _ _ h => h) rfl ?_ hHeld ?_
  rotate_left
  · intro w hSw; obtain ⟨h1, h2, h3⟩ := hSw; go_simp; all_goals with_reducible rfl
  try simp only [Act.put, List.setIfInBounds_toArray, List.set_cons_zero, List.set_cons_succ]
  refine take_in (i := 23) (v := ?_) rfl (by kernel_rfl) (fun _ _ _ h => h) rfl ?_ hHeld ?_
  rotate_left
  · intro w hSw; go_simp; all_goals with_reducible rfl
  try simp only [Act.put, List.setIfInBounds_toArray, List.set_cons_zero, List.set_cons_succ]
  refine take_in (i := 24) (v := ?_) rfl (by kernel_rfl) (fun _ _ _ h => h) rfl ?_ hHeld ?_
  rotate_left
  · intro w hSw; go_simp; all_goals with_reducible rfl
  try simp only [Act.put, List.setIfInBounds_toArray, List.set_cons_zero, List.set_cons_succ]
  refine take_in (i := 25) (v := ?_) rfl (by kernel_rfl) (fun _ _ _ h => h) rfl ?_ hHeld ?_
  rotate_left
  · intro w hSw; go_simp; all_goals with_reducible rfl
  try simp only [Act.put, List.setIfInBounds_toArray, List.set_cons_zero, List.set_cons_succ]
  refine ready_one (i := 26) rfl (by kernel_rfl) (fun K hK => ?_)
  go_simp
  refine hK.out _ (w2.drew.alloc (.cells #[.int .i64 (a : Int), .int .i64 x, .int .i64 (1), .int .i64 (b : Int), .int .i64 y, .int .i64 (1), .int .i64 (M : Int), .int .i64 z, .int .i64 (-1)] 30)) (HCC.out _ (((Below.refl _ _).drew).alloc (Nat.le_refl _) _)) (fun hHeld => ?_)
  clear hK K
  try simp only [Act.put, List.setIfInBounds_toArray, List.set_cons_zero, List.set_cons_succ]
  refine take_in (i := 27) (v := ?_) rfl (by kernel_rfl) (fun _ _ _ h => h) rfl ?_ hHeld ?_
  rotate_left
  · intro w hSw; go_simp; all_goals with_reducible rfl
  try simp only [Act.put, List.setIfInBounds_toArray, List.set_cons_zero, List.set_cons_succ]
  refine wpAnyH_done (by kernel_rfl) ?_ _
  go_wp2_with fail
  go_returns
  exact ⟨_, rfl, lit_three w2.drew _ HB2.out.size ((a : Int), x, 1) ((b : Int), y, 1) ((M : Int), z, -1), HB2.out.drew.alloc HB2.out.size _⟩

set_option maxRecDepth 100000 in
set_option maxHeartbeats 8000000 in
theorem implBetsAgainst_any (w : World) (n : Int) (v : Value) (t : List Int) (hv : IRd w v t) :
    Calls Try.prog 11 #[.int .i64 n, v] w (BetsOk w.heap.size (betsL n t) (agB n t) w) := by
  obtain ⟨A, c, rfl, hl, hm, -⟩ := id hv
  have HV : Hid (∀ wr, Below w.heap.size w wr → IRd wr (.slice A t.length c) t) := Lib.hid (fun wr h => hv.keep (SameAt.of_below h))
  clear hv
  rcases Bool.eq_false_or_eq_true (tokB n t) with h | h
  · have H := Lib.hid h
    obtain ⟨m, rfl, m1, m4, hlen, h16, h2⟩ := tok_len h
    have HG := Lib.hid (tok_get h)
    rcases hf : fault t with _ | ⟨a, b⟩
    · obtain ⟨hfa, hfb, hfo⟩ := ff_none (n := (m : Int)) hf
      have HP : Hid (∀ w0 w2 r, FFPost (m : Int) t w0 r w2 → r = .returned (.tuple #[.int .i64 (-1), .int .i64 (-1), .bool false]) ∧ Below w0.heap.size w0 w2) := Lib.hid (by rintro w0 w2 r ⟨rfl, b⟩; rw [hfa, hfb, hfo]; exact ⟨rfl, b⟩)
      obtain ⟨L, hL⟩ : ∃ L, t.length = L + 1 := ⟨t.length - 1, by omega⟩
      have HAL := Lib.hid (all_last hlen hL)
      obtain ⟨x, hx⟩ : ∃ x, t[L]? = some x := ⟨_, List.getElem?_eq_getElem (by omega)⟩
      have HX := Lib.hid hx
      have x36 : x ≤ 36 := by have := (HG.out L).2; rwa [tget_at hx] at this
      have hi1 : (0 : Int) ≤ (L : Int) := by omega
      have hi2 : (L : Int) < (t.length : Int) := by omega
      have HLL : Hid (L < t.length) := Lib.hid (by omega)
      have HA : addB (m : Int) t = (x == 36) := by rw [add_at h hf, hL]; show (tget t L == 36) = _; rw [tget_at hx]
      by_cases hx36 : x < 36
      · have HBL : Hid (agB (m : Int) t = true ∧ betsL (m : Int) t = [((L : Int), x, -1)]) := Lib.hid (by
          have ha : addB (m : Int) t = false := by rw [HA, beq_eq_false_iff_ne]; omega
          exact ⟨by rw [agB, h, ha]; rfl, by rw [bets_sum h hf ha, hL]; show [((L : Int), tget t L, -1)] = _; rw [tget_at hx]⟩)
        clear h hf hfa hfb hfo hlen hL hx HA
        go_enter Try.func11, Try.ntmps11
        go_wp2_with fail
        refine (implTableOk_any _ _ _ _ (HV.out _ (Below.refl _ _))).mono ?_
        rintro r w' ⟨rfl, rfl⟩
        rw [H.out]
        go_wp2_with fail
        refine (implFirstFault_any _ _ _ _ (HV.out _ (Below.refl _ _))).mono ?_
        intro r w2 hp
        obtain ⟨rfl, b2⟩ := HP.out _ _ _ hp
        have HB2 := Lib.hid b2
        clear b2 hp
        obtain ⟨B, off, y, rfl, -, hy, hcy⟩ := (HV.out _ HB2.out).at_ (k := L) HLL.out
        obtain rfl : y = x := Option.some.inj (hy.symm.trans HX.out)
        clear hy
        go_wp2_with fail
        refine (allW_any _ (by omega) (by omega) L HAL.out _).mono ?_
        rintro r w' ⟨rfl, rfl⟩
        go_wp2_with fail
        go_returns
        exact betsOk_ret HBL.out.1 HBL.out.2 (lit_one _ _ HB2.out.size ((L : Int), y, -1)) (HB2.out.alloc HB2.out.size _)
      · have HBL : Hid (agB (m : Int) t = false) := Lib.hid (by
          have ha : addB (m : Int) t = true := by rw [HA, beq_iff_eq]; omega
          rw [agB, h, ha]; rfl)
        have hx36' : 36 ≤ x := by omega
        clear h hf hfa hfb hfo hlen hL hx HA hx36
        go_enter Try.func11, Try.ntmps11
        go_wp2_with fail
        refine (implTableOk_any _ _ _ _ (HV.out _ (Below.refl _ _))).mono ?_
        rintro r w' ⟨rfl, rfl⟩
        rw [H.out]
        go_wp2_with fail
        refine (implFirstFault_any _ _ _ _ (HV.out _ (Below.refl _ _))).mono ?_
        intro r w2 hp
        obtain ⟨rfl, b2⟩ := HP.out _ _ _ hp
        have HB2 := Lib.hid b2
        clear b2 hp
        obtain ⟨B, off, y, rfl, -, hy, hcy⟩ := (HV.out _ HB2.out).at_ (k := L) HLL.out
        obtain rfl : y = x := Option.some.inj (hy.symm.trans HX.out)
        clear hy
        go_wp2_with fail
        refine (allW_any _ (by omega) (by omega) L HAL.out _).mono ?_
        rintro r w' ⟨rfl, rfl⟩
        go_wp2_with fail
        go_ret2
        exact betsOk_ret HBL.out (bets_no HBL.out) (bnil_own _ _) HB2.out
    · obtain ⟨hfa, hfb, hfo⟩ := ff_some h hf
      have HP : Hid (∀ w0 w2 r, FFPost (m : Int) t w0 r w2 → r = .returned (.tuple #[.int .i64 (a : Int), .int .i64 (b : Int), .bool true]) ∧ Below w0.heap.size w0 w2) := Lib.hid (by rintro w0 w2 r ⟨rfl, b⟩; rw [hfa, hfb, hfo]; exact ⟨rfl, b⟩)
      obtain ⟨ha, hb, hisf, -⟩ := fault_is hf
      obtain ⟨M, hM⟩ : ∃ M, a ||| b = M := ⟨_, rfl⟩
      have hMl : M < t.length := by rw [← hM]; rw [hlen] at ha hb ⊢; exact Nat.or_lt_two_pow ha hb
      obtain ⟨x, hx⟩ : ∃ x, t[a]? = some x := ⟨_, List.getElem?_eq_getElem ha⟩
      obtain ⟨y, hy⟩ : ∃ y, t[b]? = some y := ⟨_, List.getElem?_eq_getElem hb⟩
      obtain ⟨z, hz⟩ : ∃ z, t[M]? = some z := ⟨_, List.getElem?_eq_getElem hMl⟩
      have x12 : 0 ≤ x ∧ x ≤ 36 := by have := HG.out a; rwa [tget_at hx] at this
      have y12 : 0 ≤ y ∧ y ≤ 36 := by have := HG.out b; rwa [tget_at hy] at this
      have z12 : 0 ≤ z ∧ z ≤ 36 := by have := HG.out M; rwa [tget_at hz] at this
      have HAG := Lib.hid (ag_fault h hf).1
      have HBF : Hid (∀ wq, Below w.heap.size w wq → Calls Try.prog 29 #[.slice A t.length c, .int .i64 (a : Int), .int .i64 (b : Int)] wq (NewBs (betsL (m : Int) t) wq)) := Lib.hid (fun wq hq => by
        by_cases hcmp : x + y < z
        · rw [bets_less h hf (by rw [hM, tget_at hx, tget_at hy, tget_at hz]; exact hcmp), hM, tget_at hx, tget_at hy, tget_at hz]
          exact onFault_less wq _ t a b M x y z (HV.out wq hq) hx hy hz hM h16 x12 y12 z12 hcmp
        · rw [bets_more h hf (by rw [hM, tget_at hx, tget_at hy, tget_at hz]; exact hcmp), hM, tget_at hx, tget_at hy, tget_at hz]
          exact onFault_more wq _ t a b M x y z (HV.out wq hq) hx hy hz hM h16 x12 y12 z12 (by omega))
      clear h hf hfa hfb hfo hisf hM hx hy hz hlen
      go_enter Try.func11, Try.ntmps11
      go_wp2_with fail
      refine (implTableOk_any _ _ _ _ (HV.out _ (Below.refl _ _))).mono ?_
      rintro r w' ⟨rfl, rfl⟩
      rw [H.out]
      go_wp2_with fail
      refine (implFirstFault_any _ _ _ _ (HV.out _ (Below.refl _ _))).mono ?_
      intro r w2 hp
      obtain ⟨rfl, b2⟩ := HP.out _ _ _ hp
      have HB2 := Lib.hid b2
      clear b2 hp
      go_wp2_with fail
      refine (HBF.out _ HB2.out).mono ?_
      rintro r w3 ⟨v3, rfl, o3, b3⟩
      have HO3 := Lib.hid o3
      have HB3 := Lib.hid b3
      clear o3 b3
      go_wp2_with fail
      go_ret2
      exact betsOk_ret HAG.out rfl (HO3.out.base HB2.out.size) (below_step HB2.out HB3.out HB2.out.size)
  · have H := Lib.hid h
    have HBL : Hid (agB n t = false) := Lib.hid (by rw [agB, h]; rfl)
    go_enter Try.func11, Try.ntmps11
    go_wp2_with fail
    refine (implTableOk_any _ _ _ _ (HV.out _ (Below.refl _ _))).mono ?_
    rintro r w' ⟨rfl, rfl⟩
    rw [H.out]
    go_wp2_with fail
    go_ret2
    exact betsOk_ret HBL.out (bets_no HBL.out) (bnil_own _ _) (Below.refl _ _)

end Go.Proofs.Ytkanfolgppbklaa
