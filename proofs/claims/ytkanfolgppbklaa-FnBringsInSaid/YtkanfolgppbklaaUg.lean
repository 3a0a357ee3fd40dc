/- Contract of spec's BetsAgainst. Conditions: a row that reads as a list. -/
import Derived.Test.YtkanfolgppbklaaUe
import Derived.Test.YtkanfolgppbklaaUf
namespace Go.Proofs.Ytkanfolgppbklaa
open Go.RowKit
set_option linter.unusedVariables false

/-- bets, and whether there are some -/
def BetsOk (base : Nat) (bs : List Bt) (c : Bool) (w : World) (e : Ending) (w' : World) : Prop := ∃ v, e = .returned (.tuple #[v, .bool c]) ∧ BOwn w' base v bs ∧ Below w.heap.size w w'

theorem betsOk_ret {base : Nat} {bs cs : List Bt} {c d : Bool} {w w' : World} {v : Value} (h : c = d) (k : bs = cs) (o : BOwn w' base v cs) (b : Below w.heap.size w w') : BetsOk base bs c w (.returned (.tuple #[v, .bool d])) w' := by
  subst h k; exact ⟨v, rfl, o, b⟩

theorem lit_none (w : World) (base : Nat) (hb : base ≤ w.heap.size) : BOwn (w.alloc (.cells #[] 30)) base (.slice (some ⟨w.heap.size, 0, none⟩) 0 0) [] :=
  World.ownsRow_lit w #[] 0 hb (by unfold maxLen; omega) rfl

theorem lit_one (w : World) (base : Nat) (hb : base ≤ w.heap.size) (b : Bt) : BOwn (w.alloc (.cells #[.int .i64 b.1, .int .i64 b.2.1, .int .i64 b.2.2] 30)) base (.slice (some ⟨w.heap.size, 0, none⟩) 1 1) [b] :=
  World.ownsRow_lit w #[.int .i64 b.1, .int .i64 b.2.1, .int .i64 b.2.2] 1 hb (by unfold maxLen; omega) rfl

theorem lit_three (w : World) (base : Nat) (hb : base ≤ w.heap.size) (b c d : Bt) : BOwn (w.alloc (.cells #[.int .i64 b.1, .int .i64 b.2.1, .int .i64 b.2.2, .int .i64 c.1, .int .i64 c.2.1, .int .i64 c.2.2, .int .i64 d.1, .int .i64 d.2.1, .int .i64 d.2.2] 30)) base (.slice (some ⟨w.heap.size, 0, none⟩) 3 3) [b, c, d] :=
  World.ownsRow_lit w #[.int .i64 b.1, .int .i64 b.2.1, .int .i64 b.2.2, .int .i64 c.1, .int .i64 c.2.1, .int .i64 c.2.2, .int .i64 d.1, .int .i64 d.2.1, .int .i64 d.2.2] 3 hb (by unfold maxLen; omega) rfl

theorem bets_less {n : Int} {t : List Int} {a b : Nat} (h : tokB n t = true) (hf : fault t = some (a, b)) (hl : tget t a + tget t b < tget t (a ||| b)) :
    betsL n t = [((a : Int), tget t a, -1), ((b : Int), tget t b, -1), (((a ||| b : Nat) : Int), tget t (a ||| b), 1)] := by
  rw [betsL, h, hf]; simp [hl]

theorem bets_more {n : Int} {t : List Int} {a b : Nat} (h : tokB n t = true) (hf : fault t = some (a, b)) (hl : ¬ tget t a + tget t b < tget t (a ||| b)) :
    betsL n t = [((a : Int), tget t a, 1), ((b : Int), tget t b, 1), (((a ||| b : Nat) : Int), tget t (a ||| b), -1)] := by
  rw [betsL, h, hf]; simp [hl]

theorem bets_sum {n : Int} {t : List Int} (h : tokB n t = true) (hf : fault t = none) (ha : addB n t = false) : betsL n t = [(((t.length - 1 : Nat) : Int), tget t (t.length - 1), -1)] := by
  rw [betsL, h, hf, ha]; rfl

set_option maxRecDepth 100000 in
set_option maxHeartbeats 8000000 in
theorem specBetsAgainst_any (w : World) (n : Int) (v : Value) (t : List Int) (hv : IRd w v t) :
    Calls Try.prog 12 #[.int .i64 n, v] w (BetsOk w.heap.size (betsL n t) (agB n t) w) := by
  obtain ⟨A, c, rfl, hl, hm, -⟩ := id hv
  have HV : Hid (∀ wr, Below w.heap.size w wr → IRd wr (.slice A t.length c) t) := Lib.hid (fun wr h => hv.keep (SameAt.of_below h))
  clear hv
  rcases Bool.eq_false_or_eq_true (tokB n t) with h | h
  · have H := Lib.hid h
    obtain ⟨-, -, -, -, -, h16, h2⟩ := tok_len h
    have HG := Lib.hid (tok_get h)
    rcases hf : fault t with _ | ⟨a, b⟩
    · obtain ⟨hfa, hfb, hfo⟩ := ff_none (n := n) hf
      have HF := Lib.hid hf
      have HP : Hid (∀ w0 w2 r, FFPost n t w0 r w2 → r = .returned (.tuple #[.int .i64 (-1), .int .i64 (-1), .bool false]) ∧ Below w0.heap.size w0 w2) := Lib.hid (by rintro w0 w2 r ⟨rfl, b⟩; rw [hfa, hfb, hfo]; exact ⟨rfl, b⟩)
      clear h hf hfa hfb hfo
      obtain ⟨L, hL⟩ : ∃ L, t.length = L + 1 := ⟨t.length - 1, by omega⟩
      have HL := Lib.hid hL
      obtain ⟨x, hx⟩ : ∃ x, t[L]? = some x := ⟨_, List.getElem?_eq_getElem (by omega)⟩
      have HX := Lib.hid hx
      have hw1 : IntKind.i64.wrap ((t.length : Int) - 1) = (L : Int) := by rw [IntWalk.i64_in _ (by omega)]; omega
      have hw2 : wrap64 ((t.length : Int) - 1) = (L : Int) := by rw [IntWalk.wrap64_in _ (by omega)]; omega
      have hi1 : (0 : Int) ≤ (L : Int) := by omega
      have hi2 : (L : Int) < (t.length : Int) := by omega
      clear hL hx
      obtain ⟨s, hs⟩ : ∃ s, addB n t = s := ⟨_, rfl⟩
      have HA := Lib.hid hs
      clear hs
      cases s
      · have HBL : Hid (agB n t = true ∧ betsL n t = [((L : Int), x, -1)]) := Lib.hid ⟨by rw [agB, H.out, HA.out]; rfl, by rw [bets_sum H.out HF.out HA.out, HL.out]; show [((L : Int), tget t L, -1)] = _; rw [tget_at HX.out]⟩
        go_enter Try.func12, Try.ntmps12
        go_wp2_with fail
        refine (specFirstFault_any _ _ _ _ (HV.out _ (Below.refl _ _))).mono ?_
        intro r w2 hp
        obtain ⟨rfl, b2⟩ := HP.out _ _ _ hp
        have HB2 := Lib.hid b2
        clear b2 hp
        go_wp2_with fail
        refine (specTableOk_any _ _ _ _ (HV.out _ HB2.out)).mono ?_
        rintro r w' ⟨rfl, rfl⟩
        rw [H.out]
        go_wp2_with fail
        refine (specAdditiveOk_any _ _ _ _ (HV.out _ HB2.out)).mono ?_
        rintro r w3 ⟨rfl, b3⟩
        rw [HA.out]
        have HB3 := Lib.hid (below_step HB2.out b3 HB2.out.size)
        clear b3
        obtain ⟨B, off, y, rfl, -, hy, hcy⟩ := (HV.out _ HB3.out).at_ (k := L) (by have := HL.out; omega)
        obtain rfl : y = x := Option.some.inj (hy.symm.trans HX.out)
        clear hy
        go_wp2_with fail
        go_returns
        exact betsOk_ret HBL.out.1 HBL.out.2 (lit_one _ _ HB3.out.size ((L : Int), y, -1)) (HB3.out.alloc HB3.out.size _)
      · have HBL : Hid (agB n t = false) := Lib.hid (by rw [agB, H.out, HA.out]; rfl)
        go_enter Try.func12, Try.ntmps12
        go_wp2_with fail
        refine (specFirstFault_any _ _ _ _ (HV.out _ (Below.refl _ _))).mono ?_
        intro r w2 hp
        obtain ⟨rfl, b2⟩ := HP.out _ _ _ hp
        have HB2 := Lib.hid b2
        clear b2 hp
        go_wp2_with fail
        refine (specTableOk_any _ _ _ _ (HV.out _ HB2.out)).mono ?_
        rintro r w' ⟨rfl, rfl⟩
        rw [H.out]
        go_wp2_with fail
        refine (specAdditiveOk_any _ _ _ _ (HV.out _ HB2.out)).mono ?_
        rintro r w3 ⟨rfl, b3⟩
        rw [HA.out]
        have HB3 := Lib.hid (below_step HB2.out b3 HB2.out.size)
        clear b3
        go_wp2_with fail
        go_returns
        exact betsOk_ret HBL.out (bets_no HBL.out) (lit_none _ _ HB3.out.size) (HB3.out.alloc HB3.out.size _)
    · obtain ⟨hfa, hfb, hfo⟩ := ff_some h hf
      have HP : Hid (∀ w0 w2 r, FFPost n t w0 r w2 → r = .returned (.tuple #[.int .i64 (a : Int), .int .i64 (b : Int), .bool true]) ∧ Below w0.heap.size w0 w2) := Lib.hid (by rintro w0 w2 r ⟨rfl, b⟩; rw [hfa, hfb, hfo]; exact ⟨rfl, b⟩)
      obtain ⟨ha, hb, hisf, -⟩ := fault_is hf
      obtain ⟨M, hM⟩ : ∃ M, a ||| b = M := ⟨_, rfl⟩
      have hMl : M < t.length := by
        obtain ⟨m, -, -, -, hlen, -, -⟩ := tok_len h
        rw [← hM]; rw [hlen] at ha hb ⊢; exact Nat.or_lt_two_pow ha hb
      have hor := or_nat (a := a) (b := b) (by omega) (by omega)
      rw [hM] at hor
      obtain ⟨x, hx⟩ : ∃ x, t[a]? = some x := ⟨_, List.getElem?_eq_getElem ha⟩
      obtain ⟨y, hy⟩ : ∃ y, t[b]? = some y := ⟨_, List.getElem?_eq_getElem hb⟩
      obtain ⟨z, hz⟩ : ∃ z, t[M]? = some z := ⟨_, List.getElem?_eq_getElem hMl⟩
      have HX := Lib.hid (And.intro hx (And.intro hy hz))
      obtain ⟨x1, x2⟩ : 0 ≤ x ∧ x ≤ 36 := by have := HG.out a; rwa [tget_at hx] at this
      obtain ⟨y1, y2⟩ : 0 ≤ y ∧ y ≤ 36 := by have := HG.out b; rwa [tget_at hy] at this
      have hw1 : IntKind.i64.wrap (x + y) = x + y := IntWalk.i64_in _ (by omega)
      have hw2 : wrap64 (x + y) = x + y := IntWalk.wrap64_in _ (by omega)
      have i1 : (0 : Int) ≤ (a : Int) := by omega
      have i2 : (a : Int) < (t.length : Int) := by omega
      have i3 : (0 : Int) ≤ (b : Int) := by omega
      have i4 : (b : Int) < (t.length : Int) := by omega
      have i5 : (0 : Int) ≤ (M : Int) := by omega
      have i6 : (M : Int) < (t.length : Int) := by omega
      have HAG := Lib.hid (ag_fault h hf).1
      by_cases hcmp : x + y < z
      · have HBL : Hid (agB n t = true ∧ betsL n t = [((a : Int), x, -1), ((b : Int), y, -1), ((M : Int), z, 1)]) := Lib.hid ⟨HAG.out, by rw [bets_less h hf (by rw [hM, tget_at hx, tget_at hy, tget_at hz]; exact hcmp), hM, tget_at hx, tget_at hy, tget_at hz]⟩
        clear h hf hfa hfb hfo hisf hM hx hy hz
        go_enter Try.func12, Try.ntmps12
        go_wp2_with fail
        refine (specFirstFault_any _ _ _ _ (HV.out _ (Below.refl _ _))).mono ?_
        intro r w2 hp
        obtain ⟨rfl, b2⟩ := HP.out _ _ _ hp
        have HB2 := Lib.hid b2
        clear b2 hp
        obtain ⟨B, off, x', rfl, -, hx', -⟩ := (HV.out _ HB2.out).at_ ha
        have HCC : Hid (∀ w', Below w2.heap.size w2 w' → w'.cell? ⟨B, off + a, none⟩ = some (.int .i64 x) ∧ w'.cell? ⟨B, off + b, none⟩ = some (.int .i64 y) ∧ w'.cell? ⟨B, off + M, none⟩ = some (.int .i64 z)) := Lib.hid (fun w' hb' => by
          have hr := HV.out w' (below_step HB2.out hb' HB2.out.size)
          exact ⟨IRd.cellk hr HX.out.1, IRd.cellk hr HX.out.2.1, IRd.cellk hr HX.out.2.2⟩)
        obtain ⟨hcx, hcy, hcz⟩ := HCC.out w2.drew (Below.refl _ _).drew
        clear hx'
        have hcmp : x + y < z := hcmp
        go_wp2_with fail
        refine wp_region_held_drew (S := fun w' => w'.cell? ⟨B, off + a, none⟩ = some (.int .i64 x) ∧ w'.cell? ⟨B, off + b, none⟩ = some (.int .i64 y) ∧ w'.cell? ⟨B, off + M, none⟩ = some (.int .i64 z)) (by kernel_rfl) (⟨hcx, hcy, hcz⟩) (fun hHeld => ?_)
        refine take_in (i := 0) (v := ?_) rfl (by kernel_rfl) (fun _ _ _ h => h) rfl ?_ hHeld ?_
        rotate_left
        · intro w hSw; go_simp; all_goals with_reducible rfl
        try simp only [Act.put, List.setIfInBounds_toArray, List.set_cons_zero, List.set_cons_succ]
        refine take_in (i := 1) (v := ?_) rfl (by kernel_rfl) (fun _ _ _ h => h) rfl ?_ hHeld ?_
        rotate_left
        · intro w hSw; go_simp; all_goals with_reducible rfl
        try simp only [Act.put, List.setIfInBounds_toArray, List.set_cons_zero, List.set_cons_succ]
        refine take_in (i := 2) (v := ?_) rfl (by kernel_rfl) (fun _ _ _ h => h) rfl ?_ hHeld ?_
        rotate_left
        · intro w hSw; go_simp; all_goals with_reducible rfl
        try simp only [Act.put, List.setIfInBounds_toArray, List.set_cons_zero, List.set_cons_succ]
        refine take_in (i := 3) (v := ?_) rfl (by kernel_rfl) (fun _ _ _ h => h) rfl ?_ hHeld ?_
        rotate_left
        · intro w hSw; obtain ⟨h1, h2, h3⟩ := hSw; go_simp; all_goals with_reducible rfl
        try simp only [Act.put, List.setIfInBounds_toArray, List.set_cons_zero, List.set_cons_succ]
        refine take_in (i := 4) (v := ?_) rfl (by kernel_rfl) (fun _ _ _ h => h) rfl ?_ hHeld ?_
        rotate_left
        · intro w hSw; go_simp; all_goals with_reducible rfl
        try simp only [Act.put, List.setIfInBounds_toArray, List.set_cons_zero, List.set_cons_succ]
        refine take_in (i := 5) (v := ?_) rfl (by kernel_rfl) (fun _ _ _ h => h) rfl ?_ hHeld ?_
        rotate_left
        · intro w hSw; go_simp; all_goals with_reducible rfl
        try simp only [Act.put, List.setIfInBounds_toArray, List.set_cons_zero, List.set_cons_succ]
        refine take_in (i := 6) (v := ?_) rfl (by kernel_rfl) (fun _ _ _ h => h) rfl ?_ hHeld ?_
        rotate_left
        · intro w hSw; go_simp; all_goals with_reducible rfl
        try simp only [Act.put, List.setIfInBounds_toArray, List.set_cons_zero, List.set_cons_succ]
        refine take_in (i := 7) (v := ?_) rfl (by kernel_rfl) (fun _ _ _ h => h) rfl ?_ hHeld ?_
        rotate_left
        · intro w hSw; obtain ⟨h1, h2, h3⟩ := hSw; go_simp; all_goals with_reducible rfl
        try simp only [Act.put, List.setIfInBounds_toArray, List.set_cons_zero, List.set_cons_succ]
        refine take_in (i := 8) (v := ?_) rfl (by kernel_rfl) (fun _ _ _ h => h) rfl ?_ hHeld ?_
        rotate_left
        · intro w hSw; go_simp; all_goals with_reducible rfl
        try simp only [Act.put, List.setIfInBounds_toArray, List.set_cons_zero, List.set_cons_succ]
        refine take_in (i := 9) (v := ?_) rfl (by kernel_rfl) (fun _ _ _ h => h) rfl ?_ hHeld ?_
        rotate_left
        · intro w hSw; go_simp; all_goals with_reducible rfl
        try simp only [Act.put, List.setIfInBounds_toArray, List.set_cons_zero, List.set_cons_succ]
        refine take_in (i := 10) (v := ?_) rfl (by kernel_rfl) (fun _ _ _ h => h) rfl ?_ hHeld ?_
        rotate_left
        · intro w hSw; go_simp; all_goals with_reducible rfl
        try simp only [Act.put, List.setIfInBounds_toArray, List.set_cons_zero, List.set_cons_succ]
        refine take_in (i := 11) (v := ?_) rfl (by kernel_rfl) (fun _ _ _ h => h) rfl ?_ hHeld ?_
        rotate_left
        · intro w hSw; go_simp; all_goals with_reducible rfl
        try simp only [Act.put, List.setIfInBounds_toArray, List.set_cons_zero, List.set_cons_succ]
        refine take_in (i := 12) (v := ?_) rfl (by kernel_rfl) (fun _ _ _ h => h) rfl ?_ hHeld ?_
        rotate_left
        · intro w hSw; go_simp; all_goals with_reducible rfl
        try simp only [Act.put, List.setIfInBounds_toArray, List.set_cons_zero, List.set_cons_succ]
        refine take_in (i := 13) (v := ?_) rfl (by kernel_rfl) (fun _ _ _ h => h) rfl ?_ hHeld ?_
        rotate_left
        · intro w hSw; go_simp; all_goals with_reducible rfl
        try simp only [Act.put, List.setIfInBounds_toArray, List.set_cons_zero, List.set_cons_succ]
        refine take_in (i := 14) (v := ?_) rfl (by kernel_rfl) (fun _ _ _ h => h) rfl ?_ hHeld ?_
        rotate_left
        · intro w hSw; obtain ⟨h1, h2, h3⟩ := hSw; go_simp; all_goals with_reducible rfl
        try simp only [Act.put, List.setIfInBounds_toArray, List.set_cons_zero, List.set_cons_succ]
        refine take_in (i := 15) (v := ?_) rfl (by kernel_rfl) (fun _ _ _ h => h) rfl ?_ hHeld ?_
        rotate_left
        · intro w hSw; go_simp; all_goals with_reducible rfl
        try simp only [Act.put, List.setIfInBounds_toArray, List.set_cons_zero, List.set_cons_succ]
        refine wpAnyH_done (by kernel_rfl) ?_ _
        go_wp2_with fail
        refine wp_region_held_drew (S := fun w' => w'.cell? ⟨B, off + a, none⟩ = some (.int .i64 x) ∧ w'.cell? ⟨B, off + b, none⟩ = some (.int .i64 y) ∧ w'.cell? ⟨B, off + M, none⟩ = some (.int .i64 z)) (by kernel_rfl) (HCC.out w2.drew.drew (Below.refl _ _).drew.drew) (fun hHeld => ?_)
        refine take_in (i := 0) (v := ?_) rfl (by kernel_rfl) (fun _ _ _ h => h) rfl ?_ hHeld ?_
        rotate_left
        · intro w hSw; go_simp; all_goals with_reducible rfl
        try simp only [Act.put, List.setIfInBounds_toArray, List.set_cons_zero, List.set_cons_succ]
        refine take_in (i := 1) (v := ?_) rfl (by kernel_rfl) (fun _ _ _ h => h) rfl ?_ hHeld ?_
        rotate_left
        · intro w hSw; go_simp; all_goals with_reducible rfl
        try simp only [Act.put, List.setIfInBounds_toArray, List.set_cons_zero, List.set_cons_succ]
        refine take_in (i := 2) (v := ?_) rfl (by kernel_rfl) (fun _ _ _ h => h) rfl ?_ hHeld ?_
        rotate_left
        · intro w hSw; go_simp; all_goals with_reducible rfl
        try simp only [Act.put, List.setIfInBounds_toArray, List.set_cons_zero, List.set_cons_succ]
        refine take_in (i := 3) (v := ?_) rfl (by kernel_rfl) (fun _ _ _ h => h) rfl ?_ hHeld ?_
        rotate_left
        · intro w hSw; go_simp; all_goals with_reducible rfl
        try simp only [Act.put, List.setIfInBounds_toArray, List.set_cons_zero, List.set_cons_succ]
        refine take_in (i := 4) (v := ?_) rfl (by kernel_rfl) (fun _ _ _ h => h) rfl ?_ hHeld ?_
        rotate_left
        · intro w hSw; obtain ⟨h1, h2, h3⟩ := hSw; go_simp; all_goals with_reducible rfl
        try simp only [Act.put, List.setIfInBounds_toArray, List.set_cons_zero, List.set_cons_succ]
        refine take_in (i := 5) (v := ?_) rfl (by kernel_rfl) (fun _ _ _ h => h) rfl ?_ hHeld ?_
        rotate_left
        · intro w hSw; go_simp; all_goals with_reducible rfl
        try simp only [Act.put, List.setIfInBounds_toArray, List.set_cons_zero, List.set_cons_succ]
        refine take_in (i := 6) (v := ?_) rfl (by kernel_rfl) (fun _ _ _ h => h) rfl ?_ hHeld ?_
        rotate_left
        · intro w hSw; go_simp; all_goals with_reducible rfl
        try simp only [Act.put, List.setIfInBounds_toArray, List.set_cons_zero, List.set_cons_succ]
        refine take_in (i := 7) (v := ?_) rfl (by kernel_rfl) (fun _ _ _ h => h) rfl ?_ hHeld ?_
        rotate_left
        · intro w hSw; go_simp; all_goals with_reducible rfl
        try simp only [Act.put, List.setIfInBounds_toArray, List.set_cons_zero, List.set_cons_succ]
        refine take_in (i := 8) (v := ?_) rfl (by kernel_rfl) (fun _ _ _ h => h) rfl ?_ hHeld ?_
        rotate_left
        · intro w hSw; go_simp; all_goals with_reducible rfl
        try simp only [Act.put, List.setIfInBounds_toArray, List.set_cons_zero, List.set_cons_succ]
        refine take_in (i := 9) (v := ?_) rfl (by kernel_rfl) (fun _ _ _ h => h) rfl ?_ hHeld ?_
        rotate_left
        · intro w hSw; go_simp; all_goals with_reducible rfl
        try simp only [Act.put, List.setIfInBounds_toArray, List.set_cons_zero, List.set_cons_succ]
        refine take_in (i := 10) (v := ?_) rfl (by kernel_rfl) (fun _ _ _ h => h) rfl ?_ hHeld ?_
        rotate_left
        · intro w hSw; go_simp; all_goals with_reducible rfl
        try simp only [Act.put, List.setIfInBounds_toArray, List.set_cons_zero, List.set_cons_succ]
        refine take_in (i := 11) (v := ?_) rfl (by kernel_rfl) (fun _ _ _ h => h) rfl ?_ hHeld ?_
        rotate_left
        · intro w hSw; obtain ⟨h1, h2, h3⟩ := hSw; go_simp; all_goals with_reducible rfl
        try simp only [Act.put, List.setIfInBounds_toArray, List.set_cons_zero, List.set_cons_succ]
        refine take_in (i := 12) (v := ?_) rfl (by kernel_rfl) (fun _ _ _ h => h) rfl ?_ hHeld ?_
        rotate_left
        · intro w hSw; go_simp; all_goals with_reducible rfl
        try simp only [Act.put, List.setIfInBounds_toArray, List.set_cons_zero, List.set_cons_succ]
        refine take_in (i := 13) (v := ?_) rfl (by kernel_rfl) (fun _ _ _ h => h) rfl ?_ hHeld ?_
        rotate_left
        · intro w hSw; go_simp; all_goals with_reducible rfl
        try simp only [Act.put, List.setIfInBounds_toArray, List.set_cons_zero, List.set_cons_succ]
        refine take_in (i := 14) (v := ?_) rfl (by kernel_rfl) (fun _ _ _ h => h) rfl ?_ hHeld ?_
        rotate_left
        · intro w hSw; go_simp; all_goals with_reducible rfl
        try simp only [Act.put, List.setIfInBounds_toArray, List.set_cons_zero, List.set_cons_succ]
        refine take_in (i := 15) (v := ?_) rfl (by kernel_rfl) (fun _ _ _ h => h) rfl ?_ hHeld ?_
        rotate_left
        · intro w hSw; go_simp; all_goals with_reducible rfl
        try simp only [Act.put, List.setIfInBounds_toArray, List.set_cons_zero, List.set_cons_succ]
        refine take_in (i := 16) (v := ?_) rfl (by kernel_rfl) (fun _ _ _ h => h) rfl ?_ hHeld ?_
        rotate_left
        · intro w hSw; go_simp; all_goals with_reducible rfl
        try simp only [Act.put, List.setIfInBounds_toArray, List.set_cons_zero, List.set_cons_succ]
        refine take_in (i := 17) (v := ?_) rfl (by kernel_rfl) (fun _ _ _ h => h) rfl ?_ hHeld ?_
        rotate_left
        · intro w hSw; go_simp; all_goals with_reducible rfl
        try simp only [Act.put, List.setIfInBounds_toArray, List.set_cons_zero, List.set_cons_succ]
        refine take_in (i := 18) (v := ?_) rfl (by kernel_rfl) (fun _ _ _ h => h) rfl ?_ hHeld ?_
        rotate_left
        · intro w hSw; go_simp; all_goals with_reducible rfl
        try simp only [Act.put, List.setIfInBounds_toArray, List.set_cons_zero, List.set_cons_succ]
        refine take_in (i := 19) (v := ?_) rfl (by kernel_rfl) (fun _ _ _ h => h) rfl ?_ hHeld ?_
        rotate_left
        · intro w hSw; go_simp; all_goals with_reducible rfl
        try simp only [Act.put, List.setIfInBounds_toArray, List.set_cons_zero, List.set_cons_succ]
        refine take_in (i := 20) (v := ?_) rfl (by kernel_rfl) (fun _ _ _ h => h) rfl ?_ hHeld ?_
        rotate_left
        · intro w hSw; go_simp; all_goals with_reducible rfl
        try simp only [Act.put, List.setIfInBounds_toArray, List.set_cons_zero, List.set_cons_succ]
        refine take_in (i := 21) (v := ?_) rfl (by kernel_rfl) (fun _ _ _ h => h) rfl ?_ hHeld ?_
        rotate_left
        · intro w hSw; go_simp; all_goals with_reducible rfl
        try simp only [Act.put, List.setIfInBounds_toArray, List.set_cons_zero, List.set_cons_succ]
        refine take_in (i := 22) (v := ?_) rfl (by kernel_rfl) (fun _ _ _ h => h) rfl ?_ hHeld ?_
        rotate_left
        · intro w hSw; obtain ⟨h1, h2, h3⟩ := hSw; go_simp; all_goals with_reducible rfl
        try simp only [Act.put, List.setIfInBounds_toArray, List.set_cons_zero, List.set_cons_succ]
        refine take_in (i := 23) (v := ?_) rfl (by kernel_rfl) (fun _ _ _ h => h) rfl ?_ hHeld ?_
        rotate_left
        · intro w hSw; go_simp; all_goals with_reducible rfl
        try simp only [Act.put, List.setIfInBounds_toArray, List.set_cons_zero, List.set_cons_succ]
        refine take_in (i := 24) (v := ?_) rfl (by kernel_rfl) (fun _ _ _ h => h) rfl ?_ hHeld ?_
        rotate_left
        · intro w hSw; go_simp; all_goals with_reducible rfl
        try simp only [Act.put, List.setIfInBounds_toArray, List.set_cons_zero, List.set_cons_succ]
        refine take_in (i := 25) (v := ?_) rfl (by kernel_rfl) (fun _ _ _ h => h) rfl ?_ hHeld ?_
        rotate_left
        · intro w hSw; go_simp; all_goals with_reducible rfl
        try simp only [Act.put, List.setIfInBounds_toArray, List.set_cons_zero, List.set_cons_succ]
        refine ready_one (i := 26) rfl (by kernel_rfl) (fun K hK => ?_)
        go_simp
        refine hK.out _ (w2.drew.drew.alloc (.cells #[.int .i64 (a : Int), .int .i64 x, .int .i64 (-1), .int .i64 (b : Int), .int .i64 y, .int .i64 (-1), .int .i64 (M : Int), .int .i64 z, .int .i64 (1)] 30)) (HCC.out _ (((Below.refl _ _).drew.drew).alloc (Nat.le_refl _) _)) (fun hHeld => ?_)
        clear hK K
        try simp only [Act.put, List.setIfInBounds_toArray, List.set_cons_zero, List.set_cons_succ]
        refine take_in (i := 27) (v := ?_) rfl (by kernel_rfl) (fun _ _ _ h => h) rfl ?_ hHeld ?_
        rotate_left
        · intro w hSw; go_simp; all_goals with_reducible rfl
        try simp only [Act.put, List.setIfInBounds_toArray, List.set_cons_zero, List.set_cons_succ]
        refine take_in (i := 28) (v := ?_) rfl (by kernel_rfl) (fun _ _ _ h => h) rfl ?_ hHeld ?_
        rotate_left
        · intro w hSw; go_simp; all_goals with_reducible rfl
        try simp only [Act.put, List.setIfInBounds_toArray, List.set_cons_zero, List.set_cons_succ]
        refine wpAnyH_done (by kernel_rfl) ?_ _
        clear hcx hcy hcz
        go_wp2_with fail
        go_returns
        exact betsOk_ret HBL.out.1 HBL.out.2 (lit_three w2.drew.drew _ HB2.out.size ((a : Int), x, -1) ((b : Int), y, -1) ((M : Int), z, 1)) (HB2.out.drew.drew.alloc HB2.out.size _)
      · have HBL : Hid (agB n t = true ∧ betsL n t = [((a : Int), x, 1), ((b : Int), y, 1), ((M : Int), z, -1)]) := Lib.hid ⟨HAG.out, by rw [bets_more h hf (by rw [hM, tget_at hx, tget_at hy, tget_at hz]; exact hcmp), hM, tget_at hx, tget_at hy, tget_at hz]⟩
        have hcmp : z ≤ x + y := by omega
        clear h hf hfa hfb hfo hisf hM hx hy hz
        go_enter Try.func12, Try.ntmps12
        go_wp2_with fail
        refine (specFirstFault_any _ _ _ _ (HV.out _ (Below.refl _ _))).mono ?_
        intro r w2 hp
        obtain ⟨rfl, b2⟩ := HP.out _ _ _ hp
        have HB2 := Lib.hid b2
        clear b2 hp
        obtain ⟨B, off, x', rfl, -, hx', -⟩ := (HV.out _ HB2.out).at_ ha
        have HCC : Hid (∀ w', Below w2.heap.size w2 w' → w'.cell? ⟨B, off + a, none⟩ = some (.int .i64 x) ∧ w'.cell? ⟨B, off + b, none⟩ = some (.int .i64 y) ∧ w'.cell? ⟨B, off + M, none⟩ = some (.int .i64 z)) := Lib.hid (fun w' hb' => by
          have hr := HV.out w' (below_step HB2.out hb' HB2.out.size)
          exact ⟨IRd.cellk hr HX.out.1, IRd.cellk hr HX.out.2.1, IRd.cellk hr HX.out.2.2⟩)
        obtain ⟨hcx, hcy, hcz⟩ := HCC.out w2.drew (Below.refl _ _).drew
        clear hx'
        have hcmp : z ≤ x + y := hcmp
        go_wp2_with fail
        refine wp_region_held_drew (S := fun w' => w'.cell? ⟨B, off + a, none⟩ = some (.int .i64 x) ∧ w'.cell? ⟨B, off + b, none⟩ = some (.int .i64 y) ∧ w'.cell? ⟨B, off + M, none⟩ = some (.int .i64 z)) (by kernel_rfl) (⟨hcx, hcy, hcz⟩) (fun hHeld => ?_)
        refine take_in (i := 0) (v := ?_) rfl (by kernel_rfl) (fun _ _ _ h => h) rfl ?_ hHeld ?_
        rotate_left
        · intro w hSw; go_simp; all_goals with_reducible rfl
        try simp only [Act.put, List.setIfInBounds_toArray, List.set_cons_zero, List.set_cons_succ]
        refine take_in (i := 1) (v := ?_) rfl (by kernel_rfl) (fun _ _ _ h => h) rfl ?_ hHeld ?_
        rotate_left
        · intro w hSw; go_simp; all_goals with_reducible rfl
        try simp only [Act.put, List.setIfInBounds_toArray, List.set_cons_zero, List.set_cons_succ]
        refine take_in (i := 2) (v := ?_) rfl (by kernel_rfl) (fun _ _ _ h => h) rfl ?_ hHeld ?_
        rotate_left
        · intro w hSw; go_simp; all_goals with_reducible rfl
        try simp only [Act.put, List.setIfInBounds_toArray, List.set_cons_zero, List.set_cons_succ]
        refine take_in (i := 3) (v := ?_) rfl (by kernel_rfl) (fun _ _ _ h => h) rfl ?_ hHeld ?_
        rotate_left
        · intro w hSw; obtain ⟨h1, h2, h3⟩ := hSw; go_simp; all_goals with_reducible rfl
        try simp only [Act.put, List.setIfInBounds_toArray, List.set_cons_zero, List.set_cons_succ]
        refine take_in (i := 4) (v := ?_) rfl (by kernel_rfl) (fun _ _ _ h => h) rfl ?_ hHeld ?_
        rotate_left
        · intro w hSw; go_simp; all_goals with_reducible rfl
        try simp only [Act.put, List.setIfInBounds_toArray, List.set_cons_zero, List.set_cons_succ]
        refine take_in (i := 5) (v := ?_) rfl (by kernel_rfl) (fun _ _ _ h => h) rfl ?_ hHeld ?_
        rotate_left
        · intro w hSw; go_simp; all_goals with_reducible rfl
        try simp only [Act.put, List.setIfInBounds_toArray, List.set_cons_zero, List.set_cons_succ]
        refine take_in (i := 6) (v := ?_) rfl (by kernel_rfl) (fun _ _ _ h => h) rfl ?_ hHeld ?_
        rotate_left
        · intro w hSw; go_simp; all_goals with_reducible rfl
        try simp only [Act.put, List.setIfInBounds_toArray, List.set_cons_zero, List.set_cons_succ]
        refine take_in (i := 7) (v := ?_) rfl (by kernel_rfl) (fun _ _ _ h => h) rfl ?_ hHeld ?_
        rotate_left
        · intro w hSw; obtain ⟨h1, h2, h3⟩ := hSw; go_simp; all_goals with_reducible rfl
        try simp only [Act.put, List.setIfInBounds_toArray, List.set_cons_zero, List.set_cons_succ]
        refine take_in (i := 8) (v := ?_) rfl (by kernel_rfl) (fun _ _ _ h => h) rfl ?_ hHeld ?_
        rotate_left
        · intro w hSw; go_simp; all_goals with_reducible rfl
        try simp only [Act.put, List.setIfInBounds_toArray, List.set_cons_zero, List.set_cons_succ]
        refine take_in (i := 9) (v := ?_) rfl (by kernel_rfl) (fun _ _ _ h => h) rfl ?_ hHeld ?_
        rotate_left
        · intro w hSw; go_simp; all_goals with_reducible rfl
        try simp only [Act.put, List.setIfInBounds_toArray, List.set_cons_zero, List.set_cons_succ]
        refine take_in (i := 10) (v := ?_) rfl (by kernel_rfl) (fun _ _ _ h => h) rfl ?_ hHeld ?_
        rotate_left
        · intro w hSw; go_simp; all_goals with_reducible rfl
        try simp only [Act.put, List.setIfInBounds_toArray, List.set_cons_zero, List.set_cons_succ]
        refine take_in (i := 11) (v := ?_) rfl (by kernel_rfl) (fun _ _ _ h => h) rfl ?_ hHeld ?_
        rotate_left
        · intro w hSw; go_simp; all_goals with_reducible rfl
        try simp only [Act.put, List.setIfInBounds_toArray, List.set_cons_zero, List.set_cons_succ]
        refine take_in (i := 12) (v := ?_) rfl (by kernel_rfl) (fun _ _ _ h => h) rfl ?_ hHeld ?_
        rotate_left
        · intro w hSw; go_simp; all_goals with_reducible rfl
        try simp only [Act.put, List.setIfInBounds_toArray, List.set_cons_zero, List.set_cons_succ]
        refine take_in (i := 13) (v := ?_) rfl (by kernel_rfl) (fun _ _ _ h => h) rfl ?_ hHeld ?_
        rotate_left
        · intro w hSw; go_simp; all_goals with_reducible rfl
        try simp only [Act.put, List.setIfInBounds_toArray, List.set_cons_zero, List.set_cons_succ]
        refine take_in (i := 14) (v := ?_) rfl (by kernel_rfl) (fun _ _ _ h => h) rfl ?_ hHeld ?_
        rotate_left
        · intro w hSw; obtain ⟨h1, h2, h3⟩ := hSw; go_simp; all_goals with_reducible rfl
        try simp only [Act.put, List.setIfInBounds_toArray, List.set_cons_zero, List.set_cons_succ]
        refine take_in (i := 15) (v := ?_) rfl (by kernel_rfl) (fun _ _ _ h => h) rfl ?_ hHeld ?_
        rotate_left
        · intro w hSw; go_simp; all_goals with_reducible rfl
        try simp only [Act.put, List.setIfInBounds_toArray, List.set_cons_zero, List.set_cons_succ]
        refine wpAnyH_done (by kernel_rfl) ?_ _
        go_wp2_with fail
        refine wp_region_held_drew (S := fun w' => w'.cell? ⟨B, off + a, none⟩ = some (.int .i64 x) ∧ w'.cell? ⟨B, off + b, none⟩ = some (.int .i64 y) ∧ w'.cell? ⟨B, off + M, none⟩ = some (.int .i64 z)) (by kernel_rfl) (HCC.out w2.drew.drew (Below.refl _ _).drew.drew) (fun hHeld => ?_)
        refine take_in (i := 0) (v := ?_) rfl (by kernel_rfl) (fun _ _ _ h => h) rfl ?_ hHeld ?_
        rotate_left
        · intro w hSw; go_simp; all_goals with_reducible rfl
        try simp only [Act.put, List.setIfInBounds_toArray, List.set_cons_zero, List.set_cons_succ]
        refine take_in (i := 1) (v := ?_) rfl (by kernel_rfl) (fun _ _ _ h => h) rfl ?_ hHeld ?_
        rotate_left
        · intro w hSw; go_simp; all_goals with_reducible rfl
        try simp only [Act.put, List.setIfInBounds_toArray, List.set_cons_zero, List.set_cons_succ]
        refine take_in (i := 2) (v := ?_) rfl (by kernel_rfl) (fun _ _ _ h => h) rfl ?_ hHeld ?_
        rotate_left
        · intro w hSw; go_simp; all_goals with_reducible rfl
        try simp only [Act.put, List.setIfInBounds_toArray, List.set_cons_zero, List.set_cons_succ]
        refine take_in (i := 3) (v := ?_) rfl (by kernel_rfl) (fun _ _ _ h => h) rfl ?_ hHeld ?_
        rotate_left
        · intro w hSw; go_simp; all_goals with_reducible rfl
        try simp only [Act.put, List.setIfInBounds_toArray, List.set_cons_zero, List.set_cons_succ]
        refine take_in (i := 4) (v := ?_) rfl (by kernel_rfl) (fun _ _ _ h => h) rfl ?_ hHeld ?_
        rotate_left
        · intro w hSw; obtain ⟨h1, h2, h3⟩ := hSw; go_simp; all_goals with_reducible rfl
        try simp only [Act.put, List.setIfInBounds_toArray, List.set_cons_zero, List.set_cons_succ]
        refine take_in (i := 5) (v := ?_) rfl (by kernel_rfl) (fun _ _ _ h => h) rfl ?_ hHeld ?_
        rotate_left
        · intro w hSw; go_simp; all_goals with_reducible rfl
        try simp only [Act.put, List.setIfInBounds_toArray, List.set_cons_zero, List.set_cons_succ]
        refine take_in (i := 6) (v := ?_) rfl (by kernel_rfl) (fun _ _ _ h => h) rfl ?_ hHeld ?_
        rotate_left
        · intro w hSw; go_simp; all_goals with_reducible rfl
        try simp only [Act.put, List.setIfInBounds_toArray, List.set_cons_zero, List.set_cons_succ]
        refine take_in (i := 7) (v := ?_) rfl (by kernel_rfl) (fun _ _ _ h => h) rfl ?_ hHeld ?_
        rotate_left
        · intro w hSw; go_simp; all_goals with_reducible rfl
        try simp only [Act.put, List.setIfInBounds_toArray, List.set_cons_zero, List.set_cons_succ]
        refine take_in (i := 8) (v := ?_) rfl (by kernel_rfl) (fun _ _ _ h => h) rfl ?_ hHeld ?_
        rotate_left
        · intro w hSw; go_simp; all_goals with_reducible rfl
        try simp only [Act.put, List.setIfInBounds_toArray, List.set_cons_zero, List.set_cons_succ]
        refine take_in (i := 9) (v := ?_) rfl (by kernel_rfl) (fun _ _ _ h => h) rfl ?_ hHeld ?_
        rotate_left
        · intro w hSw; go_simp; all_goals with_reducible rfl
        try simp only [Act.put, List.setIfInBounds_toArray, List.set_cons_zero, List.set_cons_succ]
        refine take_in (i := 10) (v := ?_) rfl (by kernel_rfl) (fun _ _ _ h => h) rfl ?_ hHeld ?_
        rotate_left
        · intro w hSw; go_simp; all_goals with_reducible rfl
        try simp only [Act.put, List.setIfInBounds_toArray, List.set_cons_zero, List.set_cons_succ]
        refine take_in (i := 11) (v := ?_) rfl (by kernel_rfl) (fun _ _ _ h => h) rfl ?_ hHeld ?_
        rotate_left
        · intro w hSw; obtain ⟨h1, h2, h3⟩ := hSw; go_simp; all_goals with_reducible rfl
        try simp only [Act.put, List.setIfInBounds_toArray, List.set_cons_zero, List.set_cons_succ]
        refine take_in (i := 12) (v := ?_) rfl (by kernel_rfl) (fun _ _ _ h => h) rfl ?_ hHeld ?_
        rotate_left
        · intro w hSw; go_simp; all_goals with_reducible rfl
        try simp only [Act.put, List.setIfInBounds_toArray, List.set_cons_zero, List.set_cons_succ]
        refine take_in (i := 13) (v := ?_) rfl (by kernel_rfl) (fun _ _ _ h => h) rfl ?_ hHeld ?_
        rotate_left
        · intro w hSw; go_simp; all_goals with_reducible rfl
        try simp only [Act.put, List.setIfInBounds_toArray, List.set_cons_zero, List.set_cons_succ]
        refine take_in (i := 14) (v := ?_) rfl (by kernel_rfl) (fun _ _ _ h => h) rfl ?_ hHeld ?_
        rotate_left
        · intro w hSw; go_simp; all_goals with_reducible rfl
        try simp only [Act.put, List.setIfInBounds_toArray, List.set_cons_zero, List.set_cons_succ]
        refine take_in (i := 15) (v := ?_) rfl (by kernel_rfl) (fun _ _ _ h => h) rfl ?_ hHeld ?_
        rotate_left
        · intro w hSw; go_simp; all_goals with_reducible rfl
        try simp only [Act.put, List.setIfInBounds_toArray, List.set_cons_zero, List.set_cons_succ]
        refine take_in (i := 16) (v := ?_) rfl (by kernel_rfl) (fun _ _ _ h => h) rfl ?_ hHeld ?_
        rotate_left
        · intro w hSw; go_simp; all_goals with_reducible rfl
        try simp only [Act.put, List.setIfInBounds_toArray, List.set_cons_zero, List.set_cons_succ]
        refine take_in (i := 17) (v := ?_) rfl (by kernel_rfl) (fun _ _ _ h => h) rfl ?_ hHeld ?_
        rotate_left
        · intro w hSw; go_simp; all_goals with_reducible rfl
        try simp only [Act.put, List.setIfInBounds_toArray, List.set_cons_zero, List.set_cons_succ]
        refine take_in (i := 18) (v := ?_) rfl (by kernel_rfl) (fun _ _ _ h => h) rfl ?_ hHeld ?_
        rotate_left
        · intro w hSw; go_simp; all_goals with_reducible rfl
        try simp only [Act.put, List.setIfInBounds_toArray, List.set_cons_zero, List.set_cons_succ]
        refine take_in (i := 19) (v := ?_) rfl (by kernel_rfl) (fun _ _ _ h => h) rfl ?_ hHeld ?_
        rotate_left
        · intro w hSw; go_simp; all_goals with_reducible rfl
        try simp only [Act.put, List.setIfInBounds_toArray, List.set_cons_zero, List.set_cons_succ]
        refine take_in (i := 20) (v := ?_) rfl (by kernel_rfl) (fun _ _ _ h => h) rfl ?_ hHeld ?_
        rotate_left
        · intro w hSw; go_simp; all_goals with_reducible rfl
        try simp only [Act.put, List.setIfInBounds_toArray, List.set_cons_zero, List.set_cons_succ]
        refine take_in (i := 21) (v := ?_) rfl (by kernel_rfl) (fun _ _ _ h => h) rfl ?_ hHeld ?_
        rotate_left
        · intro w hSw; go_simp; all_goals with_reducible rfl
        try simp only [Act.put, List.setIfInBounds_toArray, List.set_cons_zero, List.set_cons_succ]
        refine take_in (i := 22) (v := ?_) rfl (by kernel_rfl) (fun _ _ _ h => h) rfl ?_ hHeld ?_
        rotate_left
        · intro w hSw; obtain ⟨h1, h2, h3⟩ := hSw; go_simp; all_goals with_reducible rfl
        try simp only [Act.put, List.setIfInBounds_toArray, List.set_cons_zero, List.set_cons_succ]
        refine take_in (i := 23) (v := ?_) rfl (by kernel_rfl) (fun _ _ _ h => h) rfl ?_ hHeld ?_
        rotate_left
        · intro w hSw; go_simp; all_goals with_reducible rfl
        try simp only [Act.put, List.setIfInBounds_toArray, List.set_cons_zero, List.set_cons_succ]
        refine take_in (i := 24) (v := ?_) rfl (by kernel_rfl) (fun _ _ _ h => h) rfl ?_ hHeld ?_
        rotate_left
        · intro w hSw; go_simp; all_goals with_reducible rfl
        try simp only [Act.put, List.setIfInBounds_toArray, List.set_cons_zero, List.set_cons_succ]
        refine take_in (i := 25) (v := ?_) rfl (by kernel_rfl) (fun _ _ _ h => h) rfl ?_ hHeld ?_
        rotate_left
        · intro w hSw; go_simp; all_goals with_reducible rfl
        try simp only [Act.put, List.setIfInBounds_toArray, List.set_cons_zero, List.set_cons_succ]
        refine ready_one (i := 26) rfl (by kernel_rfl) (fun K hK => ?_)
        go_simp
        refine hK.out _ (w2.drew.drew.alloc (.cells #[.int .i64 (a : Int), .int .i64 x, .int .i64 (1), .int .i64 (b : Int), .int .i64 y, .int .i64 (1), .int .i64 (M : Int), .int .i64 z, .int .i64 (-1)] 30)) (HCC.out _ (((Below.refl _ _).drew.drew).alloc (Nat.le_refl _) _)) (fun hHeld => ?_)
        clear hK K
        try simp only [Act.put, List.setIfInBounds_toArray, List.set_cons_zero, List.set_cons_succ]
        refine take_in (i := 27) (v := ?_) rfl (by kernel_rfl) (fun _ _ _ h => h) rfl ?_ hHeld ?_
        rotate_left
        · intro w hSw; go_simp; all_goals with_reducible rfl
        try simp only [Act.put, List.setIfInBounds_toArray, List.set_cons_zero, List.set_cons_succ]
        refine take_in (i := 28) (v := ?_) rfl (by kernel_rfl) (fun _ _ _ h => h) rfl ?_ hHeld ?_
        rotate_left
        · intro w hSw; go_simp; all_goals with_reducible rfl
        try simp only [Act.put, List.setIfInBounds_toArray, List.set_cons_zero, List.set_cons_succ]
        refine wpAnyH_done (by kernel_rfl) ?_ _
        clear hcx hcy hcz
        go_wp2_with fail
        go_returns
        exact betsOk_ret HBL.out.1 HBL.out.2 (lit_three w2.drew.drew _ HB2.out.size ((a : Int), x, 1) ((b : Int), y, 1) ((M : Int), z, -1)) (HB2.out.drew.drew.alloc HB2.out.size _)
  · have H := Lib.hid h
    obtain ⟨hfa, hfb, hfo⟩ := ff_no h
    have HP : Hid (∀ w0 w2 r, FFPost n t w0 r w2 → r = .returned (.tuple #[.int .i64 (-1), .int .i64 (-1), .bool false]) ∧ Below w0.heap.size w0 w2) := Lib.hid (by rintro w0 w2 r ⟨rfl, b⟩; rw [hfa, hfb, hfo]; exact ⟨rfl, b⟩)
    have HBL : Hid (agB n t = false) := Lib.hid (by rw [agB, h]; rfl)
    clear h hfa hfb hfo
    go_enter Try.func12, Try.ntmps12
    go_wp2_with fail
    refine (specFirstFault_any _ _ _ _ (HV.out _ (Below.refl _ _))).mono ?_
    intro r w2 hp
    obtain ⟨rfl, b2⟩ := HP.out _ _ _ hp
    have HB2 := Lib.hid b2
    clear b2 hp
    go_wp2_with fail
    refine (specTableOk_any _ _ _ _ (HV.out _ HB2.out)).mono ?_
    rintro r w' ⟨rfl, rfl⟩
    rw [H.out]
    go_wp2_with fail
    go_returns
    exact betsOk_ret HBL.out (bets_no HBL.out) (lit_none _ _ HB2.out.size) (HB2.out.alloc HB2.out.size _)

end Go.Proofs.Ytkanfolgppbklaa
