/- The walk of the law of FirstFault. Conditions: a row of bytes that came in. -/
import Derived.Test.YtempdaodmjiloaaVb
import Derived.Test.YtempdaodmjiloaaUi
import Derived.Test.YtempdaodmjiloaaRh
namespace Go.Proofs.Ytempdaodmjiloaa
open Go.RowKit
set_option linter.unusedVariables false

set_option maxRecDepth 100000 in
set_option maxHeartbeats 8000000 in
theorem FnFirstFault_walk (a0 : Option Addr) (len0 cap0 : Nat) (z0 : List Int) (w : World) (w0 : IsRowC .u8 w a0 len0 cap0 z0) :
    Calls Try.prog 5 #[.slice a0 len0 cap0] w fun e w' => e = .returned (.bool true) ∧ Below w.heap.size w w' := by
  by_cases hlen : 1048576 < len0
  · clear w0
    go_enter Try.func5, Try.ntmps5
    go_wp2
    go_ret
    exact ⟨rfl, Below.refl _ _⟩
  · have hlen' : decide (1048576 < len0) = false := by simpa using hlen
    go_enter Try.func5, Try.ntmps5
    go_wp2_with fail
    refine (drawFirstFault_any _ _ _ _ _ w0).mono ?_
    rintro e w1 ⟨n, vt, t, rfl, ovt1, hl17, hn1, hn5, B1⟩
    clear hlen hlen' w0
    have z1 := B1.size
    have HNO : tokB n t = false ∨ fault t = none → Hid (ffA n t = -1) ∧ Hid (ffB n t = -1) ∧ Hid (ffO n t = false) := by
      rintro (h | h)
      · exact ⟨Lib.hid (ff_no h).1, Lib.hid (ff_no h).2.1, Lib.hid (ff_no h).2.2⟩
      · exact ⟨Lib.hid (ff_none h).1, Lib.hid (ff_none h).2.1, Lib.hid (ff_none h).2.2⟩
    by_cases h : tokB n t = false ∨ fault t = none
    · obtain ⟨HFA, HFB, HFO⟩ := HNO h
      clear h HNO
      go_wp2_with fail
      refine (implFirstFault_any w1 n vt t (ovt1.rd)).mono ?_
      rintro e w2 ⟨rfl, b2⟩
      rw [HFA.out, HFB.out, HFO.out]
      have z2 := b2.size
      have B2 := below_step B1 b2 (by omega)
      have ovt2 := ovt1.keep (SameAt.of_below b2)
      clear B1 b2 ovt1
      go_wp2_with fail
      refine (specFirstFault_any w2 n vt t (ovt2.rd)).mono ?_
      rintro e w3 ⟨rfl, b3⟩
      rw [HFA.out, HFB.out, HFO.out]
      have z3 := b3.size
      have B3 := below_step B2 b3 (by omega)
      have ovt3 := ovt2.keep (SameAt.of_below b3)
      clear B2 b3 ovt2
      go_wp2_with fail
      refine (alive_any _).mono ?_
      rintro e w' ⟨rfl, rfl⟩
      go_wp2_with fail
      go_ret
      exact ⟨ret_bool (by simp), B3⟩
    · clear HNO
      have hk : tokB n t = true := by cases hq : tokB n t with | true => rfl | false => exact absurd (.inl hq) h
      rcases hf : fault t with _ | ⟨a, b⟩
      · exact absurd (.inr hf) h
      obtain ⟨hfa, hfb, hfo⟩ := ff_some hk hf
      have HFA := Lib.hid hfa
      have HFB := Lib.hid hfb
      have HFO := Lib.hid hfo
      obtain ⟨ha, hb, hisf, -⟩ := fault_is hf
      have hle := fault_le hf
      obtain ⟨hand, hneq⟩ := isF_parts hisf
      obtain ⟨m, rfl, m1, m4, hlen, h16, -⟩ := tok_len hk
      obtain ⟨M, hM⟩ : ∃ M, a ||| b = M := ⟨_, rfl⟩
      have hMl : M < t.length := by rw [← hM]; rw [hlen] at ha hb ⊢; exact Nat.or_lt_two_pow ha hb
      have hap : apB (m : Int) (a : Int) (b : Int) = true := by rw [ap_nat m1 m4 hlen h16 ha hb, hand]; rfl
      have HAP := Lib.hid hap
      have hor := or_nat (a := a) (b := b) (by omega) (by omega)
      rw [hM] at hor hneq
      obtain ⟨x, hx⟩ : ∃ x, t[a]? = some x := ⟨_, List.getElem?_eq_getElem ha⟩
      obtain ⟨y, hy⟩ : ∃ y, t[b]? = some y := ⟨_, List.getElem?_eq_getElem hb⟩
      obtain ⟨z, hz⟩ : ∃ z, t[M]? = some z := ⟨_, List.getElem?_eq_getElem hMl⟩
      obtain ⟨x1, x2⟩ : 0 ≤ x ∧ x ≤ 36 := by have := tok_get hk a; rwa [tget_at hx] at this
      obtain ⟨y1, y2⟩ : 0 ≤ y ∧ y ≤ 36 := by have := tok_get hk b; rwa [tget_at hy] at this
      rw [tget_at hx, tget_at hy, tget_at hz] at hneq
      have hw1 : IntKind.i64.wrap (x + y) = x + y := IntWalk.i64_in _ (by omega)
      have hw2 : wrap64 (x + y) = x + y := IntWalk.wrap64_in _ (by omega)
      have hne : (x + y != z) = true := by rw [bne_iff_ne]; exact hneq
      have i0 : (a : Int) ≤ (b : Int) := by omega
      have i1 : (0 : Int) ≤ (a : Int) := by omega
      have i2 : (a : Int) < (t.length : Int) := by omega
      have i3 : (0 : Int) ≤ (b : Int) := by omega
      have i4 : (b : Int) < (t.length : Int) := by omega
      have i5 : (0 : Int) ≤ (M : Int) := by omega
      have i6 : (M : Int) < (t.length : Int) := by omega
      have HX := Lib.hid (And.intro hx (And.intro hy hz))
      have HAL := Lib.hid ha
      have hna : ((a : Int) == -1) = false := by rw [beq_eq_false_iff_ne]; omega
      clear h hk hf hfa hfb hfo hisf hle hand hneq hlen hM hap hx hy hz ha hb hMl
      go_wp2_with fail
      refine (implFirstFault_any w1 _ vt t (ovt1.rd)).mono ?_
      rintro e w2 ⟨rfl, b2⟩
      rw [HFA.out, HFB.out, HFO.out]
      have z2 := b2.size
      have B2 := below_step B1 b2 (by omega)
      have ovt2 := ovt1.keep (SameAt.of_below b2)
      clear B1 b2 ovt1
      go_wp2_with fail
      refine (specFirstFault_any w2 _ vt t (ovt2.rd)).mono ?_
      rintro e w3 ⟨rfl, b3⟩
      rw [HFA.out, HFB.out, HFO.out]
      have z3 := b3.size
      have B3 := below_step B2 b3 (by omega)
      have ovt3 := ovt2.keep (SameAt.of_below b3)
      clear B2 b3 ovt2
      obtain ⟨A, c, rfl, hlc, hmc, -⟩ := id ovt3.rd
      obtain ⟨G, off, x', rfl, -, hx', -⟩ := ovt3.rd.at_ HAL.out
      have hcx := IRd.cellk ovt3.rd HX.out.1
      have hcy := IRd.cellk ovt3.rd HX.out.2.1
      have hcz := IRd.cellk ovt3.rd HX.out.2.2
      clear hx'
      go_wp2_with fail
      refine wp_region_held_drew (S := fun w' => w'.cell? ⟨G, off + a, none⟩ = some (.int .i64 x) ∧ w'.cell? ⟨G, off + b, none⟩ = some (.int .i64 y) ∧ w'.cell? ⟨G, off + M, none⟩ = some (.int .i64 z)) (by kernel_rfl) (⟨hcx, hcy, hcz⟩) (fun hHeld => ?_)
      refine take_in (i := 0) (v := ?_) rfl (by kernel_rfl) (fun _ _ _ h => h) rfl ?_ hHeld ?_
      rotate_left
      · intro w hSw; go_simp; all_goals with_reducible rfl
      try simp only [Act.put, List.setIfInBounds_toArray, List.set_cons_zero, List.set_cons_succ]
      refine take_in (i := 1) (v := ?_) rfl (by kernel_rfl) (fun _ _ _ h => h) rfl ?_ hHeld ?_
      rotate_left
      · intro w hSw; go_simp; all_goals with_reducible rfl
      try simp only [Act.put, List.setIfInBounds_toArray, List.set_cons_zero, List.set_cons_succ]
      refine take_in (i := 2) (v := ?_) rfl (by kernel_rfl) (fun _ _ _ h => h) rfl ?_ hHeld ?_
      rotate_left
      · intro w hSw; go_simp; all_goals with_reducible rfl
      try simp only [Act.put, List.setIfInBounds_toArray, List.set_cons_zero, List.set_cons_succ]
      refine ready_one (i := 3) rfl (by kernel_rfl) (fun K hK => ?_)
      go_simp
      go_at_call 32
      refine (implApartOk_any _ _ _ _).mono ?_
      rintro r w' ⟨rfl, rfl⟩
      rw [HAP.out]
      refine hK.out _ _ ⟨hcx, hcy, hcz⟩ (fun hHeld => ?_)
      clear hK K
      try simp only [Act.put, List.setIfInBounds_toArray, List.set_cons_zero, List.set_cons_succ]
      refine take_in (i := 4) (v := ?_) rfl (by kernel_rfl) (fun _ _ _ h => h) rfl ?_ hHeld ?_
      rotate_left
      · intro w hSw; go_simp; all_goals with_reducible rfl
      try simp only [Act.put, List.setIfInBounds_toArray, List.set_cons_zero, List.set_cons_succ]
      refine take_in (i := 5) (v := ?_) rfl (by kernel_rfl) (fun _ _ _ h => h) rfl ?_ hHeld ?_
      rotate_left
      · intro w hSw; go_simp; all_goals with_reducible rfl
      try simp only [Act.put, List.setIfInBounds_toArray, List.set_cons_zero, List.set_cons_succ]
      refine take_in (i := 6) (v := ?_) rfl (by kernel_rfl) (fun _ _ _ h => h) rfl ?_ hHeld ?_
      rotate_left
      · intro w hSw; go_simp; all_goals with_reducible rfl
      try simp only [Act.put, List.setIfInBounds_toArray, List.set_cons_zero, List.set_cons_succ]
      refine take_in (i := 7) (v := ?_) rfl (by kernel_rfl) (fun _ _ _ h => h) rfl ?_ hHeld ?_
      rotate_left
      · intro w hSw; go_simp; all_goals with_reducible rfl
      try simp only [Act.put, List.setIfInBounds_toArray, List.set_cons_zero, List.set_cons_succ]
      refine take_in (i := 8) (v := ?_) rfl (by kernel_rfl) (fun _ _ _ h => h) rfl ?_ hHeld ?_
      rotate_left
      · intro w hSw; obtain ⟨h1, h2, h3⟩ := hSw; go_simp; all_goals with_reducible rfl
      try simp only [Act.put, List.setIfInBounds_toArray, List.set_cons_zero, List.set_cons_succ]
      refine take_in (i := 9) (v := ?_) rfl (by kernel_rfl) (fun _ _ _ h => h) rfl ?_ hHeld ?_
      rotate_left
      · intro w hSw; go_simp; all_goals with_reducible rfl
      try simp only [Act.put, List.setIfInBounds_toArray, List.set_cons_zero, List.set_cons_succ]
      refine take_in (i := 10) (v := ?_) rfl (by kernel_rfl) (fun _ _ _ h => h) rfl ?_ hHeld ?_
      rotate_left
      · intro w hSw; go_simp; all_goals with_reducible rfl
      try simp only [Act.put, List.setIfInBounds_toArray, List.set_cons_zero, List.set_cons_succ]
      refine take_in (i := 11) (v := ?_) rfl (by kernel_rfl) (fun _ _ _ h => h) rfl ?_ hHeld ?_
      rotate_left
      · intro w hSw; go_simp; all_goals with_reducible rfl
      try simp only [Act.put, List.setIfInBounds_toArray, List.set_cons_zero, List.set_cons_succ]
      refine take_in (i := 12) (v := ?_) rfl (by kernel_rfl) (fun _ _ _ h => h) rfl ?_ hHeld ?_
      rotate_left
      · intro w hSw; obtain ⟨h1, h2, h3⟩ := hSw; go_simp; all_goals with_reducible rfl
      try simp only [Act.put, List.setIfInBounds_toArray, List.set_cons_zero, List.set_cons_succ]
      refine take_in (i := 13) (v := ?_) rfl (by kernel_rfl) (fun _ _ _ h => h) rfl ?_ hHeld ?_
      rotate_left
      · intro w hSw; go_simp; all_goals with_reducible rfl
      try simp only [Act.put, List.setIfInBounds_toArray, List.set_cons_zero, List.set_cons_succ]
      refine take_in (i := 14) (v := ?_) rfl (by kernel_rfl) (fun _ _ _ h => h) rfl ?_ hHeld ?_
      rotate_left
      · intro w hSw; go_simp; all_goals with_reducible rfl
      try simp only [Act.put, List.setIfInBounds_toArray, List.set_cons_zero, List.set_cons_succ]
      refine take_in (i := 15) (v := ?_) rfl (by kernel_rfl) (fun _ _ _ h => h) rfl ?_ hHeld ?_
      rotate_left
      · intro w hSw; go_simp; all_goals with_reducible rfl
      try simp only [Act.put, List.setIfInBounds_toArray, List.set_cons_zero, List.set_cons_succ]
      refine take_in (i := 16) (v := ?_) rfl (by kernel_rfl) (fun _ _ _ h => h) rfl ?_ hHeld ?_
      rotate_left
      · intro w hSw; go_simp; all_goals with_reducible rfl
      try simp only [Act.put, List.setIfInBounds_toArray, List.set_cons_zero, List.set_cons_succ]
      refine take_in (i := 17) (v := ?_) rfl (by kernel_rfl) (fun _ _ _ h => h) rfl ?_ hHeld ?_
      rotate_left
      · intro w hSw; go_simp; all_goals with_reducible rfl
      try simp only [Act.put, List.setIfInBounds_toArray, List.set_cons_zero, List.set_cons_succ]
      refine take_in (i := 18) (v := ?_) rfl (by kernel_rfl) (fun _ _ _ h => h) rfl ?_ hHeld ?_
      rotate_left
      · intro w hSw; go_simp; all_goals with_reducible rfl
      try simp only [Act.put, List.setIfInBounds_toArray, List.set_cons_zero, List.set_cons_succ]
      refine take_in (i := 19) (v := ?_) rfl (by kernel_rfl) (fun _ _ _ h => h) rfl ?_ hHeld ?_
      rotate_left
      · intro w hSw; obtain ⟨h1, h2, h3⟩ := hSw; go_simp; all_goals with_reducible rfl
      try simp only [Act.put, List.setIfInBounds_toArray, List.set_cons_zero, List.set_cons_succ]
      refine take_in (i := 20) (v := ?_) rfl (by kernel_rfl) (fun _ _ _ h => h) rfl ?_ hHeld ?_
      rotate_left
      · intro w hSw; go_simp; all_goals with_reducible rfl
      try simp only [Act.put, List.setIfInBounds_toArray, List.set_cons_zero, List.set_cons_succ]
      refine take_in (i := 21) (v := ?_) rfl (by kernel_rfl) (fun _ _ _ h => h) rfl ?_ hHeld ?_
      rotate_left
      · intro w hSw; go_simp; all_goals with_reducible rfl
      try simp only [Act.put, List.setIfInBounds_toArray, List.set_cons_zero, List.set_cons_succ]
      refine take_in (i := 22) (v := ?_) rfl (by kernel_rfl) (fun _ _ _ h => h) rfl ?_ hHeld ?_
      rotate_left
      · intro w hSw; go_simp; all_goals with_reducible rfl
      try simp only [Act.put, List.setIfInBounds_toArray, List.set_cons_zero, List.set_cons_succ]
      refine take_in (i := 23) (v := ?_) rfl (by kernel_rfl) (fun _ _ _ h => h) rfl ?_ hHeld ?_
      rotate_left
      · intro w hSw; go_simp; all_goals with_reducible rfl
      try simp only [Act.put, List.setIfInBounds_toArray, List.set_cons_zero, List.set_cons_succ]
      refine take_in (i := 24) (v := ?_) rfl (by kernel_rfl) (fun _ _ _ h => h) rfl ?_ hHeld ?_
      rotate_left
      · intro w hSw; go_simp; all_goals with_reducible rfl
      try simp only [Act.put, List.setIfInBounds_toArray, List.set_cons_zero, List.set_cons_succ]
      refine take_in (i := 25) (v := ?_) rfl (by kernel_rfl) (fun _ _ _ h => h) rfl ?_ hHeld ?_
      rotate_left
      · intro w hSw; go_simp; all_goals with_reducible rfl
      try simp only [Act.put, List.setIfInBounds_toArray, List.set_cons_zero, List.set_cons_succ]
      refine take_in (i := 26) (v := ?_) rfl (by kernel_rfl) (fun _ _ _ h => h) rfl ?_ hHeld ?_
      rotate_left
      · intro w hSw; go_simp; all_goals with_reducible rfl
      try simp only [Act.put, List.setIfInBounds_toArray, List.set_cons_zero, List.set_cons_succ]
      refine take_in (i := 27) (v := ?_) rfl (by kernel_rfl) (fun _ _ _ h => h) rfl ?_ hHeld ?_
      rotate_left
      · intro w hSw; go_simp; all_goals with_reducible rfl
      try simp only [Act.put, List.setIfInBounds_toArray, List.set_cons_zero, List.set_cons_succ]
      refine wpAnyH_done (by kernel_rfl) ?_ _
      go_wp2_with fail
      go_ret
      exact ⟨ret_bool (by simp), B3.drew⟩

end Go.Proofs.Ytempdaodmjiloaa
