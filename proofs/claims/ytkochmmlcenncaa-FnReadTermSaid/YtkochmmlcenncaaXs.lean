/- What is drawn for chapter 9: rows of marks (DrawTermOk, DrawEventOfTerm, DrawTermText), a text (DrawReadTerm). Conditions: a row of bytes that came in. (gen_xs.py) -/
import Derived.Test.YtkochmmlcenncaaXr
import Derived.Test.YtkochmmlcenncaaXw
namespace Go.Proofs.Ytkochmmlcenncaa
open Go.RowKit
set_option linter.unusedVariables false

/-- a row of marks that was drawn -/
def MDraw (w : World) (e : Ending) (w' : World) : Prop := ∃ (g n c : Nat) (t : List Mk), e = .returned (.slice (some ⟨g, 0, none⟩) n c) ∧ MOwn w' w.heap.size (.slice (some ⟨g, 0, none⟩) n c) t ∧ n = t.length ∧ t.length ≤ 12 ∧ Below w.heap.size w w'

theorem Blk.pk {w w' : World} {R P g : Nat} {t : TypeId} {cs : Array Value} (h : Blk w g t cs) (k : Picked R P w w') (hne : g ≠ R) : Blk w' g t cs :=
  (k.grown.block g h.lt (fun e => hne (by injection e))).trans h

theorem SR.below_of {w w1 w' : World} {R P : Nat} (h : SR w1 R P w') (hb : Below w.heap.size w w1) (hR : w.heap.size ≤ R) : Below w.heap.size w w' :=
  hb.grown h.2.1 hb.size (fun g hg => by injection hg with hg; omega)

theorem TermPost.draw {w w1 w' : World} {R Q : Nat} {n : Int} {e : Ending} (h : TermPost R Q n w1 e w') (hb : Below w.heap.size w w1) (hR : w.heap.size ≤ R) : MDraw w e w' := by
  obtain ⟨g, c, t, rfl, o, l, -, k⟩ := h
  exact ⟨g, t.length, c, t, rfl, GOwn.base o hb.size, rfl, l, k.below_of hb hR⟩

set_option maxHeartbeats 1000000 in
theorem drawTermOk_any (w : World) (a : Option Addr) (len cap : Nat) (zs : List Int) (h : IsRowC .u8 w a len cap zs) :
    Calls Try.prog 13 #[.slice a len cap] w (MDraw w) := by
  go_enter Try.func13, Try.ntmps13
  go_wp2_with fail
  refine (open_any w a len cap zs h).mono ?_
  rintro e w1 ⟨rfl, ho⟩
  go_wp2_with fail
  refine (l20Term_any w1 w.heap.size 0 2 (by decide) (by decide) ho.rd).mono ?_
  intro e w2 k2
  have HM := Lib.hid (k2.draw ho.below (Nat.le_refl _))
  obtain ⟨g, c, t, rfl, -⟩ := k2
  go_wp2_with fail
  go_ret
  exact HM.out

set_option maxHeartbeats 1000000 in
theorem drawEventOfTerm_any (w : World) (a : Option Addr) (len cap : Nat) (zs : List Int) (h : IsRowC .u8 w a len cap zs) :
    Calls Try.prog 17 #[.slice a len cap] w (MDraw w) := by
  go_enter Try.func17, Try.ntmps17
  go_wp2_with fail
  refine (open_any w a len cap zs h).mono ?_
  rintro e w1 ⟨rfl, ho⟩
  go_wp2_with fail
  refine (l20Term_any w1 w.heap.size 0 9 (by decide) (by decide) ho.rd).mono ?_
  intro e w2 k2
  have HM := Lib.hid (k2.draw ho.below (Nat.le_refl _))
  obtain ⟨g, c, t, rfl, -⟩ := k2
  go_wp2_with fail
  go_ret
  exact HM.out

set_option maxHeartbeats 1000000 in
theorem drawTermText_any (w : World) (a : Option Addr) (len cap : Nat) (zs : List Int) (h : IsRowC .u8 w a len cap zs) :
    Calls Try.prog 21 #[.slice a len cap] w (MDraw w) := by
  go_enter Try.func21, Try.ntmps21
  go_wp2_with fail
  refine (open_any w a len cap zs h).mono ?_
  rintro e w1 ⟨rfl, ho⟩
  go_wp2_with fail
  refine (l20Term_any w1 w.heap.size 0 9 (by decide) (by decide) ho.rd).mono ?_
  intro e w2 k2
  have HM := Lib.hid (k2.draw ho.below (Nat.le_refl _))
  obtain ⟨g, c, t, rfl, -⟩ := k2
  go_wp2_with fail
  go_ret
  exact HM.out

theorem eight_at {n : Nat} (h : n < 8) : ∃ Y : ByteArray, (#[.string ⟨#[]⟩, .string ⟨#[40]⟩, .string ⟨#[41]⟩, .string ⟨#[38]⟩, .string ⟨#[124]⟩, .string ⟨#[33]⟩, .string ⟨#[97]⟩, .string ⟨#[99]⟩] : Array Value)[n]? = some (.string Y) ∧ Y.size ≤ 1 := by
  match n, h with
  | 0, _ => exact ⟨_, rfl, by decide⟩
  | 1, _ => exact ⟨_, rfl, by decide⟩
  | 2, _ => exact ⟨_, rfl, by decide⟩
  | 3, _ => exact ⟨_, rfl, by decide⟩
  | 4, _ => exact ⟨_, rfl, by decide⟩
  | 5, _ => exact ⟨_, rfl, by decide⟩
  | 6, _ => exact ⟨_, rfl, by decide⟩
  | 7, _ => exact ⟨_, rfl, by decide⟩

/-- a text that was drawn -/
def SDraw (w : World) (e : Ending) (w' : World) : Prop := ∃ S : ByteArray, e = .returned (.string S) ∧ S.size ≤ 1000 ∧ Below w.heap.size w w'

set_option maxRecDepth 100000 in
set_option maxHeartbeats 4000000 in
theorem drawReadTerm_any (w : World) (a : Option Addr) (len cap : Nat) (zs : List Int) (h : IsRowC .u8 w a len cap zs) :
    Calls Try.prog 26 #[.slice a len cap] w (SDraw w) := by
  go_enter Try.func26, Try.ntmps26
  go_wp2_with fail
  refine (open_any w a len cap zs h).mono ?_
  rintro e w1 ⟨rfl, ho⟩
  go_wp2_with fail
  refine (l20Term_any w1 w.heap.size 0 0 (by decide) (by decide) ho.rd).mono ?_
  rintro e w2 ⟨g, c, t, rfl, o2, l2, ht, k2⟩
  obtain ⟨T, rfl, l11⟩ := ht (Int.le_refl _)
  have HR2 := Lib.hid (GOwn.rd qC_len o2)
  have HK2 := Lib.hid k2
  have HB1 := Lib.hid ho.below
  clear ho o2 ht k2 h l2
  go_wp2_with fail
  refine (specTermText_any w2 _ _ HR2.out).mono ?_
  rintro e w3 ⟨rfl, b3⟩
  rw [txtI_tree (by omega : (encT T).length ≤ 40)]
  have hsz : (⟨(txtT T).toArray⟩ : ByteArray).size = (txtT T).length := size_mk _
  obtain ⟨S, hS⟩ : ∃ S : ByteArray, (⟨(txtT T).toArray⟩ : ByteArray) = S := ⟨_, rfl⟩
  rw [hS] at hsz ⊢
  have hl := txt_len T
  have h1 : 1 ≤ S.size := by omega
  have h2 : S.size ≤ 31 := by omega
  have HK3 : Hid (SR w1 w.heap.size 60 w3) := Lib.hid (HK2.out.below (by have := HK2.out.size; exact b3.mono this))
  clear b3 HR2 HK2 hS hsz hl l11
  go_wp2_with fail
  refine (pick_any w3 w.heap.size 60 _ (by decide) HK3.out.1).mono ?_
  rintro e w4 ⟨v1, rfl, -, k1⟩
  have H4 := Lib.hid (HK3.out.picked k1)
  clear k1 HK3
  by_cases hv : v1 = 0
  · subst hv
    go_wp2_with fail
    refine (pick_any w4 w.heap.size _ _ (by decide) H4.out.1).mono ?_
    rintro e w5 ⟨v2, rfl, ⟨v2a, v2b, -⟩, k1⟩
    have v2b := v2b (by omega)
    have H5 := Lib.hid (H4.out.picked k1)
    clear k1 H4
    obtain ⟨k, rfl⟩ : ∃ k : Nat, v2 = k := ⟨v2.toNat, by omega⟩
    have hk1 : k < S.size := by omega
    have hk2 : (k : Int) ≤ (S.size : Int) := by omega
    have hk3 : k ≤ S.size := by omega
    go_wp2_with fail
    have k0 := H5.out.drew
    refine wp_region_held_drew (S := fun _ => True) (by kernel_rfl) trivial (fun hHeld => ?_)
    refine take_in (i := 0) (v := ?_) rfl (by kernel_rfl) (fun _ _ _ h => h) rfl ?_ hHeld ?_
    rotate_left
    · intro w hSw; go_simp; all_goals with_reducible rfl
    try simp only [Act.put, List.setIfInBounds_toArray, List.set_cons_zero, List.set_cons_succ]
    refine take_in (i := 1) (v := ?_) rfl (by kernel_rfl) (fun _ _ _ h => h) rfl ?_ hHeld ?_
    rotate_left
    · intro w hSw; go_simp; all_goals with_reducible rfl
    try simp only [Act.put, List.setIfInBounds_toArray, List.set_cons_zero, List.set_cons_succ]
    refine take_in (i := 2) (v := ?_) rfl (by kernel_rfl) (fun _ _ _ h => h) rfl ?_ hHeld ?_
    rotate_left
    · intro w hSw; go_simp; all_goals with_reducible rfl
    try simp only [Act.put, List.setIfInBounds_toArray, List.set_cons_zero, List.set_cons_succ]
    refine take_in (i := 4) (v := ?_) rfl (by kernel_rfl) (fun _ _ _ h => h) rfl ?_ hHeld ?_
    rotate_left
    · intro w hSw; go_simp; all_goals with_reducible rfl
    try simp only [Act.put, List.setIfInBounds_toArray, List.set_cons_zero, List.set_cons_succ]
    refine take_in (i := 9) (v := ?_) rfl (by kernel_rfl) (fun _ _ _ h => h) rfl ?_ hHeld ?_
    rotate_left
    · intro w hSw; go_simp; all_goals with_reducible rfl
    try simp only [Act.put, List.setIfInBounds_toArray, List.set_cons_zero, List.set_cons_succ]
    refine take_in (i := 10) (v := ?_) rfl (by kernel_rfl) (fun _ _ _ h => h) rfl ?_ hHeld ?_
    rotate_left
    · intro w hSw; go_simp; all_goals with_reducible rfl
    try simp only [Act.put, List.setIfInBounds_toArray, List.set_cons_zero, List.set_cons_succ]
    refine take_in (i := 11) (v := ?_) rfl (by kernel_rfl) (fun _ _ _ h => h) rfl ?_ hHeld ?_
    rotate_left
    · intro w hSw; go_simp; all_goals with_reducible rfl
    try simp only [Act.put, List.setIfInBounds_toArray, List.set_cons_zero, List.set_cons_succ]
    refine ready_two (i := 3) (j := 5) rfl rfl (by kernel_rfl) (fun K hK => ?_) (fun K hK => ?_)
    · go_simp
      have k1 := k0.alloc (.cells #[.string ⟨#[]⟩, .string ⟨#[40]⟩, .string ⟨#[41]⟩, .string ⟨#[38]⟩, .string ⟨#[124]⟩, .string ⟨#[33]⟩, .string ⟨#[97]⟩, .string ⟨#[99]⟩] 9)
      have b1 : Blk (w5.drew.alloc (.cells #[.string ⟨#[]⟩, .string ⟨#[40]⟩, .string ⟨#[41]⟩, .string ⟨#[38]⟩, .string ⟨#[124]⟩, .string ⟨#[33]⟩, .string ⟨#[97]⟩, .string ⟨#[99]⟩] 9)) w5.heap.size 9 #[.string ⟨#[]⟩, .string ⟨#[40]⟩, .string ⟨#[41]⟩, .string ⟨#[38]⟩, .string ⟨#[124]⟩, .string ⟨#[33]⟩, .string ⟨#[97]⟩, .string ⟨#[99]⟩] := heap_alloc_new w5.drew _
      have n1 : w5.heap.size ≠ w.heap.size := by have h1 : w1.heap.size ≤ w5.heap.size := k0.size; have h2 := k0.2.2; omega
      refine hK.out _ (w5.drew.alloc (.cells #[.string ⟨#[]⟩, .string ⟨#[40]⟩, .string ⟨#[41]⟩, .string ⟨#[38]⟩, .string ⟨#[124]⟩, .string ⟨#[33]⟩, .string ⟨#[97]⟩, .string ⟨#[99]⟩] 9)) trivial (fun hHeld => ?_)
      clear hK K
      try simp only [Act.put, List.setIfInBounds_toArray, List.set_cons_zero, List.set_cons_succ]
      refine ready_one (i := 5) rfl (by kernel_rfl) (fun K hK => ?_)
      go_simp
      go_at_call 50
      refine (pick_any (w5.drew.alloc (.cells #[.string ⟨#[]⟩, .string ⟨#[40]⟩, .string ⟨#[41]⟩, .string ⟨#[38]⟩, .string ⟨#[124]⟩, .string ⟨#[33]⟩, .string ⟨#[97]⟩, .string ⟨#[99]⟩] 9)) w.heap.size _ _ (by decide) k1.1).mono ?_
      rintro e x2 ⟨v5, rfl, ⟨v5a, v5b, -⟩, kp⟩
      have v5b := v5b (by decide)
      have k2 := k1.picked kp
      have b2 := Blk.pk b1 kp n1
      clear kp
      refine hK.out _ x2 trivial (fun hHeld => ?_)
      clear hK K
      try simp only [Act.put, List.setIfInBounds_toArray, List.set_cons_zero, List.set_cons_succ]
      obtain ⟨n5, rfl⟩ : ∃ n : Nat, v5 = n := ⟨v5.toNat, by omega⟩
      have n5l : n5 < 8 := by omega
      have v5c : (n5 : Int) < 8 := by omega
      refine take_in (i := 6) (v := ?_) rfl (by kernel_rfl) (fun _ _ _ h => h) rfl ?_ hHeld ?_
      rotate_left
      · intro w hSw; go_simp; all_goals with_reducible rfl
      try simp only [Act.put, List.setIfInBounds_toArray, List.set_cons_zero, List.set_cons_succ]
      refine ready_two (i := 7) (j := 12) rfl rfl (by kernel_rfl) (fun K hK => ?_) (fun K hK => ?_)
      · obtain ⟨Y, hy, hY⟩ := eight_at n5l
        have hcy : x2.cell? ⟨w5.heap.size, n5, none⟩ = some (.string Y) := by rw [Blk.cell b2]; exact hy
        go_simp
        clear hy hcy
        refine hK.out _ x2 trivial (fun hHeld => ?_)
        clear hK K
        try simp only [Act.put, List.setIfInBounds_toArray, List.set_cons_zero, List.set_cons_succ]
        have hc1 : ¬ (9223372036854775807 < k + Y.size) := by omega
        refine take_in (i := 8) (v := ?_) rfl (by kernel_rfl) (fun _ _ _ h => h) rfl ?_ hHeld ?_
        rotate_left
        · intro w hSw; go_simp; all_goals with_reducible rfl
        try simp only [Act.put, List.setIfInBounds_toArray, List.set_cons_zero, List.set_cons_succ]
        refine ready_one (i := 12) rfl (by kernel_rfl) (fun K hK => ?_)
        go_simp
        go_at_call 50
        refine (pick_any x2 w.heap.size _ _ (by decide) k2.1).mono ?_
        rintro e x4 ⟨v6, rfl, ⟨v6a, v6b, -⟩, kp⟩
        have v6b := v6b (by decide)
        have k4 := k2.picked kp
        have b4 := Blk.pk b2 kp n1
        clear kp
        refine hK.out _ x4 trivial (fun hHeld => ?_)
        clear hK K
        try simp only [Act.put, List.setIfInBounds_toArray, List.set_cons_zero, List.set_cons_succ]
        obtain ⟨z, hz⟩ : ∃ z : Nat, (k : Int) + v6 = z := ⟨((k : Int) + v6).toNat, by omega⟩
        have hwz : IntKind.i64.wrap ((k : Int) + v6) = (z : Int) := by rw [hz]; exact IntWalk.i64_in _ (by omega)
        have hzl : z ≤ S.size := by omega
        have hz0 : (0 : Int) ≤ (z : Int) := by omega
        have hzi : (z : Int) ≤ (S.size : Int) := by omega
        clear hz v6a v6b
        refine take_in (i := 13) (v := ?_) rfl (by kernel_rfl) (fun _ _ _ h => h) rfl ?_ hHeld ?_
        rotate_left
        · intro w hSw; go_simp; all_goals with_reducible rfl
        try simp only [Act.put, List.setIfInBounds_toArray, List.set_cons_zero, List.set_cons_succ]
        refine take_in (i := 14) (v := ?_) rfl (by kernel_rfl) (fun _ _ _ h => h) rfl ?_ hHeld ?_
        rotate_left
        · intro w hSw; go_simp; all_goals with_reducible rfl
        try simp only [Act.put, List.setIfInBounds_toArray, List.set_cons_zero, List.set_cons_succ]
        have hc2 : ¬ (9223372036854775807 < k + Y.size + (S.size - z)) := by omega
        refine take_in (i := 15) (v := ?_) rfl (by kernel_rfl) (fun _ _ _ h => h) rfl ?_ hHeld ?_
        rotate_left
        · intro w hSw; go_simp; all_goals with_reducible rfl
        try simp only [Act.put, List.setIfInBounds_toArray, List.set_cons_zero, List.set_cons_succ]
        refine take_in (i := 16) (v := ?_) rfl (by kernel_rfl) (fun _ _ _ h => h) rfl ?_ hHeld ?_
        rotate_left
        · intro w hSw; go_simp; all_goals with_reducible rfl
        try simp only [Act.put, List.setIfInBounds_toArray, List.set_cons_zero, List.set_cons_succ]
        refine wpAnyH_done (by kernel_rfl) ?_ _
        go_wp2_with fail
        go_ret
        exact ⟨_, rfl, by simp only [ByteArray.size_append, ByteArray.size_extract]; omega, k4.below_of HB1.out (Nat.le_refl _)⟩
      · go_simp
        go_at_call 50
        refine (pick_any x2 w.heap.size _ _ (by decide) k2.1).mono ?_
        rintro e x5 ⟨v6, rfl, ⟨v6a, v6b, -⟩, kp⟩
        have v6b := v6b (by decide)
        have k5 := k2.picked kp
        have b5 := Blk.pk b2 kp n1
        clear kp
        refine hK.out _ x5 trivial (fun hHeld => ?_)
        clear hK K
        try simp only [Act.put, List.setIfInBounds_toArray, List.set_cons_zero, List.set_cons_succ]
        obtain ⟨z, hz⟩ : ∃ z : Nat, (k : Int) + v6 = z := ⟨((k : Int) + v6).toNat, by omega⟩
        have hwz : IntKind.i64.wrap ((k : Int) + v6) = (z : Int) := by rw [hz]; exact IntWalk.i64_in _ (by omega)
        have hzl : z ≤ S.size := by omega
        have hz0 : (0 : Int) ≤ (z : Int) := by omega
        have hzi : (z : Int) ≤ (S.size : Int) := by omega
        clear hz v6a v6b
        refine take_in (i := 13) (v := ?_) rfl (by kernel_rfl) (fun _ _ _ h => h) rfl ?_ hHeld ?_
        rotate_left
        · intro w hSw; go_simp; all_goals with_reducible rfl
        try simp only [Act.put, List.setIfInBounds_toArray, List.set_cons_zero, List.set_cons_succ]
        refine take_in (i := 14) (v := ?_) rfl (by kernel_rfl) (fun _ _ _ h => h) rfl ?_ hHeld ?_
        rotate_left
        · intro w hSw; go_simp; all_goals with_reducible rfl
        try simp only [Act.put, List.setIfInBounds_toArray, List.set_cons_zero, List.set_cons_succ]
        refine ready_one (i := 7) rfl (by kernel_rfl) (fun K hK => ?_)
        obtain ⟨Y, hy, hY⟩ := eight_at n5l
        have hcy : x5.cell? ⟨w5.heap.size, n5, none⟩ = some (.string Y) := by rw [Blk.cell b5]; exact hy
        go_simp
        clear hy hcy
        refine hK.out _ x5 trivial (fun hHeld => ?_)
        clear hK K
        try simp only [Act.put, List.setIfInBounds_toArray, List.set_cons_zero, List.set_cons_succ]
        have hc1 : ¬ (9223372036854775807 < k + Y.size) := by omega
        refine take_in (i := 8) (v := ?_) rfl (by kernel_rfl) (fun _ _ _ h => h) rfl ?_ hHeld ?_
        rotate_left
        · intro w hSw; go_simp; all_goals with_reducible rfl
        try simp only [Act.put, List.setIfInBounds_toArray, List.set_cons_zero, List.set_cons_succ]
        have hc2 : ¬ (9223372036854775807 < k + Y.size + (S.size - z)) := by omega
        refine take_in (i := 15) (v := ?_) rfl (by kernel_rfl) (fun _ _ _ h => h) rfl ?_ hHeld ?_
        rotate_left
        · intro w hSw; go_simp; all_goals with_reducible rfl
        try simp only [Act.put, List.setIfInBounds_toArray, List.set_cons_zero, List.set_cons_succ]
        refine take_in (i := 16) (v := ?_) rfl (by kernel_rfl) (fun _ _ _ h => h) rfl ?_ hHeld ?_
        rotate_left
        · intro w hSw; go_simp; all_goals with_reducible rfl
        try simp only [Act.put, List.setIfInBounds_toArray, List.set_cons_zero, List.set_cons_succ]
        refine wpAnyH_done (by kernel_rfl) ?_ _
        go_wp2_with fail
        go_ret
        exact ⟨_, rfl, by simp only [ByteArray.size_append, ByteArray.size_extract]; omega, k5.below_of HB1.out (Nat.le_refl _)⟩
    · go_simp
      go_at_call 50
      refine (pick_any w5.drew w.heap.size _ _ (by decide) k0.1).mono ?_
      rintro e x7 ⟨v5, rfl, ⟨v5a, v5b, -⟩, kp⟩
      have v5b := v5b (by decide)
      have k7 := k0.picked kp
      clear kp
      refine hK.out _ x7 trivial (fun hHeld => ?_)
      clear hK K
      try simp only [Act.put, List.setIfInBounds_toArray, List.set_cons_zero, List.set_cons_succ]
      obtain ⟨n5, rfl⟩ : ∃ n : Nat, v5 = n := ⟨v5.toNat, by omega⟩
      have n5l : n5 < 8 := by omega
      have v5c : (n5 : Int) < 8 := by omega
      refine ready_two (i := 3) (j := 12) rfl rfl (by kernel_rfl) (fun K hK => ?_) (fun K hK => ?_)
      · go_simp
        have k8 := k7.alloc (.cells #[.string ⟨#[]⟩, .string ⟨#[40]⟩, .string ⟨#[41]⟩, .string ⟨#[38]⟩, .string ⟨#[124]⟩, .string ⟨#[33]⟩, .string ⟨#[97]⟩, .string ⟨#[99]⟩] 9)
        have b8 : Blk (x7.alloc (.cells #[.string ⟨#[]⟩, .string ⟨#[40]⟩, .string ⟨#[41]⟩, .string ⟨#[38]⟩, .string ⟨#[124]⟩, .string ⟨#[33]⟩, .string ⟨#[97]⟩, .string ⟨#[99]⟩] 9)) x7.heap.size 9 #[.string ⟨#[]⟩, .string ⟨#[40]⟩, .string ⟨#[41]⟩, .string ⟨#[38]⟩, .string ⟨#[124]⟩, .string ⟨#[33]⟩, .string ⟨#[97]⟩, .string ⟨#[99]⟩] := heap_alloc_new x7 _
        have n8 : x7.heap.size ≠ w.heap.size := by have h1 : w1.heap.size ≤ x7.heap.size := k7.size; have h2 := k7.2.2; omega
        refine hK.out _ (x7.alloc (.cells #[.string ⟨#[]⟩, .string ⟨#[40]⟩, .string ⟨#[41]⟩, .string ⟨#[38]⟩, .string ⟨#[124]⟩, .string ⟨#[33]⟩, .string ⟨#[97]⟩, .string ⟨#[99]⟩] 9)) trivial (fun hHeld => ?_)
        clear hK K
        try simp only [Act.put, List.setIfInBounds_toArray, List.set_cons_zero, List.set_cons_succ]
        refine take_in (i := 6) (v := ?_) rfl (by kernel_rfl) (fun _ _ _ h => h) rfl ?_ hHeld ?_
        rotate_left
        · intro w hSw; go_simp; all_goals with_reducible rfl
        try simp only [Act.put, List.setIfInBounds_toArray, List.set_cons_zero, List.set_cons_succ]
        refine ready_two (i := 7) (j := 12) rfl rfl (by kernel_rfl) (fun K hK => ?_) (fun K hK => ?_)
        · obtain ⟨Y, hy, hY⟩ := eight_at n5l
          have hcy : (x7.alloc (.cells #[.string ⟨#[]⟩, .string ⟨#[40]⟩, .string ⟨#[41]⟩, .string ⟨#[38]⟩, .string ⟨#[124]⟩, .string ⟨#[33]⟩, .string ⟨#[97]⟩, .string ⟨#[99]⟩] 9)).cell? ⟨x7.heap.size, n5, none⟩ = some (.string Y) := by rw [Blk.cell b8]; exact hy
          go_simp
          clear hy hcy
          refine hK.out _ (x7.alloc (.cells #[.string ⟨#[]⟩, .string ⟨#[40]⟩, .string ⟨#[41]⟩, .string ⟨#[38]⟩, .string ⟨#[124]⟩, .string ⟨#[33]⟩, .string ⟨#[97]⟩, .string ⟨#[99]⟩] 9)) trivial (fun hHeld => ?_)
          clear hK K
          try simp only [Act.put, List.setIfInBounds_toArray, List.set_cons_zero, List.set_cons_succ]
          have hc1 : ¬ (9223372036854775807 < k + Y.size) := by omega
          refine take_in (i := 8) (v := ?_) rfl (by kernel_rfl) (fun _ _ _ h => h) rfl ?_ hHeld ?_
          rotate_left
          · intro w hSw; go_simp; all_goals with_reducible rfl
          try simp only [Act.put, List.setIfInBounds_toArray, List.set_cons_zero, List.set_cons_succ]
          refine ready_one (i := 12) rfl (by kernel_rfl) (fun K hK => ?_)
          go_simp
          go_at_call 50
          refine (pick_any (x7.alloc (.cells #[.string ⟨#[]⟩, .string ⟨#[40]⟩, .string ⟨#[41]⟩, .string ⟨#[38]⟩, .string ⟨#[124]⟩, .string ⟨#[33]⟩, .string ⟨#[97]⟩, .string ⟨#[99]⟩] 9)) w.heap.size _ _ (by decide) k8.1).mono ?_
          rintro e x10 ⟨v6, rfl, ⟨v6a, v6b, -⟩, kp⟩
          have v6b := v6b (by decide)
          have k10 := k8.picked kp
          have b10 := Blk.pk b8 kp n8
          clear kp
          refine hK.out _ x10 trivial (fun hHeld => ?_)
          clear hK K
          try simp only [Act.put, List.setIfInBounds_toArray, List.set_cons_zero, List.set_cons_succ]
          obtain ⟨z, hz⟩ : ∃ z : Nat, (k : Int) + v6 = z := ⟨((k : Int) + v6).toNat, by omega⟩
          have hwz : IntKind.i64.wrap ((k : Int) + v6) = (z : Int) := by rw [hz]; exact IntWalk.i64_in _ (by omega)
          have hzl : z ≤ S.size := by omega
          have hz0 : (0 : Int) ≤ (z : Int) := by omega
          have hzi : (z : Int) ≤ (S.size : Int) := by omega
          clear hz v6a v6b
          refine take_in (i := 13) (v := ?_) rfl (by kernel_rfl) (fun _ _ _ h => h) rfl ?_ hHeld ?_
          rotate_left
          · intro w hSw; go_simp; all_goals with_reducible rfl
          try simp only [Act.put, List.setIfInBounds_toArray, List.set_cons_zero, List.set_cons_succ]
          refine take_in (i := 14) (v := ?_) rfl (by kernel_rfl) (fun _ _ _ h => h) rfl ?_ hHeld ?_
          rotate_left
          · intro w hSw; go_simp; all_goals with_reducible rfl
          try simp only [Act.put, List.setIfInBounds_toArray, List.set_cons_zero, List.set_cons_succ]
          have hc2 : ¬ (9223372036854775807 < k + Y.size + (S.size - z)) := by omega
          refine take_in (i := 15) (v := ?_) rfl (by kernel_rfl) (fun _ _ _ h => h) rfl ?_ hHeld ?_
          rotate_left
          · intro w hSw; go_simp; all_goals with_reducible rfl
          try simp only [Act.put, List.setIfInBounds_toArray, List.set_cons_zero, List.set_cons_succ]
          refine take_in (i := 16) (v := ?_) rfl (by kernel_rfl) (fun _ _ _ h => h) rfl ?_ hHeld ?_
          rotate_left
          · intro w hSw; go_simp; all_goals with_reducible rfl
          try simp only [Act.put, List.setIfInBounds_toArray, List.set_cons_zero, List.set_cons_succ]
          refine wpAnyH_done (by kernel_rfl) ?_ _
          go_wp2_with fail
          go_ret
          exact ⟨_, rfl, by simp only [ByteArray.size_append, ByteArray.size_extract]; omega, k10.below_of HB1.out (Nat.le_refl _)⟩
        · go_simp
          go_at_call 50
          refine (pick_any (x7.alloc (.cells #[.string ⟨#[]⟩, .string ⟨#[40]⟩, .string ⟨#[41]⟩, .string ⟨#[38]⟩, .string ⟨#[124]⟩, .string ⟨#[33]⟩, .string ⟨#[97]⟩, .string ⟨#[99]⟩] 9)) w.heap.size _ _ (by decide) k8.1).mono ?_
          rintro e x11 ⟨v6, rfl, ⟨v6a, v6b, -⟩, kp⟩
          have v6b := v6b (by decide)
          have k11 := k8.picked kp
          have b11 := Blk.pk b8 kp n8
          clear kp
          refine hK.out _ x11 trivial (fun hHeld => ?_)
          clear hK K
          try simp only [Act.put, List.setIfInBounds_toArray, List.set_cons_zero, List.set_cons_succ]
          obtain ⟨z, hz⟩ : ∃ z : Nat, (k : Int) + v6 = z := ⟨((k : Int) + v6).toNat, by omega⟩
          have hwz : IntKind.i64.wrap ((k : Int) + v6) = (z : Int) := by rw [hz]; exact IntWalk.i64_in _ (by omega)
          have hzl : z ≤ S.size := by omega
          have hz0 : (0 : Int) ≤ (z : Int) := by omega
          have hzi : (z : Int) ≤ (S.size : Int) := by omega
          clear hz v6a v6b
          refine take_in (i := 13) (v := ?_) rfl (by kernel_rfl) (fun _ _ _ h => h) rfl ?_ hHeld ?_
          rotate_left
          · intro w hSw; go_simp; all_goals with_reducible rfl
          try simp only [Act.put, List.setIfInBounds_toArray, List.set_cons_zero, List.set_cons_succ]
          refine take_in (i := 14) (v := ?_) rfl (by kernel_rfl) (fun _ _ _ h => h) rfl ?_ hHeld ?_
          rotate_left
          · intro w hSw; go_simp; all_goals with_reducible rfl
          try simp only [Act.put, List.setIfInBounds_toArray, List.set_cons_zero, List.set_cons_succ]
          refine ready_one (i := 7) rfl (by kernel_rfl) (fun K hK => ?_)
          obtain ⟨Y, hy, hY⟩ := eight_at n5l
          have hcy : x11.cell? ⟨x7.heap.size, n5, none⟩ = some (.string Y) := by rw [Blk.cell b11]; exact hy
          go_simp
          clear hy hcy
          refine hK.out _ x11 trivial (fun hHeld => ?_)
          clear hK K
          try simp only [Act.put, List.setIfInBounds_toArray, List.set_cons_zero, List.set_cons_succ]
          have hc1 : ¬ (9223372036854775807 < k + Y.size) := by omega
          refine take_in (i := 8) (v := ?_) rfl (by kernel_rfl) (fun _ _ _ h => h) rfl ?_ hHeld ?_
          rotate_left
          · intro w hSw; go_simp; all_goals with_reducible rfl
          try simp only [Act.put, List.setIfInBounds_toArray, List.set_cons_zero, List.set_cons_succ]
          have hc2 : ¬ (9223372036854775807 < k + Y.size + (S.size - z)) := by omega
          refine take_in (i := 15) (v := ?_) rfl (by kernel_rfl) (fun _ _ _ h => h) rfl ?_ hHeld ?_
          rotate_left
          · intro w hSw; go_simp; all_goals with_reducible rfl
          try simp only [Act.put, List.setIfInBounds_toArray, List.set_cons_zero, List.set_cons_succ]
          refine take_in (i := 16) (v := ?_) rfl (by kernel_rfl) (fun _ _ _ h => h) rfl ?_ hHeld ?_
          rotate_left
          · intro w hSw; go_simp; all_goals with_reducible rfl
          try simp only [Act.put, List.setIfInBounds_toArray, List.set_cons_zero, List.set_cons_succ]
          refine wpAnyH_done (by kernel_rfl) ?_ _
          go_wp2_with fail
          go_ret
          exact ⟨_, rfl, by simp only [ByteArray.size_append, ByteArray.size_extract]; omega, k11.below_of HB1.out (Nat.le_refl _)⟩
      · go_simp
        go_at_call 50
        refine (pick_any x7 w.heap.size _ _ (by decide) k7.1).mono ?_
        rintro e x13 ⟨v6, rfl, ⟨v6a, v6b, -⟩, kp⟩
        have v6b := v6b (by decide)
        have k13 := k7.picked kp
        clear kp
        refine hK.out _ x13 trivial (fun hHeld => ?_)
        clear hK K
        try simp only [Act.put, List.setIfInBounds_toArray, List.set_cons_zero, List.set_cons_succ]
        obtain ⟨z, hz⟩ : ∃ z : Nat, (k : Int) + v6 = z := ⟨((k : Int) + v6).toNat, by omega⟩
        have hwz : IntKind.i64.wrap ((k : Int) + v6) = (z : Int) := by rw [hz]; exact IntWalk.i64_in _ (by omega)
        have hzl : z ≤ S.size := by omega
        have hz0 : (0 : Int) ≤ (z : Int) := by omega
        have hzi : (z : Int) ≤ (S.size : Int) := by omega
        clear hz v6a v6b
        refine take_in (i := 13) (v := ?_) rfl (by kernel_rfl) (fun _ _ _ h => h) rfl ?_ hHeld ?_
        rotate_left
        · intro w hSw; go_simp; all_goals with_reducible rfl
        try simp only [Act.put, List.setIfInBounds_toArray, List.set_cons_zero, List.set_cons_succ]
        refine take_in (i := 14) (v := ?_) rfl (by kernel_rfl) (fun _ _ _ h => h) rfl ?_ hHeld ?_
        rotate_left
        · intro w hSw; go_simp; all_goals with_reducible rfl
        try simp only [Act.put, List.setIfInBounds_toArray, List.set_cons_zero, List.set_cons_succ]
        refine ready_one (i := 3) rfl (by kernel_rfl) (fun K hK => ?_)
        go_simp
        have k14 := k13.alloc (.cells #[.string ⟨#[]⟩, .string ⟨#[40]⟩, .string ⟨#[41]⟩, .string ⟨#[38]⟩, .string ⟨#[124]⟩, .string ⟨#[33]⟩, .string ⟨#[97]⟩, .string ⟨#[99]⟩] 9)
        have b14 : Blk (x13.alloc (.cells #[.string ⟨#[]⟩, .string ⟨#[40]⟩, .string ⟨#[41]⟩, .string ⟨#[38]⟩, .string ⟨#[124]⟩, .string ⟨#[33]⟩, .string ⟨#[97]⟩, .string ⟨#[99]⟩] 9)) x13.heap.size 9 #[.string ⟨#[]⟩, .string ⟨#[40]⟩, .string ⟨#[41]⟩, .string ⟨#[38]⟩, .string ⟨#[124]⟩, .string ⟨#[33]⟩, .string ⟨#[97]⟩, .string ⟨#[99]⟩] := heap_alloc_new x13 _
        have n14 : x13.heap.size ≠ w.heap.size := by have h1 : w1.heap.size ≤ x13.heap.size := k13.size; have h2 := k13.2.2; omega
        refine hK.out _ (x13.alloc (.cells #[.string ⟨#[]⟩, .string ⟨#[40]⟩, .string ⟨#[41]⟩, .string ⟨#[38]⟩, .string ⟨#[124]⟩, .string ⟨#[33]⟩, .string ⟨#[97]⟩, .string ⟨#[99]⟩] 9)) trivial (fun hHeld => ?_)
        clear hK K
        try simp only [Act.put, List.setIfInBounds_toArray, List.set_cons_zero, List.set_cons_succ]
        refine take_in (i := 6) (v := ?_) rfl (by kernel_rfl) (fun _ _ _ h => h) rfl ?_ hHeld ?_
        rotate_left
        · intro w hSw; go_simp; all_goals with_reducible rfl
        try simp only [Act.put, List.setIfInBounds_toArray, List.set_cons_zero, List.set_cons_succ]
        refine ready_one (i := 7) rfl (by kernel_rfl) (fun K hK => ?_)
        obtain ⟨Y, hy, hY⟩ := eight_at n5l
        have hcy : (x13.alloc (.cells #[.string ⟨#[]⟩, .string ⟨#[40]⟩, .string ⟨#[41]⟩, .string ⟨#[38]⟩, .string ⟨#[124]⟩, .string ⟨#[33]⟩, .string ⟨#[97]⟩, .string ⟨#[99]⟩] 9)).cell? ⟨x13.heap.size, n5, none⟩ = some (.string Y) := by rw [Blk.cell b14]; exact hy
        go_simp
        clear hy hcy
        refine hK.out _ (x13.alloc (.cells #[.string ⟨#[]⟩, .string ⟨#[40]⟩, .string ⟨#[41]⟩, .string ⟨#[38]⟩, .string ⟨#[124]⟩, .string ⟨#[33]⟩, .string ⟨#[97]⟩, .string ⟨#[99]⟩] 9)) trivial (fun hHeld => ?_)
        clear hK K
        try simp only [Act.put, List.setIfInBounds_toArray, List.set_cons_zero, List.set_cons_succ]
        have hc1 : ¬ (9223372036854775807 < k + Y.size) := by omega
        refine take_in (i := 8) (v := ?_) rfl (by kernel_rfl) (fun _ _ _ h => h) rfl ?_ hHeld ?_
        rotate_left
        · intro w hSw; go_simp; all_goals with_reducible rfl
        try simp only [Act.put, List.setIfInBounds_toArray, List.set_cons_zero, List.set_cons_succ]
        have hc2 : ¬ (9223372036854775807 < k + Y.size + (S.size - z)) := by omega
        refine take_in (i := 15) (v := ?_) rfl (by kernel_rfl) (fun _ _ _ h => h) rfl ?_ hHeld ?_
        rotate_left
        · intro w hSw; go_simp; all_goals with_reducible rfl
        try simp only [Act.put, List.setIfInBounds_toArray, List.set_cons_zero, List.set_cons_succ]
        refine take_in (i := 16) (v := ?_) rfl (by kernel_rfl) (fun _ _ _ h => h) rfl ?_ hHeld ?_
        rotate_left
        · intro w hSw; go_simp; all_goals with_reducible rfl
        try simp only [Act.put, List.setIfInBounds_toArray, List.set_cons_zero, List.set_cons_succ]
        refine wpAnyH_done (by kernel_rfl) ?_ _
        go_wp2_with fail
        go_ret
        exact ⟨_, rfl, by simp only [ByteArray.size_append, ByteArray.size_extract]; omega, k14.below_of HB1.out (Nat.le_refl _)⟩
  · have hv' : (v1 == 0) = false := by rw [beq_eq_false_iff_ne]; exact hv
    go_wp2_with fail
    go_ret
    exact ⟨S, rfl, by omega, H4.out.below_of HB1.out (Nat.le_refl _)⟩

end Go.Proofs.Ytkochmmlcenncaa
