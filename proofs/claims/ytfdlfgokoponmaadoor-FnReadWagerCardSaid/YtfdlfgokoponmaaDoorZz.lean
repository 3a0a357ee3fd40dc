/- What is drawn for the law of ReadWager, and its walk. Conditions: stated; the tables and errors of package strconv are laid. (gen_zyz.py) -/
import Derived.Test.YtfdlfgokoponmaaDoorZx
namespace Go.Proofs.YtfdlfgokoponmaaDoor
open Go.RowKit
set_option linter.unusedVariables false
set_option linter.unusedSimpArgs false

theorem Blk.pk {w w' : World} {R P g : Nat} {t : TypeId} {cs : Array Value} (h : Blk w g t cs) (k : Picked R P w w') (hne : g ≠ R) : Blk w' g t cs :=
  (k.grown.block g h.lt (fun e => hne (by injection e))).trans h

theorem SR.below_of {w w1 w' : World} {R P : Nat} (h : SR w1 R P w') (hb : Below w.heap.size w w1) (hR : w.heap.size ≤ R) : Below w.heap.size w w' :=
  hb.grown h.2.1 hb.size (fun g hg => by injection hg with hg; omega)

theorem seven_at {n : Nat} (h : n < 7) : ∃ Y : ByteArray, (#[.string ⟨#[]⟩, .string ⟨#[42]⟩, .string ⟨#[64]⟩, .string ⟨#[45]⟩, .string ⟨#[48]⟩, .string ⟨#[40]⟩, .string ⟨#[57]⟩] : Array Value)[n]? = some (.string Y) ∧ Y.size ≤ 1 :=
  match n, h with
  | 0, _ => ⟨_, rfl, by decide⟩
  | 1, _ => ⟨_, rfl, by decide⟩
  | 2, _ => ⟨_, rfl, by decide⟩
  | 3, _ => ⟨_, rfl, by decide⟩
  | 4, _ => ⟨_, rfl, by decide⟩
  | 5, _ => ⟨_, rfl, by decide⟩
  | 6, _ => ⟨_, rfl, by decide⟩

/-- a text that was drawn -/
def SDraw (w : World) (e : Ending) (w' : World) : Prop := ∃ S : ByteArray, e = .returned (.string S) ∧ S.size ≤ 1000 ∧ Below w.heap.size w w'

set_option maxRecDepth 100000 in
set_option maxHeartbeats 4000000 in
theorem drawReadWager_any (w : World) (a : Option Addr) (len cap : Nat) (zs : List Int) (h : IsRowC .u8 w a len cap zs) :
    Calls Tryd.prog 14 #[.slice a len cap] w (SDraw w) := by
  go_enter Tryd.func14, Tryd.ntmps14
  go_wp2_with fail
  refine (open_any w a len cap zs h).mono ?_
  rintro e w1 ⟨rfl, ho⟩
  go_wp2_with fail
  refine (l20Wager_zero w1 w.heap.size 0 (by decide) ho.rd).mono ?_
  rintro e w2 ⟨s, g, c, t, p, rfl, o2, l2, hs, hp, hok, k2⟩
  have hok := hok (Int.le_refl _)
  have HR2 := Lib.hid (GOwn.rd qC_len o2)
  have HK2 := Lib.hid k2
  have HB1 := Lib.hid ho.below
  obtain ⟨S, hS⟩ : ∃ S : ByteArray, (⟨(wgT s t p).toArray⟩ : ByteArray) = S := ⟨_, rfl⟩
  have hsz : S.size = (wgT s t p).length := by rw [← hS]; show (wgT s t p).toArray.size = _; rw [List.size_toArray]
  obtain ⟨x1, x2, -⟩ := wgT_facts hok
  have h1 : 1 ≤ S.size := by rw [hsz]; exact List.length_pos_iff.2 x1
  have h2 : S.size ≤ 200 := by omega
  have HS := Lib.hid hS
  clear ho o2 k2 h l2 hs hp hok hsz x1 x2 hS
  go_wp2_with fail
  refine (specWagerText_any w2 s _ t p HR2.out).mono ?_
  rintro e w3 ⟨rfl, b3⟩
  rw [HS.out]
  have HK3 : Hid (SR w1 w.heap.size 70 w3) := Lib.hid (HK2.out.below (by have := HK2.out.size; exact b3.mono this))
  clear b3 HR2 HK2 HS
  go_wp2_with fail
  refine (pick_any w3 w.heap.size 70 _ (by decide) HK3.out.1).mono ?_
  rintro e w4 ⟨v1, rfl, -, k1⟩
  have H4 := Lib.hid (HK3.out.picked k1)
  clear k1 HK3
  by_cases hv : v1 = 0
  · subst hv
    go_wp2_with fail
    refine (pick_any w4 w.heap.size _ _ (by decide) H4.out.1).mono ?_
    rintro e w5 ⟨v2, rfl, ⟨v2a, v2b, -⟩, k1⟩
    have v2b := v2b (by omega)
    have H5 := Lib.hid (H4.out.picked k1)
    clear k1 H4
    obtain ⟨k, rfl⟩ : ∃ k : Nat, v2 = k := ⟨v2.toNat, by omega⟩
    have hk1 : k < S.size := by omega
    have hk2 : (k : Int) ≤ (S.size : Int) := by omega
    have hk3 : k ≤ S.size := by omega
    go_wp2_with fail
    have k0 := H5.out.drew
    refine wp_region_held_drew (S := fun _ => True) (by kernel_rfl) trivial (fun hHeld => ?_)
    refine take_in (i := 0) (v := ?_) rfl (by kernel_rfl) (fun _ _ _ h => h) rfl ?_ hHeld ?_
    rotate_left
    · intro w hSw; go_simp; all_goals with_reducible rfl
    try simp only [Act.put, List.setIfInBounds_toArray, List.set_cons_zero, List.set_cons_succ]
    refine take_in (i := 1) (v := ?_) rfl (by kernel_rfl) (fun _ _ _ h => h) rfl ?_ hHeld ?_
    rotate_left
    · intro w hSw; go_simp; all_goals with_reducible rfl
    try simp only [Act.put, List.setIfInBounds_toArray, List.set_cons_zero, List.set_cons_succ]
    refine take_in (i := 2) (v := ?_) rfl (by kernel_rfl) (fun _ _ _ h => h) rfl ?_ hHeld ?_
    rotate_left
    · intro w hSw; go_simp; all_goals with_reducible rfl
    try simp only [Act.put, List.setIfInBounds_toArray, List.set_cons_zero, List.set_cons_succ]
    refine take_in (i := 4) (v := ?_) rfl (by kernel_rfl) (fun _ _ _ h => h) rfl ?_ hHeld ?_
    rotate_left
    · intro w hSw; go_simp; all_goals with_reducible rfl
    try simp only [Act.put, List.setIfInBounds_toArray, List.set_cons_zero, List.set_cons_succ]
    refine take_in (i := 9) (v := ?_) rfl (by kernel_rfl) (fun _ _ _ h => h) rfl ?_ hHeld ?_
    rotate_left
    · intro w hSw; go_simp; all_goals with_reducible rfl
    try simp only [Act.put, List.setIfInBounds_toArray, List.set_cons_zero, List.set_cons_succ]
    refine take_in (i := 10) (v := ?_) rfl (by kernel_rfl) (fun _ _ _ h => h) rfl ?_ hHeld ?_
    rotate_left
    · intro w hSw; go_simp; all_goals with_reducible rfl
    try simp only [Act.put, List.setIfInBounds_toArray, List.set_cons_zero, List.set_cons_succ]
    refine take_in (i := 11) (v := ?_) rfl (by kernel_rfl) (fun _ _ _ h => h) rfl ?_ hHeld ?_
    rotate_left
    · intro w hSw; go_simp; all_goals with_reducible rfl
    try simp only [Act.put, List.setIfInBounds_toArray, List.set_cons_zero, List.set_cons_succ]
    refine ready_two (i := 3) (j := 5) rfl rfl (by kernel_rfl) (fun K hK => ?_) (fun K hK => ?_)
    · go_simp
      have k1 := k0.alloc (.cells #[.string ⟨#[]⟩, .string ⟨#[42]⟩, .string ⟨#[64]⟩, .string ⟨#[45]⟩, .string ⟨#[48]⟩, .string ⟨#[40]⟩, .string ⟨#[57]⟩] 9)
      have b1 : Blk (w5.drew.alloc (.cells #[.string ⟨#[]⟩, .string ⟨#[42]⟩, .string ⟨#[64]⟩, .string ⟨#[45]⟩, .string ⟨#[48]⟩, .string ⟨#[40]⟩, .string ⟨#[57]⟩] 9)) w5.heap.size 9 #[.string ⟨#[]⟩, .string ⟨#[42]⟩, .string ⟨#[64]⟩, .string ⟨#[45]⟩, .string ⟨#[48]⟩, .string ⟨#[40]⟩, .string ⟨#[57]⟩] := heap_alloc_new w5.drew _
      have n1 : w5.heap.size ≠ w.heap.size := by have h1 : w1.heap.size ≤ w5.heap.size := k0.size; have h2 := k0.2.2; omega
      refine hK.out _ (w5.drew.alloc (.cells #[.string ⟨#[]⟩, .string ⟨#[42]⟩, .string ⟨#[64]⟩, .string ⟨#[45]⟩, .string ⟨#[48]⟩, .string ⟨#[40]⟩, .string ⟨#[57]⟩] 9)) trivial (fun hHeld => ?_)
      clear hK K
      try simp only [Act.put, List.setIfInBounds_toArray, List.set_cons_zero, List.set_cons_succ]
      refine ready_one (i := 5) rfl (by kernel_rfl) (fun K hK => ?_)
      go_simp
      go_at_call 35
      refine (pick_any (w5.drew.alloc (.cells #[.string ⟨#[]⟩, .string ⟨#[42]⟩, .string ⟨#[64]⟩, .string ⟨#[45]⟩, .string ⟨#[48]⟩, .string ⟨#[40]⟩, .string ⟨#[57]⟩] 9)) w.heap.size _ _ (by decide) k1.1).mono ?_
      rintro e x2 ⟨v5, rfl, ⟨v5a, v5b, -⟩, kp⟩
      have v5b := v5b (by decide)
      have k2 := k1.picked kp
      have b2 := Blk.pk b1 kp n1
      clear kp
      refine hK.out _ x2 trivial (fun hHeld => ?_)
      clear hK K
      try simp only [Act.put, List.setIfInBounds_toArray, List.set_cons_zero, List.set_cons_succ]
      obtain ⟨n5, rfl⟩ : ∃ n : Nat, v5 = n := ⟨v5.toNat, by omega⟩
      have n5l : n5 < 7 := by omega
      have v5c : (n5 : Int) < 7 := by omega
      refine take_in (i := 6) (v := ?_) rfl (by kernel_rfl) (fun _ _ _ h => h) rfl ?_ hHeld ?_
      rotate_left
      · intro w hSw; go_simp; all_goals with_reducible rfl
      try simp only [Act.put, List.setIfInBounds_toArray, List.set_cons_zero, List.set_cons_succ]
      refine ready_two (i := 7) (j := 12) rfl rfl (by kernel_rfl) (fun K hK => ?_) (fun K hK => ?_)
      · obtain ⟨Y, hy, hY⟩ := seven_at n5l
        have hcy : x2.cell? ⟨w5.heap.size, n5, none⟩ = some (.string Y) := by rw [Blk.cell b2]; exact hy
        go_simp
        clear hy hcy
        refine hK.out _ x2 trivial (fun hHeld => ?_)
        clear hK K
        try simp only [Act.put, List.setIfInBounds_toArray, List.set_cons_zero, List.set_cons_succ]
        have hc1 : ¬ (9223372036854775807 < k + Y.size) := by omega
        refine take_in (i := 8) (v := ?_) rfl (by kernel_rfl) (fun _ _ _ h => h) rfl ?_ hHeld ?_
        rotate_left
        · intro w hSw; go_simp; all_goals with_reducible rfl
        try simp only [Act.put, List.setIfInBounds_toArray, List.set_cons_zero, List.set_cons_succ]
        refine ready_one (i := 12) rfl (by kernel_rfl) (fun K hK => ?_)
        go_simp
        go_at_call 35
        refine (pick_any x2 w.heap.size _ _ (by decide) k2.1).mono ?_
        rintro e x4 ⟨v6, rfl, ⟨v6a, v6b, -⟩, kp⟩
        have v6b := v6b (by decide)
        have k4 := k2.picked kp
        have b4 := Blk.pk b2 kp n1
        clear kp
        refine hK.out _ x4 trivial (fun hHeld => ?_)
        clear hK K
        try simp only [Act.put, List.setIfInBounds_toArray, List.set_cons_zero, List.set_cons_succ]
        obtain ⟨z, hz⟩ : ∃ z : Nat, (k : Int) + v6 = z := ⟨((k : Int) + v6).toNat, by omega⟩
        have hwz : IntKind.i64.wrap ((k : Int) + v6) = (z : Int) := by rw [hz]; exact IntWalk.i64_in _ (by omega)
        have hzl : z ≤ S.size := by omega
        have hz0 : (0 : Int) ≤ (z : Int) := by omega
        have hzi : (z : Int) ≤ (S.size : Int) := by omega
        clear hz v6a v6b
        refine take_in (i := 13) (v := ?_) rfl (by kernel_rfl) (fun _ _ _ h => h) rfl ?_ hHeld ?_
        rotate_left
        · intro w hSw; go_simp; all_goals with_reducible rfl
        try simp only [Act.put, List.setIfInBounds_toArray, List.set_cons_zero, List.set_cons_succ]
        refine take_in (i := 14) (v := ?_) rfl (by kernel_rfl) (fun _ _ _ h => h) rfl ?_ hHeld ?_
        rotate_left
        · intro w hSw; go_simp; all_goals with_reducible rfl
        try simp only [Act.put, List.setIfInBounds_toArray, List.set_cons_zero, List.set_cons_succ]
        have hc2 : ¬ (9223372036854775807 < k + Y.size + (S.size - z)) := by omega
        refine take_in (i := 15) (v := ?_) rfl (by kernel_rfl) (fun _ _ _ h => h) rfl ?_ hHeld ?_
        rotate_left
        · intro w hSw; go_simp; all_goals with_reducible rfl
        try simp only [Act.put, List.setIfInBounds_toArray, List.set_cons_zero, List.set_cons_succ]
        refine take_in (i := 16) (v := ?_) rfl (by kernel_rfl) (fun _ _ _ h => h) rfl ?_ hHeld ?_
        rotate_left
        · intro w hSw; go_simp; all_goals with_reducible rfl
        try simp only [Act.put, List.setIfInBounds_toArray, List.set_cons_zero, List.set_cons_succ]
        refine wpAnyH_done (by kernel_rfl) ?_ _
        go_wp2_with fail
        go_ret
        exact ⟨_, rfl, by simp only [ByteArray.size_append, ByteArray.size_extract]; omega, k4.below_of HB1.out (Nat.le_refl _)⟩
      · go_simp
        go_at_call 35
        refine (pick_any x2 w.heap.size _ _ (by decide) k2.1).mono ?_
        rintro e x5 ⟨v6, rfl, ⟨v6a, v6b, -⟩, kp⟩
        have v6b := v6b (by decide)
        have k5 := k2.picked kp
        have b5 := Blk.pk b2 kp n1
        clear kp
        refine hK.out _ x5 trivial (fun hHeld => ?_)
        clear hK K
        try simp only [Act.put, List.setIfInBounds_toArray, List.set_cons_zero, List.set_cons_succ]
        obtain ⟨z, hz⟩ : ∃ z : Nat, (k : Int) + v6 = z := ⟨((k : Int) + v6).toNat, by omega⟩
        have hwz : IntKind.i64.wrap ((k : Int) + v6) = (z : Int) := by rw [hz]; exact IntWalk.i64_in _ (by omega)
        have hzl : z ≤ S.size := by omega
        have hz0 : (0 : Int) ≤ (z : Int) := by omega
        have hzi : (z : Int) ≤ (S.size : Int) := by omega
        clear hz v6a v6b
        refine take_in (i := 13) (v := ?_) rfl (by kernel_rfl) (fun _ _ _ h => h) rfl ?_ hHeld ?_
        rotate_left
        · intro w hSw; go_simp; all_goals with_reducible rfl
        try simp only [Act.put, List.setIfInBounds_toArray, List.set_cons_zero, List.set_cons_succ]
        refine take_in (i := 14) (v := ?_) rfl (by kernel_rfl) (fun _ _ _ h => h) rfl ?_ hHeld ?_
        rotate_left
        · intro w hSw; go_simp; all_goals with_reducible rfl
        try simp only [Act.put, List.setIfInBounds_toArray, List.set_cons_zero, List.set_cons_succ]
        refine ready_one (i := 7) rfl (by kernel_rfl) (fun K hK => ?_)
        obtain ⟨Y, hy, hY⟩ := seven_at n5l
        have hcy : x5.cell? ⟨w5.heap.size, n5, none⟩ = some (.string Y) := by rw [Blk.cell b5]; exact hy
        go_simp
        clear hy hcy
        refine hK.out _ x5 trivial (fun hHeld => ?_)
        clear hK K
        try simp only [Act.put, List.setIfInBounds_toArray, List.set_cons_zero, List.set_cons_succ]
        have hc1 : ¬ (9223372036854775807 < k + Y.size) := by omega
        refine take_in (i := 8) (v := ?_) rfl (by kernel_rfl) (fun _ _ _ h => h) rfl ?_ hHeld ?_
        rotate_left
        · intro w hSw; go_simp; all_goals with_reducible rfl
        try simp only [Act.put, List.setIfInBounds_toArray, List.set_cons_zero, List.set_cons_succ]
        have hc2 : ¬ (9223372036854775807 < k + Y.size + (S.size - z)) := by omega
        refine take_in (i := 15) (v := ?_) rfl (by kernel_rfl) (fun _ _ _ h => h) rfl ?_ hHeld ?_
        rotate_left
        · intro w hSw; go_simp; all_goals with_reducible rfl
        try simp only [Act.put, List.setIfInBounds_toArray, List.set_cons_zero, List.set_cons_succ]
        refine take_in (i := 16) (v := ?_) rfl (by kernel_rfl) (fun _ _ _ h => h) rfl ?_ hHeld ?_
        rotate_left
        · intro w hSw; go_simp; all_goals with_reducible rfl
        try simp only [Act.put, List.setIfInBounds_toArray, List.set_cons_zero, List.set_cons_succ]
        refine wpAnyH_done (by kernel_rfl) ?_ _
        go_wp2_with fail
        go_ret
        exact ⟨_, rfl, by simp only [ByteArray.size_append, ByteArray.size_extract]; omega, k5.below_of HB1.out (Nat.le_refl _)⟩
    · go_simp
      go_at_call 35
      refine (pick_any w5.drew w.heap.size _ _ (by decide) k0.1).mono ?_
      rintro e x7 ⟨v5, rfl, ⟨v5a, v5b, -⟩, kp⟩
      have v5b := v5b (by decide)
      have k7 := k0.picked kp
      clear kp
      refine hK.out _ x7 trivial (fun hHeld => ?_)
      clear hK K
      try simp only [Act.put, List.setIfInBounds_toArray, List.set_cons_zero, List.set_cons_succ]
      obtain ⟨n5, rfl⟩ : ∃ n : Nat, v5 = n := ⟨v5.toNat, by omega⟩
      have n5l : n5 < 7 := by omega
      have v5c : (n5 : Int) < 7 := by omega
      refine ready_two (i := 3) (j := 12) rfl rfl (by kernel_rfl) (fun K hK => ?_) (fun K hK => ?_)
      · go_simp
        have k8 := k7.alloc (.cells #[.string ⟨#[]⟩, .string ⟨#[42]⟩, .string ⟨#[64]⟩, .string ⟨#[45]⟩, .string ⟨#[48]⟩, .string ⟨#[40]⟩, .string ⟨#[57]⟩] 9)
        have b8 : Blk (x7.alloc (.cells #[.string ⟨#[]⟩, .string ⟨#[42]⟩, .string ⟨#[64]⟩, .string ⟨#[45]⟩, .string ⟨#[48]⟩, .string ⟨#[40]⟩, .string ⟨#[57]⟩] 9)) x7.heap.size 9 #[.string ⟨#[]⟩, .string ⟨#[42]⟩, .string ⟨#[64]⟩, .string ⟨#[45]⟩, .string ⟨#[48]⟩, .string ⟨#[40]⟩, .string ⟨#[57]⟩] := heap_alloc_new x7 _
        have n8 : x7.heap.size ≠ w.heap.size := by have h1 : w1.heap.size ≤ x7.heap.size := k7.size; have h2 := k7.2.2; omega
        refine hK.out _ (x7.alloc (.cells #[.string ⟨#[]⟩, .string ⟨#[42]⟩, .string ⟨#[64]⟩, .string ⟨#[45]⟩, .string ⟨#[48]⟩, .string ⟨#[40]⟩, .string ⟨#[57]⟩] 9)) trivial (fun hHeld => ?_)
        clear hK K
        try simp only [Act.put, List.setIfInBounds_toArray, List.set_cons_zero, List.set_cons_succ]
        refine take_in (i := 6) (v := ?_) rfl (by kernel_rfl) (fun _ _ _ h => h) rfl ?_ hHeld ?_
        rotate_left
        · intro w hSw; go_simp; all_goals with_reducible rfl
        try simp only [Act.put, List.setIfInBounds_toArray, List.set_cons_zero, List.set_cons_succ]
        refine ready_two (i := 7) (j := 12) rfl rfl (by kernel_rfl) (fun K hK => ?_) (fun K hK => ?_)
        · obtain ⟨Y, hy, hY⟩ := seven_at n5l
          have hcy : (x7.alloc (.cells #[.string ⟨#[]⟩, .string ⟨#[42]⟩, .string ⟨#[64]⟩, .string ⟨#[45]⟩, .string ⟨#[48]⟩, .string ⟨#[40]⟩, .string ⟨#[57]⟩] 9)).cell? ⟨x7.heap.size, n5, none⟩ = some (.string Y) := by rw [Blk.cell b8]; exact hy
          go_simp
          clear hy hcy
          refine hK.out _ (x7.alloc (.cells #[.string ⟨#[]⟩, .string ⟨#[42]⟩, .string ⟨#[64]⟩, .string ⟨#[45]⟩, .string ⟨#[48]⟩, .string ⟨#[40]⟩, .string ⟨#[57]⟩] 9)) trivial (fun hHeld => ?_)
          clear hK K
          try simp only [Act.put, List.setIfInBounds_toArray, List.set_cons_zero, List.set_cons_succ]
          have hc1 : ¬ (9223372036854775807 < k + Y.size) := by omega
          refine take_in (i := 8) (v := ?_) rfl (by kernel_rfl) (fun _ _ _ h => h) rfl ?_ hHeld ?_
          rotate_left
          · intro w hSw; go_simp; all_goals with_reducible rfl
          try simp only [Act.put, List.setIfInBounds_toArray, List.set_cons_zero, List.set_cons_succ]
          refine ready_one (i := 12) rfl (by kernel_rfl) (fun K hK => ?_)
          go_simp
          go_at_call 35
          refine (pick_any (x7.alloc (.cells #[.string ⟨#[]⟩, .string ⟨#[42]⟩, .string ⟨#[64]⟩, .string ⟨#[45]⟩, .string ⟨#[48]⟩, .string ⟨#[40]⟩, .string ⟨#[57]⟩] 9)) w.heap.size _ _ (by decide) k8.1).mono ?_
          rintro e x10 ⟨v6, rfl, ⟨v6a, v6b, -⟩, kp⟩
          have v6b := v6b (by decide)
          have k10 := k8.picked kp
          have b10 := Blk.pk b8 kp n8
          clear kp
          refine hK.out _ x10 trivial (fun hHeld => ?_)
          clear hK K
          try simp only [Act.put, List.setIfInBounds_toArray, List.set_cons_zero, List.set_cons_succ]
          obtain ⟨z, hz⟩ : ∃ z : Nat, (k : Int) + v6 = z := ⟨((k : Int) + v6).toNat, by omega⟩
          have hwz : IntKind.i64.wrap ((k : Int) + v6) = (z : Int) := by rw [hz]; exact IntWalk.i64_in _ (by omega)
          have hzl : z ≤ S.size := by omega
          have hz0 : (0 : Int) ≤ (z : Int) := by omega
          have hzi : (z : Int) ≤ (S.size : Int) := by omega
          clear hz v6a v6b
          refine take_in (i := 13) (v := ?_) rfl (by kernel_rfl) (fun _ _ _ h => h) rfl ?_ hHeld ?_
          rotate_left
          · intro w hSw; go_simp; all_goals with_reducible rfl
          try simp only [Act.put, List.setIfInBounds_toArray, List.set_cons_zero, List.set_cons_succ]
          refine take_in (i := 14) (v := ?_) rfl (by kernel_rfl) (fun _ _ _ h => h) rfl ?_ hHeld ?_
          rotate_left
          · intro w hSw; go_simp; all_goals with_reducible rfl
          try simp only [Act.put, List.setIfInBounds_toArray, List.set_cons_zero, List.set_cons_succ]
          have hc2 : ¬ (9223372036854775807 < k + Y.size + (S.size - z)) := by omega
          refine take_in (i := 15) (v := ?_) rfl (by kernel_rfl) (fun _ _ _ h => h) rfl ?_ hHeld ?_
          rotate_left
          · intro w hSw; go_simp; all_goals with_reducible rfl
          try simp only [Act.put, List.setIfInBounds_toArray, List.set_cons_zero, List.set_cons_succ]
          refine take_in (i := 16) (v := ?_) rfl (by kernel_rfl) (fun _ _ _ h => h) rfl ?_ hHeld ?_
          rotate_left
          · intro w hSw; go_simp; all_goals with_reducible rfl
          try simp only [Act.put, List.setIfInBounds_toArray, List.set_cons_zero, List.set_cons_succ]
          refine wpAnyH_done (by kernel_rfl) ?_ _
          go_wp2_with fail
          go_ret
          exact ⟨_, rfl, by simp only [ByteArray.size_append, ByteArray.size_extract]; omega, k10.below_of HB1.out (Nat.le_refl _)⟩
        · go_simp
          go_at_call 35
          refine (pick_any (x7.alloc (.cells #[.string ⟨#[]⟩, .string ⟨#[42]⟩, .string ⟨#[64]⟩, .string ⟨#[45]⟩, .string ⟨#[48]⟩, .string ⟨#[40]⟩, .string ⟨#[57]⟩] 9)) w.heap.size _ _ (by decide) k8.1).mono ?_
          rintro e x11 ⟨v6, rfl, ⟨v6a, v6b, -⟩, kp⟩
          have v6b := v6b (by decide)
          have k11 := k8.picked kp
          have b11 := Blk.pk b8 kp n8
          clear kp
          refine hK.out _ x11 trivial (fun hHeld => ?_)
          clear hK K
          try simp only [Act.put, List.setIfInBounds_toArray, List.set_cons_zero, List.set_cons_succ]
          obtain ⟨z, hz⟩ : ∃ z : Nat, (k : Int) + v6 = z := ⟨((k : Int) + v6).toNat, by omega⟩
          have hwz : IntKind.i64.wrap ((k : Int) + v6) = (z : Int) := by rw [hz]; exact IntWalk.i64_in _ (by omega)
          have hzl : z ≤ S.size := by omega
          have hz0 : (0 : Int) ≤ (z : Int) := by omega
          have hzi : (z : Int) ≤ (S.size : Int) := by omega
          clear hz v6a v6b
          refine take_in (i := 13) (v := ?_) rfl (by kernel_rfl) (fun _ _ _ h => h) rfl ?_ hHeld ?_
          rotate_left
          · intro w hSw; go_simp; all_goals with_reducible rfl
          try simp only [Act.put, List.setIfInBounds_toArray, List.set_cons_zero, List.set_cons_succ]
          refine take_in (i := 14) (v := ?_) rfl (by kernel_rfl) (fun _ _ _ h => h) rfl ?_ hHeld ?_
          rotate_left
          · intro w hSw; go_simp; all_goals with_reducible rfl
          try simp only [Act.put, List.setIfInBounds_toArray, List.set_cons_zero, List.set_cons_succ]
          refine ready_one (i := 7) rfl (by kernel_rfl) (fun K hK => ?_)
          obtain ⟨Y, hy, hY⟩ := seven_at n5l
          have hcy : x11.cell? ⟨x7.heap.size, n5, none⟩ = some (.string Y) := by rw [Blk.cell b11]; exact hy
          go_simp
          clear hy hcy
          refine hK.out _ x11 trivial (fun hHeld => ?_)
          clear hK K
          try simp only [Act.put, List.setIfInBounds_toArray, List.set_cons_zero, List.set_cons_succ]
          have hc1 : ¬ (9223372036854775807 < k + Y.size) := by omega
          refine take_in (i := 8) (v := ?_) rfl (by kernel_rfl) (fun _ _ _ h => h) rfl ?_ hHeld ?_
          rotate_left
          · intro w hSw; go_simp; all_goals with_reducible rfl
          try simp only [Act.put, List.setIfInBounds_toArray, List.set_cons_zero, List.set_cons_succ]
          have hc2 : ¬ (9223372036854775807 < k + Y.size + (S.size - z)) := by omega
          refine take_in (i := 15) (v := ?_) rfl (by kernel_rfl) (fun _ _ _ h => h) rfl ?_ hHeld ?_
          rotate_left
          · intro w hSw; go_simp; all_goals with_reducible rfl
          try simp only [Act.put, List.setIfInBounds_toArray, List.set_cons_zero, List.set_cons_succ]
          refine take_in (i := 16) (v := ?_) rfl (by kernel_rfl) (fun _ _ _ h => h) rfl ?_ hHeld ?_
          rotate_left
          · intro w hSw; go_simp; all_goals with_reducible rfl
          try simp only [Act.put, List.setIfInBounds_toArray, List.set_cons_zero, List.set_cons_succ]
          refine wpAnyH_done (by kernel_rfl) ?_ _
          go_wp2_with fail
          go_ret
          exact ⟨_, rfl, by simp only [ByteArray.size_append, ByteArray.size_extract]; omega, k11.below_of HB1.out (Nat.le_refl _)⟩
      · go_simp
        go_at_call 35
        refine (pick_any x7 w.heap.size _ _ (by decide) k7.1).mono ?_
        rintro e x13 ⟨v6, rfl, ⟨v6a, v6b, -⟩, kp⟩
        have v6b := v6b (by decide)
        have k13 := k7.picked kp
        clear kp
        refine hK.out _ x13 trivial (fun hHeld => ?_)
        clear hK K
        try simp only [Act.put, List.setIfInBounds_toArray, List.set_cons_zero, List.set_cons_succ]
        obtain ⟨z, hz⟩ : ∃ z : Nat, (k : Int) + v6 = z := ⟨((k : Int) + v6).toNat, by omega⟩
        have hwz : IntKind.i64.wrap ((k : Int) + v6) = (z : Int) := by rw [hz]; exact IntWalk.i64_in _ (by omega)
        have hzl : z ≤ S.size := by omega
        have hz0 : (0 : Int) ≤ (z : Int) := by omega
        have hzi : (z : Int) ≤ (S.size : Int) := by omega
        clear hz v6a v6b
        refine take_in (i := 13) (v := ?_) rfl (by kernel_rfl) (fun _ _ _ h => h) rfl ?_ hHeld ?_
        rotate_left
        · intro w hSw; go_simp; all_goals with_reducible rfl
        try simp only [Act.put, List.setIfInBounds_toArray, List.set_cons_zero, List.set_cons_succ]
        refine take_in (i := 14) (v := ?_) rfl (by kernel_rfl) (fun _ _ _ h => h) rfl ?_ hHeld ?_
        rotate_left
        · intro w hSw; go_simp; all_goals with_reducible rfl
        try simp only [Act.put, List.setIfInBounds_toArray, List.set_cons_zero, List.set_cons_succ]
        refine ready_one (i := 3) rfl (by kernel_rfl) (fun K hK => ?_)
        go_simp
        have k14 := k13.alloc (.cells #[.string ⟨#[]⟩, .string ⟨#[42]⟩, .string ⟨#[64]⟩, .string ⟨#[45]⟩, .string ⟨#[48]⟩, .string ⟨#[40]⟩, .string ⟨#[57]⟩] 9)
        have b14 : Blk (x13.alloc (.cells #[.string ⟨#[]⟩, .string ⟨#[42]⟩, .string ⟨#[64]⟩, .string ⟨#[45]⟩, .string ⟨#[48]⟩, .string ⟨#[40]⟩, .string ⟨#[57]⟩] 9)) x13.heap.size 9 #[.string ⟨#[]⟩, .string ⟨#[42]⟩, .string ⟨#[64]⟩, .string ⟨#[45]⟩, .string ⟨#[48]⟩, .string ⟨#[40]⟩, .string ⟨#[57]⟩] := heap_alloc_new x13 _
        have n14 : x13.heap.size ≠ w.heap.size := by have h1 : w1.heap.size ≤ x13.heap.size := k13.size; have h2 := k13.2.2; omega
        refine hK.out _ (x13.alloc (.cells #[.string ⟨#[]⟩, .string ⟨#[42]⟩, .string ⟨#[64]⟩, .string ⟨#[45]⟩, .string ⟨#[48]⟩, .string ⟨#[40]⟩, .string ⟨#[57]⟩] 9)) trivial (fun hHeld => ?_)
        clear hK K
        try simp only [Act.put, List.setIfInBounds_toArray, List.set_cons_zero, List.set_cons_succ]
        refine take_in (i := 6) (v := ?_) rfl (by kernel_rfl) (fun _ _ _ h => h) rfl ?_ hHeld ?_
        rotate_left
        · intro w hSw; go_simp; all_goals with_reducible rfl
        try simp only [Act.put, List.setIfInBounds_toArray, List.set_cons_zero, List.set_cons_succ]
        refine ready_one (i := 7) rfl (by kernel_rfl) (fun K hK => ?_)
        obtain ⟨Y, hy, hY⟩ := seven_at n5l
        have hcy : (x13.alloc (.cells #[.string ⟨#[]⟩, .string ⟨#[42]⟩, .string ⟨#[64]⟩, .string ⟨#[45]⟩, .string ⟨#[48]⟩, .string ⟨#[40]⟩, .string ⟨#[57]⟩] 9)).cell? ⟨x13.heap.size, n5, none⟩ = some (.string Y) := by rw [Blk.cell b14]; exact hy
        go_simp
        clear hy hcy
        refine hK.out _ (x13.alloc (.cells #[.string ⟨#[]⟩, .string ⟨#[42]⟩, .string ⟨#[64]⟩, .string ⟨#[45]⟩, .string ⟨#[48]⟩, .string ⟨#[40]⟩, .string ⟨#[57]⟩] 9)) trivial (fun hHeld => ?_)
        clear hK K
        try simp only [Act.put, List.setIfInBounds_toArray, List.set_cons_zero, List.set_cons_succ]
        have hc1 : ¬ (9223372036854775807 < k + Y.size) := by omega
        refine take_in (i := 8) (v := ?_) rfl (by kernel_rfl) (fun _ _ _ h => h) rfl ?_ hHeld ?_
        rotate_left
        · intro w hSw; go_simp; all_goals with_reducible rfl
        try simp only [Act.put, List.setIfInBounds_toArray, List.set_cons_zero, List.set_cons_succ]
        have hc2 : ¬ (9223372036854775807 < k + Y.size + (S.size - z)) := by omega
        refine take_in (i := 15) (v := ?_) rfl (by kernel_rfl) (fun _ _ _ h => h) rfl ?_ hHeld ?_
        rotate_left
        · intro w hSw; go_simp; all_goals with_reducible rfl
        try simp only [Act.put, List.setIfInBounds_toArray, List.set_cons_zero, List.set_cons_succ]
        refine take_in (i := 16) (v := ?_) rfl (by kernel_rfl) (fun _ _ _ h => h) rfl ?_ hHeld ?_
        rotate_left
        · intro w hSw; go_simp; all_goals with_reducible rfl
        try simp only [Act.put, List.setIfInBounds_toArray, List.set_cons_zero, List.set_cons_succ]
        refine wpAnyH_done (by kernel_rfl) ?_ _
        go_wp2_with fail
        go_ret
        exact ⟨_, rfl, by simp only [ByteArray.size_append, ByteArray.size_extract]; omega, k14.below_of HB1.out (Nat.le_refl _)⟩
  · have hv' : (v1 == 0) = false := by rw [beq_eq_false_iff_ne]; exact hv
    go_wp2_with fail
    go_ret
    exact ⟨S, rfl, by omega, H4.out.below_of HB1.out (Nat.le_refl _)⟩

theorem rw_nil {S : ByteArray} (h : rwB S = false) : rwS S = 0 ∧ rwL S = [] ∧ rwP S = 0 := by
  have h1 : ∀ s T p, ¬ WReadsB (bs S) s T p := fun s T p hT => by rw [(rw_yes hT).1] at h; cases h
  exact (rw_no h1).2

theorem rw_back {l : List UInt8} (h : rwB ⟨l.toArray⟩ = true) : wgB (rwS ⟨l.toArray⟩) (rwL ⟨l.toArray⟩) (rwP ⟨l.toArray⟩) = true ∧ wgT (rwS ⟨l.toArray⟩) (rwL ⟨l.toArray⟩) (rwP ⟨l.toArray⟩) = l ∧ rwB ⟨(l ++ [48]).toArray⟩ = false := by
  obtain ⟨s, T, p, hT, e1, e2, e3⟩ := rw_tree h
  rw [e1, e2, e3]
  rw [bs_mk] at hT
  refine ⟨hT.ok.1, hT.ok.2, (rw_no fun s' T' p' hU => ?_).1⟩
  rw [bs_mk] at hU
  have h1 := hU.1
  rw [← hT.1, wtx, wtx] at h1
  have hs := (num_mem hT.2.1).1
  have hs' := (num_mem hU.2.1).1
  obtain ⟨-, h2⟩ := split_one hs' hs (h1.trans (by simp : num s ++ 42 :: (txtT T ++ 64 :: num p) ++ [48] = num s ++ 42 :: (txtT T ++ 64 :: (num p ++ [48]))))
  obtain ⟨-, h3⟩ := split_one (txt_mem (.inr rfl) T') (txt_mem (.inr rfl) T) h2
  have h4 := congrArg List.length h3
  rw [num_pos hU.2.2.1.1, num_pos hT.2.2.1.1] at h4
  simp at h4

set_option maxRecDepth 100000 in
set_option maxHeartbeats 16000000 in
theorem FnReadWager_walk (a0 : Option Addr) (len0 cap0 : Nat) (z0 : List Int) (w : World) (w0 : IsRowC .u8 w a0 len0 cap0 z0) (hnt : NTab w) (het : ETab w) :
    Calls Tryd.prog 4 #[.slice a0 len0 cap0] w fun e w' => e = .returned (.bool true) ∧ Below w.heap.size w w' := by
  have HNT := Lib.hid hnt
  have HET := Lib.hid het
  clear hnt het
  by_cases hlen : 1048576 < len0
  · clear w0
    go_enter Tryd.func4, Tryd.ntmps4
    go_wp2
    go_ret
    exact ⟨rfl, Below.refl _ _⟩
  · have hlen' : decide (1048576 < len0) = false := by simpa using hlen
    go_enter Tryd.func4, Tryd.ntmps4
    go_wp2_with fail
    refine (drawReadWager_any _ _ _ _ _ w0).mono ?_
    rintro e w1 ⟨S, rfl, hS, B1⟩
    clear hlen hlen' w0
    have HB1 := Lib.hid B1
    have HS : Hid (S.size ≤ 2000000) := Lib.hid (by omega)
    clear B1
    obtain ⟨b, hb⟩ : ∃ b, rwB S = b := ⟨_, rfl⟩
    obtain ⟨s, hs⟩ : ∃ s, rwS S = s := ⟨_, rfl⟩
    obtain ⟨t, ht⟩ : ∃ t, rwL S = t := ⟨_, rfl⟩
    obtain ⟨p, hp⟩ : ∃ p, rwP S = p := ⟨_, rfl⟩
    obtain ⟨l, hl⟩ : ∃ l, bs S = l := ⟨_, rfl⟩
    have hSl : S = ⟨l.toArray⟩ := by rw [← hl]; apply ByteArray.ext; simp [bs]
    have hll : l.length ≤ 1000 := by rw [← hl, bs_len]; exact hS
    subst hSl
    have HE := Lib.hid (And.intro hb (And.intro hs (And.intro ht hp)))
    clear hS hl hb hs ht hp
    go_upto_region 4 with fail
    go_wp2_with fail
    refine (implReadWager_any _ HS.out w1 (HNT.out.below HB1.out) (HET.out.below HB1.out)).mono ?_
    rintro e w2 ⟨v2, rfl, o2, b2⟩
    rw [HE.out.1, HE.out.2.1, HE.out.2.2.2]
    rw [HE.out.2.2.1] at o2
    obtain ⟨A2, n2, c2, rfl⟩ := mform o2
    have hn2 : n2 = t.length := by
      obtain ⟨A, cp, e, -, -⟩ := (GOwn.rd qC_len o2).form
      injection e
    subst hn2
    obtain ⟨w3, hw3⟩ : ∃ w3, w2.alloc (.cells #[.int .i64 s, .slice A2 t.length c2, .int .i64 p] 25) = w3 := ⟨_, rfl⟩
    have K3 : Hid (WK w w2.heap.size s (.slice A2 t.length c2) p t w3) := Lib.hid (by rw [← hw3]; exact ⟨(below_step HB1.out b2 HB1.out.size).alloc (below_step HB1.out b2 HB1.out.size).size _, heap_alloc_new w2 _, (GOwn.base o2 HB1.out.size).keep (SameAt.of_below ((Below.refl _ w2).alloc (Nat.le_refl _) _))⟩)
    have HW3 := Lib.hid hw3
    clear o2 b2 hw3
    go_upto_region 5 with fail
    rw [HW3.out]
    go_wp2_with fail
    refine (specReadWager_any _ HS.out w3).mono ?_
    rintro e w4 ⟨v4, rfl, o4, b4⟩
    rw [HE.out.1, HE.out.2.1, HE.out.2.2.2]
    rw [HE.out.2.2.1] at o4
    obtain ⟨A4, n4, c4, rfl⟩ := mform o4
    obtain ⟨w5, hw5⟩ : ∃ w5, w4.alloc (.cells #[.int .i64 s, .slice A4 n4 c4, .int .i64 p] 25) = w5 := ⟨_, rfl⟩
    have K5 : Hid (WK w w2.heap.size s (.slice A2 t.length c2) p t w5 ∧ Blk w5 w4.heap.size 25 #[.int .i64 s, .slice A4 n4 c4, .int .i64 p] ∧ MOwn w5 w3.heap.size (.slice A4 n4 c4) t) := Lib.hid (by rw [← hw5]; exact ⟨(K3.out.below b4).alloc _, heap_alloc_new w4 _, GOwn.keep o4 (SameAt.of_below ((Below.refl _ w4).alloc (Nat.le_refl _) _))⟩)
    have HW5 := Lib.hid hw5
    clear o4 b4 hw5 K3
    go_upto_region 6 with fail
    rw [HW5.out]
    obtain ⟨⟨m0, m1, m2⟩, -⟩ := three_cells K5.out.1.2.1
    obtain ⟨⟨y0, y1, y2⟩, -⟩ := three_cells K5.out.2.1
    cases b
    · obtain ⟨z1, z2, z3⟩ := rw_nil HE.out.1
      have e1 : s = 0 := by rw [← HE.out.2.1]; exact z1
      have e2 : t = [] := by rw [← HE.out.2.2.1]; exact z2
      have e3 : p = 0 := by rw [← HE.out.2.2.2]; exact z3
      subst e1 e2 e3
      clear z1 z2 z3
      go_wp2_with fail
      refine (sameMarks_any w5 _ _ [] [] (K5.out.1.2.2.rd qC_len) (K5.out.2.2.rd qC_len)).mono ?_
      rintro e w6 ⟨rfl, b6⟩
      rw [show decide (([] : List Qt) = []) = true from by simp]
      have K6 := Lib.hid (K5.out.1.below b6)
      clear b6 m0 m1 m2 y0 y1 y2
      obtain ⟨⟨m0, m1, m2⟩, -⟩ := three_cells K6.out.2.1
      go_wp2_with fail
      refine (alive_any _).mono ?_
      rintro e w' ⟨rfl, rfl⟩
      go_wp2_with fail
      go_ret
      exact ⟨rfl, K6.out.1⟩
    · obtain ⟨x1, x2, x3⟩ := rw_back HE.out.1
      rw [HE.out.2.1, HE.out.2.2.1, HE.out.2.2.2] at x1 x2
      have X1 := Lib.hid x1
      have X2 := Lib.hid x2
      have X3 := Lib.hid x3
      obtain ⟨l2, hl2⟩ : ∃ l2, l ++ [48] = l2 := ⟨_, rfl⟩
      have h1 : ∀ w : World, (Op.stringOp .add ⟨l.toArray⟩ ⟨[48].toArray⟩).run Tryd.prog w = .ok (.string ⟨l2.toArray⟩) w := fun w => by rw [← hl2]; exact add_txt l [48] (by simp; omega) w
      have HS2 : Hid ((⟨l2.toArray⟩ : ByteArray).size ≤ 2000000) := Lib.hid (by show l2.toArray.size ≤ 2000000; rw [List.size_toArray, ← hl2, List.length_append, List.length_singleton]; omega)
      have HL2 := Lib.hid hl2
      clear x1 x2 x3 hll hl2
      go_wp2_with fail
      refine (sameMarks_any w5 _ _ t t (K5.out.1.2.2.rd qC_len) (K5.out.2.2.rd qC_len)).mono ?_
      rintro e w6 ⟨rfl, b6⟩
      rw [show decide (t = t) = true from by simp]
      have K6 := Lib.hid (K5.out.1.below b6)
      clear b6 m0 m1 m2 y0 y1 y2
      go_wp2_with fail
      refine (implReadWager_any _ HS2.out w6 (HNT.out.below K6.out.1) (HET.out.below K6.out.1)).mono ?_
      rintro e w7 ⟨v7, rfl, o7, b7⟩
      obtain ⟨A7, n7, c7, rfl⟩ := mform o7
      rw [← HL2.out, X3.out]
      obtain ⟨s7, hs7⟩ : ∃ s7, rwS ⟨(l ++ [48]).toArray⟩ = s7 := ⟨_, rfl⟩
      obtain ⟨p7, hp7⟩ : ∃ p7, rwP ⟨(l ++ [48]).toArray⟩ = p7 := ⟨_, rfl⟩
      rw [hs7, hp7]
      clear hs7 hp7 h1
      obtain ⟨w8, hw8⟩ : ∃ w8, w7.alloc (.cells #[.int .i64 s7, .slice A7 n7 c7, .int .i64 p7] 25) = w8 := ⟨_, rfl⟩
      have K8 : Hid (WK w w2.heap.size s (.slice A2 t.length c2) p t w8) := Lib.hid (by rw [← hw8]; exact (K6.out.below b7).alloc _)
      have HW8 := Lib.hid hw8
      clear o7 b7 hw8
      go_upto_region 11 with fail
      rw [HW8.out]
      obtain ⟨⟨m0, m1, m2⟩, -⟩ := three_cells K8.out.2.1
      go_wp2_with fail
      refine (implWagerText_any w8 s _ t p (K8.out.2.2.rd qC_len) (HNT.out.below K8.out.1)).mono ?_
      rintro e w9 ⟨rfl, b9⟩
      rw [X2.out]
      have K9 := Lib.hid (K8.out.below b9)
      clear b9 m0 m1 m2
      obtain ⟨⟨m0, m1, m2⟩, -⟩ := three_cells K9.out.2.1
      go_wp2_with fail
      refine (implWagerOk_any w9 s _ t p (K9.out.2.2.rd qC_len)).mono ?_
      rintro e w10 ⟨rfl, b10⟩
      rw [X1.out]
      have K10 := Lib.hid (K9.out.below b10)
      clear b10 m0 m1 m2
      go_wp2_with fail
      go_ret
      exact ⟨rfl, K10.out.1⟩

end Go.Proofs.YtfdlfgokoponmaaDoor
