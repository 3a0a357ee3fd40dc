/- The program's WagerText, ReadWager. Conditions: a row that reads; texts of at most two million bytes; the tables of package strconv are laid. (gen_zpd.py) -/
import Derived.Test.YtfdlfgokoponmaaDoorZpc
namespace Go.Proofs.YtfdlfgokoponmaaDoor
open Go.RowKit
set_option linter.unusedVariables false
set_option linter.unusedSimpArgs false

set_option maxRecDepth 100000 in
set_option maxHeartbeats 8000000 in
theorem implWagerText_any (w : World) (s : Int) (v : Value) (t : List Mk) (p : Int) (hv : QRd w v t) (ht : NTab w) :
    Calls Tryd.prog 8 #[.agg #[.int .i64 s, v, .int .i64 p]] w (TxtPost (wgT s t p) w) := by
  obtain ⟨A, c, rfl, hl, hm⟩ := hv.form
  have HC := Lib.hid (wag_cells w s (.slice A t.length c) p)
  have HB : Hid (Below w.heap.size w (w.alloc (.cells #[.int .i64 s, .slice A t.length c, .int .i64 p] 25))) := Lib.hid ((Below.refl _ _).alloc (Nat.le_refl _) _)
  have HV : Hid (∀ wr, Below (w.alloc (.cells #[.int .i64 s, .slice A t.length c, .int .i64 p] 25)).heap.size (w.alloc (.cells #[.int .i64 s, .slice A t.length c, .int .i64 p] 25)) wr → QRd wr (.slice A t.length c) t) := Lib.hid (fun wr hb => (GRd.keep hv (SameAt.of_below ((Below.refl _ w).alloc (Nat.le_refl _) _))).keep (SameAt.of_below hb))
  have HI0 : Hid (∀ wr, Below (w.alloc (.cells #[.int .i64 s, .slice A t.length c, .int .i64 p] 25)).heap.size (w.alloc (.cells #[.int .i64 s, .slice A t.length c, .int .i64 p] 25)) wr → NTab wr) := Lib.hid (fun wr hb => ht.below (below_step HB.out hb HB.out.size))
  clear hv hl hm ht
  obtain ⟨c0, c1, c2⟩ := HC.out _ (Below.refl _ _)
  rcases Bool.eq_false_or_eq_true (wgB s t p) with h | h
  · obtain ⟨hs9, ht, hp⟩ := (wgB_iff _ _ _).1 h
    have hp9 : -9 ≤ p ∧ p ≤ 9 := by omega
    obtain ⟨T, rfl, h40⟩ := tm_tree ht
    have htl := txt_len T
    have hti := txtI_tree h40
    have hwt : wgT s (encT T) p = num s ++ [42] ++ txtT T ++ [64] ++ num p := by rw [wgT_yes h, hti, wtx]; simp
    have hns := (num_mem hs9).2.2
    have hnp := (num_mem hp9).2.2
    have HTX := Lib.hid hti
    obtain ⟨X1, hX1⟩ : ∃ X, num s ++ [42] = X := ⟨_, rfl⟩
    obtain ⟨X2, hX2⟩ : ∃ X, X1 ++ txtT T = X := ⟨_, rfl⟩
    obtain ⟨X3, hX3⟩ : ∃ X, X2 ++ [64] = X := ⟨_, rfl⟩
    obtain ⟨X4, hX4⟩ : ∃ X, X3 ++ num p = X := ⟨_, rfl⟩
    have l1 : X1.length ≤ 10 := by rw [← hX1, List.length_append, List.length_cons, List.length_nil]; omega
    have l2 : X2.length ≤ 130 := by rw [← hX2, List.length_append]; omega
    have l3 : X3.length ≤ 131 := by rw [← hX3, List.length_append, List.length_cons, List.length_nil]; omega
    have h1 : ∀ w : World, (Op.stringOp .add ⟨(num s).toArray⟩ ⟨[42].toArray⟩).run Tryd.prog w = .ok (.string ⟨X1.toArray⟩) w := fun w => by rw [← hX1]; exact add_txt _ [42] (by simp; omega) w
    have h2 : ∀ w : World, (Op.stringOp .add ⟨X1.toArray⟩ ⟨(txtT T).toArray⟩).run Tryd.prog w = .ok (.string ⟨X2.toArray⟩) w := fun w => by rw [← hX2]; exact add_txt _ _ (by omega) w
    have h3 : ∀ w : World, (Op.stringOp .add ⟨X2.toArray⟩ ⟨[64].toArray⟩).run Tryd.prog w = .ok (.string ⟨X3.toArray⟩) w := fun w => by rw [← hX3]; exact add_txt _ [64] (by simp; omega) w
    have h4 : ∀ w : World, (Op.stringOp .add ⟨X3.toArray⟩ ⟨(num p).toArray⟩).run Tryd.prog w = .ok (.string ⟨X4.toArray⟩) w := fun w => by rw [← hX4]; exact add_txt _ _ (by omega) w
    have HW : Hid (wgT s (encT T) p = X4) := Lib.hid (by rw [hwt, ← hX4, ← hX3, ← hX2, ← hX1])
    clear hX1 hX2 hX3 hX4 l1 l2 l3
    clear ht htl hti hwt hns hnp h40
    go_enter Tryd.func8, Tryd.ntmps8
    go_wp2_with fail
    generalize w.alloc (.cells #[.int .i64 s, .slice A (encT T).length c, .int .i64 p] 25) = wb at HC HB HV HI0 c0 c1 c2 ⊢
    refine (implWagerOk_any wb s _ (encT T) p (HV.out _ (Below.refl _ _))).mono ?_
    rintro r w1 ⟨rfl, b1⟩
    rw [h]
    have HC1 : Hid (∀ wr, Below w1.heap.size w1 wr → wr.cell? ⟨w.heap.size, 0, none⟩ = some (.int .i64 s) ∧ wr.cell? ⟨w.heap.size, 1, none⟩ = some (.slice A (encT T).length c) ∧ wr.cell? ⟨w.heap.size, 2, none⟩ = some (.int .i64 p)) := Lib.hid (fun wr hb => HC.out wr (below_step b1 hb b1.size))
    have HV1 : Hid (∀ wr, Below w1.heap.size w1 wr → QRd wr (.slice A (encT T).length c) (encT T)) := Lib.hid (fun wr hb => HV.out wr (below_step b1 hb b1.size))
    have HI : Hid (∀ n : Int, -9 ≤ n ∧ n ≤ 9 → ∀ wr, Below w1.heap.size w1 wr → Calls Tryd.prog 23 #[.int .i64 n] wr (TxtPost (num n) wr)) := Lib.hid (fun n hn wr hb => by rw [← itoa_num hn]; exact itoa_any n (by omega) (by omega) wr (HI0.out wr (below_step b1 hb b1.size)))
    have HB1 := Lib.hid (below_step HB.out b1 HB.out.size)
    clear b1 HC HV HB h c0 c1 c2 HI0
    have HC := HC1
    have HV := HV1
    have HB := HB1
    clear HC1 HV1 HB1
    go_wp2_with fail
    have k0 : Below w1.heap.size w1 w1.drew := (Below.refl _ _).drew
    refine wp_region_held_drew (S := fun w' => Below w1.heap.size w1 w') (by kernel_rfl) k0 (fun hHeld => ?_)
    refine take_in (i := 0) (v := ?_) rfl (by kernel_rfl) (fun _ _ _ h => h) rfl ?_ hHeld ?_
    rotate_left
    · intro w' hSw; obtain ⟨d0, d1, d2⟩ := HC.out w' hSw; go_simp; all_goals with_reducible rfl
    try simp only [Act.put, List.setIfInBounds_toArray, List.set_cons_zero, List.set_cons_succ]
    refine take_in (i := 1) (v := ?_) rfl (by kernel_rfl) (fun _ _ _ h => h) rfl ?_ hHeld ?_
    rotate_left
    · intro w' hSw; obtain ⟨d0, d1, d2⟩ := HC.out w' hSw; go_simp; all_goals with_reducible rfl
    try simp only [Act.put, List.setIfInBounds_toArray, List.set_cons_zero, List.set_cons_succ]
    refine take_in (i := 4) (v := ?_) rfl (by kernel_rfl) (fun _ _ _ h => h) rfl ?_ hHeld ?_
    rotate_left
    · intro w' hSw; obtain ⟨d0, d1, d2⟩ := HC.out w' hSw; go_simp; all_goals with_reducible rfl
    try simp only [Act.put, List.setIfInBounds_toArray, List.set_cons_zero, List.set_cons_succ]
    refine take_in (i := 5) (v := ?_) rfl (by kernel_rfl) (fun _ _ _ h => h) rfl ?_ hHeld ?_
    rotate_left
    · intro w' hSw; obtain ⟨d0, d1, d2⟩ := HC.out w' hSw; go_simp; all_goals with_reducible rfl
    try simp only [Act.put, List.setIfInBounds_toArray, List.set_cons_zero, List.set_cons_succ]
    refine take_in (i := 9) (v := ?_) rfl (by kernel_rfl) (fun _ _ _ h => h) rfl ?_ hHeld ?_
    rotate_left
    · intro w' hSw; obtain ⟨d0, d1, d2⟩ := HC.out w' hSw; go_simp; all_goals with_reducible rfl
    try simp only [Act.put, List.setIfInBounds_toArray, List.set_cons_zero, List.set_cons_succ]
    refine take_in (i := 10) (v := ?_) rfl (by kernel_rfl) (fun _ _ _ h => h) rfl ?_ hHeld ?_
    rotate_left
    · intro w' hSw; obtain ⟨d0, d1, d2⟩ := HC.out w' hSw; go_simp; all_goals with_reducible rfl
    try simp only [Act.put, List.setIfInBounds_toArray, List.set_cons_zero, List.set_cons_succ]
    refine ready_one (i := 2) rfl (by kernel_rfl) (fun K hK => ?_)
    go_simp
    go_at_call 23
    refine ((HI.out s hs9 _ k0)).mono ?_
    rintro e x1 ⟨rfl, bx1⟩
    have kx1 := below_step k0 bx1 k0.size
    refine hK.out _ x1 (kx1) (fun hHeld => ?_)
    clear hK K
    try simp only [Act.put, List.setIfInBounds_toArray, List.set_cons_zero, List.set_cons_succ]
    clear bx1
    refine take_in (i := 3) (v := ?_) rfl (by kernel_rfl) (fun _ _ _ h => h) rfl ?_ hHeld ?_
    rotate_left
    · intro w' hSw; go_simp; all_goals with_reducible rfl
    try simp only [Act.put, List.setIfInBounds_toArray, List.set_cons_zero, List.set_cons_succ]
    refine ready_one (i := 6) rfl (by kernel_rfl) (fun K hK => ?_)
    go_simp
    go_at_call 24
    refine ((implTermText_any _ _ _ (HV.out _ kx1))).mono ?_
    rintro e x2 ⟨rfl, bx2⟩
    rw [HTX.out]
    have kx2 := below_step kx1 bx2 kx1.size
    refine hK.out _ x2 (kx2) (fun hHeld => ?_)
    clear hK K
    try simp only [Act.put, List.setIfInBounds_toArray, List.set_cons_zero, List.set_cons_succ]
    clear bx2
    refine take_in (i := 7) (v := ?_) rfl (by kernel_rfl) (fun _ _ _ h => h) rfl ?_ hHeld ?_
    rotate_left
    · intro w' hSw; go_simp; all_goals with_reducible rfl
    try simp only [Act.put, List.setIfInBounds_toArray, List.set_cons_zero, List.set_cons_succ]
    refine take_in (i := 8) (v := ?_) rfl (by kernel_rfl) (fun _ _ _ h => h) rfl ?_ hHeld ?_
    rotate_left
    · intro w' hSw; go_simp; all_goals with_reducible rfl
    try simp only [Act.put, List.setIfInBounds_toArray, List.set_cons_zero, List.set_cons_succ]
    refine ready_one (i := 11) rfl (by kernel_rfl) (fun K hK => ?_)
    go_simp
    go_at_call 23
    refine ((HI.out p hp9 _ kx2)).mono ?_
    rintro e x3 ⟨rfl, bx3⟩
    have kx3 := below_step kx2 bx3 kx2.size
    refine hK.out _ x3 (kx3) (fun hHeld => ?_)
    clear hK K
    try simp only [Act.put, List.setIfInBounds_toArray, List.set_cons_zero, List.set_cons_succ]
    clear bx3
    refine take_in (i := 12) (v := ?_) rfl (by kernel_rfl) (fun _ _ _ h => h) rfl ?_ hHeld ?_
    rotate_left
    · intro w' hSw; go_simp; all_goals with_reducible rfl
    try simp only [Act.put, List.setIfInBounds_toArray, List.set_cons_zero, List.set_cons_succ]
    refine take_in (i := 13) (v := ?_) rfl (by kernel_rfl) (fun _ _ _ h => h) rfl ?_ hHeld ?_
    rotate_left
    · intro w' hSw; go_simp; all_goals with_reducible rfl
    try simp only [Act.put, List.setIfInBounds_toArray, List.set_cons_zero, List.set_cons_succ]
    refine wpAnyH_done (by kernel_rfl) ?_ _
    have HB3 := Lib.hid (below_step HB.out kx3 HB.out.size)
    clear k0 kx1 kx2 kx3 hHeld
    go_wp2_with fail
    go_ret
    exact ⟨ret_txt HW.out.symm, HB3.out⟩
  · have HN := Lib.hid (wgT_no h)
    go_enter Tryd.func8, Tryd.ntmps8
    go_wp2_with fail
    refine (implWagerOk_any _ s _ t p (HV.out _ (Below.refl _ _))).mono ?_
    rintro r w1 ⟨rfl, b1⟩
    rw [h]
    have HB1 := Lib.hid (below_step HB.out b1 HB.out.size)
    clear b1
    go_wp2_with fail
    go_ret
    exact ⟨ret_txt HN.out.symm, HB1.out⟩

/-! what is read of a text that was cut -/

def Cut1 (c : UInt8) (S A B : ByteArray) (ok : Bool) : Prop := (ok = true ∧ c ∉ bs A ∧ bs S = bs A ++ c :: bs B) ∨ (ok = false ∧ c ∉ bs S ∧ B = ⟨#[]⟩)

theorem split_one {c : UInt8} {a a' b b' : List UInt8} (h : c ∉ a) (h' : c ∉ a') (e : a ++ c :: b = a' ++ c :: b') : a = a' ∧ b = b' := by
  induction a generalizing a' with
  | nil =>
    cases a' with
    | nil => exact ⟨rfl, (List.cons.inj e).2⟩
    | cons x a' => exact absurd (List.mem_cons.2 (.inl (List.cons.inj e).1)) h'
  | cons y a ih =>
    cases a' with
    | nil => exact absurd (List.mem_cons.2 (.inl (List.cons.inj e).1.symm)) h
    | cons x a' =>
      obtain ⟨e1, e2⟩ := List.cons.inj e
      obtain ⟨e3, e4⟩ := ih (fun hm => h (List.mem_cons_of_mem _ hm)) (fun hm => h' (List.mem_cons_of_mem _ hm)) e2
      exact ⟨by rw [e1, e3], e4⟩

theorem wr_parts {S A B C D : ByteArray} {k1 k2 : Bool} (f1 : Cut1 42 S A B k1) (f2 : Cut1 64 B C D k2) {s : Int} {T : Tm} {p : Int} (h : WReadsB (bs S) s T p) : bs A = num s ∧ bs C = txtT T ∧ bs D = num p := by
  have h1 := h.1
  rw [wtx] at h1
  have hs := (num_mem h.2.1).1
  rcases f1 with ⟨-, g1, g2⟩ | ⟨-, g1, -⟩
  · rw [g2] at h1
    obtain ⟨e1, e2⟩ := split_one hs g1 h1
    rcases f2 with ⟨-, g3, g4⟩ | ⟨-, g3, -⟩
    · rw [g4] at e2
      obtain ⟨e3, e4⟩ := split_one (txt_mem (.inr rfl) T) g3 e2
      exact ⟨e1.symm, e3.symm, e4.symm⟩
    · exact absurd (by rw [← e2]; simp) g3
  · exact absurd (by rw [← h1]; simp) g1

theorem cut_oks {S A B C D : ByteArray} {k1 k2 : Bool} (f1 : Cut1 42 S A B k1) (f2 : Cut1 64 B C D k2) (hD : bs D ≠ []) : bs S = bs A ++ 42 :: (bs C ++ 64 :: bs D) := by
  rcases f2 with ⟨-, -, g4⟩ | ⟨-, -, rfl⟩
  · rcases f1 with ⟨-, -, g2⟩ | ⟨-, -, rfl⟩
    · rw [g2, g4]
    · rw [show bs ⟨#[]⟩ = [] from rfl] at g4
      simp at g4
  · exact absurd rfl hD

/-- a number that is read: its value; when none is -/
def Num1 (S : ByteArray) (n : Int) (ok : Bool) : Prop := (ok = true ∧ Lib.itoa n = bs S ∧ Lib.atoiAll (bs S) = .ok n) ∨ (ok = false ∧ ∀ m : Int, -9 ≤ m ∧ m ≤ 9 → num m ≠ bs S)

theorem num1_is {S : ByteArray} {n m : Int} (h : Num1 S n true) (hm : -9 ≤ m ∧ m ≤ 9) (e : bs S = num m) : n = m := by
  rcases h with ⟨-, -, h⟩ | ⟨h, -⟩
  · rw [e, atoi_num hm] at h
    injection h with h
    exact h.symm
  · cases h

theorem num1_no {S : ByteArray} {n m : Int} (h : Num1 S n false) (hm : -9 ≤ m ∧ m ≤ 9) : bs S ≠ num m := by
  rcases h with ⟨h, -⟩ | ⟨-, h⟩
  · cases h
  · exact fun e => h m hm e.symm

theorem num1_ne {S : ByteArray} {n : Int} (h : Num1 S n true) : bs S ≠ [] := by
  rcases h with ⟨-, -, h⟩ | ⟨h, -⟩
  · intro e
    rw [e] at h
    cases h
  · cases h

theorem num1_txt {S : ByteArray} {n : Int} (h : Num1 S n true) (hn : -9 ≤ n ∧ n ≤ 9) : num n = bs S := by
  rcases h with ⟨-, h, -⟩ | ⟨h, -⟩
  · rw [← itoa_num hn]; exact h
  · cases h

theorem wr_yes {S A B C D : ByteArray} {k1 k2 : Bool} {n1 n2 : Int} (f1 : Cut1 42 S A B k1) (f2 : Cut1 64 B C D k2) (h1 : Num1 A n1 true) (h2 : rdB C = true) (h3 : Num1 D n2 true) (hw : wgB n1 (rdL C) n2 = true) : ∃ T, rdL C = encT T ∧ WReadsB (bs S) n1 T n2 := by
  obtain ⟨T, hT, e⟩ := rd_tree h2
  obtain ⟨hs, ht, hp⟩ := (wgB_iff _ _ _).1 hw
  refine ⟨T, e, ?_, hs, hp, hT.2.1⟩
  rw [cut_oks f1 f2 (num1_ne h3), wtx, num1_txt h1 hs, num1_txt h3 (by omega), hT.1]

theorem wr_not {S A B C D : ByteArray} {k1 k2 b1 b3 : Bool} {n1 n2 : Int} (f1 : Cut1 42 S A B k1) (f2 : Cut1 64 B C D k2) (h1 : Num1 A n1 b1) (h3 : Num1 D n2 b3) (hno : b1 = false ∨ rdB C = false ∨ b3 = false ∨ (b1 = true ∧ b3 = true ∧ wgB n1 (rdL C) n2 = false)) : ∀ s T p, ¬ WReadsB (bs S) s T p := by
  intro s T p h
  obtain ⟨e1, e2, e3⟩ := wr_parts f1 f2 h
  have hrd : ReadsB (bs C) T := by rw [e2]; exact reads_of h.2.2.2
  rcases hno with rfl | hb | rfl | ⟨rfl, rfl, hb⟩
  · exact num1_no h1 h.2.1 e1
  · rw [(rd_yes hrd).1] at hb; cases hb
  · exact num1_no h3 (by have := h.2.2.1; omega) e3
  · rw [num1_is h1 h.2.1 e1, num1_is h3 (by have := h.2.2.1; omega) e3, (rd_yes hrd).2, h.ok.1] at hb
    cases hb

theorem MOwn.set_far {w : World} {B g : Nat} {v : Value} {ms : List Mk} (h : MOwn w B v ms) (hg : g < B) (k : Nat) (u : Value) : MOwn (w.setCell ⟨g, k, none⟩ u) B v ms := by
  refine GOwn.keep h ⟨?_, fun b hb _ => Below.heap_setCell w ⟨g, k, none⟩ u b ?_⟩
  · simp [World.setCell]
  · have := (h.ge b hb).1
    show b ≠ g
    omega

theorem set_three {w : World} {g : Nat} {t : TypeId} {x y z : Value} (h : Blk w g t #[x, y, z]) (u v q : Value) :
    (((w.setCell ⟨g, 0, none⟩ u).setCell ⟨g, 1, none⟩ v).setCell ⟨g, 2, none⟩ q).cell? ⟨g, 0, none⟩ = some u ∧ (((w.setCell ⟨g, 0, none⟩ u).setCell ⟨g, 1, none⟩ v).setCell ⟨g, 2, none⟩ q).cell? ⟨g, 1, none⟩ = some v ∧ (((w.setCell ⟨g, 0, none⟩ u).setCell ⟨g, 1, none⟩ v).setCell ⟨g, 2, none⟩ q).cell? ⟨g, 2, none⟩ = some q := by
  have BB := ((h.set_ 0 u).set_ 1 v).set_ 2 q
  exact ⟨BB.cell 0, BB.cell 1, BB.cell 2⟩

theorem blk_three {w : World} {g : Nat} {t : TypeId} {x y z : Value} (h : Blk w g t #[x, y, z]) : (w.cell? ⟨g, 0, none⟩ = some x ∧ w.cell? ⟨g, 1, none⟩ = some y ∧ w.cell? ⟨g, 2, none⟩ = some z) ∧ w.frozen? ⟨g, 0, none⟩ = false ∧ w.frozen? ⟨g, 1, none⟩ = false ∧ w.frozen? ⟨g, 2, none⟩ = false :=
  ⟨⟨h.cell 0, h.cell 1, h.cell 2⟩, h.frozen 0, h.frozen 1, h.frozen 2⟩

set_option maxRecDepth 100000 in
set_option maxHeartbeats 8000000 in
theorem implReadWager_any (S : ByteArray) (hS : S.size ≤ 2000000) (w : World) (hn : NTab w) (he : ETab w) :
    Calls Tryd.prog 12 #[.string S] w (WRead S w) := by
  obtain ⟨w1, hw1⟩ : ∃ w1, w.alloc (.cells #[.int .i64 0, .slice none 0 0, .int .i64 0] 25) = w1 := ⟨_, rfl⟩
  have HB : Hid (Below w.heap.size w w1) := Lib.hid (by rw [← hw1]; exact (Below.refl _ _).alloc (Nat.le_refl _) _)
  have HK : Hid (∀ wr, Below w1.heap.size w1 wr → Blk wr w.heap.size 25 #[.int .i64 0, .slice none 0 0, .int .i64 0]) := Lib.hid (by rw [← hw1]; exact fun wr hb => (hb.block w.heap.size (by simp)).trans (heap_alloc_new w _))
  have HT : Hid (∀ wr, Below w1.heap.size w1 wr → NTab wr ∧ ETab wr) := Lib.hid (fun wr hb => ⟨hn.below (below_step HB.out hb HB.out.size), he.below (below_step HB.out hb HB.out.size)⟩)
  have HSZ : Hid (w.heap.size < w1.heap.size) := Lib.hid (by rw [← hw1]; simp)
  have HW1 := Lib.hid hw1
  clear hw1 hn he
  go_enter Tryd.func12, Tryd.ntmps12
  go_upto_region 1 with fail
  rw [HW1.out]
  go_wp2_with fail
  refine (cut_any 42 S hS _).mono ?_
  rintro e w2 ⟨A, B, k1, rfl, b2, lA, lB, f1⟩
  have f1 : Cut1 42 S A B k1 := f1
  have H2 := Lib.hid b2
  have HF1 := Lib.hid f1
  clear b2 f1
  go_wp2_with fail
  refine (cut_any 64 B (by omega) _).mono ?_
  rintro e w3 ⟨C, D, k2, rfl, b3, lC, lD, f2⟩
  have f2 : Cut1 64 B C D k2 := f2
  have H3 := Lib.hid (below_step H2.out b3 H2.out.size)
  have HF := Lib.hid (And.intro HF1.out f2)
  clear b3 f2 HF1 H2
  go_wp2_with fail
  refine (readNumber_any A (by omega) w3 (HT.out _ H3.out).1 (HT.out _ H3.out).2).mono ?_
  rintro e w4 ⟨n1, j1, rfl, b4, g1⟩
  have g1 : Num1 A n1 j1 := g1
  have H4 := Lib.hid (below_step H3.out b4 H3.out.size)
  have HG1 := Lib.hid g1
  clear b4 g1 H3
  go_wp2_with fail
  refine (implReadTerm_any C (by omega) w4).mono ?_
  rintro e w5 ⟨v, rfl, o5, b5⟩
  obtain ⟨A5, n5, c5, rfl⟩ := mform o5
  have H5 := Lib.hid (below_step H4.out b5 H4.out.size)
  have HO5 : Hid (MOwn w5 w1.heap.size (.slice A5 n5 c5) (rdL C)) := Lib.hid (o5.base H4.out.size)
  clear b5 o5 H4
  obtain ⟨j2, hj2⟩ : ∃ j2, rdB C = j2 := ⟨_, rfl⟩
  have HJ2 := Lib.hid hj2
  rw [hj2]
  clear hj2
  go_wp2_with fail
  refine (readNumber_any D (by omega) w5 (HT.out _ H5.out).1 (HT.out _ H5.out).2).mono ?_
  rintro e w6 ⟨n2, j3, rfl, b6, g2⟩
  have g2 : Num1 D n2 j3 := g2
  have H6 := Lib.hid (below_step H5.out b6 H5.out.size)
  have HO6 : Hid (MOwn w6 w1.heap.size (.slice A5 n5 c5) (rdL C)) := Lib.hid (HO5.out.keep (SameAt.of_below b6))
  have HN := Lib.hid (And.intro HG1.out g2)
  clear b6 g2 HG1 H5 HO5
  obtain ⟨w7, hw7⟩ : ∃ w7, w6.alloc (.cells #[.int .i64 n1, .slice A5 n5 c5, .int .i64 n2] 25) = w7 := ⟨_, rfl⟩
  have H7 : Hid (Below w1.heap.size w1 w7) := Lib.hid (by rw [← hw7]; exact H6.out.alloc H6.out.size _)
  have HO7 : Hid (MOwn w7 w1.heap.size (.slice A5 n5 c5) (rdL C)) := Lib.hid (by rw [← hw7]; exact HO6.out.keep (SameAt.of_below ((Below.refl _ w6).alloc (Nat.le_refl _) _)))
  have HK7 : Hid (∀ wr, Below w7.heap.size w7 wr → Blk wr w6.heap.size 25 #[.int .i64 n1, .slice A5 n5 c5, .int .i64 n2]) := Lib.hid (by rw [← hw7]; exact fun wr hb => (hb.block w6.heap.size (by simp)).trans (heap_alloc_new w6 _))
  have HW7 := Lib.hid hw7
  clear hw7
  go_upto_region 7 with fail
  rw [HW7.out]
  have HB7 := Lib.hid (below_step HB.out H7.out HB.out.size)
  cases j1
  · obtain ⟨⟨hz0, hz1, hz2⟩, hf0, hf1, hf2⟩ := blk_three (HK.out w7 H7.out)
    have HR := Lib.hid (set_three (HK.out w7 H7.out) (.int .i64 0) (.slice none 0 0) (.int .i64 0))
    go_wp2_with fail
    obtain ⟨hr0, hr1, hr2⟩ := HR.out
    refine bodyPost_ret (v := .tuple #[.agg #[.int .i64 0, .slice none 0 0, .int .i64 0], .bool false]) (by simp [results, Tryd.results12, go_sem, hr0, hr1, hr2]) rfl ?_
    exact wread_no (wr_not HF.out.1 HF.out.2 HN.out.1 HN.out.2 (.inl rfl)) (((HB7.out.setCell (Nat.le_refl _) _).setCell (Nat.le_refl _) _).setCell (Nat.le_refl _) _)
  · cases j2
    · obtain ⟨⟨hz0, hz1, hz2⟩, hf0, hf1, hf2⟩ := blk_three (HK.out w7 H7.out)
      have HR := Lib.hid (set_three (HK.out w7 H7.out) (.int .i64 0) (.slice none 0 0) (.int .i64 0))
      go_wp2_with fail
      obtain ⟨hr0, hr1, hr2⟩ := HR.out
      refine bodyPost_ret (v := .tuple #[.agg #[.int .i64 0, .slice none 0 0, .int .i64 0], .bool false]) (by simp [results, Tryd.results12, go_sem, hr0, hr1, hr2]) rfl ?_
      exact wread_no (wr_not HF.out.1 HF.out.2 HN.out.1 HN.out.2 (.inr (.inl HJ2.out))) (((HB7.out.setCell (Nat.le_refl _) _).setCell (Nat.le_refl _) _).setCell (Nat.le_refl _) _)
    · cases j3
      · obtain ⟨⟨hz0, hz1, hz2⟩, hf0, hf1, hf2⟩ := blk_three (HK.out w7 H7.out)
        have HR := Lib.hid (set_three (HK.out w7 H7.out) (.int .i64 0) (.slice none 0 0) (.int .i64 0))
        go_wp2_with fail
        obtain ⟨hr0, hr1, hr2⟩ := HR.out
        refine bodyPost_ret (v := .tuple #[.agg #[.int .i64 0, .slice none 0 0, .int .i64 0], .bool false]) (by simp [results, Tryd.results12, go_sem, hr0, hr1, hr2]) rfl ?_
        exact wread_no (wr_not HF.out.1 HF.out.2 HN.out.1 HN.out.2 (.inr (.inr (.inl rfl)))) (((HB7.out.setCell (Nat.le_refl _) _).setCell (Nat.le_refl _) _).setCell (Nat.le_refl _) _)
      · obtain ⟨⟨m0, m1, m2⟩, -⟩ := blk_three (HK7.out w7 (Below.refl _ _))
        go_wp2_with fail
        refine (implWagerOk_any w7 n1 _ (rdL C) n2 (HO7.out.rd qC_len)).mono ?_
        rintro e w8 ⟨rfl, b8⟩
        have H8 := Lib.hid (below_step H7.out b8 H7.out.size)
        have HB8 := Lib.hid (below_step HB7.out b8 HB7.out.size)
        have HK8 := Lib.hid (HK7.out w8 b8)
        have HO8 : Hid (MOwn w8 w1.heap.size (.slice A5 n5 c5) (rdL C)) := Lib.hid (HO7.out.keep (SameAt.of_below b8))
        clear b8 m0 m1 m2
        rcases Bool.eq_false_or_eq_true (wgB n1 (rdL C) n2) with hwg | hwg
        · have HWG := Lib.hid hwg
          rw [hwg]
          clear hwg
          obtain ⟨⟨m0, m1, m2⟩, -⟩ := blk_three HK8.out
          have HY := Lib.hid (wr_yes HF.out.1 HF.out.2 HN.out.1 HJ2.out HN.out.2 HWG.out)
          obtain ⟨⟨hz0, hz1, hz2⟩, hf0, hf1, hf2⟩ := blk_three (HK.out w8 H8.out)
          have HR := Lib.hid (set_three (HK.out w8 H8.out) (.int .i64 n1) (.slice A5 n5 c5) (.int .i64 n2))
          go_wp2_with fail
          obtain ⟨hr0, hr1, hr2⟩ := HR.out
          refine bodyPost_ret (v := .tuple #[.agg #[.int .i64 n1, .slice A5 n5 c5, .int .i64 n2], .bool true]) (by simp [results, Tryd.results12, go_sem, hr0, hr1, hr2]) rfl ?_
          obtain ⟨T, eT, hT⟩ := HY.out
          exact wread_yes hT (by rw [← eT]; exact (((HO8.out.set_far HSZ.out _ _).set_far HSZ.out _ _).set_far HSZ.out _ _).base HB.out.size) (((HB8.out.setCell (Nat.le_refl _) _).setCell (Nat.le_refl _) _).setCell (Nat.le_refl _) _)
        · have HWG := Lib.hid hwg
          rw [hwg]
          clear hwg
          obtain ⟨⟨hz0, hz1, hz2⟩, hf0, hf1, hf2⟩ := blk_three (HK.out w8 H8.out)
          have HR := Lib.hid (set_three (HK.out w8 H8.out) (.int .i64 0) (.slice none 0 0) (.int .i64 0))
          go_wp2_with fail
          obtain ⟨hr0, hr1, hr2⟩ := HR.out
          refine bodyPost_ret (v := .tuple #[.agg #[.int .i64 0, .slice none 0 0, .int .i64 0], .bool false]) (by simp [results, Tryd.results12, go_sem, hr0, hr1, hr2]) rfl ?_
          exact wread_no (wr_not HF.out.1 HF.out.2 HN.out.1 HN.out.2 (.inr (.inr (.inr ⟨rfl, rfl, HWG.out⟩)))) (((HB8.out.setCell (Nat.le_refl _) _).setCell (Nat.le_refl _) _).setCell (Nat.le_refl _) _)

end Go.Proofs.YtfdlfgokoponmaaDoor
