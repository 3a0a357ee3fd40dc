/- Contracts of spec's BringsIn and of the laws' sameBets. Conditions: rows that read as lists. -/
import Derived.Test.YtkanfolgppbklaaUd
import Derived.Test.YtkanfolgppbklaaUb
namespace Go.Proofs.Ytkanfolgppbklaa
open Go.RowKit
set_option linter.unusedVariables false

theorem box3 {W wr : World} {q : Bt} (h : Below (W.alloc (bBlk q)).heap.size (W.alloc (bBlk q)) wr) :
    wr.cell? ⟨W.heap.size, 0, none⟩ = some (.int .i64 q.1) ∧ wr.cell? ⟨W.heap.size, 1, none⟩ = some (.int .i64 q.2.1) ∧ wr.cell? ⟨W.heap.size, 2, none⟩ = some (.int .i64 q.2.2) := by
  have hb := h.block W.heap.size (by simp)
  have hn : (W.alloc (bBlk q)).heap[W.heap.size]? = some (bBlk q) := heap_alloc_new W _
  have hB : Blk wr W.heap.size 30 #[.int .i64 q.1, .int .i64 q.2.1, .int .i64 q.2.2] := hb.trans hn
  exact ⟨hB.cell 0, hB.cell 1, hB.cell 2⟩

theorem okBt_iff (b : Bt) : okBt b = true ↔ (0 ≤ b.1 ∧ b.1 ≤ 15) ∧ (0 ≤ b.2.1 ∧ b.2.1 ≤ 36) ∧ -9 ≤ b.2.2 ∧ b.2.2 ≤ 9 := by
  rw [okBt, Bool.and_eq_true, Bool.and_eq_true, evB_iff, inB_iff, inB_iff]
  have : allI 4 = 15 := by decide
  rw [this]
  omega

theorem mul_936 {s d : Int} (hs : -9 ≤ s ∧ s ≤ 9) (hd : -36 ≤ d ∧ d ≤ 36) : -324 ≤ s * d ∧ s * d ≤ 324 := by
  obtain ⟨s1, s2⟩ := hs
  have h1 : -9 * 36 ≤ s * d ∧ s * d ≤ 9 * 36 := by
    have : s = -9 ∨ s = -8 ∨ s = -7 ∨ s = -6 ∨ s = -5 ∨ s = -4 ∨ s = -3 ∨ s = -2 ∨ s = -1 ∨ s = 0 ∨ s = 1 ∨ s = 2 ∨ s = 3 ∨ s = 4 ∨ s = 5 ∨ s = 6 ∨ s = 7 ∨ s = 8 ∨ s = 9 := by omega
    rcases this with rfl | rfl | rfl | rfl | rfl | rfl | rfl | rfl | rfl | rfl | rfl | rfl | rfl | rfl | rfl | rfl | rfl | rfl | rfl <;> omega
  omega

theorem bet_bound {b : Bt} (h : okBt b = true) (k : Nat) : -324 ≤ betI k b ∧ betI k b ≤ 324 := by
  obtain ⟨-, h2, h3⟩ := (okBt_iff b).1 h
  exact mul_936 h3 (by rcases bitI_01 b.1 k with e | e <;> rw [e] <;> omega)

theorem bs_take {bs : List Bt} {j : Nat} {b : Bt} (h : bs[j]? = some b) (k : Nat) : bsI (bs.take (j + 1)) k = bsI (bs.take j) k + betI k b := by
  rw [List.take_add_one, h, bs_append]
  simp [bsI]

theorem bs_bound {bs : List Bt} (h : bs.all okBt = true) (k : Nat) : -(324 * (bs.length : Int)) ≤ bsI bs k ∧ bsI bs k ≤ 324 * (bs.length : Int) := by
  induction bs with
  | nil => simp [bsI]
  | cons b bs ih =>
    rw [List.all_cons, Bool.and_eq_true] at h
    have h1 := bet_bound h.1 k
    have h2 := ih h.2
    have h3 : bsI (b :: bs) k = betI k b + bsI bs k := rfl
    rw [h3, List.length_cons]
    push_cast
    omega

theorem okb_take {bs : List Bt} {k : Nat} {b : Bt} (hx : bs[k]? = some b) (h : okBt b = true) (ih : (bs.take k).all okBt = true) : (bs.take (k + 1)).all okBt = true := by
  rw [List.take_add_one, hx, List.all_append, ih]
  simp [h]

theorem okb_no {bs : List Bt} {k : Nat} {b : Bt} (hx : bs[k]? = some b) (h : okBt b = false) (w : Int) : bsB bs w = false := by
  have : bs.all okBt = false := by
    rw [← Bool.not_eq_true, List.all_eq_true]
    intro h2
    have := h2 b (List.mem_of_getElem? hx)
    rw [h] at this; cases this
  rw [bsB, this]; rfl

theorem bsN_no {bs : List Bt} {w : Int} (h : bsB bs w = false) : bsN bs w = 0 := by rw [bsN, h]; rfl

/-- events are at most 15: shifted however far -/
theorem shr_any {e : Int} (h0 : 0 ≤ e) (h1 : e ≤ 15) (W : Nat) : Op.shift .shr .i64 e .i64 (W : Int) = pure (.int .i64 (e / 2 ^ W)) := by
  by_cases h : (W : Int) ≤ 64
  · rw [shift_shr .i64 .i64 e (W : Int) (by omega) (by simpa [IntKind.bits] using h), Int.toNat_natCast]
  · unfold Op.shift
    have hm : min (W : Int).toNat IntKind.i64.bits = 64 := by
      rw [Int.toNat_natCast]
      show min W 64 = 64
      omega
    rw [if_neg (by omega), hm]
    have e1 : e.fdiv (2 ^ 64) = 0 := by rw [Int.fdiv_eq_ediv_of_nonneg _ (by decide)]; omega
    have e2 : e / 2 ^ W = 0 := by
      have h64 : (2 : Int) ^ 64 ≤ 2 ^ W := by
        have : 2 ^ 64 ≤ 2 ^ W := Nat.pow_le_pow_right (by decide) (by omega)
        exact_mod_cast this
      exact Int.ediv_eq_zero_of_lt h0 (by omega)
    simp only [e1, e2]

set_option maxRecDepth 100000 in
set_option maxHeartbeats 8000000 in
theorem specBringsIn_any (w0 : World) (w : Int) (v : Value) (bs : List Bt) (hv : BRd w0 v bs) (hn : bs.length ≤ 1048576) :
    Calls Try.prog 8 #[v, .int .i64 w] w0 (NumPost (bsN bs w) (bsB bs w) w0) := by
  obtain ⟨A, c, rfl, hl, hm⟩ := hv.form
  have HV : Hid (∀ wr, Below w0.heap.size w0 wr → BRd wr (.slice A bs.length c) bs) := Lib.hid (fun wr h => hv.keep (SameAt.of_below h))
  clear hv
  have hn' : (bs.length : Int) ≤ 1048576 := by omega
  go_enter Try.func8, Try.ntmps8
  go_wp2_with fail
  go_loopw [6, 7] (fun t i wr => ∃ (k : Nat) (n : Int), i = .int .i64 (k : Int) ∧ k ≤ bs.length ∧ t = .int .i64 n ∧ Hid (n = bsI (bs.take k) w.toNat) ∧ Hid ((bs.take k).all okBt = true) ∧ Hid (Below w0.heap.size w0 wr)) (fun _ i _ => bs.length - (intOf i).toNat)
  case atStart => exact ⟨0, 0, rfl, Nat.zero_le _, rfl, Lib.hid (by simp [bsI]), Lib.hid (by simp), Lib.hid (Below.refl _ _)⟩
  case round =>
    obtain ⟨k, n, rfl, hk, rfl, HN, HA, HB⟩ := hrel
    by_cases hlt : k < bs.length
    · obtain ⟨b, off, ⟨e, p, s⟩, rfl, -, hx, hc0, hc1, hc2⟩ := BRd.at_ (HV.out wr HB.out) hlt
      have HX := Lib.hid hx
      clear hx
      dsimp only at hc0 hc1 hc2
      obtain ⟨w6, hw6⟩ : ∃ w6, wr.alloc (.cells #[.int .i64 e, .int .i64 p, .int .i64 s] 30) = w6 := ⟨_, rfl⟩
      have hbx : w6.cell? ⟨wr.heap.size, 0, none⟩ = some (.int .i64 e) ∧ w6.cell? ⟨wr.heap.size, 1, none⟩ = some (.int .i64 p) ∧ w6.cell? ⟨wr.heap.size, 2, none⟩ = some (.int .i64 s) := by rw [← hw6]; exact box3 (W := wr) (q := (e, p, s)) (Below.refl _ _)
      obtain ⟨hb0, hb1, hb2⟩ := hbx
      have HB6 : Hid (Below w0.heap.size w0 w6) := Lib.hid (by rw [← hw6]; exact HB.out.alloc HB.out.size _)
      have HW6 := Lib.hid hw6
      clear hw6
      rcases Bool.eq_false_or_eq_true (evB 4 e) with h1 | h1
      · rcases Bool.eq_false_or_eq_true (inB p 0 36) with h2 | h2
        · rcases Bool.eq_false_or_eq_true (inB s (-9) 9) with h3 | h3
          · have HOK : Hid (okBt (e, p, s) = true) := Lib.hid (by rw [okBt, h1, h2, h3]; rfl)
            obtain ⟨⟨e1, e2⟩, ⟨p1, p2⟩, s1, s2⟩ : (0 ≤ e ∧ e ≤ 15) ∧ (0 ≤ p ∧ p ≤ 36) ∧ -9 ≤ s ∧ s ≤ 9 := (okBt_iff (e, p, s)).1 HOK.out
            obtain ⟨n1, n2⟩ : -(324 * (k : Int)) ≤ n ∧ n ≤ 324 * (k : Int) := by
              have := bs_bound HA.out w.toNat
              rw [← HN.out, List.length_take, Nat.min_eq_left hk] at this
              exact this
            have hk' : (k : Int) ≤ 1048576 := by omega
            by_cases hneg : w < 0
            · have HT : Hid (w.toNat = 0) := Lib.hid (by omega)
              rcases bitI_01 e 0 with hbi | hbi
              · have HBI : Hid (bitI e w.toNat = 0) := Lib.hid (by rw [HT.out]; exact hbi)
                have hb : e % 2 = 0 := by simpa [bitI] using hbi
                clear hbi
                go_wp2_with fail
                rw [HW6.out]
                refine (specEventOk_any _ _ _).mono ?_
                rintro r w' ⟨rfl, rfl⟩
                rw [h1]
                go_wp2_with fail
                refine (l1In_any _ _ _ _).mono ?_
                rintro r w' ⟨rfl, rfl⟩
                rw [h2]
                go_wp2_with fail
                refine (l1In_any _ _ _ _).mono ?_
                rintro r w' ⟨rfl, rfl⟩
                rw [h3]
                clear h1 h2 h3
                have hb : e % 2 = 0 := hb
                have hq1 : IntKind.i64.wrap (0 - p) = 0 - p := IntWalk.i64_in _ (by omega)
                obtain ⟨z1, z2⟩ := mul_936 (s := s) (d := 0 - p) ⟨s1, s2⟩ (by omega)
                have hq2 : IntKind.i64.wrap (s * (0 - p)) = s * (0 - p) := IntWalk.i64_in _ (by omega)
                have hq3 : IntKind.i64.wrap (n + s * (0 - p)) = n + s * (0 - p) := IntWalk.i64_in _ (by omega)
                have htm : e.tmod 2 = 0 := by rw [Int.tmod_eq_emod_of_nonneg (by omega)]; exact hb
                have hq0 : IntKind.i64.wrap (0 * 36) = 0 := IntWalk.i64_in _ (by omega)
                have hfin : Value.int .i64 (IntKind.i64.wrap (n + IntKind.i64.wrap (s * IntKind.i64.wrap (IntKind.i64.wrap (e.tmod 2 * 36) - p)))) = .int .i64 (n + s * (0 - p)) := by rw [htm, hq0, hq1, hq2, hq3]
                clear htm hq0 hq1 hq2 hq3
                have HFIN := Lib.hid hfin
                clear hfin
                have HBT : Hid (betI w.toNat (e, p, s) = s * (0 - p)) := Lib.hid (by show s * (bitI e w.toNat * 36 - p) = _; rw [HBI.out]; rfl)
                go_wp2_with fail
                refine wp_region_held_drew (S := fun w' => w'.cell? ⟨wr.heap.size, 0, none⟩ = some (.int .i64 e) ∧ w'.cell? ⟨wr.heap.size, 1, none⟩ = some (.int .i64 p) ∧ w'.cell? ⟨wr.heap.size, 2, none⟩ = some (.int .i64 s)) (by kernel_rfl) (⟨hb0, hb1, hb2⟩) (fun hHeld => ?_)
                refine take_in (i := 0) (v := ?_) rfl (by kernel_rfl) (fun _ _ _ h => h) rfl ?_ hHeld ?_
                rotate_left
                · intro w hSw; go_simp; all_goals with_reducible rfl
                try simp only [Act.put, List.setIfInBounds_toArray, List.set_cons_zero, List.set_cons_succ]
                refine take_in (i := 1) (v := ?_) rfl (by kernel_rfl) (fun _ _ _ h => h) rfl ?_ hHeld ?_
                rotate_left
                · intro w hSw; go_simp; all_goals with_reducible rfl
                try simp only [Act.put, List.setIfInBounds_toArray, List.set_cons_zero, List.set_cons_succ]
                refine take_in (i := 2) (v := ?_) rfl (by kernel_rfl) (fun _ _ _ h => h) rfl ?_ hHeld ?_
                rotate_left
                · intro w hSw; obtain ⟨h1, h2, h3⟩ := hSw; go_simp; all_goals with_reducible rfl
                try simp only [Act.put, List.setIfInBounds_toArray, List.set_cons_zero, List.set_cons_succ]
                refine take_in (i := 3) (v := ?_) rfl (by kernel_rfl) (fun _ _ _ h => h) rfl ?_ hHeld ?_
                rotate_left
                · intro w hSw; go_simp; all_goals with_reducible rfl
                try simp only [Act.put, List.setIfInBounds_toArray, List.set_cons_zero, List.set_cons_succ]
                refine take_in (i := 4) (v := ?_) rfl (by kernel_rfl) (fun _ _ _ h => h) rfl ?_ hHeld ?_
                rotate_left
                · intro w hSw; obtain ⟨h1, h2, h3⟩ := hSw; go_simp; all_goals with_reducible rfl
                try simp only [Act.put, List.setIfInBounds_toArray, List.set_cons_zero, List.set_cons_succ]
                refine take_in (i := 5) (v := ?_) rfl (by kernel_rfl) (fun _ _ _ h => h) rfl ?_ hHeld ?_
                rotate_left
                · intro w hSw; go_simp; all_goals with_reducible rfl
                try simp only [Act.put, List.setIfInBounds_toArray, List.set_cons_zero, List.set_cons_succ]
                refine take_in (i := 6) (v := ?_) rfl (by kernel_rfl) (fun _ _ _ h => h) rfl ?_ hHeld ?_
                rotate_left
                · intro w hSw; go_simp; all_goals with_reducible rfl
                try simp only [Act.put, List.setIfInBounds_toArray, List.set_cons_zero, List.set_cons_succ]
                refine take_in (i := 7) (v := ?_) rfl (by kernel_rfl) (fun _ _ _ h => h) rfl ?_ hHeld ?_
                rotate_left
                · intro w hSw; go_simp; all_goals with_reducible rfl
                try simp only [Act.put, List.setIfInBounds_toArray, List.set_cons_zero, List.set_cons_succ]
                refine take_in (i := 8) (v := ?_) rfl (by kernel_rfl) (fun _ _ _ h => h) rfl ?_ hHeld ?_
                rotate_left
                · intro w hSw; go_simp; all_goals with_reducible rfl
                try simp only [Act.put, List.setIfInBounds_toArray, List.set_cons_zero, List.set_cons_succ]
                refine take_in (i := 9) (v := ?_) rfl (by kernel_rfl) (fun _ _ _ h => h) rfl ?_ hHeld ?_
                rotate_left
                · intro w hSw; go_simp; all_goals with_reducible rfl
                try simp only [Act.put, List.setIfInBounds_toArray, List.set_cons_zero, List.set_cons_succ]
                refine take_in (i := 10) (v := ?_) rfl (by kernel_rfl) (fun _ _ _ h => h) rfl ?_ hHeld ?_
                rotate_left
                · intro w hSw; go_simp; all_goals with_reducible rfl
                try simp only [Act.put, List.setIfInBounds_toArray, List.set_cons_zero, List.set_cons_succ]
                refine take_in (i := 11) (v := ?_) rfl (by kernel_rfl) (fun _ _ _ h => h) rfl ?_ hHeld ?_
                rotate_left
                · intro w hSw; obtain ⟨h1, h2, h3⟩ := hSw; go_simp; all_goals with_reducible rfl
                try simp only [Act.put, List.setIfInBounds_toArray, List.set_cons_zero, List.set_cons_succ]
                refine take_in (i := 12) (v := ?_) rfl (by kernel_rfl) (fun _ _ _ h => h) rfl ?_ hHeld ?_
                rotate_left
                · intro w hSw; go_simp; all_goals with_reducible rfl
                try simp only [Act.put, List.setIfInBounds_toArray, List.set_cons_zero, List.set_cons_succ]
                refine take_in (i := 13) (v := ?_) rfl (by kernel_rfl) (fun _ _ _ h => h) rfl ?_ hHeld ?_
                rotate_left
                · intro w hSw; go_simp; all_goals with_reducible rfl
                try simp only [Act.put, List.setIfInBounds_toArray, List.set_cons_zero, List.set_cons_succ]
                refine take_in (i := 14) (v := ?_) rfl (by kernel_rfl) (fun _ _ _ h => h) rfl ?_ hHeld ?_
                rotate_left
                · intro w hSw; go_simp; all_goals with_reducible rfl
                try simp only [Act.put, List.setIfInBounds_toArray, List.set_cons_zero, List.set_cons_succ]
                refine take_in (i := 15) (v := ?_) rfl (by kernel_rfl) (fun _ _ _ h => h) rfl ?_ hHeld ?_
                rotate_left
                · intro w hSw; go_simp; all_goals with_reducible rfl
                try simp only [Act.put, List.setIfInBounds_toArray, List.set_cons_zero, List.set_cons_succ]
                refine wpAnyH_done (by kernel_rfl) ?_ _
                clear hb0 hb1 hb2 hc0 hc1 hc2
                go_wp2_with fail
                go_roundw
                case rel => exact ⟨k + 1, n + s * (0 - p), by go_num, by omega, HFIN.out, Lib.hid (by rw [bs_take HX.out, ← HN.out, HBT.out]), Lib.hid (okb_take HX.out HOK.out HA.out), Lib.hid HB6.out.drew⟩
                case measure => simp [intOf]; omega
              · have HBI : Hid (bitI e w.toNat = 1) := Lib.hid (by rw [HT.out]; exact hbi)
                have hb : e % 2 = 1 := by simpa [bitI] using hbi
                clear hbi
                go_wp2_with fail
                rw [HW6.out]
                refine (specEventOk_any _ _ _).mono ?_
                rintro r w' ⟨rfl, rfl⟩
                rw [h1]
                go_wp2_with fail
                refine (l1In_any _ _ _ _).mono ?_
                rintro r w' ⟨rfl, rfl⟩
                rw [h2]
                go_wp2_with fail
                refine (l1In_any _ _ _ _).mono ?_
                rintro r w' ⟨rfl, rfl⟩
                rw [h3]
                clear h1 h2 h3
                have hb : e % 2 = 1 := hb
                have hq1 : IntKind.i64.wrap (36 - p) = 36 - p := IntWalk.i64_in _ (by omega)
                obtain ⟨z1, z2⟩ := mul_936 (s := s) (d := 36 - p) ⟨s1, s2⟩ (by omega)
                have hq2 : IntKind.i64.wrap (s * (36 - p)) = s * (36 - p) := IntWalk.i64_in _ (by omega)
                have hq3 : IntKind.i64.wrap (n + s * (36 - p)) = n + s * (36 - p) := IntWalk.i64_in _ (by omega)
                have htm : e.tmod 2 = 1 := by rw [Int.tmod_eq_emod_of_nonneg (by omega)]; exact hb
                have hq0 : IntKind.i64.wrap (1 * 36) = 36 := IntWalk.i64_in _ (by omega)
                have hfin : Value.int .i64 (IntKind.i64.wrap (n + IntKind.i64.wrap (s * IntKind.i64.wrap (IntKind.i64.wrap (e.tmod 2 * 36) - p)))) = .int .i64 (n + s * (36 - p)) := by rw [htm, hq0, hq1, hq2, hq3]
                clear htm hq0 hq1 hq2 hq3
                have HFIN := Lib.hid hfin
                clear hfin
                have HBT : Hid (betI w.toNat (e, p, s) = s * (36 - p)) := Lib.hid (by show s * (bitI e w.toNat * 36 - p) = _; rw [HBI.out]; rfl)
                go_wp2_with fail
                refine wp_region_held_drew (S := fun w' => w'.cell? ⟨wr.heap.size, 0, none⟩ = some (.int .i64 e) ∧ w'.cell? ⟨wr.heap.size, 1, none⟩ = some (.int .i64 p) ∧ w'.cell? ⟨wr.heap.size, 2, none⟩ = some (.int .i64 s)) (by kernel_rfl) (⟨hb0, hb1, hb2⟩) (fun hHeld => ?_)
                refine take_in (i := 0) (v := ?_) rfl (by kernel_rfl) (fun _ _ _ h => h) rfl ?_ hHeld ?_
                rotate_left
                · intro w hSw; go_simp; all_goals with_reducible rfl
                try simp only [Act.put, List.setIfInBounds_toArray, List.set_cons_zero, List.set_cons_succ]
                refine take_in (i := 1) (v := ?_) rfl (by kernel_rfl) (fun _ _ _ h => h) rfl ?_ hHeld ?_
                rotate_left
                · intro w hSw; go_simp; all_goals with_reducible rfl
                try simp only [Act.put, List.setIfInBounds_toArray, List.set_cons_zero, List.set_cons_succ]
                refine take_in (i := 2) (v := ?_) rfl (by kernel_rfl) (fun _ _ _ h => h) rfl ?_ hHeld ?_
                rotate_left
                · intro w hSw; obtain ⟨h1, h2, h3⟩ := hSw; go_simp; all_goals with_reducible rfl
                try simp only [Act.put, List.setIfInBounds_toArray, List.set_cons_zero, List.set_cons_succ]
                refine take_in (i := 3) (v := ?_) rfl (by kernel_rfl) (fun _ _ _ h => h) rfl ?_ hHeld ?_
                rotate_left
                · intro w hSw; go_simp; all_goals with_reducible rfl
                try simp only [Act.put, List.setIfInBounds_toArray, List.set_cons_zero, List.set_cons_succ]
                refine take_in (i := 4) (v := ?_) rfl (by kernel_rfl) (fun _ _ _ h => h) rfl ?_ hHeld ?_
                rotate_left
                · intro w hSw; obtain ⟨h1, h2, h3⟩ := hSw; go_simp; all_goals with_reducible rfl
                try simp only [Act.put, List.setIfInBounds_toArray, List.set_cons_zero, List.set_cons_succ]
                refine take_in (i := 5) (v := ?_) rfl (by kernel_rfl) (fun _ _ _ h => h) rfl ?_ hHeld ?_
                rotate_left
                · intro w hSw; go_simp; all_goals with_reducible rfl
                try simp only [Act.put, List.setIfInBounds_toArray, List.set_cons_zero, List.set_cons_succ]
                refine take_in (i := 6) (v := ?_) rfl (by kernel_rfl) (fun _ _ _ h => h) rfl ?_ hHeld ?_
                rotate_left
                · intro w hSw; go_simp; all_goals with_reducible rfl
                try simp only [Act.put, List.setIfInBounds_toArray, List.set_cons_zero, List.set_cons_succ]
                refine take_in (i := 7) (v := ?_) rfl (by kernel_rfl) (fun _ _ _ h => h) rfl ?_ hHeld ?_
                rotate_left
                · intro w hSw; go_simp; all_goals with_reducible rfl
                try simp only [Act.put, List.setIfInBounds_toArray, List.set_cons_zero, List.set_cons_succ]
                refine take_in (i := 8) (v := ?_) rfl (by kernel_rfl) (fun _ _ _ h => h) rfl ?_ hHeld ?_
                rotate_left
                · intro w hSw; go_simp; all_goals with_reducible rfl
                try simp only [Act.put, List.setIfInBounds_toArray, List.set_cons_zero, List.set_cons_succ]
                refine take_in (i := 9) (v := ?_) rfl (by kernel_rfl) (fun _ _ _ h => h) rfl ?_ hHeld ?_
                rotate_left
                · intro w hSw; go_simp; all_goals with_reducible rfl
                try simp only [Act.put, List.setIfInBounds_toArray, List.set_cons_zero, List.set_cons_succ]
                refine take_in (i := 10) (v := ?_) rfl (by kernel_rfl) (fun _ _ _ h => h) rfl ?_ hHeld ?_
                rotate_left
                · intro w hSw; go_simp; all_goals with_reducible rfl
                try simp only [Act.put, List.setIfInBounds_toArray, List.set_cons_zero, List.set_cons_succ]
                refine take_in (i := 11) (v := ?_) rfl (by kernel_rfl) (fun _ _ _ h => h) rfl ?_ hHeld ?_
                rotate_left
                · intro w hSw; obtain ⟨h1, h2, h3⟩ := hSw; go_simp; all_goals with_reducible rfl
                try simp only [Act.put, List.setIfInBounds_toArray, List.set_cons_zero, List.set_cons_succ]
                refine take_in (i := 12) (v := ?_) rfl (by kernel_rfl) (fun _ _ _ h => h) rfl ?_ hHeld ?_
                rotate_left
                · intro w hSw; go_simp; all_goals with_reducible rfl
                try simp only [Act.put, List.setIfInBounds_toArray, List.set_cons_zero, List.set_cons_succ]
                refine take_in (i := 13) (v := ?_) rfl (by kernel_rfl) (fun _ _ _ h => h) rfl ?_ hHeld ?_
                rotate_left
                · intro w hSw; go_simp; all_goals with_reducible rfl
                try simp only [Act.put, List.setIfInBounds_toArray, List.set_cons_zero, List.set_cons_succ]
                refine take_in (i := 14) (v := ?_) rfl (by kernel_rfl) (fun _ _ _ h => h) rfl ?_ hHeld ?_
                rotate_left
                · intro w hSw; go_simp; all_goals with_reducible rfl
                try simp only [Act.put, List.setIfInBounds_toArray, List.set_cons_zero, List.set_cons_succ]
                refine take_in (i := 15) (v := ?_) rfl (by kernel_rfl) (fun _ _ _ h => h) rfl ?_ hHeld ?_
                rotate_left
                · intro w hSw; go_simp; all_goals with_reducible rfl
                try simp only [Act.put, List.setIfInBounds_toArray, List.set_cons_zero, List.set_cons_succ]
                refine wpAnyH_done (by kernel_rfl) ?_ _
                clear hb0 hb1 hb2 hc0 hc1 hc2
                go_wp2_with fail
                go_roundw
                case rel => exact ⟨k + 1, n + s * (36 - p), by go_num, by omega, HFIN.out, Lib.hid (by rw [bs_take HX.out, ← HN.out, HBT.out]), Lib.hid (okb_take HX.out HOK.out HA.out), Lib.hid HB6.out.drew⟩
                case measure => simp [intOf]; omega
            · obtain ⟨W, rfl⟩ : ∃ W : Nat, w = W := ⟨w.toNat, by omega⟩
              have hpos : (0 : Int) ≤ (W : Int) := by omega
              clear hneg
              have hsh := shr_any e1 e2 W
              have hif : (if (W : Int) < 0 then (0 : Int) else (W : Int)) = (W : Int) := if_neg (by omega)
              obtain ⟨D, hD⟩ : ∃ D, e / 2 ^ W = D := ⟨_, rfl⟩
              have hD0 : 0 ≤ D := by rw [← hD]; exact Int.ediv_nonneg e1 (Int.pow_nonneg (by decide))
              rw [hD] at hsh
              have HD := Lib.hid hD
              clear hD
              rcases bitI_01 e W with hbi | hbi
              · have HBI : Hid (bitI e ((W : Nat) : Int).toNat = 0) := Lib.hid (by rw [Int.toNat_natCast]; exact hbi)
                have hb : D % 2 = 0 := by rw [← HD.out]; exact hbi
                clear hbi
                go_wp2_with fail
                rw [HW6.out]
                refine (specEventOk_any _ _ _).mono ?_
                rintro r w' ⟨rfl, rfl⟩
                rw [h1]
                go_wp2_with fail
                refine (l1In_any _ _ _ _).mono ?_
                rintro r w' ⟨rfl, rfl⟩
                rw [h2]
                go_wp2_with fail
                refine (l1In_any _ _ _ _).mono ?_
                rintro r w' ⟨rfl, rfl⟩
                rw [h3]
                clear h1 h2 h3
                have hb : D % 2 = 0 := hb
                have hq1 : IntKind.i64.wrap (0 - p) = 0 - p := IntWalk.i64_in _ (by omega)
                obtain ⟨z1, z2⟩ := mul_936 (s := s) (d := 0 - p) ⟨s1, s2⟩ (by omega)
                have hq2 : IntKind.i64.wrap (s * (0 - p)) = s * (0 - p) := IntWalk.i64_in _ (by omega)
                have hq3 : IntKind.i64.wrap (n + s * (0 - p)) = n + s * (0 - p) := IntWalk.i64_in _ (by omega)
                have htm : D.tmod 2 = 0 := by rw [Int.tmod_eq_emod_of_nonneg (by omega)]; exact hb
                have hq0 : IntKind.i64.wrap (0 * 36) = 0 := IntWalk.i64_in _ (by omega)
                have hfin : Value.int .i64 (IntKind.i64.wrap (n + IntKind.i64.wrap (s * IntKind.i64.wrap (IntKind.i64.wrap (D.tmod 2 * 36) - p)))) = .int .i64 (n + s * (0 - p)) := by rw [htm, hq0, hq1, hq2, hq3]
                clear htm hq0 hq1 hq2 hq3
                have HFIN := Lib.hid hfin
                clear hfin
                have HBT : Hid (betI ((W : Nat) : Int).toNat (e, p, s) = s * (0 - p)) := Lib.hid (by show s * (bitI e ((W : Nat) : Int).toNat * 36 - p) = _; rw [HBI.out]; rfl)
                go_wp2_with fail
                refine wp_region_held_drew (S := fun w' => w'.cell? ⟨wr.heap.size, 0, none⟩ = some (.int .i64 e) ∧ w'.cell? ⟨wr.heap.size, 1, none⟩ = some (.int .i64 p) ∧ w'.cell? ⟨wr.heap.size, 2, none⟩ = some (.int .i64 s)) (by kernel_rfl) (⟨hb0, hb1, hb2⟩) (fun hHeld => ?_)
                refine take_in (i := 0) (v := ?_) rfl (by kernel_rfl) (fun _ _ _ h => h) rfl ?_ hHeld ?_
                rotate_left
                · intro w hSw; go_simp; all_goals with_reducible rfl
                try simp only [Act.put, List.setIfInBounds_toArray, List.set_cons_zero, List.set_cons_succ]
                refine take_in (i := 1) (v := ?_) rfl (by kernel_rfl) (fun _ _ _ h => h) rfl ?_ hHeld ?_
                rotate_left
                · intro w hSw; go_simp; all_goals with_reducible rfl
                try simp only [Act.put, List.setIfInBounds_toArray, List.set_cons_zero, List.set_cons_succ]
                refine take_in (i := 2) (v := ?_) rfl (by kernel_rfl) (fun _ _ _ h => h) rfl ?_ hHeld ?_
                rotate_left
                · intro w hSw; obtain ⟨h1, h2, h3⟩ := hSw; go_simp; all_goals with_reducible rfl
                try simp only [Act.put, List.setIfInBounds_toArray, List.set_cons_zero, List.set_cons_succ]
                refine take_in (i := 3) (v := ?_) rfl (by kernel_rfl) (fun _ _ _ h => h) rfl ?_ hHeld ?_
                rotate_left
                · intro w hSw; go_simp; all_goals with_reducible rfl
                try simp only [Act.put, List.setIfInBounds_toArray, List.set_cons_zero, List.set_cons_succ]
                refine take_in (i := 4) (v := ?_) rfl (by kernel_rfl) (fun _ _ _ h => h) rfl ?_ hHeld ?_
                rotate_left
                · intro w hSw; obtain ⟨h1, h2, h3⟩ := hSw; go_simp; all_goals with_reducible rfl
                try simp only [Act.put, List.setIfInBounds_toArray, List.set_cons_zero, List.set_cons_succ]
                refine take_in (i := 5) (v := ?_) rfl (by kernel_rfl) (fun _ _ _ h => h) rfl ?_ hHeld ?_
                rotate_left
                · intro w hSw; go_simp; all_goals with_reducible rfl
                try simp only [Act.put, List.setIfInBounds_toArray, List.set_cons_zero, List.set_cons_succ]
                refine take_in (i := 6) (v := ?_) rfl (by kernel_rfl) (fun _ _ _ h => h) rfl ?_ hHeld ?_
                rotate_left
                · intro w hSw; go_simp; all_goals with_reducible rfl
                try simp only [Act.put, List.setIfInBounds_toArray, List.set_cons_zero, List.set_cons_succ]
                refine take_in (i := 7) (v := ?_) rfl (by kernel_rfl) (fun _ _ _ h => h) rfl ?_ hHeld ?_
                rotate_left
                · intro w hSw; go_simp; all_goals with_reducible rfl
                try simp only [Act.put, List.setIfInBounds_toArray, List.set_cons_zero, List.set_cons_succ]
                refine take_in (i := 8) (v := ?_) rfl (by kernel_rfl) (fun _ _ _ h => h) rfl ?_ hHeld ?_
                rotate_left
                · intro w hSw; go_simp; all_goals with_reducible rfl
                try simp only [Act.put, List.setIfInBounds_toArray, List.set_cons_zero, List.set_cons_succ]
                refine take_in (i := 9) (v := ?_) rfl (by kernel_rfl) (fun _ _ _ h => h) rfl ?_ hHeld ?_
                rotate_left
                · intro w hSw; go_simp; all_goals with_reducible rfl
                try simp only [Act.put, List.setIfInBounds_toArray, List.set_cons_zero, List.set_cons_succ]
                refine take_in (i := 10) (v := ?_) rfl (by kernel_rfl) (fun _ _ _ h => h) rfl ?_ hHeld ?_
                rotate_left
                · intro w hSw; go_simp; all_goals with_reducible rfl
                try simp only [Act.put, List.setIfInBounds_toArray, List.set_cons_zero, List.set_cons_succ]
                refine take_in (i := 11) (v := ?_) rfl (by kernel_rfl) (fun _ _ _ h => h) rfl ?_ hHeld ?_
                rotate_left
                · intro w hSw; obtain ⟨h1, h2, h3⟩ := hSw; go_simp; all_goals with_reducible rfl
                try simp only [Act.put, List.setIfInBounds_toArray, List.set_cons_zero, List.set_cons_succ]
                refine take_in (i := 12) (v := ?_) rfl (by kernel_rfl) (fun _ _ _ h => h) rfl ?_ hHeld ?_
                rotate_left
                · intro w hSw; go_simp; all_goals with_reducible rfl
                try simp only [Act.put, List.setIfInBounds_toArray, List.set_cons_zero, List.set_cons_succ]
                refine take_in (i := 13) (v := ?_) rfl (by kernel_rfl) (fun _ _ _ h => h) rfl ?_ hHeld ?_
                rotate_left
                · intro w hSw; go_simp; all_goals with_reducible rfl
                try simp only [Act.put, List.setIfInBounds_toArray, List.set_cons_zero, List.set_cons_succ]
                refine take_in (i := 14) (v := ?_) rfl (by kernel_rfl) (fun _ _ _ h => h) rfl ?_ hHeld ?_
                rotate_left
                · intro w hSw; go_simp; all_goals with_reducible rfl
                try simp only [Act.put, List.setIfInBounds_toArray, List.set_cons_zero, List.set_cons_succ]
                refine take_in (i := 15) (v := ?_) rfl (by kernel_rfl) (fun _ _ _ h => h) rfl ?_ hHeld ?_
                rotate_left
                · intro w hSw; go_simp; all_goals with_reducible rfl
                try simp only [Act.put, List.setIfInBounds_toArray, List.set_cons_zero, List.set_cons_succ]
                refine wpAnyH_done (by kernel_rfl) ?_ _
                clear hb0 hb1 hb2 hc0 hc1 hc2
                go_wp2_with fail
                go_roundw
                case rel => exact ⟨k + 1, n + s * (0 - p), by go_num, by omega, HFIN.out, Lib.hid (by rw [bs_take HX.out, ← HN.out, HBT.out]), Lib.hid (okb_take HX.out HOK.out HA.out), Lib.hid HB6.out.drew⟩
                case measure => simp [intOf]; omega
              · have HBI : Hid (bitI e ((W : Nat) : Int).toNat = 1) := Lib.hid (by rw [Int.toNat_natCast]; exact hbi)
                have hb : D % 2 = 1 := by rw [← HD.out]; exact hbi
                clear hbi
                go_wp2_with fail
                rw [HW6.out]
                refine (specEventOk_any _ _ _).mono ?_
                rintro r w' ⟨rfl, rfl⟩
                rw [h1]
                go_wp2_with fail
                refine (l1In_any _ _ _ _).mono ?_
                rintro r w' ⟨rfl, rfl⟩
                rw [h2]
                go_wp2_with fail
                refine (l1In_any _ _ _ _).mono ?_
                rintro r w' ⟨rfl, rfl⟩
                rw [h3]
                clear h1 h2 h3
                have hb : D % 2 = 1 := hb
                have hq1 : IntKind.i64.wrap (36 - p) = 36 - p := IntWalk.i64_in _ (by omega)
                obtain ⟨z1, z2⟩ := mul_936 (s := s) (d := 36 - p) ⟨s1, s2⟩ (by omega)
                have hq2 : IntKind.i64.wrap (s * (36 - p)) = s * (36 - p) := IntWalk.i64_in _ (by omega)
                have hq3 : IntKind.i64.wrap (n + s * (36 - p)) = n + s * (36 - p) := IntWalk.i64_in _ (by omega)
                have htm : D.tmod 2 = 1 := by rw [Int.tmod_eq_emod_of_nonneg (by omega)]; exact hb
                have hq0 : IntKind.i64.wrap (1 * 36) = 36 := IntWalk.i64_in _ (by omega)
                have hfin : Value.int .i64 (IntKind.i64.wrap (n + IntKind.i64.wrap (s * IntKind.i64.wrap (IntKind.i64.wrap (D.tmod 2 * 36) - p)))) = .int .i64 (n + s * (36 - p)) := by rw [htm, hq0, hq1, hq2, hq3]
                clear htm hq0 hq1 hq2 hq3
                have HFIN := Lib.hid hfin
                clear hfin
                have HBT : Hid (betI ((W : Nat) : Int).toNat (e, p, s) = s * (36 - p)) := Lib.hid (by show s * (bitI e ((W : Nat) : Int).toNat * 36 - p) = _; rw [HBI.out]; rfl)
                go_wp2_with fail
                refine wp_region_held_drew (S := fun w' => w'.cell? ⟨wr.heap.size, 0, none⟩ = some (.int .i64 e) ∧ w'.cell? ⟨wr.heap.size, 1, none⟩ = some (.int .i64 p) ∧ w'.cell? ⟨wr.heap.size, 2, none⟩ = some (.int .i64 s)) (by kernel_rfl) (⟨hb0, hb1, hb2⟩) (fun hHeld => ?_)
                refine take_in (i := 0) (v := ?_) rfl (by kernel_rfl) (fun _ _ _ h => h) rfl ?_ hHeld ?_
                rotate_left
                · intro w hSw; go_simp; all_goals with_reducible rfl
                try simp only [Act.put, List.setIfInBounds_toArray, List.set_cons_zero, List.set_cons_succ]
                refine take_in (i := 1) (v := ?_) rfl (by kernel_rfl) (fun _ _ _ h => h) rfl ?_ hHeld ?_
                rotate_left
                · intro w hSw; go_simp; all_goals with_reducible rfl
                try simp only [Act.put, List.setIfInBounds_toArray, List.set_cons_zero, List.set_cons_succ]
                refine take_in (i := 2) (v := ?_) rfl (by kernel_rfl) (fun _ _ _ h => h) rfl ?_ hHeld ?_
                rotate_left
                · intro w hSw; obtain ⟨h1, h2, h3⟩ := hSw; go_simp; all_goals with_reducible rfl
                try simp only [Act.put, List.setIfInBounds_toArray, List.set_cons_zero, List.set_cons_succ]
                refine take_in (i := 3) (v := ?_) rfl (by kernel_rfl) (fun _ _ _ h => h) rfl ?_ hHeld ?_
                rotate_left
                · intro w hSw; go_simp; all_goals with_reducible rfl
                try simp only [Act.put, List.setIfInBounds_toArray, List.set_cons_zero, List.set_cons_succ]
                refine take_in (i := 4) (v := ?_) rfl (by kernel_rfl) (fun _ _ _ h => h) rfl ?_ hHeld ?_
                rotate_left
                · intro w hSw; obtain ⟨h1, h2, h3⟩ := hSw; go_simp; all_goals with_reducible rfl
                try simp only [Act.put, List.setIfInBounds_toArray, List.set_cons_zero, List.set_cons_succ]
                refine take_in (i := 5) (v := ?_) rfl (by kernel_rfl) (fun _ _ _ h => h) rfl ?_ hHeld ?_
                rotate_left
                · intro w hSw; go_simp; all_goals with_reducible rfl
                try simp only [Act.put, List.setIfInBounds_toArray, List.set_cons_zero, List.set_cons_succ]
                refine take_in (i := 6) (v := ?_) rfl (by kernel_rfl) (fun _ _ _ h => h) rfl ?_ hHeld ?_
                rotate_left
                · intro w hSw; go_simp; all_goals with_reducible rfl
                try simp only [Act.put, List.setIfInBounds_toArray, List.set_cons_zero, List.set_cons_succ]
                refine take_in (i := 7) (v := ?_) rfl (by kernel_rfl) (fun _ _ _ h => h) rfl ?_ hHeld ?_
                rotate_left
                · intro w hSw; go_simp; all_goals with_reducible rfl
                try simp only [Act.put, List.setIfInBounds_toArray, List.set_cons_zero, List.set_cons_succ]
                refine take_in (i := 8) (v := ?_) rfl (by kernel_rfl) (fun _ _ _ h => h) rfl ?_ hHeld ?_
                rotate_left
                · intro w hSw; go_simp; all_goals with_reducible rfl
                try simp only [Act.put, List.setIfInBounds_toArray, List.set_cons_zero, List.set_cons_succ]
                refine take_in (i := 9) (v := ?_) rfl (by kernel_rfl) (fun _ _ _ h => h) rfl ?_ hHeld ?_
                rotate_left
                · intro w hSw; go_simp; all_goals with_reducible rfl
                try simp only [Act.put, List.setIfInBounds_toArray, List.set_cons_zero, List.set_cons_succ]
                refine take_in (i := 10) (v := ?_) rfl (by kernel_rfl) (fun _ _ _ h => h) rfl ?_ hHeld ?_
                rotate_left
                · intro w hSw; go_simp; all_goals with_reducible rfl
                try simp only [Act.put, List.setIfInBounds_toArray, List.set_cons_zero, List.set_cons_succ]
                refine take_in (i := 11) (v := ?_) rfl (by kernel_rfl) (fun _ _ _ h => h) rfl ?_ hHeld ?_
                rotate_left
                · intro w hSw; obtain ⟨h1, h2, h3⟩ := hSw; go_simp; all_goals with_reducible rfl
                try simp only [Act.put, List.setIfInBounds_toArray, List.set_cons_zero, List.set_cons_succ]
                refine take_in (i := 12) (v := ?_) rfl (by kernel_rfl) (fun _ _ _ h => h) rfl ?_ hHeld ?_
                rotate_left
                · intro w hSw; go_simp; all_goals with_reducible rfl
                try simp only [Act.put, List.setIfInBounds_toArray, List.set_cons_zero, List.set_cons_succ]
                refine take_in (i := 13) (v := ?_) rfl (by kernel_rfl) (fun _ _ _ h => h) rfl ?_ hHeld ?_
                rotate_left
                · intro w hSw; go_simp; all_goals with_reducible rfl
                try simp only [Act.put, List.setIfInBounds_toArray, List.set_cons_zero, List.set_cons_succ]
                refine take_in (i := 14) (v := ?_) rfl (by kernel_rfl) (fun _ _ _ h => h) rfl ?_ hHeld ?_
                rotate_left
                · intro w hSw; go_simp; all_goals with_reducible rfl
                try simp only [Act.put, List.setIfInBounds_toArray, List.set_cons_zero, List.set_cons_succ]
                refine take_in (i := 15) (v := ?_) rfl (by kernel_rfl) (fun _ _ _ h => h) rfl ?_ hHeld ?_
                rotate_left
                · intro w hSw; go_simp; all_goals with_reducible rfl
                try simp only [Act.put, List.setIfInBounds_toArray, List.set_cons_zero, List.set_cons_succ]
                refine wpAnyH_done (by kernel_rfl) ?_ _
                clear hb0 hb1 hb2 hc0 hc1 hc2
                go_wp2_with fail
                go_roundw
                case rel => exact ⟨k + 1, n + s * (36 - p), by go_num, by omega, HFIN.out, Lib.hid (by rw [bs_take HX.out, ← HN.out, HBT.out]), Lib.hid (okb_take HX.out HOK.out HA.out), Lib.hid HB6.out.drew⟩
                case measure => simp [intOf]; omega
          · have HN2 := Lib.hid (okb_no HX.out (b := (e, p, s)) (by rw [okBt, h1, h2, h3]; rfl) w)
            go_wp2_with fail
            rw [HW6.out]
            refine (specEventOk_any _ _ _).mono ?_
            rintro r w' ⟨rfl, rfl⟩
            rw [h1]
            go_wp2_with fail
            refine (l1In_any _ _ _ _).mono ?_
            rintro r w' ⟨rfl, rfl⟩
            rw [h2]
            go_wp2_with fail
            refine (l1In_any _ _ _ _).mono ?_
            rintro r w' ⟨rfl, rfl⟩
            rw [h3]
            go_wp2_with fail
            go_ret2
            exact numPost_ret (bsN_no HN2.out) HN2.out HB6.out
        · have HN2 := Lib.hid (okb_no HX.out (b := (e, p, s)) (by rw [okBt, h1, h2]; rfl) w)
          go_wp2_with fail
          rw [HW6.out]
          refine (specEventOk_any _ _ _).mono ?_
          rintro r w' ⟨rfl, rfl⟩
          rw [h1]
          go_wp2_with fail
          refine (l1In_any _ _ _ _).mono ?_
          rintro r w' ⟨rfl, rfl⟩
          rw [h2]
          go_wp2_with fail
          go_ret2
          exact numPost_ret (bsN_no HN2.out) HN2.out HB6.out
      · have HN2 := Lib.hid (okb_no HX.out (b := (e, p, s)) (by rw [okBt, h1]; rfl) w)
        go_wp2_with fail
        rw [HW6.out]
        refine (specEventOk_any _ _ _).mono ?_
        rintro r w' ⟨rfl, rfl⟩
        rw [h1]
        go_wp2_with fail
        go_ret2
        exact numPost_ret (bsN_no HN2.out) HN2.out HB6.out
    · have HNN : Hid (n = bsI bs w.toNat) := Lib.hid (by have := HN.out; rwa [List.take_of_length_le (by omega)] at this)
      have HAA : Hid (bs.all okBt = true) := Lib.hid (by have := HA.out; rwa [List.take_of_length_le (by omega)] at this)
      go_wp2_with fail
      refine (l1In_any _ _ _ _).mono ?_
      rintro r w' ⟨rfl, rfl⟩
      rcases Bool.eq_false_or_eq_true (inB w 0 3) with h | h
      · have HT : Hid (bsB bs w = true) := Lib.hid (by rw [bsB, HAA.out, h]; rfl)
        rw [h]
        go_wp2_with fail
        go_ret2
        exact numPost_ret (by rw [bsN, if_pos HT.out, HNN.out]) HT.out HB.out
      · have HT : Hid (bsB bs w = false) := Lib.hid (by rw [bsB, HAA.out, h]; rfl)
        rw [h]
        go_wp2_with fail
        go_ret2
        exact numPost_ret (bsN_no HT.out) HT.out HB.out

set_option maxRecDepth 100000 in
set_option maxHeartbeats 4000000 in
theorem sameBets_any (w : World) (v u : Value) (xs ys : List Bt) (hv : BRd w v xs) (hu : BRd w u ys) :
    Calls Try.prog 13 #[v, u] w (BEqPost xs ys w) := by
  obtain ⟨A, c, rfl, hl, hm⟩ := hv.form
  obtain ⟨A', c', rfl, hl', hm'⟩ := hu.form
  have HV := Lib.hid hv
  have HU := Lib.hid hu
  clear hv hu
  by_cases hlen : xs.length = ys.length
  · have h1 : ((xs.length : Int) == (ys.length : Int)) = true := by simp; omega
    have h2 : ((xs.length : Int) != (ys.length : Int)) = false := by simp; omega
    have HL := Lib.hid hlen
    clear hlen
    go_enter Try.func13, Try.ntmps13
    go_wp2
    clear h1 h2
    go_loopw [5] (fun i wr => ∃ k : Nat, i = .int .i64 k ∧ k ≤ xs.length ∧ Hid (bagree xs ys k) ∧ Hid (Below w.heap.size w wr)) (fun i _ => xs.length - (intOf i).toNat)
    case atStart => exact ⟨0, rfl, Nat.zero_le _, Lib.hid (fun i hi => absurd hi (Nat.not_lt_zero _)), Lib.hid (Below.refl _ _)⟩
    case round =>
      obtain ⟨k, rfl, hk, HA, HB⟩ := hrel
      by_cases hlt : k < xs.length
      · obtain ⟨b, off, ⟨x0, x1, x2⟩, rfl, -, hx, hx0, hx1, hx2⟩ := BRd.at_ (HV.out.keep (SameAt.of_below HB.out)) hlt
        obtain ⟨b', off', ⟨y0, y1, y2⟩, rfl, -, hy, hy0, hy1, hy2⟩ := BRd.at_ (HU.out.keep (SameAt.of_below HB.out)) (k := k) (by have := HL.out; omega)
        have hlt' : k < ys.length := by have := HL.out; omega
        have HX := Lib.hid hx
        have HY := Lib.hid hy
        dsimp only at hx0 hx1 hx2 hy0 hy1 hy2
        clear hx hy
        by_cases hxy : x0 = y0 ∧ x1 = y1 ∧ x2 = y2
        · obtain ⟨rfl, rfl, rfl⟩ := hxy
          go_wp2_with fail
          go_region
          all_goals
            go_wp2_with fail
            go_roundw
            case rel => exact ⟨k + 1, by go_num, by omega, Lib.hid (bagree_succ HA.out (HX.out.trans HY.out.symm)), Lib.hid HB.out.drew⟩
            case measure => simp [intOf]; omega
        · have HXY := Lib.hid hxy
          have hc : ¬ x0 = y0 ∨ (x0 = y0 ∧ ¬ x1 = y1) ∨ (x0 = y0 ∧ x1 = y1 ∧ ¬ x2 = y2) := by
            by_cases h1 : x0 = y0
            · by_cases h2 : x1 = y1
              · exact .inr (.inr ⟨h1, h2, fun h3 => hxy ⟨h1, h2, h3⟩⟩)
              · exact .inr (.inl ⟨h1, h2⟩)
            · exact .inl h1
          have HNE : Hid (¬ xs = ys) := Lib.hid (fun e => by subst e; have := Option.some.inj (HX.out.symm.trans HY.out); injection this with e1 e2; injection e2 with e2 e3; exact HXY.out ⟨e1, e2, e3⟩)
          clear hxy HXY
          rcases hc with hc | ⟨rfl, hc⟩ | ⟨rfl, rfl, hc⟩
          all_goals
            go_wp2_with fail
            go_region
            all_goals
              go_wp2_with fail
              go_ret
              exact ⟨ret_bool (by symm; simp only [decide_eq_false_iff_not]; exact HNE.out), HB.out.drew⟩
      · go_wp2_with fail
        go_ret
        exact ⟨ret_bool (by symm; simp only [decide_eq_true_eq]; exact bagree_all HL.out (by have := HA.out; rwa [show k = xs.length from by omega] at this)), HB.out⟩
  · have h1 : ((xs.length : Int) == (ys.length : Int)) = false := by simp; omega
    have h2 : ((xs.length : Int) != (ys.length : Int)) = true := by simp; omega
    have HL := Lib.hid hlen
    clear hlen
    go_enter Try.func13, Try.ntmps13
    go_wp2
    go_ret
    exact ⟨ret_bool (by symm; simp only [decide_eq_false_iff_not]; intro e; exact HL.out (by rw [e])), Below.refl _ _⟩

end Go.Proofs.Ytkanfolgppbklaa
