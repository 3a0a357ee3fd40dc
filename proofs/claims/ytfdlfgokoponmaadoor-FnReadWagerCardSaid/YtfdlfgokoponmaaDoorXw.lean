/- The contract of spec.l20Term: the marks of a term, or, one in n, none. Conditions: a reader. (gen_xw.py) -/
import Derived.Test.YtfdlfgokoponmaaDoorXv
import Derived.BigRegion
import Derived.Deep.RegionHeld3
namespace Go.Proofs.YtfdlfgokoponmaaDoor
open Go.RowKit
set_option linter.unusedVariables false

theorem GRd.blk {α : Type} {c : Nat} {enc : α → List Value} {w : World} {b off n cp : Nat} {x : α} {xs : List α} (h : GRd c enc w (.slice (some ⟨b, off, none⟩) n cp) (x :: xs)) : b < w.heap.size := by
  obtain ⟨A', cp', e, hl, hm, hc⟩ := h
  injection e with e1 e2 e3
  obtain ⟨b', off', hA, hb, -⟩ := hc (by simp)
  rw [hA] at e1
  injection e1 with e1
  injection e1 with e1
  omega

set_option maxRecDepth 100000 in
set_option maxHeartbeats 16000000 in
theorem l20Term_any (w : World) (R P : Nat) (n : Int) (hP : P ≤ 100000) (hn2 : n ≤ 1000000) (h : Rd w R P) :
    Calls Tryd.prog 44 #[.pointer (some ⟨R, 0, none⟩), .int .i64 n] w (TermPost R (P + 60) n w) := by
  have D0 : Hid (Pile w R P (.slice (some ⟨w.heap.size, 0, none⟩) 0 0) [] [] (w.alloc (.cells #[] 23))) := Lib.hid ⟨(SR.start h).alloc _, World.ownsRow_lit w #[] 0 (Nat.le_refl _) (by unfold maxLen; omega) rfl, PIn.nil _ _⟩
  clear h
  go_enter Tryd.func44, Tryd.ntmps44
  go_wp2_with fail
  refine (pick_any _ R P _ (by omega) D0.out.rd).mono ?_
  rintro e w2 ⟨v1, rfl, ⟨p1, p2, -⟩, k1⟩
  have p2 := p2 (by decide)
  have D2 := Lib.hid (D0.out.picked k1)
  clear k1 D0
  obtain ⟨N, rfl⟩ : ∃ N : Nat, v1 = N := ⟨v1.toNat, by omega⟩
  have hN : N ≤ 3 := by omega
  clear p1 p2
  go_wp2_with fail
  go_loopw [5, 6] (fun p l wr => ∃ (k Q g c m : Nat) (us : List Value) (ts : List Tm), p = .slice (some ⟨g, 0, none⟩) m c ∧ l = .int .i64 (k : Int) ∧ k ≤ 4 ∧ Q + k ≤ P + 10 ∧ m + k ≤ 4 ∧ 1 ≤ m + k ∧ Hid (us.length = m ∧ lenT ts = m ∧ m ≤ c ∧ c ≤ 9223372036854775807) ∧ Hid (Pile w R Q (.slice (some ⟨g, 0, none⟩) m c) us ts wr)) (fun _ l _ => (intOf l).toNat)
  case atStart => exact ⟨N + 1, P + 1, w.heap.size, 0, 0, [], [], rfl, by go_num, by omega, by omega, by omega, by omega, Lib.hid ⟨rfl, rfl, by omega, by omega⟩, D2⟩
  case round =>
    obtain ⟨k, Q, g, c, m, us, ts, rfl, rfl, hk, hQ, hm4, hm1, HL, HR⟩ := hrel
    clear D2
    by_cases hlt : 0 < k
    · have hlt' : (0 : Int) < (k : Int) := by omega
      go_wp2_with fail
      refine (pick_any _ R Q _ (by omega) HR.out.rd).mono ?_
      rintro e w3 ⟨x, rfl, ⟨q1, q2, -⟩, k1⟩
      have q2 := q2 (by decide)
      have H3 := Lib.hid (HR.out.picked k1)
      have HB := Lib.hid (letM_of q1 q2)
      clear k1 HR
      have H4 := Lib.hid ((H3.out.alloc (.cells #[.int .i64 0, .int .i64 x] 59)).alloc (.cells #[.slice (some ⟨w3.heap.size, 0, none⟩) 1 1] 23))
      go_wp2_with (at_builtin; refine wp_app_spine rfl _ _ rfl _ w.heap.size _ us (w3.heap.size + 1) 0 1 1 [.slice (some ⟨w3.heap.size, 0, none⟩) 1 1] (by rfl) H4.out.2.1 (by rfl) rfl ?a1 ?a2 ?a3 ?a4 ?a5 ?_)
      case a1 =>
        intro j u hu
        have h := one_new (w3.alloc (.cells #[.int .i64 0, .int .i64 x] 59)) _ 23 j u hu
        rwa [addr_add, show (w3.alloc (.cells #[.int .i64 0, .int .i64 x] 59)).heap.size = w3.heap.size + 1 from by simp] at h
      case a2 => intro u hu; obtain rfl := List.mem_singleton.1 hu; rfl
      case a3 => have := HL.out.1; omega
      case a4 => simp
      case a5 => exact H4.out.1.size
      intro v' w' o5 q5 y5
      obtain ⟨b, hb⟩ := HB.out
      have HM : MOwn ((w3.alloc (.cells #[.int .i64 0, .int .i64 x] 59)).alloc (.cells #[.slice (some ⟨w3.heap.size, 0, none⟩) 1 1] 23)) w.heap.size (.slice (some ⟨w3.heap.size, 0, none⟩) 1 1) (encT (.lt b)) := by
        rw [encT, hb]
        exact (mlit1 w3 _ H3.out.1.size 0 x).allocd _
      have H5 := H4.out.push q5 o5 (H4.out.2.2.push HM)
      obtain ⟨g5, c5, rfl, -, -, hc5, hm5⟩ := o5.form (by simp)
      rw [List.length_append, List.length_singleton] at H5 hc5 ⊢
      have hum := HL.out.1
      rw [hum] at H5 hc5 ⊢
      have HH5 := Lib.hid H5
      have HL5 : Hid ((us ++ [Value.slice (some ⟨w3.heap.size, 0, none⟩) 1 1]).length = m + 1 ∧ lenT (ts ++ [.lt b]) = m + 1 ∧ m + 1 ≤ c5 ∧ c5 ≤ 9223372036854775807) := Lib.hid ⟨by simp [hum], by rw [lenT_app, lenT_one, HL.out.2.1]; rfl, hc5, hm5⟩
      clear H5 o5 q5 y5 HM hum hc5 hm5 hb
      go_wp2_with fail
      have hk1 : ((k - 1 : Nat) : Int) = (k : Int) - 1 := by omega
      go_roundw
      case rel => exact ⟨k - 1, Q + 1, g5, c5, m + 1, _, _, rfl, by rw [hk1], by omega, by omega, by omega, by omega, HL5, HH5⟩
      case measure => simp [intOf]; omega
    · obtain rfl : k = 0 := by omega
      clear hlt
      obtain rfl : us.length = m := HL.out.1
      go_wp2_with fail
      go_loopw [5, 7] (fun p l wr => ∃ (q Q g c m : Nat) (us : List Value) (ts : List Tm), p = .slice (some ⟨g, 0, none⟩) m c ∧ l = .int .i64 (q : Int) ∧ q ≤ 3 ∧ Q + 3 * q + 3 * m ≤ P + 40 ∧ 1 ≤ m ∧ m ≤ 4 ∧ Hid (us.length = m ∧ lenT ts + m + q ≤ 11 ∧ m ≤ c ∧ c ≤ 9223372036854775807) ∧ Hid (Pile w R Q (.slice (some ⟨g, 0, none⟩) m c) us ts wr)) (fun p l _ => (intOf l).toNat + lenS p)
      case atStart => exact ⟨3, Q, g, c, us.length, us, ts, rfl, by go_num, by omega, by omega, by omega, by omega, Lib.hid ⟨rfl, by have := HL.out.2.1; omega, HL.out.2.2.1, HL.out.2.2.2⟩, HR⟩
      case round =>
        clear HL HR
        obtain ⟨q, Q, g, c, m, us, ts, rfl, rfl, hq3, hQ, hm1, hm4, HL, HR⟩ := hrel
        obtain rfl : us.length = m := HL.out.1
        by_cases hlt : 1 < us.length
        · have hlt' : (1 : Int) < (us.length : Int) := by omega
          have hwm : IntKind.i64.wrap ((us.length : Int) - 1) = (us.length : Int) - 1 := IntWalk.i64_in _ (by omega)
          go_wp2_with fail
          refine (pick_any _ R Q _ (by omega) HR.out.rd).mono ?_
          rintro e w4 ⟨v2, rfl, ⟨q1, q2, -⟩, k1⟩
          have q2 := q2 (by omega)
          have H4 := Lib.hid (HR.out.picked k1)
          clear k1 HR hwm
          obtain ⟨a, rfl⟩ : ∃ a : Nat, v2 = a := ⟨v2.toNat, by omega⟩
          have hau : a + 1 < us.length := by omega
          clear q1 q2
          rcases Nat.eq_zero_or_pos q with hq0 | hq0
          · subst hq0
            have q0 : (0 : Int) < 1 := by decide
            have HP : Hid (Pile w R (Q + 1) (.slice (some ⟨g, 0, none⟩) us.length c) us ts w4) := H4
            obtain ⟨Q4, hQ4⟩ : ∃ Q4, (Q + 1) = Q4 := ⟨_, rfl⟩
            have hQb : Q4 + 3 * 0 + 3 * us.length ≤ P + 42 := by omega
            rw [hQ4] at HP
            clear hQ4 H4
            generalize w4 = wr at HP ⊢
            obtain ⟨l1, l2, l3, l4⟩ := HL.out
            obtain ⟨u1, hu1⟩ : ∃ u, us[a]? = some u := ⟨_, List.getElem?_eq_getElem (by omega)⟩
            obtain ⟨b, hb⟩ : ∃ b, a + 1 = b := ⟨_, rfl⟩
            obtain ⟨u2, hu2⟩ : ∃ u, us[b]? = some u := ⟨_, List.getElem?_eq_getElem (by omega)⟩
            obtain ⟨x, hx⟩ : ∃ x, ts[a]? = some x := ⟨_, List.getElem?_eq_getElem (by rw [← HP.out.2.2.1]; omega)⟩
            obtain ⟨y, hy⟩ : ∃ y, ts[b]? = some y := ⟨_, List.getElem?_eq_getElem (by rw [← HP.out.2.2.1]; omega)⟩
            obtain ⟨g1, c1, rfl, -⟩ := MOwn.form (HP.out.2.2.2 a u1 x hu1 hx) (by have := enc_pos x; omega)
            obtain ⟨g2, c2, rfl, -⟩ := MOwn.form (HP.out.2.2.2 b u2 y hu2 hy) (by have := enc_pos y; omega)
            have hlx := lenT_ge hx
            have hly := lenT_ge hy
            have hlx : (encT x).length ≤ 12 := by omega
            have hly : (encT y).length ≤ 12 := by omega
            have HU1 := Lib.hid hu1
            have HU2 := Lib.hid hu2
            have HT1 := Lib.hid hx
            have HT2 := Lib.hid hy
            have ha0 : (0 : Int) ≤ (a : Int) := by omega
            have ha1 : (a : Int) < (us.length : Int) := by omega
            have hb0 : (0 : Int) ≤ (b : Int) := by omega
            have hb1 : (b : Int) < (us.length : Int) := by omega
            have hwb : IntKind.i64.wrap ((a : Int) + 1) = (b : Int) := by rw [IntWalk.i64_in _ (by omega)]; omega
            have HB1 := Lib.hid hb
            clear l1 l2 hu1 hu2 hx hy hb
            go_upto_region 12 with fail
            go_cut [9] (fun s9 wx => ∃ (T9 : Tm) (g9 c9 : Nat), s9 = .slice (some ⟨g9, 0, none⟩) (encT T9).length c9 ∧ (encT T9).length = (encT x).length + (encT y).length + 1 ∧ MOwn wx wr.heap.size s9 (encT T9) ∧ SR wr R (Q4 + 1) wx)
            case first =>
              have k0 : SR wr R Q4 wr.drew := (SR.start HP.out.rd).drew
              refine wp_region_held_drew (S := fun w' => w'.cell? ⟨g, a, none⟩ = some (.slice (some ⟨g1, 0, none⟩) (encT x).length c1) ∧ w'.cell? ⟨g, b, none⟩ = some (.slice (some ⟨g2, 0, none⟩) (encT y).length c2)) (by kernel_rfl) ⟨HP.out.cells k0 HU1.out, HP.out.cells k0 HU2.out⟩ (fun hHeld => ?_)
              refine take_in (i := 1) (v := ?_) rfl (by kernel_rfl) (fun _ _ _ h => h) rfl ?_ hHeld ?_
              rotate_left
              · intro w hSw; go_simp; all_goals with_reducible rfl
              try simp only [Act.put, List.setIfInBounds_toArray, List.set_cons_zero, List.set_cons_succ]
              refine take_in (i := 2) (v := ?_) rfl (by kernel_rfl) (fun _ _ _ h => h) rfl ?_ hHeld ?_
              rotate_left
              · intro w hSw; go_simp; all_goals with_reducible rfl
              try simp only [Act.put, List.setIfInBounds_toArray, List.set_cons_zero, List.set_cons_succ]
              refine take_in (i := 3) (v := ?_) rfl (by kernel_rfl) (fun _ _ _ h => h) rfl ?_ hHeld ?_
              rotate_left
              · intro w hSw; go_simp; all_goals with_reducible rfl
              try simp only [Act.put, List.setIfInBounds_toArray, List.set_cons_zero, List.set_cons_succ]
              refine take_in (i := 4) (v := ?_) rfl (by kernel_rfl) (fun _ _ _ h => h) rfl ?_ hHeld ?_
              rotate_left
              · intro w hSw; obtain ⟨hc1, hc2⟩ := hSw; go_simp; all_goals with_reducible rfl
              try simp only [Act.put, List.setIfInBounds_toArray, List.set_cons_zero, List.set_cons_succ]
              refine take_in (i := 6) (v := ?_) rfl (by kernel_rfl) (fun _ _ _ h => h) rfl ?_ hHeld ?_
              rotate_left
              · intro w hSw; go_simp; all_goals with_reducible rfl
              try simp only [Act.put, List.setIfInBounds_toArray, List.set_cons_zero, List.set_cons_succ]
              refine take_in (i := 7) (v := ?_) rfl (by kernel_rfl) (fun _ _ _ h => h) rfl ?_ hHeld ?_
              rotate_left
              · intro w hSw; go_simp; all_goals with_reducible rfl
              try simp only [Act.put, List.setIfInBounds_toArray, List.set_cons_zero, List.set_cons_succ]
              refine take_in (i := 8) (v := ?_) rfl (by kernel_rfl) (fun _ _ _ h => h) rfl ?_ hHeld ?_
              rotate_left
              · intro w hSw; go_simp; all_goals with_reducible rfl
              try simp only [Act.put, List.setIfInBounds_toArray, List.set_cons_zero, List.set_cons_succ]
              refine take_in (i := 9) (v := ?_) rfl (by kernel_rfl) (fun _ _ _ h => h) rfl ?_ hHeld ?_
              rotate_left
              · intro w hSw; go_simp; all_goals with_reducible rfl
              try simp only [Act.put, List.setIfInBounds_toArray, List.set_cons_zero, List.set_cons_succ]
              refine take_in (i := 10) (v := ?_) rfl (by kernel_rfl) (fun _ _ _ h => h) rfl ?_ hHeld ?_
              rotate_left
              · intro w hSw; obtain ⟨hc1, hc2⟩ := hSw; go_simp; all_goals with_reducible rfl
              try simp only [Act.put, List.setIfInBounds_toArray, List.set_cons_zero, List.set_cons_succ]
              refine take_in (i := 12) (v := ?_) rfl (by kernel_rfl) (fun _ _ _ h => h) rfl ?_ hHeld ?_
              rotate_left
              · intro w hSw; go_simp; all_goals with_reducible rfl
              try simp only [Act.put, List.setIfInBounds_toArray, List.set_cons_zero, List.set_cons_succ]
              refine ready_one (i := 0) rfl (by kernel_rfl) (fun K hK => ?_)
              go_simp
              have k1 := k0.alloc (.cells #[] 59)
              have a1 : MOwn (wr.drew.alloc (.cells #[] 59)) wr.heap.size (.slice (some ⟨wr.drew.heap.size, 0, none⟩) 0 0) [] := by have h := mlit0 wr.drew wr.heap.size k0.size; exact h
              refine hK.out _ (wr.drew.alloc (.cells #[] 59)) ⟨HP.out.cells k1 HU1.out, HP.out.cells k1 HU2.out⟩ (fun hHeld => ?_)
              clear hK K
              try simp only [Act.put, List.setIfInBounds_toArray, List.set_cons_zero, List.set_cons_succ]
              refine ready_one (i := 5) rfl (by kernel_rfl) (fun K hK => ?_)
              have s2 := GOwn.rd qC_len (HP.out.marks k1 HU1.out HT1.out)
              obtain ⟨v2, x2, r2, o2, q2, y2⟩ := run_app_row (wr.drew.alloc (.cells #[] 59)) wr.heap.size (.slice (some ⟨wr.drew.heap.size, 0, none⟩) 0 0) [] g1 0 (encT x).length c1 (encT x) a1 s2 (by simp) (by omega) k1.size
              refine step_append (s := .tmp 56) (x := .tmp 60) rfl rfl r2 ?_
              have k2 := k1.grown q2 (fun g hg => (GOwn.ge a1 g hg).1)
              have a2 : MOwn x2 wr.heap.size v2 (encT x) := by simpa using o2
              refine hK.out _ x2 ⟨HP.out.cells k2 HU1.out, HP.out.cells k2 HU2.out⟩ (fun hHeld => ?_)
              clear hK K
              try simp only [Act.put, List.setIfInBounds_toArray, List.set_cons_zero, List.set_cons_succ]
              refine ready_one (i := 11) rfl (by kernel_rfl) (fun K hK => ?_)
              have s3 := GOwn.rd qC_len (HP.out.marks k2 HU2.out HT2.out)
              obtain ⟨v3, x3, r3, o3, q3, y3⟩ := run_app_row x2 wr.heap.size v2 (encT x) g2 0 (encT y).length c2 (encT y) a2 s3 (by omega) (by omega) k2.size
              refine step_append (s := .tmp 61) (x := .tmp 66) rfl rfl r3 ?_
              have k3 := k2.grown q3 (fun g hg => (GOwn.ge a2 g hg).1)
              have a3 : MOwn x3 wr.heap.size v3 (encT x ++ encT y) := by simpa using o3
              refine hK.out _ x3 ⟨HP.out.cells k3 HU1.out, HP.out.cells k3 HU2.out⟩ (fun hHeld => ?_)
              clear hK K
              try simp only [Act.put, List.setIfInBounds_toArray, List.set_cons_zero, List.set_cons_succ]
              refine ready_one (i := 13) rfl (by kernel_rfl) (fun K hK => ?_)
              go_simp
              go_at_call 35
              refine (pick_any x3 R _ _ (by omega) k3.1).mono ?_
              rintro e x4 ⟨z0, rfl, ⟨z1, z2, -⟩, kp⟩
              have z2 := z2 (by decide)
              have k4 := k3.picked kp
              have a4 := MOwn.sr a3 (SR.picked (SR.start k3.1) kp) k3.2.2
              clear kp
              refine hK.out _ x4 ⟨HP.out.cells k4 HU1.out, HP.out.cells k4 HU2.out⟩ (fun hHeld => ?_)
              clear hK K
              try simp only [Act.put, List.setIfInBounds_toArray, List.set_cons_zero, List.set_cons_succ]
              obtain ⟨z, hz⟩ : ∃ z, 2 + z0 = z := ⟨_, rfl⟩
              have hwz : IntKind.i64.wrap (2 + z0) = z := by rw [hz]; exact IntWalk.i64_in _ (by omega)
              have HZ : z = 2 ∨ z = 3 := by omega
              clear hz z1 z2
              refine take_in (i := 14) (v := ?_) rfl (by kernel_rfl) (fun _ _ _ h => h) rfl ?_ hHeld ?_
              rotate_left
              · intro w hSw; go_simp; all_goals with_reducible rfl
              try simp only [Act.put, List.setIfInBounds_toArray, List.set_cons_zero, List.set_cons_succ]
              clear hwz
              refine take_in (i := 15) (v := ?_) rfl (by kernel_rfl) (fun _ _ _ h => h) rfl ?_ hHeld ?_
              rotate_left
              · intro w hSw; go_simp; all_goals with_reducible rfl
              try simp only [Act.put, List.setIfInBounds_toArray, List.set_cons_zero, List.set_cons_succ]
              refine ready_one (i := 16) rfl (by kernel_rfl) (fun K hK => ?_)
              go_simp
              have k5 := k4.alloc (.cells #[.int .i64 z, .int .i64 0] 59)
              have b5 : QRd (x4.alloc (.cells #[.int .i64 z, .int .i64 0] 59)) (.slice (some ⟨x4.heap.size, 0, none⟩) 1 1) [(z, 0)] := by have h := GOwn.rd qC_len (mlit1 x4 wr.heap.size k4.size z 0); exact h
              have a5 := a4.allocd (.cells #[.int .i64 z, .int .i64 0] 59)
              have e5 : v3.ownBlock ≠ some (x4.heap.size) := fun e => by have h := (GOwn.ge a4 _ e).2; omega
              refine hK.out _ (x4.alloc (.cells #[.int .i64 z, .int .i64 0] 59)) ⟨HP.out.cells k5 HU1.out, HP.out.cells k5 HU2.out⟩ (fun hHeld => ?_)
              clear hK K
              try simp only [Act.put, List.setIfInBounds_toArray, List.set_cons_zero, List.set_cons_succ]
              refine ready_one (i := 17) rfl (by kernel_rfl) (fun K hK => ?_)
              obtain ⟨v6, x6, r6, o6, q6, y6⟩ := run_app_row (x4.alloc (.cells #[.int .i64 z, .int .i64 0] 59)) wr.heap.size v3 (encT x ++ encT y) x4.heap.size 0 1 1 [(z, 0)] a5 b5 (by rw [List.length_append]; omega) (by simp) k5.size
              refine step_append (s := .tmp 67) (x := .tmp 72) rfl rfl r6 ?_
              have k6 := k5.grown q6 (fun g hg => (GOwn.ge a5 g hg).1)
              have a6 : MOwn x6 wr.heap.size v6 (encT x ++ encT y ++ [(z, 0)]) := by simpa using o6
              refine hK.out _ x6 ⟨HP.out.cells k6 HU1.out, HP.out.cells k6 HU2.out⟩ (fun hHeld => ?_)
              clear hK K
              try simp only [Act.put, List.setIfInBounds_toArray, List.set_cons_zero, List.set_cons_succ]
              refine take_in (i := 18) (v := ?_) rfl (by kernel_rfl) (fun _ _ _ h => h) rfl ?_ hHeld ?_
              rotate_left
              · intro w hSw; go_simp; all_goals with_reducible rfl
              try simp only [Act.put, List.setIfInBounds_toArray, List.set_cons_zero, List.set_cons_succ]
              refine wpAnyH_done (by kernel_rfl) ?_ _
              obtain ⟨T9, hT9⟩ := bin_of HZ x y
              rw [← hT9] at a6
              obtain ⟨g9, c9, rfl, -⟩ := MOwn.form a6 (by have := enc_pos T9; omega)
              go_wp2
              go_meet
              exact ⟨T9, g9, c9, rfl, by rw [hT9]; simp only [List.length_append, List.length_singleton], a6, k6⟩
            case rest =>
              obtain ⟨T9, g9, c9, rfl, hl9, o9, k9⟩ := hcut
              have hHL9 := Lib.hid hl9
              have HB0 : Hid (w.heap.size ≤ wr.heap.size) := Lib.hid HP.out.1.size
              have HP1 : Hid (Pile w R (Q4 + 1) (.slice (some ⟨g, 0, none⟩) us.length c) us ts wc) := Lib.hid (HP.out.sr k9)
              have HO9 : Hid (MOwn wc w.heap.size (.slice (some ⟨g9, 0, none⟩) (encT T9).length c9) (encT T9)) := Lib.hid (GOwn.base o9 HB0.out)
              clear hl9 o9 k9
              have hone := HP1.out.2.2.one
              have HONE := Lib.hid hone
              have HZ0 : Hid (SOwn (wc.alloc (.cells #[] 23)) wc.heap.size (.slice (some ⟨wc.heap.size, 0, none⟩) 0 0) []) := Lib.hid (World.ownsRow_lit wc #[] 0 (Nat.le_refl _) (by unfold maxLen; omega) rfl)
              have KA : Hid (SR wc R (Q4 + 1) (wc.alloc (.cells #[] 23))) := Lib.hid ((SR.start HP1.out.rd).alloc _)
              have hac : (a : Int) ≤ (c : Int) := by omega
              have hal : a ≤ c := by omega
              clear hone
              go_wp2_with (at_builtin; refine wp_app_spine rfl _ _ rfl _ wc.heap.size _ [] g 0 a c (us.take a) (by rfl) HZ0.out (by rfl) ?a1 ?a2 ?a3 ?a4 ?a5 ?a6 ?_)
              case a1 => rw [List.length_take]; omega
              case a2 =>
                intro j u hu
                rw [List.getElem?_take] at hu
                split at hu
                · rw [Nat.zero_add]; exact HP1.out.cells KA.out hu
                · cases hu
              case a3 => exact fun u hu => HONE.out u (List.mem_of_mem_take hu)
              case a4 => simp
              case a5 => rw [List.length_take]; omega
              case a6 => simp
              intro v5 w5 o5 q5 y5
              have K5 : Hid (SR wc R (Q4 + 1) w5) := Lib.hid (KA.out.grown q5 (fun g hg => (HZ0.out.ge g hg).1))
              have O5 : Hid (SOwn w5 wc.heap.size v5 (us.take a)) := Lib.hid (by simpa using o5)
              clear o5 q5 y5 KA HZ0
              have K6 : Hid (SR wc R (Q4 + 1) (w5.alloc (.cells #[.slice (some ⟨g9, 0, none⟩) (encT T9).length c9] 23))) := Lib.hid (K5.out.alloc _)
              have O6 : Hid (SOwn (w5.alloc (.cells #[.slice (some ⟨g9, 0, none⟩) (encT T9).length c9] 23)) wc.heap.size v5 (us.take a)) := Lib.hid (World.ownsRow.alloc O5.out _)
              go_wp2_with (at_builtin; refine wp_app_spine rfl _ _ rfl _ wc.heap.size _ (us.take a) w5.heap.size 0 1 1 [.slice (some ⟨g9, 0, none⟩) (encT T9).length c9] (by rfl) O6.out (by rfl) rfl ?b2 ?b3 ?b4 ?b5 ?b6 ?_)
              case b2 =>
                intro j u hu
                have h := one_new w5 _ 23 j u hu
                rwa [addr_add] at h
              case b3 => intro u hu; obtain rfl := List.mem_singleton.1 hu; rfl
              case b4 => rw [List.length_take]; omega
              case b5 => simp
              case b6 => exact K6.out.size
              intro v7 w7 o7 q7 y7
              have K7 : Hid (SR wc R (Q4 + 1) w7) := Lib.hid (K6.out.grown q7 (fun g hg => (O6.out.ge g hg).1))
              have O7 : Hid (SOwn w7 wc.heap.size v7 (us.take a ++ [.slice (some ⟨g9, 0, none⟩) (encT T9).length c9])) := Lib.hid o7
              clear o7 q7 y7 K5 O5 K6 O6
              have hw2 : IntKind.i64.wrap ((a : Int) + 2) = (a : Int) + 2 := IntWalk.i64_in _ (by omega)
              have hdl : (us.drop (a + 2)).length = us.length - (a + 2) := List.length_drop ..
              have HDL := Lib.hid hdl
              have htl : (us.take a).length = a := by rw [List.length_take]; omega
              have HTL := Lib.hid htl
              have HEND : Hid (∀ v8 w8, SOwn w8 wc.heap.size v8 (us.take a ++ [.slice (some ⟨g9, 0, none⟩) (encT T9).length c9] ++ us.drop (a + 2)) → SR wc R (Q4 + 1) w8 → ∃ (g8 c8 m8 : Nat) (us8 : List Value) (ts8 : List Tm), v8 = .slice (some ⟨g8, 0, none⟩) us8.length c8 ∧ us8.length = us.length - 1 ∧ us8.length ≤ c8 ∧ c8 ≤ 9223372036854775807 ∧ lenT ts8 = lenT ts + 1 ∧ Pile w R (Q4 + 1) v8 us8 ts8 w8) := Lib.hid (by
                intro v8 w8 h8 k8
                obtain ⟨g8, c8, rfl, -, -, h1, h2⟩ := h8.form (by simp; omega)
                refine ⟨g8, c8, 0, _, ts.take a ++ [T9] ++ ts.drop (a + 2), rfl, ?_, h1, h2, ?_, ?_⟩
                · rw [List.length_append, List.length_append, HTL.out, HDL.out, List.length_singleton]; omega
                · rw [lenT_app, lenT_app, lenT_one, lenT_split HT1.out (by rw [HB1.out]; exact HT2.out), hHL9.out]; omega
                · have hP8 := HP1.out.sr k8
                  exact ⟨hP8.1, h8.base HP1.out.1.size, ((hP8.2.2.take a).push (MOwn.sr HO9.out k8 HP1.out.1.2.2)).app (hP8.2.2.drop (a + 2))⟩)
              clear hdl htl
              have ha4 : (a : Int) + 2 ≤ (us.length : Int) := by omega
              have ha6 : (us.length : Int) ≤ (c : Int) := by omega
              have ha7 : (c : Int) ≤ 9223372036854775807 := by omega
              by_cases hcc : a + 2 < c
              · have hcc' : (a : Int) + 2 < (c : Int) := by omega
                go_wp2_with (at_builtin; refine wp_app_spine rfl _ _ rfl _ wc.heap.size _ _ g (a + 2) (us.length - (a + 2)) (c - (a + 2)) (us.drop (a + 2)) (by rfl) O7.out ?d0 HDL.out ?d2 ?d3 ?d4 ?d5 ?d6 ?_)
                case d0 => first | rfl | (simp; done) | skip
                case d2 =>
                  intro j u hu
                  rw [List.getElem?_drop] at hu
                  exact HP1.out.cells K7.out hu
                case d3 => exact fun u hu => HONE.out u (List.mem_of_mem_drop hu)
                case d4 => rw [List.length_append, HTL.out, List.length_singleton]; omega
                case d5 => rw [HDL.out]; omega
                case d6 => exact K7.out.size
                intro v8 w8 o8 q8 y8
                obtain ⟨g8, c8, m8, us8, ts8, rfl, h1, h2, h3, h4, h5⟩ := HEND.out v8 w8 (by simpa using o8) (K7.out.grown q8 (fun g hg => (O7.out.ge g hg).1))
                have H5 := Lib.hid h5
                have HH := Lib.hid (And.intro h1 h4)
                clear h5 o8 q8 y8 h1 h4
                go_wp2_with fail
                go_roundw
                case rel => exact ⟨0, Q4 + 1, g8, c8, us8.length, us8, ts8, rfl, rfl, by omega, by have := HH.out.1; omega, by have := HH.out.1; omega, by have := HH.out.1; omega, Lib.hid ⟨rfl, by have := HH.out; have := HL.out.2.1; omega, h2, h3⟩, H5⟩
                case measure => have := HH.out.1; simp [intOf, lenS]; omega
              · obtain rfl : c = a + 2 := by omega
                have hlen2 : us.length = a + 2 := by omega
                have HD0 : Hid ((us.drop (a + 2)).length = 0) := Lib.hid (by rw [HDL.out]; omega)
                clear hlen2
                go_wp2_with (at_builtin; refine wp_app_spine rfl _ _ rfl _ wc.heap.size _ _ g 0 (us.length - (a + 2)) (a + 2 - (a + 2)) (us.drop (a + 2)) (by rfl) O7.out ?d0 HDL.out ?d2 ?d3 ?d4 ?d5 ?d6 ?_)
                case d0 => first | rfl | (simp; done) | skip
                case d2 =>
                  intro j u hu
                  have := (List.getElem?_eq_some_iff.1 hu).1
                  rw [HD0.out] at this; omega
                case d3 => exact fun u hu => HONE.out u (List.mem_of_mem_drop hu)
                case d4 => rw [List.length_append, HTL.out, List.length_singleton]; omega
                case d5 => rw [HD0.out]; omega
                case d6 => exact K7.out.size
                intro v8 w8 o8 q8 y8
                obtain ⟨g8, c8, m8, us8, ts8, rfl, h1, h2, h3, h4, h5⟩ := HEND.out v8 w8 (by simpa using o8) (K7.out.grown q8 (fun g hg => (O7.out.ge g hg).1))
                have H5 := Lib.hid h5
                have HH := Lib.hid (And.intro h1 h4)
                clear h5 o8 q8 y8 h1 h4
                go_wp2_with fail
                go_roundw
                case rel => exact ⟨0, Q4 + 1, g8, c8, us8.length, us8, ts8, rfl, rfl, by omega, by have := HH.out.1; omega, by have := HH.out.1; omega, by have := HH.out.1; omega, Lib.hid ⟨rfl, by have := HH.out; have := HL.out.2.1; omega, h2, h3⟩, H5⟩
                case measure => have := HH.out.1; simp [intOf, lenS]; omega
          · have hq0' : (0 : Int) < (q : Int) := by omega
            go_wp2_with fail
            refine (pick_any _ R (Q + 1) _ (by omega) H4.out.rd).mono ?_
            rintro e w5 ⟨v3, rfl, ⟨q1, q2, -⟩, k1⟩
            have H5 := Lib.hid (H4.out.picked k1)
            clear k1 H4 q1 q2
            by_cases hv3 : v3 = 0
            · subst hv3
              obtain ⟨-, l2, l3, l4⟩ := HL.out
              obtain ⟨u1, hu1⟩ : ∃ u, us[a]? = some u := ⟨_, List.getElem?_eq_getElem (by omega)⟩
              obtain ⟨x, hx⟩ : ∃ x, ts[a]? = some x := ⟨_, List.getElem?_eq_getElem (by rw [← H5.out.2.2.1]; omega)⟩
              obtain ⟨g1, c1, rfl, -⟩ := MOwn.form (H5.out.2.2.2 a u1 x hu1 hx) (by have := enc_pos x; omega)
              have hlx := lenT_ge hx
              have hlx : (encT x).length ≤ 12 := by omega
              have HLT := Lib.hid (lenT_set (y := .no x) hx)
              have hcx : (w5.alloc (.cells #[] 59)).cell? ⟨g, a, none⟩ = some (.slice (some ⟨g1, 0, none⟩) (encT x).length c1) := H5.out.cells ((SR.start H5.out.rd).alloc _) hu1
              have HM1 := Lib.hid (H5.out.marks ((SR.start H5.out.rd).alloc (.cells #[] 59)) hu1 hx)
              have HE := Lib.hid (mlit0 w5 w5.heap.size (Nat.le_refl _))
              have KA := Lib.hid ((SR.start H5.out.rd).alloc (.cells #[] 59))
              have ha0 : (0 : Int) ≤ (a : Int) := by omega
              have ha1 : (a : Int) < (us.length : Int) := by omega
              have hwq : IntKind.i64.wrap ((q : Int) - 1) = ((q - 1 : Nat) : Int) := by rw [IntWalk.i64_in _ (by omega)]; omega
              clear l2 hu1 hx
              go_wp2_with (at_builtin; refine wp_app_row rfl _ _ rfl _ w5.heap.size _ [] g1 0 _ c1 (encT x) (by rfl) HE.out (by rfl) (GOwn.rd qC_len HM1.out) ?a1 ?a2 ?a3 ?_)
              case a1 => simp
              case a2 => omega
              case a3 => simp
              intro v6 w6 o6 q6 _ y6
              have K6 := Lib.hid (KA.out.grown q6 (fun g hg => (GOwn.ge HE.out g hg).1))
              have O6 : Hid (MOwn w6 w5.heap.size v6 (encT x)) := Lib.hid (by simpa using o6)
              clear o6 q6 y6 hcx
              go_wp2_with (at_builtin; refine wp_app_mark rfl _ _ rfl _ w5.heap.size _ _ _ _ (by rfl) O6.out (by rfl) ?b1 ?b2 ?_)
              case b1 => omega
              case b2 => exact K6.out.size
              intro v7 w7 o7 b7 nn7
              have K7 := Lib.hid (K6.out.below b7)
              have o7 : MOwn w7 w5.heap.size v7 (encT (.no x)) := o7
              obtain ⟨g7, c7, rfl, -⟩ := MOwn.form o7 (by have := enc_pos (.no x); omega)
              have HP7 := Lib.hid (H5.out.sr K7.out)
              have HS := Lib.hid (HP7.out.store (k := a) (T := .no x) (GOwn.base o7 H5.out.1.size))
              obtain ⟨hfz, old, hold⟩ := HP7.out.old (k := a) (by omega)
              have HNL : Hid ((encT (.no x)).length = (encT x).length + 1) := Lib.hid (by simp [encT])
              clear o7 b7 nn7
              go_wp2_with fail
              go_roundw
              case rel => exact ⟨q - 1, Q + 1 + 1, g, c, us.length, _, _, rfl, rfl, by omega, by omega, by omega, by omega, Lib.hid ⟨List.length_set .., by have h1 := HLT.out; have h2 := HNL.out; have h3 := HL.out.2.1; omega, l3, l4⟩, HS⟩
              case measure => simp [intOf, lenS]; omega
            · have hv3' : (v3 == 0) = false := by rw [beq_eq_false_iff_ne]; exact hv3
              have HP : Hid (Pile w R (Q + 1 + 1) (.slice (some ⟨g, 0, none⟩) us.length c) us ts w5) := H5
              obtain ⟨Q4, hQ4⟩ : ∃ Q4, (Q + 1 + 1) = Q4 := ⟨_, rfl⟩
              have hQb : Q4 + 3 * q + 3 * us.length ≤ P + 42 := by omega
              rw [hQ4] at HP
              clear hQ4 H5
              generalize w5 = wr at HP ⊢
              obtain ⟨l1, l2, l3, l4⟩ := HL.out
              obtain ⟨u1, hu1⟩ : ∃ u, us[a]? = some u := ⟨_, List.getElem?_eq_getElem (by omega)⟩
              obtain ⟨b, hb⟩ : ∃ b, a + 1 = b := ⟨_, rfl⟩
              obtain ⟨u2, hu2⟩ : ∃ u, us[b]? = some u := ⟨_, List.getElem?_eq_getElem (by omega)⟩
              obtain ⟨x, hx⟩ : ∃ x, ts[a]? = some x := ⟨_, List.getElem?_eq_getElem (by rw [← HP.out.2.2.1]; omega)⟩
              obtain ⟨y, hy⟩ : ∃ y, ts[b]? = some y := ⟨_, List.getElem?_eq_getElem (by rw [← HP.out.2.2.1]; omega)⟩
              obtain ⟨g1, c1, rfl, -⟩ := MOwn.form (HP.out.2.2.2 a u1 x hu1 hx) (by have := enc_pos x; omega)
              obtain ⟨g2, c2, rfl, -⟩ := MOwn.form (HP.out.2.2.2 b u2 y hu2 hy) (by have := enc_pos y; omega)
              have hlx := lenT_ge hx
              have hly := lenT_ge hy
              have hlx : (encT x).length ≤ 12 := by omega
              have hly : (encT y).length ≤ 12 := by omega
              have HU1 := Lib.hid hu1
              have HU2 := Lib.hid hu2
              have HT1 := Lib.hid hx
              have HT2 := Lib.hid hy
              have ha0 : (0 : Int) ≤ (a : Int) := by omega
              have ha1 : (a : Int) < (us.length : Int) := by omega
              have hb0 : (0 : Int) ≤ (b : Int) := by omega
              have hb1 : (b : Int) < (us.length : Int) := by omega
              have hwb : IntKind.i64.wrap ((a : Int) + 1) = (b : Int) := by rw [IntWalk.i64_in _ (by omega)]; omega
              have HB1 := Lib.hid hb
              clear l1 l2 hu1 hu2 hx hy hb
              go_upto_region 12 with fail
              go_cut [9] (fun s9 wx => ∃ (T9 : Tm) (g9 c9 : Nat), s9 = .slice (some ⟨g9, 0, none⟩) (encT T9).length c9 ∧ (encT T9).length = (encT x).length + (encT y).length + 1 ∧ MOwn wx wr.heap.size s9 (encT T9) ∧ SR wr R (Q4 + 1) wx)
              case first =>
                have k0 : SR wr R Q4 wr.drew := (SR.start HP.out.rd).drew
                refine wp_region_held_drew (S := fun w' => w'.cell? ⟨g, a, none⟩ = some (.slice (some ⟨g1, 0, none⟩) (encT x).length c1) ∧ w'.cell? ⟨g, b, none⟩ = some (.slice (some ⟨g2, 0, none⟩) (encT y).length c2)) (by kernel_rfl) ⟨HP.out.cells k0 HU1.out, HP.out.cells k0 HU2.out⟩ (fun hHeld => ?_)
                refine take_in (i := 1) (v := ?_) rfl (by kernel_rfl) (fun _ _ _ h => h) rfl ?_ hHeld ?_
                rotate_left
                · intro w hSw; go_simp; all_goals with_reducible rfl
                try simp only [Act.put, List.setIfInBounds_toArray, List.set_cons_zero, List.set_cons_succ]
                refine take_in (i := 2) (v := ?_) rfl (by kernel_rfl) (fun _ _ _ h => h) rfl ?_ hHeld ?_
                rotate_left
                · intro w hSw; go_simp; all_goals with_reducible rfl
                try simp only [Act.put, List.setIfInBounds_toArray, List.set_cons_zero, List.set_cons_succ]
                refine take_in (i := 3) (v := ?_) rfl (by kernel_rfl) (fun _ _ _ h => h) rfl ?_ hHeld ?_
                rotate_left
                · intro w hSw; go_simp; all_goals with_reducible rfl
                try simp only [Act.put, List.setIfInBounds_toArray, List.set_cons_zero, List.set_cons_succ]
                refine take_in (i := 4) (v := ?_) rfl (by kernel_rfl) (fun _ _ _ h => h) rfl ?_ hHeld ?_
                rotate_left
                · intro w hSw; obtain ⟨hc1, hc2⟩ := hSw; go_simp; all_goals with_reducible rfl
                try simp only [Act.put, List.setIfInBounds_toArray, List.set_cons_zero, List.set_cons_succ]
                refine take_in (i := 6) (v := ?_) rfl (by kernel_rfl) (fun _ _ _ h => h) rfl ?_ hHeld ?_
                rotate_left
                · intro w hSw; go_simp; all_goals with_reducible rfl
                try simp only [Act.put, List.setIfInBounds_toArray, List.set_cons_zero, List.set_cons_succ]
                refine take_in (i := 7) (v := ?_) rfl (by kernel_rfl) (fun _ _ _ h => h) rfl ?_ hHeld ?_
                rotate_left
                · intro w hSw; go_simp; all_goals with_reducible rfl
                try simp only [Act.put, List.setIfInBounds_toArray, List.set_cons_zero, List.set_cons_succ]
                refine take_in (i := 8) (v := ?_) rfl (by kernel_rfl) (fun _ _ _ h => h) rfl ?_ hHeld ?_
                rotate_left
                · intro w hSw; go_simp; all_goals with_reducible rfl
                try simp only [Act.put, List.setIfInBounds_toArray, List.set_cons_zero, List.set_cons_succ]
                refine take_in (i := 9) (v := ?_) rfl (by kernel_rfl) (fun _ _ _ h => h) rfl ?_ hHeld ?_
                rotate_left
                · intro w hSw; go_simp; all_goals with_reducible rfl
                try simp only [Act.put, List.setIfInBounds_toArray, List.set_cons_zero, List.set_cons_succ]
                refine take_in (i := 10) (v := ?_) rfl (by kernel_rfl) (fun _ _ _ h => h) rfl ?_ hHeld ?_
                rotate_left
                · intro w hSw; obtain ⟨hc1, hc2⟩ := hSw; go_simp; all_goals with_reducible rfl
                try simp only [Act.put, List.setIfInBounds_toArray, List.set_cons_zero, List.set_cons_succ]
                refine take_in (i := 12) (v := ?_) rfl (by kernel_rfl) (fun _ _ _ h => h) rfl ?_ hHeld ?_
                rotate_left
                · intro w hSw; go_simp; all_goals with_reducible rfl
                try simp only [Act.put, List.setIfInBounds_toArray, List.set_cons_zero, List.set_cons_succ]
                refine ready_one (i := 0) rfl (by kernel_rfl) (fun K hK => ?_)
                go_simp
                have k7 := k0.alloc (.cells #[] 59)
                have a7 : MOwn (wr.drew.alloc (.cells #[] 59)) wr.heap.size (.slice (some ⟨wr.drew.heap.size, 0, none⟩) 0 0) [] := by have h := mlit0 wr.drew wr.heap.size k0.size; exact h
                refine hK.out _ (wr.drew.alloc (.cells #[] 59)) ⟨HP.out.cells k7 HU1.out, HP.out.cells k7 HU2.out⟩ (fun hHeld => ?_)
                clear hK K
                try simp only [Act.put, List.setIfInBounds_toArray, List.set_cons_zero, List.set_cons_succ]
                refine ready_one (i := 5) rfl (by kernel_rfl) (fun K hK => ?_)
                have s8 := GOwn.rd qC_len (HP.out.marks k7 HU1.out HT1.out)
                obtain ⟨v8, x8, r8, o8, q8, y8⟩ := run_app_row (wr.drew.alloc (.cells #[] 59)) wr.heap.size (.slice (some ⟨wr.drew.heap.size, 0, none⟩) 0 0) [] g1 0 (encT x).length c1 (encT x) a7 s8 (by simp) (by omega) k7.size
                refine step_append (s := .tmp 56) (x := .tmp 60) rfl rfl r8 ?_
                have k8 := k7.grown q8 (fun g hg => (GOwn.ge a7 g hg).1)
                have a8 : MOwn x8 wr.heap.size v8 (encT x) := by simpa using o8
                refine hK.out _ x8 ⟨HP.out.cells k8 HU1.out, HP.out.cells k8 HU2.out⟩ (fun hHeld => ?_)
                clear hK K
                try simp only [Act.put, List.setIfInBounds_toArray, List.set_cons_zero, List.set_cons_succ]
                refine ready_one (i := 11) rfl (by kernel_rfl) (fun K hK => ?_)
                have s9 := GOwn.rd qC_len (HP.out.marks k8 HU2.out HT2.out)
                obtain ⟨v9, x9, r9, o9, q9, y9⟩ := run_app_row x8 wr.heap.size v8 (encT x) g2 0 (encT y).length c2 (encT y) a8 s9 (by omega) (by omega) k8.size
                refine step_append (s := .tmp 61) (x := .tmp 66) rfl rfl r9 ?_
                have k9 := k8.grown q9 (fun g hg => (GOwn.ge a8 g hg).1)
                have a9 : MOwn x9 wr.heap.size v9 (encT x ++ encT y) := by simpa using o9
                refine hK.out _ x9 ⟨HP.out.cells k9 HU1.out, HP.out.cells k9 HU2.out⟩ (fun hHeld => ?_)
                clear hK K
                try simp only [Act.put, List.setIfInBounds_toArray, List.set_cons_zero, List.set_cons_succ]
                refine ready_one (i := 13) rfl (by kernel_rfl) (fun K hK => ?_)
                go_simp
                go_at_call 35
                refine (pick_any x9 R _ _ (by omega) k9.1).mono ?_
                rintro e x10 ⟨z0, rfl, ⟨z1, z2, -⟩, kp⟩
                have z2 := z2 (by decide)
                have k10 := k9.picked kp
                have a10 := MOwn.sr a9 (SR.picked (SR.start k9.1) kp) k9.2.2
                clear kp
                refine hK.out _ x10 ⟨HP.out.cells k10 HU1.out, HP.out.cells k10 HU2.out⟩ (fun hHeld => ?_)
                clear hK K
                try simp only [Act.put, List.setIfInBounds_toArray, List.set_cons_zero, List.set_cons_succ]
                obtain ⟨z, hz⟩ : ∃ z, 2 + z0 = z := ⟨_, rfl⟩
                have hwz : IntKind.i64.wrap (2 + z0) = z := by rw [hz]; exact IntWalk.i64_in _ (by omega)
                have HZ : z = 2 ∨ z = 3 := by omega
                clear hz z1 z2
                refine take_in (i := 14) (v := ?_) rfl (by kernel_rfl) (fun _ _ _ h => h) rfl ?_ hHeld ?_
                rotate_left
                · intro w hSw; go_simp; all_goals with_reducible rfl
                try simp only [Act.put, List.setIfInBounds_toArray, List.set_cons_zero, List.set_cons_succ]
                clear hwz
                refine take_in (i := 15) (v := ?_) rfl (by kernel_rfl) (fun _ _ _ h => h) rfl ?_ hHeld ?_
                rotate_left
                · intro w hSw; go_simp; all_goals with_reducible rfl
                try simp only [Act.put, List.setIfInBounds_toArray, List.set_cons_zero, List.set_cons_succ]
                refine ready_one (i := 16) rfl (by kernel_rfl) (fun K hK => ?_)
                go_simp
                have k11 := k10.alloc (.cells #[.int .i64 z, .int .i64 0] 59)
                have b11 : QRd (x10.alloc (.cells #[.int .i64 z, .int .i64 0] 59)) (.slice (some ⟨x10.heap.size, 0, none⟩) 1 1) [(z, 0)] := by have h := GOwn.rd qC_len (mlit1 x10 wr.heap.size k10.size z 0); exact h
                have a11 := a10.allocd (.cells #[.int .i64 z, .int .i64 0] 59)
                have e11 : v9.ownBlock ≠ some (x10.heap.size) := fun e => by have h := (GOwn.ge a10 _ e).2; omega
                refine hK.out _ (x10.alloc (.cells #[.int .i64 z, .int .i64 0] 59)) ⟨HP.out.cells k11 HU1.out, HP.out.cells k11 HU2.out⟩ (fun hHeld => ?_)
                clear hK K
                try simp only [Act.put, List.setIfInBounds_toArray, List.set_cons_zero, List.set_cons_succ]
                refine ready_one (i := 17) rfl (by kernel_rfl) (fun K hK => ?_)
                obtain ⟨v12, x12, r12, o12, q12, y12⟩ := run_app_row (x10.alloc (.cells #[.int .i64 z, .int .i64 0] 59)) wr.heap.size v9 (encT x ++ encT y) x10.heap.size 0 1 1 [(z, 0)] a11 b11 (by rw [List.length_append]; omega) (by simp) k11.size
                refine step_append (s := .tmp 67) (x := .tmp 72) rfl rfl r12 ?_
                have k12 := k11.grown q12 (fun g hg => (GOwn.ge a11 g hg).1)
                have a12 : MOwn x12 wr.heap.size v12 (encT x ++ encT y ++ [(z, 0)]) := by simpa using o12
                refine hK.out _ x12 ⟨HP.out.cells k12 HU1.out, HP.out.cells k12 HU2.out⟩ (fun hHeld => ?_)
                clear hK K
                try simp only [Act.put, List.setIfInBounds_toArray, List.set_cons_zero, List.set_cons_succ]
                refine take_in (i := 18) (v := ?_) rfl (by kernel_rfl) (fun _ _ _ h => h) rfl ?_ hHeld ?_
                rotate_left
                · intro w hSw; go_simp; all_goals with_reducible rfl
                try simp only [Act.put, List.setIfInBounds_toArray, List.set_cons_zero, List.set_cons_succ]
                refine wpAnyH_done (by kernel_rfl) ?_ _
                obtain ⟨T9, hT9⟩ := bin_of HZ x y
                rw [← hT9] at a12
                obtain ⟨g9, c9, rfl, -⟩ := MOwn.form a12 (by have := enc_pos T9; omega)
                go_wp2
                go_meet
                exact ⟨T9, g9, c9, rfl, by rw [hT9]; simp only [List.length_append, List.length_singleton], a12, k12⟩
              case rest =>
                obtain ⟨T9, g9, c9, rfl, hl9, o9, k9⟩ := hcut
                have hHL9 := Lib.hid hl9
                have HB0 : Hid (w.heap.size ≤ wr.heap.size) := Lib.hid HP.out.1.size
                have HP1 : Hid (Pile w R (Q4 + 1) (.slice (some ⟨g, 0, none⟩) us.length c) us ts wc) := Lib.hid (HP.out.sr k9)
                have HO9 : Hid (MOwn wc w.heap.size (.slice (some ⟨g9, 0, none⟩) (encT T9).length c9) (encT T9)) := Lib.hid (GOwn.base o9 HB0.out)
                clear hl9 o9 k9
                have hone := HP1.out.2.2.one
                have HONE := Lib.hid hone
                have HZ0 : Hid (SOwn (wc.alloc (.cells #[] 23)) wc.heap.size (.slice (some ⟨wc.heap.size, 0, none⟩) 0 0) []) := Lib.hid (World.ownsRow_lit wc #[] 0 (Nat.le_refl _) (by unfold maxLen; omega) rfl)
                have KA : Hid (SR wc R (Q4 + 1) (wc.alloc (.cells #[] 23))) := Lib.hid ((SR.start HP1.out.rd).alloc _)
                have hac : (a : Int) ≤ (c : Int) := by omega
                have hal : a ≤ c := by omega
                clear hone
                go_wp2_with (at_builtin; refine wp_app_spine rfl _ _ rfl _ wc.heap.size _ [] g 0 a c (us.take a) (by rfl) HZ0.out (by rfl) ?a1 ?a2 ?a3 ?a4 ?a5 ?a6 ?_)
                case a1 => rw [List.length_take]; omega
                case a2 =>
                  intro j u hu
                  rw [List.getElem?_take] at hu
                  split at hu
                  · rw [Nat.zero_add]; exact HP1.out.cells KA.out hu
                  · cases hu
                case a3 => exact fun u hu => HONE.out u (List.mem_of_mem_take hu)
                case a4 => simp
                case a5 => rw [List.length_take]; omega
                case a6 => simp
                intro v5 w5 o5 q5 y5
                have K5 : Hid (SR wc R (Q4 + 1) w5) := Lib.hid (KA.out.grown q5 (fun g hg => (HZ0.out.ge g hg).1))
                have O5 : Hid (SOwn w5 wc.heap.size v5 (us.take a)) := Lib.hid (by simpa using o5)
                clear o5 q5 y5 KA HZ0
                have K6 : Hid (SR wc R (Q4 + 1) (w5.alloc (.cells #[.slice (some ⟨g9, 0, none⟩) (encT T9).length c9] 23))) := Lib.hid (K5.out.alloc _)
                have O6 : Hid (SOwn (w5.alloc (.cells #[.slice (some ⟨g9, 0, none⟩) (encT T9).length c9] 23)) wc.heap.size v5 (us.take a)) := Lib.hid (World.ownsRow.alloc O5.out _)
                go_wp2_with (at_builtin; refine wp_app_spine rfl _ _ rfl _ wc.heap.size _ (us.take a) w5.heap.size 0 1 1 [.slice (some ⟨g9, 0, none⟩) (encT T9).length c9] (by rfl) O6.out (by rfl) rfl ?b2 ?b3 ?b4 ?b5 ?b6 ?_)
                case b2 =>
                  intro j u hu
                  have h := one_new w5 _ 23 j u hu
                  rwa [addr_add] at h
                case b3 => intro u hu; obtain rfl := List.mem_singleton.1 hu; rfl
                case b4 => rw [List.length_take]; omega
                case b5 => simp
                case b6 => exact K6.out.size
                intro v7 w7 o7 q7 y7
                have K7 : Hid (SR wc R (Q4 + 1) w7) := Lib.hid (K6.out.grown q7 (fun g hg => (O6.out.ge g hg).1))
                have O7 : Hid (SOwn w7 wc.heap.size v7 (us.take a ++ [.slice (some ⟨g9, 0, none⟩) (encT T9).length c9])) := Lib.hid o7
                clear o7 q7 y7 K5 O5 K6 O6
                have hw2 : IntKind.i64.wrap ((a : Int) + 2) = (a : Int) + 2 := IntWalk.i64_in _ (by omega)
                have hdl : (us.drop (a + 2)).length = us.length - (a + 2) := List.length_drop ..
                have HDL := Lib.hid hdl
                have htl : (us.take a).length = a := by rw [List.length_take]; omega
                have HTL := Lib.hid htl
                have HEND : Hid (∀ v8 w8, SOwn w8 wc.heap.size v8 (us.take a ++ [.slice (some ⟨g9, 0, none⟩) (encT T9).length c9] ++ us.drop (a + 2)) → SR wc R (Q4 + 1) w8 → ∃ (g8 c8 m8 : Nat) (us8 : List Value) (ts8 : List Tm), v8 = .slice (some ⟨g8, 0, none⟩) us8.length c8 ∧ us8.length = us.length - 1 ∧ us8.length ≤ c8 ∧ c8 ≤ 9223372036854775807 ∧ lenT ts8 = lenT ts + 1 ∧ Pile w R (Q4 + 1) v8 us8 ts8 w8) := Lib.hid (by
                  intro v8 w8 h8 k8
                  obtain ⟨g8, c8, rfl, -, -, h1, h2⟩ := h8.form (by simp; omega)
                  refine ⟨g8, c8, 0, _, ts.take a ++ [T9] ++ ts.drop (a + 2), rfl, ?_, h1, h2, ?_, ?_⟩
                  · rw [List.length_append, List.length_append, HTL.out, HDL.out, List.length_singleton]; omega
                  · rw [lenT_app, lenT_app, lenT_one, lenT_split HT1.out (by rw [HB1.out]; exact HT2.out), hHL9.out]; omega
                  · have hP8 := HP1.out.sr k8
                    exact ⟨hP8.1, h8.base HP1.out.1.size, ((hP8.2.2.take a).push (MOwn.sr HO9.out k8 HP1.out.1.2.2)).app (hP8.2.2.drop (a + 2))⟩)
                clear hdl htl
                have ha4 : (a : Int) + 2 ≤ (us.length : Int) := by omega
                have ha6 : (us.length : Int) ≤ (c : Int) := by omega
                have ha7 : (c : Int) ≤ 9223372036854775807 := by omega
                by_cases hcc : a + 2 < c
                · have hcc' : (a : Int) + 2 < (c : Int) := by omega
                  go_wp2_with (at_builtin; refine wp_app_spine rfl _ _ rfl _ wc.heap.size _ _ g (a + 2) (us.length - (a + 2)) (c - (a + 2)) (us.drop (a + 2)) (by rfl) O7.out ?d0 HDL.out ?d2 ?d3 ?d4 ?d5 ?d6 ?_)
                  case d0 => first | rfl | (simp; done) | skip
                  case d2 =>
                    intro j u hu
                    rw [List.getElem?_drop] at hu
                    exact HP1.out.cells K7.out hu
                  case d3 => exact fun u hu => HONE.out u (List.mem_of_mem_drop hu)
                  case d4 => rw [List.length_append, HTL.out, List.length_singleton]; omega
                  case d5 => rw [HDL.out]; omega
                  case d6 => exact K7.out.size
                  intro v8 w8 o8 q8 y8
                  obtain ⟨g8, c8, m8, us8, ts8, rfl, h1, h2, h3, h4, h5⟩ := HEND.out v8 w8 (by simpa using o8) (K7.out.grown q8 (fun g hg => (O7.out.ge g hg).1))
                  have H5 := Lib.hid h5
                  have HH := Lib.hid (And.intro h1 h4)
                  clear h5 o8 q8 y8 h1 h4
                  go_wp2_with fail
                  go_roundw
                  case rel => exact ⟨q, Q4 + 1, g8, c8, us8.length, us8, ts8, rfl, rfl, by omega, by have := HH.out.1; omega, by have := HH.out.1; omega, by have := HH.out.1; omega, Lib.hid ⟨rfl, by have := HH.out; have := HL.out.2.1; omega, h2, h3⟩, H5⟩
                  case measure => have := HH.out.1; simp [intOf, lenS]; omega
                · obtain rfl : c = a + 2 := by omega
                  have hlen2 : us.length = a + 2 := by omega
                  have HD0 : Hid ((us.drop (a + 2)).length = 0) := Lib.hid (by rw [HDL.out]; omega)
                  clear hlen2
                  go_wp2_with (at_builtin; refine wp_app_spine rfl _ _ rfl _ wc.heap.size _ _ g 0 (us.length - (a + 2)) (a + 2 - (a + 2)) (us.drop (a + 2)) (by rfl) O7.out ?d0 HDL.out ?d2 ?d3 ?d4 ?d5 ?d6 ?_)
                  case d0 => first | rfl | (simp; done) | skip
                  case d2 =>
                    intro j u hu
                    have := (List.getElem?_eq_some_iff.1 hu).1
                    rw [HD0.out] at this; omega
                  case d3 => exact fun u hu => HONE.out u (List.mem_of_mem_drop hu)
                  case d4 => rw [List.length_append, HTL.out, List.length_singleton]; omega
                  case d5 => rw [HD0.out]; omega
                  case d6 => exact K7.out.size
                  intro v8 w8 o8 q8 y8
                  obtain ⟨g8, c8, m8, us8, ts8, rfl, h1, h2, h3, h4, h5⟩ := HEND.out v8 w8 (by simpa using o8) (K7.out.grown q8 (fun g hg => (O7.out.ge g hg).1))
                  have H5 := Lib.hid h5
                  have HH := Lib.hid (And.intro h1 h4)
                  clear h5 o8 q8 y8 h1 h4
                  go_wp2_with fail
                  go_roundw
                  case rel => exact ⟨q, Q4 + 1, g8, c8, us8.length, us8, ts8, rfl, rfl, by omega, by have := HH.out.1; omega, by have := HH.out.1; omega, by have := HH.out.1; omega, Lib.hid ⟨rfl, by have := HH.out; have := HL.out.2.1; omega, h2, h3⟩, H5⟩
                  case measure => have := HH.out.1; simp [intOf, lenS]; omega
        · have hl1 : us.length ≤ 1 := by omega
          obtain ⟨-, l2, l3, l4⟩ := HL.out
          obtain ⟨u1, hu1⟩ : ∃ u, us[0]? = some u := ⟨_, List.getElem?_eq_getElem (by omega)⟩
          obtain ⟨x, hx⟩ : ∃ x, ts[0]? = some x := ⟨_, List.getElem?_eq_getElem (by rw [← HR.out.2.2.1]; omega)⟩
          obtain ⟨g1, c1, rfl, -⟩ := MOwn.form (HR.out.2.2.2 0 u1 x hu1 hx) (by have := enc_pos x; omega)
          have hlx := lenT_ge hx
          have hlx : (encT x).length ≤ 10 := by omega
          have hcx : wr.cell? ⟨g, 0, none⟩ = some (.slice (some ⟨g1, 0, none⟩) (encT x).length c1) := HR.out.2.1.cell hu1
          have HM : Hid (MOwn wr w.heap.size (.slice (some ⟨g1, 0, none⟩) (encT x).length c1) (encT x) ∧ SR w R Q wr) := Lib.hid ⟨HR.out.2.2.2 0 _ x hu1 hx, HR.out.1⟩
          have hp1 : (0 : Int) < (us.length : Int) := by omega
          clear l2 l3 l4 hu1 hx HR
          go_wp2_with fail
          refine (pick_any _ R Q _ (by omega) HM.out.2.1).mono ?_
          rintro e w4 ⟨v4, rfl, -, k1⟩
          have H4 : Hid (MOwn w4 w.heap.size (.slice (some ⟨g1, 0, none⟩) (encT x).length c1) (encT x) ∧ SR w R (Q + 1) w4) := Lib.hid ⟨MOwn.sr HM.out.1 ((SR.start HM.out.2.1).picked k1) HM.out.2.2.2, HM.out.2.picked k1⟩
          clear k1 HM hcx
          by_cases hv4 : v4 = 0
          · subst hv4
            go_wp2_with (at_builtin; refine wp_app_mark rfl _ _ rfl _ w.heap.size _ _ _ _ (by rfl) H4.out.1 (by rfl) ?b1 ?b2 ?_)
            case b1 => omega
            case b2 => exact H4.out.2.size
            intro v6 w6 o6 b6 nn6
            have o6 : MOwn w6 w.heap.size v6 (encT (.no x)) := o6
            obtain ⟨g6, c6, rfl, -⟩ := MOwn.form o6 (by have := enc_pos (.no x); omega)
            have HF : Hid (MOwn w6 w.heap.size (.slice (some ⟨g6, 0, none⟩) (encT (.no x)).length c6) (encT (.no x)) ∧ SR w R (Q + 1) w6 ∧ (encT (.no x)).length ≤ 11) := Lib.hid ⟨o6, H4.out.2.below b6, by simp [encT]; omega⟩
            clear o6 b6 nn6 H4
            by_cases hn : 1 ≤ n
            · go_wp2_with fail
              refine (odd_any _ R (Q + 1) n hn hn2 (by omega) HF.out.2.1.1).mono ?_
              rintro e w8 ⟨b, rfl, k1⟩
              have H8 : Hid (MOwn w8 w.heap.size (.slice (some ⟨g6, 0, none⟩) (encT (.no x)).length c6) (encT (.no x)) ∧ SR w R (Q + 1 + 1) w8) := Lib.hid ⟨MOwn.sr HF.out.1 ((SR.start HF.out.2.1.1).picked k1) HF.out.2.1.2.2, HF.out.2.1.picked k1⟩
              have hf11 := HF.out.2.2
              clear k1 HF
              cases b
              · go_wp2_with fail
                go_ret
                exact ⟨g6, c6, encT (.no x), rfl, H8.out.1, by omega, fun _ => ⟨(.no x), rfl, hf11⟩, H8.out.2.mono (by omega)⟩
              · go_wp2_with fail
                refine (pick_any _ R (Q + 1 + 1) _ (by omega) H8.out.2.1).mono ?_
                rintro e w9 ⟨v9, rfl, ⟨q1, q2, -⟩, k1⟩
                have q2 := q2 (by decide)
                have H9 : Hid (MOwn w9 w.heap.size (.slice (some ⟨g6, 0, none⟩) (encT (.no x)).length c6) (encT (.no x)) ∧ SR w R (Q + 1 + 1 + 1) w9) := Lib.hid ⟨MOwn.sr H8.out.1 ((SR.start H8.out.2.1).picked k1) H8.out.2.2.2, H8.out.2.picked k1⟩
                clear k1 H8
                obtain rfl | rfl | rfl : v9 = 0 ∨ v9 = 1 ∨ v9 = 2 := by omega
                · go_wp2_with fail
                  go_ret
                  exact ⟨w9.heap.size, 0, [], rfl, mlit0 w9 _ H9.out.2.size, by simp, fun h => by omega, (H9.out.2.alloc _).mono (by omega)⟩
                · go_wp2_with (at_builtin; refine wp_app_mark rfl _ _ rfl _ w.heap.size _ _ _ _ (by rfl) H9.out.1 (by rfl) ?e1 ?e2 ?_)
                  case e1 => omega
                  case e2 => exact H9.out.2.size
                  intro v10 w10 o10 b10 nn10
                  obtain ⟨g10, c10, rfl, -⟩ := MOwn.form o10 (by simp)
                  have H10 := Lib.hid o10
                  have K10 := Lib.hid (H9.out.2.below b10)
                  clear o10 b10 nn10
                  go_wp2_with fail
                  go_ret
                  exact ⟨g10, c10, _, rfl, H10.out, by simp; omega, fun h => by omega, K10.out.mono (by omega)⟩
                · obtain ⟨hf0, o0, ho0⟩ := GOwn.old qC_len H9.out.1 rfl (k := 0) (j := 0) (by have := enc_pos (.no x); omega) (by decide)
                  obtain ⟨hf1, o1, ho1⟩ := GOwn.old qC_len H9.out.1 rfl (k := 0) (j := 1) (by have := enc_pos (.no x); omega) (by decide)
                  simp only [Nat.zero_mul, Nat.zero_add] at hf0 ho0 hf1 ho1
                  have hset := GOwn.set2 qC_len H9.out.1 (k := 0) (by have := enc_pos (.no x); omega) (x := (0, 2)) rfl
                  simp only [Nat.zero_mul, Nat.zero_add] at hset
                  have HSET : Hid (MOwn ((w9.setCell ⟨g6, 0, none⟩ (.int .i64 0)).setCell ⟨g6, 1, none⟩ (.int .i64 2)) w.heap.size (.slice (some ⟨g6, 0, none⟩) (encT (.no x)).length c6) ((encT (.no x)).set 0 (0, 2)) ∧ SR w R (Q + 1 + 1 + 1) ((w9.setCell ⟨g6, 0, none⟩ (.int .i64 0)).setCell ⟨g6, 1, none⟩ (.int .i64 2))) := Lib.hid ⟨hset.1, H9.out.2.grown hset.2 (fun g hg => (GOwn.ge H9.out.1 g hg).1)⟩
                  have hp0 : (0 : Int) < ((encT (.no x)).length : Int) := by have := enc_pos (.no x); omega
                  have ho1' : (w9.setCell ⟨g6, 0, none⟩ (.int .i64 0)).cell? ⟨g6, 1, none⟩ = some o1 := by rw [World.cell?_setCell_other w9 ⟨g6, 0, none⟩ ⟨g6, 1, none⟩ _ (by intro e; injection e with e1 e2; cases e2)]; exact ho1
                  have hf1' : (w9.setCell ⟨g6, 0, none⟩ (.int .i64 0)).frozen? ⟨g6, 1, none⟩ = false := by rw [World.frozen?_setCell]; exact hf1
                  clear hset
                  go_wp2_with fail
                  go_ret
                  exact ⟨g6, c6, (encT (.no x)).set 0 (0, 2), by rw [List.length_set]; rfl, by rw [List.length_set]; exact HSET.out.1, by rw [List.length_set]; omega, fun h => by omega, HSET.out.2.mono (by omega)⟩
            · have hn0 : n ≤ 0 := by omega
              go_wp2_with fail
              refine (odd0_any _ R 0 n hn0).mono ?_
              rintro e w' ⟨rfl, rfl⟩
              go_wp2_with fail
              go_ret
              exact ⟨g6, c6, encT (.no x), rfl, HF.out.1, by have := HF.out.2.2; omega, fun _ => ⟨(.no x), rfl, HF.out.2.2⟩, HF.out.2.1.mono (by omega)⟩
          · have hv4' : (v4 == 0) = false := by rw [beq_eq_false_iff_ne]; exact hv4
            have HF : Hid (MOwn w4 w.heap.size (.slice (some ⟨g1, 0, none⟩) (encT x).length c1) (encT x) ∧ SR w R (Q + 1) w4 ∧ (encT x).length ≤ 11) := Lib.hid ⟨H4.out.1, H4.out.2, by omega⟩
            clear H4 hv4
            by_cases hn : 1 ≤ n
            · go_wp2_with fail
              refine (odd_any _ R (Q + 1) n hn hn2 (by omega) HF.out.2.1.1).mono ?_
              rintro e w8 ⟨b, rfl, k1⟩
              have H8 : Hid (MOwn w8 w.heap.size (.slice (some ⟨g1, 0, none⟩) (encT x).length c1) (encT x) ∧ SR w R (Q + 1 + 1) w8) := Lib.hid ⟨MOwn.sr HF.out.1 ((SR.start HF.out.2.1.1).picked k1) HF.out.2.1.2.2, HF.out.2.1.picked k1⟩
              have hf11 := HF.out.2.2
              clear k1 HF
              cases b
              · go_wp2_with fail
                go_ret
                exact ⟨g1, c1, encT x, rfl, H8.out.1, by omega, fun _ => ⟨x, rfl, hf11⟩, H8.out.2.mono (by omega)⟩
              · go_wp2_with fail
                refine (pick_any _ R (Q + 1 + 1) _ (by omega) H8.out.2.1).mono ?_
                rintro e w9 ⟨v9, rfl, ⟨q1, q2, -⟩, k1⟩
                have q2 := q2 (by decide)
                have H9 : Hid (MOwn w9 w.heap.size (.slice (some ⟨g1, 0, none⟩) (encT x).length c1) (encT x) ∧ SR w R (Q + 1 + 1 + 1) w9) := Lib.hid ⟨MOwn.sr H8.out.1 ((SR.start H8.out.2.1).picked k1) H8.out.2.2.2, H8.out.2.picked k1⟩
                clear k1 H8
                obtain rfl | rfl | rfl : v9 = 0 ∨ v9 = 1 ∨ v9 = 2 := by omega
                · go_wp2_with fail
                  go_ret
                  exact ⟨w9.heap.size, 0, [], rfl, mlit0 w9 _ H9.out.2.size, by simp, fun h => by omega, (H9.out.2.alloc _).mono (by omega)⟩
                · go_wp2_with (at_builtin; refine wp_app_mark rfl _ _ rfl _ w.heap.size _ _ _ _ (by rfl) H9.out.1 (by rfl) ?e1 ?e2 ?_)
                  case e1 => omega
                  case e2 => exact H9.out.2.size
                  intro v10 w10 o10 b10 nn10
                  obtain ⟨g10, c10, rfl, -⟩ := MOwn.form o10 (by simp)
                  have H10 := Lib.hid o10
                  have K10 := Lib.hid (H9.out.2.below b10)
                  clear o10 b10 nn10
                  go_wp2_with fail
                  go_ret
                  exact ⟨g10, c10, _, rfl, H10.out, by simp; omega, fun h => by omega, K10.out.mono (by omega)⟩
                · obtain ⟨hf0, o0, ho0⟩ := GOwn.old qC_len H9.out.1 rfl (k := 0) (j := 0) (by have := enc_pos x; omega) (by decide)
                  obtain ⟨hf1, o1, ho1⟩ := GOwn.old qC_len H9.out.1 rfl (k := 0) (j := 1) (by have := enc_pos x; omega) (by decide)
                  simp only [Nat.zero_mul, Nat.zero_add] at hf0 ho0 hf1 ho1
                  have hset := GOwn.set2 qC_len H9.out.1 (k := 0) (by have := enc_pos x; omega) (x := (0, 2)) rfl
                  simp only [Nat.zero_mul, Nat.zero_add] at hset
                  have HSET : Hid (MOwn ((w9.setCell ⟨g1, 0, none⟩ (.int .i64 0)).setCell ⟨g1, 1, none⟩ (.int .i64 2)) w.heap.size (.slice (some ⟨g1, 0, none⟩) (encT x).length c1) ((encT x).set 0 (0, 2)) ∧ SR w R (Q + 1 + 1 + 1) ((w9.setCell ⟨g1, 0, none⟩ (.int .i64 0)).setCell ⟨g1, 1, none⟩ (.int .i64 2))) := Lib.hid ⟨hset.1, H9.out.2.grown hset.2 (fun g hg => (GOwn.ge H9.out.1 g hg).1)⟩
                  have hp0 : (0 : Int) < ((encT x).length : Int) := by have := enc_pos x; omega
                  have ho1' : (w9.setCell ⟨g1, 0, none⟩ (.int .i64 0)).cell? ⟨g1, 1, none⟩ = some o1 := by rw [World.cell?_setCell_other w9 ⟨g1, 0, none⟩ ⟨g1, 1, none⟩ _ (by intro e; injection e with e1 e2; cases e2)]; exact ho1
                  have hf1' : (w9.setCell ⟨g1, 0, none⟩ (.int .i64 0)).frozen? ⟨g1, 1, none⟩ = false := by rw [World.frozen?_setCell]; exact hf1
                  clear hset
                  go_wp2_with fail
                  go_ret
                  exact ⟨g1, c1, (encT x).set 0 (0, 2), by rw [List.length_set]; rfl, by rw [List.length_set]; exact HSET.out.1, by rw [List.length_set]; omega, fun h => by omega, HSET.out.2.mono (by omega)⟩
            · have hn0 : n ≤ 0 := by omega
              go_wp2_with fail
              refine (odd0_any _ R 0 n hn0).mono ?_
              rintro e w' ⟨rfl, rfl⟩
              go_wp2_with fail
              go_ret
              exact ⟨g1, c1, encT x, rfl, HF.out.1, by have := HF.out.2.2; omega, fun _ => ⟨x, rfl, HF.out.2.2⟩, HF.out.2.1.mono (by omega)⟩

end Go.Proofs.YtfdlfgokoponmaaDoor
