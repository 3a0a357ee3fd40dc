/- What is drawn of tables: l20Table, DrawTableOk, DrawTableOf, DrawFirstFault, DrawAdditiveOk, DrawMeasureOf, DrawBetsAgainst. Conditions: bytes that came in. -/
import Derived.Test.YteljcicdibbhdaaUh
import Derived.Test.YteljcicdibbhdaaRh
namespace Go.Proofs.Yteljcicdibbhdaa
open Go.RowKit
set_option linter.unusedVariables false

theorem GamRel.fresh {w wr w' : World} {R P : Nat} {p v : Value} {xs ys : List Int} (h : GamRel w R P p xs wr) (hb : Below wr.heap.size wr w') (ho : IOwn w' wr.heap.size v ys) : GamRel w R P v ys w' := by
  obtain ⟨h1, h2, h3, h4⟩ := h
  exact ⟨h1.keep hb.size (fun b hl => hb.block b hl), ho.base h3.size, ⟨hb.os.trans h3.os, hb.tape.trans h3.tape, hb.output.trans h3.output, Nat.le_trans h3.size hb.size, fun k hk hne => (hb.block k (by have := h3.size; omega)).trans (h3.block k hk hne)⟩, h4⟩

theorem GamRel.front {w w1 wr : World} {R P Q : Nat} {v : Value} {xs : List Int} (k : Picked R Q w w1) (hR : R < w.heap.size) (h : GamRel w1 R P v xs wr) : GamRel w R P v xs wr :=
  ⟨h.1, h.2.1.base k.grown.size, grow_trans k.grown h.2.2.1, hR⟩

theorem GamRel.drew {w wr : World} {R P : Nat} {v : Value} {xs : List Int} (h : GamRel w R P v xs wr) : GamRel w R P v xs wr.drew :=
  ⟨h.1, h.2.1, ⟨h.2.2.1.os, h.2.2.1.tape, h.2.2.1.output, h.2.2.1.size, h.2.2.1.block⟩, h.2.2.2⟩

/-- a number of worlds and a table that were drawn: it need not be one -/
def TabD (w : World) (R P : Nat) (e : Ending) (w' : World) : Prop := ∃ (n : Int) (v : Value) (xs : List Int), e = .returned (.tuple #[.int .i64 n, v]) ∧ GamRel w R P v xs w' ∧ xs.length ≤ 17 ∧ 1 ≤ n ∧ n ≤ 4

theorem drawn_row0 {w w1 w2 : World} {Q : Nat} {v : Value} {xs : List Int} (ho : Opened w w1) (h : GamRel w1 w.heap.size Q v xs w2) : IOwn w2 w.heap.size v xs ∧ Below w.heap.size w w2 :=
  ⟨h.2.1.base ho.below.size, ho.below.grown h.2.2.1 ho.below.size (fun g hg => by injection hg with hg; omega)⟩

/-- the first k are halved -/
def halved (xs : List Int) (k : Nat) : List Int := (xs.take k).map (· / 2) ++ xs.drop k

theorem halved_len (xs : List Int) (k : Nat) (hk : k ≤ xs.length) : (halved xs k).length = xs.length := by simp [halved]; omega

theorem halved_zero (xs : List Int) : halved xs 0 = xs := by simp [halved]

theorem halved_at {xs : List Int} {k : Nat} {x : Int} (hx : xs[k]? = some x) : (halved xs k)[k]? = some x := by
  have hk : k < xs.length := (List.getElem?_eq_some_iff.1 hx).1
  unfold halved
  rw [List.getElem?_append_right (by rw [List.length_map, List.length_take]; exact Nat.min_le_left _ _), List.length_map, List.length_take, Nat.min_eq_left (by omega), Nat.sub_self, List.getElem?_drop, Nat.add_zero]
  exact hx

theorem halved_set {xs : List Int} {k : Nat} {x : Int} (hx : xs[k]? = some x) : (halved xs k).set k (x / 2) = halved xs (k + 1) := by
  have hk : k < xs.length := (List.getElem?_eq_some_iff.1 hx).1
  have he : xs[k] = x := (List.getElem?_eq_some_iff.1 hx).2
  unfold halved
  rw [List.set_append_right _ _ (by rw [List.length_map, List.length_take]; exact Nat.min_le_left _ _), List.length_map, List.length_take, Nat.min_eq_left (by omega), Nat.sub_self, List.drop_eq_getElem_cons hk, List.set_cons_zero, List.take_add_one, hx, List.map_append, List.append_assoc]
  rfl

set_option maxRecDepth 100000 in
set_option maxHeartbeats 16000000 in
theorem l20Table_any (w : World) (R P : Nat) (hP : P ≤ 90000) (h : Rd w R P) :
    Calls Try.prog 84 #[.pointer (some ⟨R, 0, none⟩)] w (TabD w R (P + 20)) := by
  obtain ⟨i0, hi, hz0, hz1, hz2⟩ := info_parts Try_intinfo
  have hR := h.lt
  go_enter Try.func84, Try.ntmps84
  go_wp2_with fail
  refine (pick_any _ R P _ (by omega) h).mono ?_
  rintro e w1 ⟨v1, rfl, ⟨p1, p2, -⟩, k1⟩
  have p2 := p2 (by decide)
  have K1 := Lib.hid k1
  clear k1 h
  go_wp2_with fail
  refine (l20MeasureS_any _ R (P + 1) _ (by omega) K1.out.rd (by omega) (by omega)).mono ?_
  rintro e w2 ⟨v2, m, rfl, h2, hlm, hm⟩
  have H2 := Lib.hid (GamRel.front K1.out hR h2)
  have HM := Lib.hid hm
  have hm1 : 1 ≤ m.length := by omega
  have hm4 : m.length ≤ 4 := by omega
  clear h2 hm K1
  go_wp2_with fail
  refine (specTableOf_any _ v2 m H2.out.2.1.rd).mono ?_
  rintro e w3 ⟨v3, rfl, o3, b3⟩
  rw [tabR_yes HM.out] at o3
  have H3 := Lib.hid (H2.out.fresh b3 o3)
  have HBD : Hid (Bnd 36 (tabL m)) := Lib.hid (((tokB_iff _ _).1 ((addB_iff _ _).1 (mea_tab HM.out)).1).2.2)
  have hN1 : 2 ≤ (tabL m).length := by rw [tab_len]; exact Nat.le_trans (by decide) (Nat.pow_le_pow_right (by decide) hm1)
  have hN2 : (tabL m).length ≤ 16 := by rw [tab_len]; exact pow_16 hm4
  clear o3 b3 H2 HM hlm
  generalize tabL m = xs at H3 hN1 hN2 HBD
  obtain ⟨g, cap, rfl, hc1, hc2⟩ := H3.out.form (by omega)
  obtain ⟨N, hN⟩ : ∃ N, xs.length = N := ⟨_, rfl⟩
  rw [hN] at H3 hN1 hN2 hc1 ⊢
  have HL := Lib.hid hN
  clear hN hm1 hm4
  have hN3 : (2 : Int) ≤ (N : Int) := by omega
  go_wp2_with fail
  refine (pick_any _ R (P + 9) _ (by omega) H3.out.1).mono ?_
  rintro e w4 ⟨v2, rfl, ⟨p3, p4, -⟩, k1⟩
  have p4 := p4 (by decide)
  have H4 := Lib.hid (H3.out.picked k1)
  clear k1 H3
  obtain rfl | rfl | rfl | hv : v2 = 0 ∨ v2 = 1 ∨ v2 = 2 ∨ 3 ≤ v2 := by omega
  · skip
    go_wp2_with fail
    refine (pick_any _ R (P + 10) _ (by omega) H4.out.1).mono ?_
    rintro e w5 ⟨v3, rfl, ⟨p5, p6, -⟩, k1⟩
    have p6 := p6 (by omega)
    have H5 := Lib.hid (H4.out.picked k1)
    clear k1
    obtain ⟨k, rfl⟩ : ∃ k : Nat, v3 = k := ⟨v3.toNat, by omega⟩
    obtain ⟨x, hx⟩ : ∃ x, xs[k]? = some x := ⟨_, List.getElem?_eq_getElem (by have := HL.out; omega)⟩
    obtain ⟨x1, x2⟩ : 0 ≤ x ∧ x ≤ 36 := HBD.out.at_ hx
    have HXK := Lib.hid hx
    clear hx
    have HXC : Hid (∀ wq Q, GamRel w R Q (.slice (some ⟨g, 0, none⟩) N cap) xs wq → wq.cell? ⟨g, k, none⟩ = some (.int .i64 x)) := Lib.hid (fun wq Q h => h.cell HXK.out)
    go_wp2_with fail
    refine wp_region_held_drew (S := fun _ => True) (by kernel_rfl) (trivial) (fun hHeld => ?_)
    refine take_in (i := 0) (v := ?_) rfl (by kernel_rfl) (fun _ _ _ h => h) rfl ?_ hHeld ?_
    rotate_left
    · intro w hSw; go_simp; all_goals with_reducible rfl
    try simp only [Act.put, List.setIfInBounds_toArray, List.set_cons_zero, List.set_cons_succ]
    refine take_in (i := 1) (v := ?_) rfl (by kernel_rfl) (fun _ _ _ h => h) rfl ?_ hHeld ?_
    rotate_left
    · intro w hSw; go_simp; all_goals with_reducible rfl
    try simp only [Act.put, List.setIfInBounds_toArray, List.set_cons_zero, List.set_cons_succ]
    refine take_in (i := 2) (v := ?_) rfl (by kernel_rfl) (fun _ _ _ h => h) rfl ?_ hHeld ?_
    rotate_left
    · intro w hSw; go_simp; all_goals with_reducible rfl
    try simp only [Act.put, List.setIfInBounds_toArray, List.set_cons_zero, List.set_cons_succ]
    refine take_in (i := 3) (v := ?_) rfl (by kernel_rfl) (fun _ _ _ h => h) rfl ?_ hHeld ?_
    rotate_left
    · intro w hSw; go_simp; all_goals with_reducible rfl
    try simp only [Act.put, List.setIfInBounds_toArray, List.set_cons_zero, List.set_cons_succ]
    refine take_in (i := 4) (v := ?_) rfl (by kernel_rfl) (fun _ _ _ h => h) rfl ?_ hHeld ?_
    rotate_left
    · intro w hSw; go_simp; all_goals with_reducible rfl
    try simp only [Act.put, List.setIfInBounds_toArray, List.set_cons_zero, List.set_cons_succ]
    refine take_in (i := 6) (v := ?_) rfl (by kernel_rfl) (fun _ _ _ h => h) rfl ?_ hHeld ?_
    rotate_left
    · intro w hSw; go_simp; all_goals with_reducible rfl
    try simp only [Act.put, List.setIfInBounds_toArray, List.set_cons_zero, List.set_cons_succ]
    have H5d := Lib.hid H5.out.drew
    have hc5 := HXC.out _ _ H5d.out
    refine ready_two (i := 5) (j := 7) rfl rfl (by kernel_rfl) (fun K hK => ?_) (fun K hK => ?_)
    · go_simp
      refine hK.out _ _ trivial (fun hHeld => ?_)
      clear hK K
      try simp only [Act.put, List.setIfInBounds_toArray, List.set_cons_zero, List.set_cons_succ]
      refine ready_one (i := 7) rfl (by kernel_rfl) (fun K hK => ?_)
      go_simp
      go_at_call 67
      refine (pick_any _ R (P + 11) _ (by omega) H5d.out.1).mono ?_
      rintro e w6 ⟨v4, rfl, ⟨q1, q2, -⟩, k1⟩
      have q2 := q2 (by decide)
      have H6 := Lib.hid (H5d.out.picked k1)
      clear k1
      refine hK.out _ _ trivial (fun hHeld => ?_)
      clear hK K
      try simp only [Act.put, List.setIfInBounds_toArray, List.set_cons_zero, List.set_cons_succ]
      have hc6 := HXC.out _ _ H6.out
      have hf6 := H6.out.frozen k
      have hs1 : IntKind.i64.wrap (x + v4) = x + v4 := IntWalk.i64_in _ (by omega)
      have hs2 : IntKind.i64.wrap (x + v4 - 2) = x + v4 - 2 := IntWalk.i64_in _ (by omega)
      obtain hq | ⟨hq, hq2⟩ | ⟨hq, hq2⟩ : x + v4 - 2 < 0 ∨ (0 ≤ x + v4 - 2 ∧ x + v4 - 2 ≤ 36) ∨ (0 ≤ x + v4 - 2 ∧ 36 < x + v4 - 2) := by omega
      · refine take_in (i := 8) (v := ?_) rfl (by kernel_rfl) (fun _ _ _ h => h) rfl ?_ hHeld ?_
        rotate_left
        · intro w hSw; go_simp; all_goals with_reducible rfl
        try simp only [Act.put, List.setIfInBounds_toArray, List.set_cons_zero, List.set_cons_succ]
        refine take_in (i := 9) (v := ?_) rfl (by kernel_rfl) (fun _ _ _ h => h) rfl ?_ hHeld ?_
        rotate_left
        · intro w hSw; go_simp; all_goals with_reducible rfl
        try simp only [Act.put, List.setIfInBounds_toArray, List.set_cons_zero, List.set_cons_succ]
        refine take_in (i := 10) (v := ?_) rfl (by kernel_rfl) (fun _ _ _ h => h) rfl ?_ hHeld ?_
        rotate_left
        · intro w hSw; go_simp; all_goals with_reducible rfl
        try simp only [Act.put, List.setIfInBounds_toArray, List.set_cons_zero, List.set_cons_succ]
        refine take_in (i := 11) (v := ?_) rfl (by kernel_rfl) (fun _ _ _ h => h) rfl ?_ hHeld ?_
        rotate_left
        · intro w hSw; go_simp; all_goals with_reducible rfl
        try simp only [Act.put, List.setIfInBounds_toArray, List.set_cons_zero, List.set_cons_succ]
        refine take_in (i := 12) (v := ?_) rfl (by kernel_rfl) (fun _ _ _ h => h) rfl ?_ hHeld ?_
        rotate_left
        · intro w hSw; go_simp; all_goals with_reducible rfl
        try simp only [Act.put, List.setIfInBounds_toArray, List.set_cons_zero, List.set_cons_succ]
        refine ready_one (i := 13) rfl (by kernel_rfl) (fun K hK => ?_)
        go_simp
        refine hK.out _ _ trivial (fun hHeld => ?_)
        clear hK K
        try simp only [Act.put, List.setIfInBounds_toArray, List.set_cons_zero, List.set_cons_succ]
        refine wpAnyH_done (by kernel_rfl) ?_ _
        have HY := Lib.hid (H6.out.store (k := k) (x := 0) HL.out)
        have HLY : Hid ((xs.set k 0).length = N) := Lib.hid (by rw [List.length_set]; exact HL.out)
        clear hc6 hc5 hf6 hs1 hs2 hHeld
        go_wp2_with fail
        generalize w6.setCell ⟨g, k, none⟩ (.int .i64 0) = w7 at HY ⊢
        generalize xs.set k 0 = ys at HY HLY
        clear HL H6 H5d H5 H4 HXK HXC
        have H := HY
        have HL := HLY
        clear HY HLY
        refine (odd_any _ R (P + 12) _ (by decide) (by decide) (by omega) H.out.1).mono ?_
        rintro e w9 ⟨b, rfl, k1⟩
        have H9 := Lib.hid (H.out.picked k1)
        clear k1 H
        cases b
        · go_wp2_with fail
          go_ret2
          exact ⟨_, _, _, rfl, H9.out.mono (by omega), by rw [HL.out]; omega, by omega, by omega⟩
        · have hown0 := H9.out.2.1
          unfold IOwn at hown0
          have hown := Lib.hid (World.ownsRow.alloc (w := w9) hown0 (.cells #[.int .i64 0] 3))
          have hsz := H9.out.2.2.1.size
          clear hown0
          rw [HL.out] at hown
          go_wp2_with (at_builtin; refine wpList_append_own _ rfl _ _ 41 rfl w.heap.size 3 i0 (.int .i64 0) 1 8 Try.underlying41 hi hz0 hz1 hz2 rfl (by decide) _ _ _ rfl hown.out ⟨w9.heap.size, 0, none⟩ 1 1 [.int .i64 0] rfl rfl ?k1a one_int ?k1b ?k1c ?k1d ?_)
          case k1a => exact one_new w9 _ _
          case k1b => unfold maxLen; omega
          case k1c => omega
          case k1d => simp; omega
          intro v' w' hown' hgrow _
          have HX := Lib.hid (H9.out.append (show IOwn w' w.heap.size v' (ys ++ [0]) from by simpa [IOwn, HL.out] using hown') (grown_after (w := w9) ((Below.refl _ w9).alloc (Nat.le_refl _) _) hgrow))
          clear hown' hgrow hown
          go_wp2_with fail
          go_ret2
          exact ⟨_, _, _, rfl, HX.out.mono (by omega), by rw [List.length_append, HL.out]; simp; omega, by omega, by omega⟩
      · refine take_in (i := 8) (v := ?_) rfl (by kernel_rfl) (fun _ _ _ h => h) rfl ?_ hHeld ?_
        rotate_left
        · intro w hSw; go_simp; all_goals with_reducible rfl
        try simp only [Act.put, List.setIfInBounds_toArray, List.set_cons_zero, List.set_cons_succ]
        refine take_in (i := 9) (v := ?_) rfl (by kernel_rfl) (fun _ _ _ h => h) rfl ?_ hHeld ?_
        rotate_left
        · intro w hSw; go_simp; all_goals with_reducible rfl
        try simp only [Act.put, List.setIfInBounds_toArray, List.set_cons_zero, List.set_cons_succ]
        refine take_in (i := 10) (v := ?_) rfl (by kernel_rfl) (fun _ _ _ h => h) rfl ?_ hHeld ?_
        rotate_left
        · intro w hSw; go_simp; all_goals with_reducible rfl
        try simp only [Act.put, List.setIfInBounds_toArray, List.set_cons_zero, List.set_cons_succ]
        refine take_in (i := 11) (v := ?_) rfl (by kernel_rfl) (fun _ _ _ h => h) rfl ?_ hHeld ?_
        rotate_left
        · intro w hSw; go_simp; all_goals with_reducible rfl
        try simp only [Act.put, List.setIfInBounds_toArray, List.set_cons_zero, List.set_cons_succ]
        refine take_in (i := 12) (v := ?_) rfl (by kernel_rfl) (fun _ _ _ h => h) rfl ?_ hHeld ?_
        rotate_left
        · intro w hSw; go_simp; all_goals with_reducible rfl
        try simp only [Act.put, List.setIfInBounds_toArray, List.set_cons_zero, List.set_cons_succ]
        refine ready_one (i := 13) rfl (by kernel_rfl) (fun K hK => ?_)
        go_simp
        refine hK.out _ _ trivial (fun hHeld => ?_)
        clear hK K
        try simp only [Act.put, List.setIfInBounds_toArray, List.set_cons_zero, List.set_cons_succ]
        refine wpAnyH_done (by kernel_rfl) ?_ _
        have HY := Lib.hid (H6.out.store (k := k) (x := (x + v4 - 2)) HL.out)
        have HLY : Hid ((xs.set k (x + v4 - 2)).length = N) := Lib.hid (by rw [List.length_set]; exact HL.out)
        clear hc6 hc5 hf6 hs1 hs2 hHeld
        go_wp2_with fail
        generalize w6.setCell ⟨g, k, none⟩ (.int .i64 (x + v4 - 2)) = w7 at HY ⊢
        generalize xs.set k (x + v4 - 2) = ys at HY HLY
        clear HL H6 H5d H5 H4 HXK HXC
        have H := HY
        have HL := HLY
        clear HY HLY
        refine (odd_any _ R (P + 12) _ (by decide) (by decide) (by omega) H.out.1).mono ?_
        rintro e w9 ⟨b, rfl, k1⟩
        have H9 := Lib.hid (H.out.picked k1)
        clear k1 H
        cases b
        · go_wp2_with fail
          go_ret2
          exact ⟨_, _, _, rfl, H9.out.mono (by omega), by rw [HL.out]; omega, by omega, by omega⟩
        · have hown0 := H9.out.2.1
          unfold IOwn at hown0
          have hown := Lib.hid (World.ownsRow.alloc (w := w9) hown0 (.cells #[.int .i64 0] 3))
          have hsz := H9.out.2.2.1.size
          clear hown0
          rw [HL.out] at hown
          go_wp2_with (at_builtin; refine wpList_append_own _ rfl _ _ 41 rfl w.heap.size 3 i0 (.int .i64 0) 1 8 Try.underlying41 hi hz0 hz1 hz2 rfl (by decide) _ _ _ rfl hown.out ⟨w9.heap.size, 0, none⟩ 1 1 [.int .i64 0] rfl rfl ?k2a one_int ?k2b ?k2c ?k2d ?_)
          case k2a => exact one_new w9 _ _
          case k2b => unfold maxLen; omega
          case k2c => omega
          case k2d => simp; omega
          intro v' w' hown' hgrow _
          have HX := Lib.hid (H9.out.append (show IOwn w' w.heap.size v' (ys ++ [0]) from by simpa [IOwn, HL.out] using hown') (grown_after (w := w9) ((Below.refl _ w9).alloc (Nat.le_refl _) _) hgrow))
          clear hown' hgrow hown
          go_wp2_with fail
          go_ret2
          exact ⟨_, _, _, rfl, HX.out.mono (by omega), by rw [List.length_append, HL.out]; simp; omega, by omega, by omega⟩
      · refine take_in (i := 8) (v := ?_) rfl (by kernel_rfl) (fun _ _ _ h => h) rfl ?_ hHeld ?_
        rotate_left
        · intro w hSw; go_simp; all_goals with_reducible rfl
        try simp only [Act.put, List.setIfInBounds_toArray, List.set_cons_zero, List.set_cons_succ]
        refine take_in (i := 9) (v := ?_) rfl (by kernel_rfl) (fun _ _ _ h => h) rfl ?_ hHeld ?_
        rotate_left
        · intro w hSw; go_simp; all_goals with_reducible rfl
        try simp only [Act.put, List.setIfInBounds_toArray, List.set_cons_zero, List.set_cons_succ]
        refine take_in (i := 10) (v := ?_) rfl (by kernel_rfl) (fun _ _ _ h => h) rfl ?_ hHeld ?_
        rotate_left
        · intro w hSw; go_simp; all_goals with_reducible rfl
        try simp only [Act.put, List.setIfInBounds_toArray, List.set_cons_zero, List.set_cons_succ]
        refine take_in (i := 11) (v := ?_) rfl (by kernel_rfl) (fun _ _ _ h => h) rfl ?_ hHeld ?_
        rotate_left
        · intro w hSw; go_simp; all_goals with_reducible rfl
        try simp only [Act.put, List.setIfInBounds_toArray, List.set_cons_zero, List.set_cons_succ]
        refine take_in (i := 12) (v := ?_) rfl (by kernel_rfl) (fun _ _ _ h => h) rfl ?_ hHeld ?_
        rotate_left
        · intro w hSw; go_simp; all_goals with_reducible rfl
        try simp only [Act.put, List.setIfInBounds_toArray, List.set_cons_zero, List.set_cons_succ]
        refine ready_one (i := 13) rfl (by kernel_rfl) (fun K hK => ?_)
        go_simp
        refine hK.out _ _ trivial (fun hHeld => ?_)
        clear hK K
        try simp only [Act.put, List.setIfInBounds_toArray, List.set_cons_zero, List.set_cons_succ]
        refine wpAnyH_done (by kernel_rfl) ?_ _
        have HY := Lib.hid (H6.out.store (k := k) (x := 36) HL.out)
        have HLY : Hid ((xs.set k 36).length = N) := Lib.hid (by rw [List.length_set]; exact HL.out)
        clear hc6 hc5 hf6 hs1 hs2 hHeld
        go_wp2_with fail
        generalize w6.setCell ⟨g, k, none⟩ (.int .i64 36) = w7 at HY ⊢
        generalize xs.set k 36 = ys at HY HLY
        clear HL H6 H5d H5 H4 HXK HXC
        have H := HY
        have HL := HLY
        clear HY HLY
        refine (odd_any _ R (P + 12) _ (by decide) (by decide) (by omega) H.out.1).mono ?_
        rintro e w9 ⟨b, rfl, k1⟩
        have H9 := Lib.hid (H.out.picked k1)
        clear k1 H
        cases b
        · go_wp2_with fail
          go_ret2
          exact ⟨_, _, _, rfl, H9.out.mono (by omega), by rw [HL.out]; omega, by omega, by omega⟩
        · have hown0 := H9.out.2.1
          unfold IOwn at hown0
          have hown := Lib.hid (World.ownsRow.alloc (w := w9) hown0 (.cells #[.int .i64 0] 3))
          have hsz := H9.out.2.2.1.size
          clear hown0
          rw [HL.out] at hown
          go_wp2_with (at_builtin; refine wpList_append_own _ rfl _ _ 41 rfl w.heap.size 3 i0 (.int .i64 0) 1 8 Try.underlying41 hi hz0 hz1 hz2 rfl (by decide) _ _ _ rfl hown.out ⟨w9.heap.size, 0, none⟩ 1 1 [.int .i64 0] rfl rfl ?k3a one_int ?k3b ?k3c ?k3d ?_)
          case k3a => exact one_new w9 _ _
          case k3b => unfold maxLen; omega
          case k3c => omega
          case k3d => simp; omega
          intro v' w' hown' hgrow _
          have HX := Lib.hid (H9.out.append (show IOwn w' w.heap.size v' (ys ++ [0]) from by simpa [IOwn, HL.out] using hown') (grown_after (w := w9) ((Below.refl _ w9).alloc (Nat.le_refl _) _) hgrow))
          clear hown' hgrow hown
          go_wp2_with fail
          go_ret2
          exact ⟨_, _, _, rfl, HX.out.mono (by omega), by rw [List.length_append, HL.out]; simp; omega, by omega, by omega⟩
    · go_simp
      go_at_call 67
      refine (pick_any _ R (P + 11) _ (by omega) H5d.out.1).mono ?_
      rintro e w6 ⟨v4, rfl, ⟨q1, q2, -⟩, k1⟩
      have q2 := q2 (by decide)
      have H6 := Lib.hid (H5d.out.picked k1)
      clear k1
      refine hK.out _ _ trivial (fun hHeld => ?_)
      clear hK K
      try simp only [Act.put, List.setIfInBounds_toArray, List.set_cons_zero, List.set_cons_succ]
      have hc6 := HXC.out _ _ H6.out
      refine ready_one (i := 5) rfl (by kernel_rfl) (fun K hK => ?_)
      go_simp
      refine hK.out _ _ trivial (fun hHeld => ?_)
      clear hK K
      try simp only [Act.put, List.setIfInBounds_toArray, List.set_cons_zero, List.set_cons_succ]
      have hf6 := H6.out.frozen k
      have hs1 : IntKind.i64.wrap (x + v4) = x + v4 := IntWalk.i64_in _ (by omega)
      have hs2 : IntKind.i64.wrap (x + v4 - 2) = x + v4 - 2 := IntWalk.i64_in _ (by omega)
      obtain hq | ⟨hq, hq2⟩ | ⟨hq, hq2⟩ : x + v4 - 2 < 0 ∨ (0 ≤ x + v4 - 2 ∧ x + v4 - 2 ≤ 36) ∨ (0 ≤ x + v4 - 2 ∧ 36 < x + v4 - 2) := by omega
      · refine take_in (i := 8) (v := ?_) rfl (by kernel_rfl) (fun _ _ _ h => h) rfl ?_ hHeld ?_
        rotate_left
        · intro w hSw; go_simp; all_goals with_reducible rfl
        try simp only [Act.put, List.setIfInBounds_toArray, List.set_cons_zero, List.set_cons_succ]
        refine take_in (i := 9) (v := ?_) rfl (by kernel_rfl) (fun _ _ _ h => h) rfl ?_ hHeld ?_
        rotate_left
        · intro w hSw; go_simp; all_goals with_reducible rfl
        try simp only [Act.put, List.setIfInBounds_toArray, List.set_cons_zero, List.set_cons_succ]
        refine take_in (i := 10) (v := ?_) rfl (by kernel_rfl) (fun _ _ _ h => h) rfl ?_ hHeld ?_
        rotate_left
        · intro w hSw; go_simp; all_goals with_reducible rfl
        try simp only [Act.put, List.setIfInBounds_toArray, List.set_cons_zero, List.set_cons_succ]
        refine take_in (i := 11) (v := ?_) rfl (by kernel_rfl) (fun _ _ _ h => h) rfl ?_ hHeld ?_
        rotate_left
        · intro w hSw; go_simp; all_goals with_reducible rfl
        try simp only [Act.put, List.setIfInBounds_toArray, List.set_cons_zero, List.set_cons_succ]
        refine take_in (i := 12) (v := ?_) rfl (by kernel_rfl) (fun _ _ _ h => h) rfl ?_ hHeld ?_
        rotate_left
        · intro w hSw; go_simp; all_goals with_reducible rfl
        try simp only [Act.put, List.setIfInBounds_toArray, List.set_cons_zero, List.set_cons_succ]
        refine ready_one (i := 13) rfl (by kernel_rfl) (fun K hK => ?_)
        go_simp
        refine hK.out _ _ trivial (fun hHeld => ?_)
        clear hK K
        try simp only [Act.put, List.setIfInBounds_toArray, List.set_cons_zero, List.set_cons_succ]
        refine wpAnyH_done (by kernel_rfl) ?_ _
        have HY := Lib.hid (H6.out.store (k := k) (x := 0) HL.out)
        have HLY : Hid ((xs.set k 0).length = N) := Lib.hid (by rw [List.length_set]; exact HL.out)
        clear hc6 hc5 hf6 hs1 hs2 hHeld
        go_wp2_with fail
        generalize w6.setCell ⟨g, k, none⟩ (.int .i64 0) = w7 at HY ⊢
        generalize xs.set k 0 = ys at HY HLY
        clear HL H6 H5d H5 H4 HXK HXC
        have H := HY
        have HL := HLY
        clear HY HLY
        refine (odd_any _ R (P + 12) _ (by decide) (by decide) (by omega) H.out.1).mono ?_
        rintro e w9 ⟨b, rfl, k1⟩
        have H9 := Lib.hid (H.out.picked k1)
        clear k1 H
        cases b
        · go_wp2_with fail
          go_ret2
          exact ⟨_, _, _, rfl, H9.out.mono (by omega), by rw [HL.out]; omega, by omega, by omega⟩
        · have hown0 := H9.out.2.1
          unfold IOwn at hown0
          have hown := Lib.hid (World.ownsRow.alloc (w := w9) hown0 (.cells #[.int .i64 0] 3))
          have hsz := H9.out.2.2.1.size
          clear hown0
          rw [HL.out] at hown
          go_wp2_with (at_builtin; refine wpList_append_own _ rfl _ _ 41 rfl w.heap.size 3 i0 (.int .i64 0) 1 8 Try.underlying41 hi hz0 hz1 hz2 rfl (by decide) _ _ _ rfl hown.out ⟨w9.heap.size, 0, none⟩ 1 1 [.int .i64 0] rfl rfl ?k4a one_int ?k4b ?k4c ?k4d ?_)
          case k4a => exact one_new w9 _ _
          case k4b => unfold maxLen; omega
          case k4c => omega
          case k4d => simp; omega
          intro v' w' hown' hgrow _
          have HX := Lib.hid (H9.out.append (show IOwn w' w.heap.size v' (ys ++ [0]) from by simpa [IOwn, HL.out] using hown') (grown_after (w := w9) ((Below.refl _ w9).alloc (Nat.le_refl _) _) hgrow))
          clear hown' hgrow hown
          go_wp2_with fail
          go_ret2
          exact ⟨_, _, _, rfl, HX.out.mono (by omega), by rw [List.length_append, HL.out]; simp; omega, by omega, by omega⟩
      · refine take_in (i := 8) (v := ?_) rfl (by kernel_rfl) (fun _ _ _ h => h) rfl ?_ hHeld ?_
        rotate_left
        · intro w hSw; go_simp; all_goals with_reducible rfl
        try simp only [Act.put, List.setIfInBounds_toArray, List.set_cons_zero, List.set_cons_succ]
        refine take_in (i := 9) (v := ?_) rfl (by kernel_rfl) (fun _ _ _ h => h) rfl ?_ hHeld ?_
        rotate_left
        · intro w hSw; go_simp; all_goals with_reducible rfl
        try simp only [Act.put, List.setIfInBounds_toArray, List.set_cons_zero, List.set_cons_succ]
        refine take_in (i := 10) (v := ?_) rfl (by kernel_rfl) (fun _ _ _ h => h) rfl ?_ hHeld ?_
        rotate_left
        · intro w hSw; go_simp; all_goals with_reducible rfl
        try simp only [Act.put, List.setIfInBounds_toArray, List.set_cons_zero, List.set_cons_succ]
        refine take_in (i := 11) (v := ?_) rfl (by kernel_rfl) (fun _ _ _ h => h) rfl ?_ hHeld ?_
        rotate_left
        · intro w hSw; go_simp; all_goals with_reducible rfl
        try simp only [Act.put, List.setIfInBounds_toArray, List.set_cons_zero, List.set_cons_succ]
        refine take_in (i := 12) (v := ?_) rfl (by kernel_rfl) (fun _ _ _ h => h) rfl ?_ hHeld ?_
        rotate_left
        · intro w hSw; go_simp; all_goals with_reducible rfl
        try simp only [Act.put, List.setIfInBounds_toArray, List.set_cons_zero, List.set_cons_succ]
        refine ready_one (i := 13) rfl (by kernel_rfl) (fun K hK => ?_)
        go_simp
        refine hK.out _ _ trivial (fun hHeld => ?_)
        clear hK K
        try simp only [Act.put, List.setIfInBounds_toArray, List.set_cons_zero, List.set_cons_succ]
        refine wpAnyH_done (by kernel_rfl) ?_ _
        have HY := Lib.hid (H6.out.store (k := k) (x := (x + v4 - 2)) HL.out)
        have HLY : Hid ((xs.set k (x + v4 - 2)).length = N) := Lib.hid (by rw [List.length_set]; exact HL.out)
        clear hc6 hc5 hf6 hs1 hs2 hHeld
        go_wp2_with fail
        generalize w6.setCell ⟨g, k, none⟩ (.int .i64 (x + v4 - 2)) = w7 at HY ⊢
        generalize xs.set k (x + v4 - 2) = ys at HY HLY
        clear HL H6 H5d H5 H4 HXK HXC
        have H := HY
        have HL := HLY
        clear HY HLY
        refine (odd_any _ R (P + 12) _ (by decide) (by decide) (by omega) H.out.1).mono ?_
        rintro e w9 ⟨b, rfl, k1⟩
        have H9 := Lib.hid (H.out.picked k1)
        clear k1 H
        cases b
        · go_wp2_with fail
          go_ret2
          exact ⟨_, _, _, rfl, H9.out.mono (by omega), by rw [HL.out]; omega, by omega, by omega⟩
        · have hown0 := H9.out.2.1
          unfold IOwn at hown0
          have hown := Lib.hid (World.ownsRow.alloc (w := w9) hown0 (.cells #[.int .i64 0] 3))
          have hsz := H9.out.2.2.1.size
          clear hown0
          rw [HL.out] at hown
          go_wp2_with (at_builtin; refine wpList_append_own _ rfl _ _ 41 rfl w.heap.size 3 i0 (.int .i64 0) 1 8 Try.underlying41 hi hz0 hz1 hz2 rfl (by decide) _ _ _ rfl hown.out ⟨w9.heap.size, 0, none⟩ 1 1 [.int .i64 0] rfl rfl ?k5a one_int ?k5b ?k5c ?k5d ?_)
          case k5a => exact one_new w9 _ _
          case k5b => unfold maxLen; omega
          case k5c => omega
          case k5d => simp; omega
          intro v' w' hown' hgrow _
          have HX := Lib.hid (H9.out.append (show IOwn w' w.heap.size v' (ys ++ [0]) from by simpa [IOwn, HL.out] using hown') (grown_after (w := w9) ((Below.refl _ w9).alloc (Nat.le_refl _) _) hgrow))
          clear hown' hgrow hown
          go_wp2_with fail
          go_ret2
          exact ⟨_, _, _, rfl, HX.out.mono (by omega), by rw [List.length_append, HL.out]; simp; omega, by omega, by omega⟩
      · refine take_in (i := 8) (v := ?_) rfl (by kernel_rfl) (fun _ _ _ h => h) rfl ?_ hHeld ?_
        rotate_left
        · intro w hSw; go_simp; all_goals with_reducible rfl
        try simp only [Act.put, List.setIfInBounds_toArray, List.set_cons_zero, List.set_cons_succ]
        refine take_in (i := 9) (v := ?_) rfl (by kernel_rfl) (fun _ _ _ h => h) rfl ?_ hHeld ?_
        rotate_left
        · intro w hSw; go_simp; all_goals with_reducible rfl
        try simp only [Act.put, List.setIfInBounds_toArray, List.set_cons_zero, List.set_cons_succ]
        refine take_in (i := 10) (v := ?_) rfl (by kernel_rfl) (fun _ _ _ h => h) rfl ?_ hHeld ?_
        rotate_left
        · intro w hSw; go_simp; all_goals with_reducible rfl
        try simp only [Act.put, List.setIfInBounds_toArray, List.set_cons_zero, List.set_cons_succ]
        refine take_in (i := 11) (v := ?_) rfl (by kernel_rfl) (fun _ _ _ h => h) rfl ?_ hHeld ?_
        rotate_left
        · intro w hSw; go_simp; all_goals with_reducible rfl
        try simp only [Act.put, List.setIfInBounds_toArray, List.set_cons_zero, List.set_cons_succ]
        refine take_in (i := 12) (v := ?_) rfl (by kernel_rfl) (fun _ _ _ h => h) rfl ?_ hHeld ?_
        rotate_left
        · intro w hSw; go_simp; all_goals with_reducible rfl
        try simp only [Act.put, List.setIfInBounds_toArray, List.set_cons_zero, List.set_cons_succ]
        refine ready_one (i := 13) rfl (by kernel_rfl) (fun K hK => ?_)
        go_simp
        refine hK.out _ _ trivial (fun hHeld => ?_)
        clear hK K
        try simp only [Act.put, List.setIfInBounds_toArray, List.set_cons_zero, List.set_cons_succ]
        refine wpAnyH_done (by kernel_rfl) ?_ _
        have HY := Lib.hid (H6.out.store (k := k) (x := 36) HL.out)
        have HLY : Hid ((xs.set k 36).length = N) := Lib.hid (by rw [List.length_set]; exact HL.out)
        clear hc6 hc5 hf6 hs1 hs2 hHeld
        go_wp2_with fail
        generalize w6.setCell ⟨g, k, none⟩ (.int .i64 36) = w7 at HY ⊢
        generalize xs.set k 36 = ys at HY HLY
        clear HL H6 H5d H5 H4 HXK HXC
        have H := HY
        have HL := HLY
        clear HY HLY
        refine (odd_any _ R (P + 12) _ (by decide) (by decide) (by omega) H.out.1).mono ?_
        rintro e w9 ⟨b, rfl, k1⟩
        have H9 := Lib.hid (H.out.picked k1)
        clear k1 H
        cases b
        · go_wp2_with fail
          go_ret2
          exact ⟨_, _, _, rfl, H9.out.mono (by omega), by rw [HL.out]; omega, by omega, by omega⟩
        · have hown0 := H9.out.2.1
          unfold IOwn at hown0
          have hown := Lib.hid (World.ownsRow.alloc (w := w9) hown0 (.cells #[.int .i64 0] 3))
          have hsz := H9.out.2.2.1.size
          clear hown0
          rw [HL.out] at hown
          go_wp2_with (at_builtin; refine wpList_append_own _ rfl _ _ 41 rfl w.heap.size 3 i0 (.int .i64 0) 1 8 Try.underlying41 hi hz0 hz1 hz2 rfl (by decide) _ _ _ rfl hown.out ⟨w9.heap.size, 0, none⟩ 1 1 [.int .i64 0] rfl rfl ?k6a one_int ?k6b ?k6c ?k6d ?_)
          case k6a => exact one_new w9 _ _
          case k6b => unfold maxLen; omega
          case k6c => omega
          case k6d => simp; omega
          intro v' w' hown' hgrow _
          have HX := Lib.hid (H9.out.append (show IOwn w' w.heap.size v' (ys ++ [0]) from by simpa [IOwn, HL.out] using hown') (grown_after (w := w9) ((Below.refl _ w9).alloc (Nat.le_refl _) _) hgrow))
          clear hown' hgrow hown
          go_wp2_with fail
          go_ret2
          exact ⟨_, _, _, rfl, HX.out.mono (by omega), by rw [List.length_append, HL.out]; simp; omega, by omega, by omega⟩
  · skip
    go_wp2_with fail
    refine (pick_any _ R (P + 10) _ (by omega) H4.out.1).mono ?_
    rintro e w5 ⟨v3, rfl, ⟨p5, p6, -⟩, k1⟩
    have p6 := p6 (by omega)
    have H5 := Lib.hid (H4.out.picked k1)
    clear k1
    obtain ⟨k, rfl⟩ : ∃ k : Nat, v3 = k := ⟨v3.toNat, by omega⟩
    obtain ⟨x, hx⟩ : ∃ x, xs[k]? = some x := ⟨_, List.getElem?_eq_getElem (by have := HL.out; omega)⟩
    obtain ⟨x1, x2⟩ : 0 ≤ x ∧ x ≤ 36 := HBD.out.at_ hx
    have HXK := Lib.hid hx
    clear hx
    have HXC : Hid (∀ wq Q, GamRel w R Q (.slice (some ⟨g, 0, none⟩) N cap) xs wq → wq.cell? ⟨g, k, none⟩ = some (.int .i64 x)) := Lib.hid (fun wq Q h => h.cell HXK.out)
    go_wp2_with fail
    refine wp_region_held_drew (S := fun _ => True) (by kernel_rfl) (trivial) (fun hHeld => ?_)
    refine take_in (i := 0) (v := ?_) rfl (by kernel_rfl) (fun _ _ _ h => h) rfl ?_ hHeld ?_
    rotate_left
    · intro w hSw; go_simp; all_goals with_reducible rfl
    try simp only [Act.put, List.setIfInBounds_toArray, List.set_cons_zero, List.set_cons_succ]
    refine take_in (i := 1) (v := ?_) rfl (by kernel_rfl) (fun _ _ _ h => h) rfl ?_ hHeld ?_
    rotate_left
    · intro w hSw; go_simp; all_goals with_reducible rfl
    try simp only [Act.put, List.setIfInBounds_toArray, List.set_cons_zero, List.set_cons_succ]
    refine take_in (i := 2) (v := ?_) rfl (by kernel_rfl) (fun _ _ _ h => h) rfl ?_ hHeld ?_
    rotate_left
    · intro w hSw; go_simp; all_goals with_reducible rfl
    try simp only [Act.put, List.setIfInBounds_toArray, List.set_cons_zero, List.set_cons_succ]
    refine take_in (i := 3) (v := ?_) rfl (by kernel_rfl) (fun _ _ _ h => h) rfl ?_ hHeld ?_
    rotate_left
    · intro w hSw; go_simp; all_goals with_reducible rfl
    try simp only [Act.put, List.setIfInBounds_toArray, List.set_cons_zero, List.set_cons_succ]
    refine take_in (i := 4) (v := ?_) rfl (by kernel_rfl) (fun _ _ _ h => h) rfl ?_ hHeld ?_
    rotate_left
    · intro w hSw; go_simp; all_goals with_reducible rfl
    try simp only [Act.put, List.setIfInBounds_toArray, List.set_cons_zero, List.set_cons_succ]
    refine take_in (i := 6) (v := ?_) rfl (by kernel_rfl) (fun _ _ _ h => h) rfl ?_ hHeld ?_
    rotate_left
    · intro w hSw; go_simp; all_goals with_reducible rfl
    try simp only [Act.put, List.setIfInBounds_toArray, List.set_cons_zero, List.set_cons_succ]
    have H5d := Lib.hid H5.out.drew
    have hc5 := HXC.out _ _ H5d.out
    refine ready_two (i := 5) (j := 7) rfl rfl (by kernel_rfl) (fun K hK => ?_) (fun K hK => ?_)
    · go_simp
      refine hK.out _ _ trivial (fun hHeld => ?_)
      clear hK K
      try simp only [Act.put, List.setIfInBounds_toArray, List.set_cons_zero, List.set_cons_succ]
      refine ready_one (i := 7) rfl (by kernel_rfl) (fun K hK => ?_)
      go_simp
      go_at_call 67
      refine (pick_any _ R (P + 11) _ (by omega) H5d.out.1).mono ?_
      rintro e w6 ⟨v4, rfl, ⟨q1, q2, -⟩, k1⟩
      have q2 := q2 (by decide)
      have H6 := Lib.hid (H5d.out.picked k1)
      clear k1
      refine hK.out _ _ trivial (fun hHeld => ?_)
      clear hK K
      try simp only [Act.put, List.setIfInBounds_toArray, List.set_cons_zero, List.set_cons_succ]
      have hc6 := HXC.out _ _ H6.out
      have hf6 := H6.out.frozen k
      have hs1 : IntKind.i64.wrap (x + v4) = x + v4 := IntWalk.i64_in _ (by omega)
      have hs2 : IntKind.i64.wrap (x + v4 - 2) = x + v4 - 2 := IntWalk.i64_in _ (by omega)
      obtain hq | ⟨hq, hq2⟩ | ⟨hq, hq2⟩ : x + v4 - 2 < 0 ∨ (0 ≤ x + v4 - 2 ∧ x + v4 - 2 ≤ 36) ∨ (0 ≤ x + v4 - 2 ∧ 36 < x + v4 - 2) := by omega
      · refine take_in (i := 8) (v := ?_) rfl (by kernel_rfl) (fun _ _ _ h => h) rfl ?_ hHeld ?_
        rotate_left
        · intro w hSw; go_simp; all_goals with_reducible rfl
        try simp only [Act.put, List.setIfInBounds_toArray, List.set_cons_zero, List.set_cons_succ]
        refine take_in (i := 9) (v := ?_) rfl (by kernel_rfl) (fun _ _ _ h => h) rfl ?_ hHeld ?_
        rotate_left
        · intro w hSw; go_simp; all_goals with_reducible rfl
        try simp only [Act.put, List.setIfInBounds_toArray, List.set_cons_zero, List.set_cons_succ]
        refine take_in (i := 10) (v := ?_) rfl (by kernel_rfl) (fun _ _ _ h => h) rfl ?_ hHeld ?_
        rotate_left
        · intro w hSw; go_simp; all_goals with_reducible rfl
        try simp only [Act.put, List.setIfInBounds_toArray, List.set_cons_zero, List.set_cons_succ]
        refine take_in (i := 11) (v := ?_) rfl (by kernel_rfl) (fun _ _ _ h => h) rfl ?_ hHeld ?_
        rotate_left
        · intro w hSw; go_simp; all_goals with_reducible rfl
        try simp only [Act.put, List.setIfInBounds_toArray, List.set_cons_zero, List.set_cons_succ]
        refine take_in (i := 12) (v := ?_) rfl (by kernel_rfl) (fun _ _ _ h => h) rfl ?_ hHeld ?_
        rotate_left
        · intro w hSw; go_simp; all_goals with_reducible rfl
        try simp only [Act.put, List.setIfInBounds_toArray, List.set_cons_zero, List.set_cons_succ]
        refine ready_one (i := 13) rfl (by kernel_rfl) (fun K hK => ?_)
        go_simp
        refine hK.out _ _ trivial (fun hHeld => ?_)
        clear hK K
        try simp only [Act.put, List.setIfInBounds_toArray, List.set_cons_zero, List.set_cons_succ]
        refine wpAnyH_done (by kernel_rfl) ?_ _
        have HY := Lib.hid (H6.out.store (k := k) (x := 0) HL.out)
        have HLY : Hid ((xs.set k 0).length = N) := Lib.hid (by rw [List.length_set]; exact HL.out)
        clear hc6 hc5 hf6 hs1 hs2 hHeld
        go_wp2_with fail
        generalize w6.setCell ⟨g, k, none⟩ (.int .i64 0) = w7 at HY ⊢
        generalize xs.set k 0 = ys at HY HLY
        clear HL H6 H5d H5 H4 HXK HXC
        have H := HY
        have HL := HLY
        clear HY HLY
        refine (odd_any _ R (P + 12) _ (by decide) (by decide) (by omega) H.out.1).mono ?_
        rintro e w9 ⟨b, rfl, k1⟩
        have H9 := Lib.hid (H.out.picked k1)
        clear k1 H
        cases b
        · go_wp2_with fail
          go_ret2
          exact ⟨_, _, _, rfl, H9.out.mono (by omega), by rw [HL.out]; omega, by omega, by omega⟩
        · have hown0 := H9.out.2.1
          unfold IOwn at hown0
          have hown := Lib.hid (World.ownsRow.alloc (w := w9) hown0 (.cells #[.int .i64 0] 3))
          have hsz := H9.out.2.2.1.size
          clear hown0
          rw [HL.out] at hown
          go_wp2_with (at_builtin; refine wpList_append_own _ rfl _ _ 41 rfl w.heap.size 3 i0 (.int .i64 0) 1 8 Try.underlying41 hi hz0 hz1 hz2 rfl (by decide) _ _ _ rfl hown.out ⟨w9.heap.size, 0, none⟩ 1 1 [.int .i64 0] rfl rfl ?k7a one_int ?k7b ?k7c ?k7d ?_)
          case k7a => exact one_new w9 _ _
          case k7b => unfold maxLen; omega
          case k7c => omega
          case k7d => simp; omega
          intro v' w' hown' hgrow _
          have HX := Lib.hid (H9.out.append (show IOwn w' w.heap.size v' (ys ++ [0]) from by simpa [IOwn, HL.out] using hown') (grown_after (w := w9) ((Below.refl _ w9).alloc (Nat.le_refl _) _) hgrow))
          clear hown' hgrow hown
          go_wp2_with fail
          go_ret2
          exact ⟨_, _, _, rfl, HX.out.mono (by omega), by rw [List.length_append, HL.out]; simp; omega, by omega, by omega⟩
      · refine take_in (i := 8) (v := ?_) rfl (by kernel_rfl) (fun _ _ _ h => h) rfl ?_ hHeld ?_
        rotate_left
        · intro w hSw; go_simp; all_goals with_reducible rfl
        try simp only [Act.put, List.setIfInBounds_toArray, List.set_cons_zero, List.set_cons_succ]
        refine take_in (i := 9) (v := ?_) rfl (by kernel_rfl) (fun _ _ _ h => h) rfl ?_ hHeld ?_
        rotate_left
        · intro w hSw; go_simp; all_goals with_reducible rfl
        try simp only [Act.put, List.setIfInBounds_toArray, List.set_cons_zero, List.set_cons_succ]
        refine take_in (i := 10) (v := ?_) rfl (by kernel_rfl) (fun _ _ _ h => h) rfl ?_ hHeld ?_
        rotate_left
        · intro w hSw; go_simp; all_goals with_reducible rfl
        try simp only [Act.put, List.setIfInBounds_toArray, List.set_cons_zero, List.set_cons_succ]
        refine take_in (i := 11) (v := ?_) rfl (by kernel_rfl) (fun _ _ _ h => h) rfl ?_ hHeld ?_
        rotate_left
        · intro w hSw; go_simp; all_goals with_reducible rfl
        try simp only [Act.put, List.setIfInBounds_toArray, List.set_cons_zero, List.set_cons_succ]
        refine take_in (i := 12) (v := ?_) rfl (by kernel_rfl) (fun _ _ _ h => h) rfl ?_ hHeld ?_
        rotate_left
        · intro w hSw; go_simp; all_goals with_reducible rfl
        try simp only [Act.put, List.setIfInBounds_toArray, List.set_cons_zero, List.set_cons_succ]
        refine ready_one (i := 13) rfl (by kernel_rfl) (fun K hK => ?_)
        go_simp
        refine hK.out _ _ trivial (fun hHeld => ?_)
        clear hK K
        try simp only [Act.put, List.setIfInBounds_toArray, List.set_cons_zero, List.set_cons_succ]
        refine wpAnyH_done (by kernel_rfl) ?_ _
        have HY := Lib.hid (H6.out.store (k := k) (x := (x + v4 - 2)) HL.out)
        have HLY : Hid ((xs.set k (x + v4 - 2)).length = N) := Lib.hid (by rw [List.length_set]; exact HL.out)
        clear hc6 hc5 hf6 hs1 hs2 hHeld
        go_wp2_with fail
        generalize w6.setCell ⟨g, k, none⟩ (.int .i64 (x + v4 - 2)) = w7 at HY ⊢
        generalize xs.set k (x + v4 - 2) = ys at HY HLY
        clear HL H6 H5d H5 H4 HXK HXC
        have H := HY
        have HL := HLY
        clear HY HLY
        refine (odd_any _ R (P + 12) _ (by decide) (by decide) (by omega) H.out.1).mono ?_
        rintro e w9 ⟨b, rfl, k1⟩
        have H9 := Lib.hid (H.out.picked k1)
        clear k1 H
        cases b
        · go_wp2_with fail
          go_ret2
          exact ⟨_, _, _, rfl, H9.out.mono (by omega), by rw [HL.out]; omega, by omega, by omega⟩
        · have hown0 := H9.out.2.1
          unfold IOwn at hown0
          have hown := Lib.hid (World.ownsRow.alloc (w := w9) hown0 (.cells #[.int .i64 0] 3))
          have hsz := H9.out.2.2.1.size
          clear hown0
          rw [HL.out] at hown
          go_wp2_with (at_builtin; refine wpList_append_own _ rfl _ _ 41 rfl w.heap.size 3 i0 (.int .i64 0) 1 8 Try.underlying41 hi hz0 hz1 hz2 rfl (by decide) _ _ _ rfl hown.out ⟨w9.heap.size, 0, none⟩ 1 1 [.int .i64 0] rfl rfl ?k8a one_int ?k8b ?k8c ?k8d ?_)
          case k8a => exact one_new w9 _ _
          case k8b => unfold maxLen; omega
          case k8c => omega
          case k8d => simp; omega
          intro v' w' hown' hgrow _
          have HX := Lib.hid (H9.out.append (show IOwn w' w.heap.size v' (ys ++ [0]) from by simpa [IOwn, HL.out] using hown') (grown_after (w := w9) ((Below.refl _ w9).alloc (Nat.le_refl _) _) hgrow))
          clear hown' hgrow hown
          go_wp2_with fail
          go_ret2
          exact ⟨_, _, _, rfl, HX.out.mono (by omega), by rw [List.length_append, HL.out]; simp; omega, by omega, by omega⟩
      · refine take_in (i := 8) (v := ?_) rfl (by kernel_rfl) (fun _ _ _ h => h) rfl ?_ hHeld ?_
        rotate_left
        · intro w hSw; go_simp; all_goals with_reducible rfl
        try simp only [Act.put, List.setIfInBounds_toArray, List.set_cons_zero, List.set_cons_succ]
        refine take_in (i := 9) (v := ?_) rfl (by kernel_rfl) (fun _ _ _ h => h) rfl ?_ hHeld ?_
        rotate_left
        · intro w hSw; go_simp; all_goals with_reducible rfl
        try simp only [Act.put, List.setIfInBounds_toArray, List.set_cons_zero, List.set_cons_succ]
        refine take_in (i := 10) (v := ?_) rfl (by kernel_rfl) (fun _ _ _ h => h) rfl ?_ hHeld ?_
        rotate_left
        · intro w hSw; go_simp; all_goals with_reducible rfl
        try simp only [Act.put, List.setIfInBounds_toArray, List.set_cons_zero, List.set_cons_succ]
        refine take_in (i := 11) (v := ?_) rfl (by kernel_rfl) (fun _ _ _ h => h) rfl ?_ hHeld ?_
        rotate_left
        · intro w hSw; go_simp; all_goals with_reducible rfl
        try simp only [Act.put, List.setIfInBounds_toArray, List.set_cons_zero, List.set_cons_succ]
        refine take_in (i := 12) (v := ?_) rfl (by kernel_rfl) (fun _ _ _ h => h) rfl ?_ hHeld ?_
        rotate_left
        · intro w hSw; go_simp; all_goals with_reducible rfl
        try simp only [Act.put, List.setIfInBounds_toArray, List.set_cons_zero, List.set_cons_succ]
        refine ready_one (i := 13) rfl (by kernel_rfl) (fun K hK => ?_)
        go_simp
        refine hK.out _ _ trivial (fun hHeld => ?_)
        clear hK K
        try simp only [Act.put, List.setIfInBounds_toArray, List.set_cons_zero, List.set_cons_succ]
        refine wpAnyH_done (by kernel_rfl) ?_ _
        have HY := Lib.hid (H6.out.store (k := k) (x := 36) HL.out)
        have HLY : Hid ((xs.set k 36).length = N) := Lib.hid (by rw [List.length_set]; exact HL.out)
        clear hc6 hc5 hf6 hs1 hs2 hHeld
        go_wp2_with fail
        generalize w6.setCell ⟨g, k, none⟩ (.int .i64 36) = w7 at HY ⊢
        generalize xs.set k 36 = ys at HY HLY
        clear HL H6 H5d H5 H4 HXK HXC
        have H := HY
        have HL := HLY
        clear HY HLY
        refine (odd_any _ R (P + 12) _ (by decide) (by decide) (by omega) H.out.1).mono ?_
        rintro e w9 ⟨b, rfl, k1⟩
        have H9 := Lib.hid (H.out.picked k1)
        clear k1 H
        cases b
        · go_wp2_with fail
          go_ret2
          exact ⟨_, _, _, rfl, H9.out.mono (by omega), by rw [HL.out]; omega, by omega, by omega⟩
        · have hown0 := H9.out.2.1
          unfold IOwn at hown0
          have hown := Lib.hid (World.ownsRow.alloc (w := w9) hown0 (.cells #[.int .i64 0] 3))
          have hsz := H9.out.2.2.1.size
          clear hown0
          rw [HL.out] at hown
          go_wp2_with (at_builtin; refine wpList_append_own _ rfl _ _ 41 rfl w.heap.size 3 i0 (.int .i64 0) 1 8 Try.underlying41 hi hz0 hz1 hz2 rfl (by decide) _ _ _ rfl hown.out ⟨w9.heap.size, 0, none⟩ 1 1 [.int .i64 0] rfl rfl ?k9a one_int ?k9b ?k9c ?k9d ?_)
          case k9a => exact one_new w9 _ _
          case k9b => unfold maxLen; omega
          case k9c => omega
          case k9d => simp; omega
          intro v' w' hown' hgrow _
          have HX := Lib.hid (H9.out.append (show IOwn w' w.heap.size v' (ys ++ [0]) from by simpa [IOwn, HL.out] using hown') (grown_after (w := w9) ((Below.refl _ w9).alloc (Nat.le_refl _) _) hgrow))
          clear hown' hgrow hown
          go_wp2_with fail
          go_ret2
          exact ⟨_, _, _, rfl, HX.out.mono (by omega), by rw [List.length_append, HL.out]; simp; omega, by omega, by omega⟩
    · go_simp
      go_at_call 67
      refine (pick_any _ R (P + 11) _ (by omega) H5d.out.1).mono ?_
      rintro e w6 ⟨v4, rfl, ⟨q1, q2, -⟩, k1⟩
      have q2 := q2 (by decide)
      have H6 := Lib.hid (H5d.out.picked k1)
      clear k1
      refine hK.out _ _ trivial (fun hHeld => ?_)
      clear hK K
      try simp only [Act.put, List.setIfInBounds_toArray, List.set_cons_zero, List.set_cons_succ]
      have hc6 := HXC.out _ _ H6.out
      refine ready_one (i := 5) rfl (by kernel_rfl) (fun K hK => ?_)
      go_simp
      refine hK.out _ _ trivial (fun hHeld => ?_)
      clear hK K
      try simp only [Act.put, List.setIfInBounds_toArray, List.set_cons_zero, List.set_cons_succ]
      have hf6 := H6.out.frozen k
      have hs1 : IntKind.i64.wrap (x + v4) = x + v4 := IntWalk.i64_in _ (by omega)
      have hs2 : IntKind.i64.wrap (x + v4 - 2) = x + v4 - 2 := IntWalk.i64_in _ (by omega)
      obtain hq | ⟨hq, hq2⟩ | ⟨hq, hq2⟩ : x + v4 - 2 < 0 ∨ (0 ≤ x + v4 - 2 ∧ x + v4 - 2 ≤ 36) ∨ (0 ≤ x + v4 - 2 ∧ 36 < x + v4 - 2) := by omega
      · refine take_in (i := 8) (v := ?_) rfl (by kernel_rfl) (fun _ _ _ h => h) rfl ?_ hHeld ?_
        rotate_left
        · intro w hSw; go_simp; all_goals with_reducible rfl
        try simp only [Act.put, List.setIfInBounds_toArray, List.set_cons_zero, List.set_cons_succ]
        refine take_in (i := 9) (v := ?_) rfl (by kernel_rfl) (fun _ _ _ h => h) rfl ?_ hHeld ?_
        rotate_left
        · intro w hSw; go_simp; all_goals with_reducible rfl
        try simp only [Act.put, List.setIfInBounds_toArray, List.set_cons_zero, List.set_cons_succ]
        refine take_in (i := 10) (v := ?_) rfl (by kernel_rfl) (fun _ _ _ h => h) rfl ?_ hHeld ?_
        rotate_left
        · intro w hSw; go_simp; all_goals with_reducible rfl
        try simp only [Act.put, List.setIfInBounds_toArray, List.set_cons_zero, List.set_cons_succ]
        refine take_in (i := 11) (v := ?_) rfl (by kernel_rfl) (fun _ _ _ h => h) rfl ?_ hHeld ?_
        rotate_left
        · intro w hSw; go_simp; all_goals with_reducible rfl
        try simp only [Act.put, List.setIfInBounds_toArray, List.set_cons_zero, List.set_cons_succ]
        refine take_in (i := 12) (v := ?_) rfl (by kernel_rfl) (fun _ _ _ h => h) rfl ?_ hHeld ?_
        rotate_left
        · intro w hSw; go_simp; all_goals with_reducible rfl
        try simp only [Act.put, List.setIfInBounds_toArray, List.set_cons_zero, List.set_cons_succ]
        refine ready_one (i := 13) rfl (by kernel_rfl) (fun K hK => ?_)
        go_simp
        refine hK.out _ _ trivial (fun hHeld => ?_)
        clear hK K
        try simp only [Act.put, List.setIfInBounds_toArray, List.set_cons_zero, List.set_cons_succ]
        refine wpAnyH_done (by kernel_rfl) ?_ _
        have HY := Lib.hid (H6.out.store (k := k) (x := 0) HL.out)
        have HLY : Hid ((xs.set k 0).length = N) := Lib.hid (by rw [List.length_set]; exact HL.out)
        clear hc6 hc5 hf6 hs1 hs2 hHeld
        go_wp2_with fail
        generalize w6.setCell ⟨g, k, none⟩ (.int .i64 0) = w7 at HY ⊢
        generalize xs.set k 0 = ys at HY HLY
        clear HL H6 H5d H5 H4 HXK HXC
        have H := HY
        have HL := HLY
        clear HY HLY
        refine (odd_any _ R (P + 12) _ (by decide) (by decide) (by omega) H.out.1).mono ?_
        rintro e w9 ⟨b, rfl, k1⟩
        have H9 := Lib.hid (H.out.picked k1)
        clear k1 H
        cases b
        · go_wp2_with fail
          go_ret2
          exact ⟨_, _, _, rfl, H9.out.mono (by omega), by rw [HL.out]; omega, by omega, by omega⟩
        · have hown0 := H9.out.2.1
          unfold IOwn at hown0
          have hown := Lib.hid (World.ownsRow.alloc (w := w9) hown0 (.cells #[.int .i64 0] 3))
          have hsz := H9.out.2.2.1.size
          clear hown0
          rw [HL.out] at hown
          go_wp2_with (at_builtin; refine wpList_append_own _ rfl _ _ 41 rfl w.heap.size 3 i0 (.int .i64 0) 1 8 Try.underlying41 hi hz0 hz1 hz2 rfl (by decide) _ _ _ rfl hown.out ⟨w9.heap.size, 0, none⟩ 1 1 [.int .i64 0] rfl rfl ?k10a one_int ?k10b ?k10c ?k10d ?_)
          case k10a => exact one_new w9 _ _
          case k10b => unfold maxLen; omega
          case k10c => omega
          case k10d => simp; omega
          intro v' w' hown' hgrow _
          have HX := Lib.hid (H9.out.append (show IOwn w' w.heap.size v' (ys ++ [0]) from by simpa [IOwn, HL.out] using hown') (grown_after (w := w9) ((Below.refl _ w9).alloc (Nat.le_refl _) _) hgrow))
          clear hown' hgrow hown
          go_wp2_with fail
          go_ret2
          exact ⟨_, _, _, rfl, HX.out.mono (by omega), by rw [List.length_append, HL.out]; simp; omega, by omega, by omega⟩
      · refine take_in (i := 8) (v := ?_) rfl (by kernel_rfl) (fun _ _ _ h => h) rfl ?_ hHeld ?_
        rotate_left
        · intro w hSw; go_simp; all_goals with_reducible rfl
        try simp only [Act.put, List.setIfInBounds_toArray, List.set_cons_zero, List.set_cons_succ]
        refine take_in (i := 9) (v := ?_) rfl (by kernel_rfl) (fun _ _ _ h => h) rfl ?_ hHeld ?_
        rotate_left
        · intro w hSw; go_simp; all_goals with_reducible rfl
        try simp only [Act.put, List.setIfInBounds_toArray, List.set_cons_zero, List.set_cons_succ]
        refine take_in (i := 10) (v := ?_) rfl (by kernel_rfl) (fun _ _ _ h => h) rfl ?_ hHeld ?_
        rotate_left
        · intro w hSw; go_simp; all_goals with_reducible rfl
        try simp only [Act.put, List.setIfInBounds_toArray, List.set_cons_zero, List.set_cons_succ]
        refine take_in (i := 11) (v := ?_) rfl (by kernel_rfl) (fun _ _ _ h => h) rfl ?_ hHeld ?_
        rotate_left
        · intro w hSw; go_simp; all_goals with_reducible rfl
        try simp only [Act.put, List.setIfInBounds_toArray, List.set_cons_zero, List.set_cons_succ]
        refine take_in (i := 12) (v := ?_) rfl (by kernel_rfl) (fun _ _ _ h => h) rfl ?_ hHeld ?_
        rotate_left
        · intro w hSw; go_simp; all_goals with_reducible rfl
        try simp only [Act.put, List.setIfInBounds_toArray, List.set_cons_zero, List.set_cons_succ]
        refine ready_one (i := 13) rfl (by kernel_rfl) (fun K hK => ?_)
        go_simp
        refine hK.out _ _ trivial (fun hHeld => ?_)
        clear hK K
        try simp only [Act.put, List.setIfInBounds_toArray, List.set_cons_zero, List.set_cons_succ]
        refine wpAnyH_done (by kernel_rfl) ?_ _
        have HY := Lib.hid (H6.out.store (k := k) (x := (x + v4 - 2)) HL.out)
        have HLY : Hid ((xs.set k (x + v4 - 2)).length = N) := Lib.hid (by rw [List.length_set]; exact HL.out)
        clear hc6 hc5 hf6 hs1 hs2 hHeld
        go_wp2_with fail
        generalize w6.setCell ⟨g, k, none⟩ (.int .i64 (x + v4 - 2)) = w7 at HY ⊢
        generalize xs.set k (x + v4 - 2) = ys at HY HLY
        clear HL H6 H5d H5 H4 HXK HXC
        have H := HY
        have HL := HLY
        clear HY HLY
        refine (odd_any _ R (P + 12) _ (by decide) (by decide) (by omega) H.out.1).mono ?_
        rintro e w9 ⟨b, rfl, k1⟩
        have H9 := Lib.hid (H.out.picked k1)
        clear k1 H
        cases b
        · go_wp2_with fail
          go_ret2
          exact ⟨_, _, _, rfl, H9.out.mono (by omega), by rw [HL.out]; omega, by omega, by omega⟩
        · have hown0 := H9.out.2.1
          unfold IOwn at hown0
          have hown := Lib.hid (World.ownsRow.alloc (w := w9) hown0 (.cells #[.int .i64 0] 3))
          have hsz := H9.out.2.2.1.size
          clear hown0
          rw [HL.out] at hown
          go_wp2_with (at_builtin; refine wpList_append_own _ rfl _ _ 41 rfl w.heap.size 3 i0 (.int .i64 0) 1 8 Try.underlying41 hi hz0 hz1 hz2 rfl (by decide) _ _ _ rfl hown.out ⟨w9.heap.size, 0, none⟩ 1 1 [.int .i64 0] rfl rfl ?k11a one_int ?k11b ?k11c ?k11d ?_)
          case k11a => exact one_new w9 _ _
          case k11b => unfold maxLen; omega
          case k11c => omega
          case k11d => simp; omega
          intro v' w' hown' hgrow _
          have HX := Lib.hid (H9.out.append (show IOwn w' w.heap.size v' (ys ++ [0]) from by simpa [IOwn, HL.out] using hown') (grown_after (w := w9) ((Below.refl _ w9).alloc (Nat.le_refl _) _) hgrow))
          clear hown' hgrow hown
          go_wp2_with fail
          go_ret2
          exact ⟨_, _, _, rfl, HX.out.mono (by omega), by rw [List.length_append, HL.out]; simp; omega, by omega, by omega⟩
      · refine take_in (i := 8) (v := ?_) rfl (by kernel_rfl) (fun _ _ _ h => h) rfl ?_ hHeld ?_
        rotate_left
        · intro w hSw; go_simp; all_goals with_reducible rfl
        try simp only [Act.put, List.setIfInBounds_toArray, List.set_cons_zero, List.set_cons_succ]
        refine take_in (i := 9) (v := ?_) rfl (by kernel_rfl) (fun _ _ _ h => h) rfl ?_ hHeld ?_
        rotate_left
        · intro w hSw; go_simp; all_goals with_reducible rfl
        try simp only [Act.put, List.setIfInBounds_toArray, List.set_cons_zero, List.set_cons_succ]
        refine take_in (i := 10) (v := ?_) rfl (by kernel_rfl) (fun _ _ _ h => h) rfl ?_ hHeld ?_
        rotate_left
        · intro w hSw; go_simp; all_goals with_reducible rfl
        try simp only [Act.put, List.setIfInBounds_toArray, List.set_cons_zero, List.set_cons_succ]
        refine take_in (i := 11) (v := ?_) rfl (by kernel_rfl) (fun _ _ _ h => h) rfl ?_ hHeld ?_
        rotate_left
        · intro w hSw; go_simp; all_goals with_reducible rfl
        try simp only [Act.put, List.setIfInBounds_toArray, List.set_cons_zero, List.set_cons_succ]
        refine take_in (i := 12) (v := ?_) rfl (by kernel_rfl) (fun _ _ _ h => h) rfl ?_ hHeld ?_
        rotate_left
        · intro w hSw; go_simp; all_goals with_reducible rfl
        try simp only [Act.put, List.setIfInBounds_toArray, List.set_cons_zero, List.set_cons_succ]
        refine ready_one (i := 13) rfl (by kernel_rfl) (fun K hK => ?_)
        go_simp
        refine hK.out _ _ trivial (fun hHeld => ?_)
        clear hK K
        try simp only [Act.put, List.setIfInBounds_toArray, List.set_cons_zero, List.set_cons_succ]
        refine wpAnyH_done (by kernel_rfl) ?_ _
        have HY := Lib.hid (H6.out.store (k := k) (x := 36) HL.out)
        have HLY : Hid ((xs.set k 36).length = N) := Lib.hid (by rw [List.length_set]; exact HL.out)
        clear hc6 hc5 hf6 hs1 hs2 hHeld
        go_wp2_with fail
        generalize w6.setCell ⟨g, k, none⟩ (.int .i64 36) = w7 at HY ⊢
        generalize xs.set k 36 = ys at HY HLY
        clear HL H6 H5d H5 H4 HXK HXC
        have H := HY
        have HL := HLY
        clear HY HLY
        refine (odd_any _ R (P + 12) _ (by decide) (by decide) (by omega) H.out.1).mono ?_
        rintro e w9 ⟨b, rfl, k1⟩
        have H9 := Lib.hid (H.out.picked k1)
        clear k1 H
        cases b
        · go_wp2_with fail
          go_ret2
          exact ⟨_, _, _, rfl, H9.out.mono (by omega), by rw [HL.out]; omega, by omega, by omega⟩
        · have hown0 := H9.out.2.1
          unfold IOwn at hown0
          have hown := Lib.hid (World.ownsRow.alloc (w := w9) hown0 (.cells #[.int .i64 0] 3))
          have hsz := H9.out.2.2.1.size
          clear hown0
          rw [HL.out] at hown
          go_wp2_with (at_builtin; refine wpList_append_own _ rfl _ _ 41 rfl w.heap.size 3 i0 (.int .i64 0) 1 8 Try.underlying41 hi hz0 hz1 hz2 rfl (by decide) _ _ _ rfl hown.out ⟨w9.heap.size, 0, none⟩ 1 1 [.int .i64 0] rfl rfl ?k12a one_int ?k12b ?k12c ?k12d ?_)
          case k12a => exact one_new w9 _ _
          case k12b => unfold maxLen; omega
          case k12c => omega
          case k12d => simp; omega
          intro v' w' hown' hgrow _
          have HX := Lib.hid (H9.out.append (show IOwn w' w.heap.size v' (ys ++ [0]) from by simpa [IOwn, HL.out] using hown') (grown_after (w := w9) ((Below.refl _ w9).alloc (Nat.le_refl _) _) hgrow))
          clear hown' hgrow hown
          go_wp2_with fail
          go_ret2
          exact ⟨_, _, _, rfl, HX.out.mono (by omega), by rw [List.length_append, HL.out]; simp; omega, by omega, by omega⟩
  · skip
    have H7 : Hid (GamRel w R (P + 10) (.slice (some ⟨g, 0, none⟩) N cap) (halved xs 0) w4) := Lib.hid (by rw [halved_zero]; exact H4.out)
    clear H4
    go_wp2_with fail
    go_loopw [7] (fun c wr => ∃ j : Nat, c = .int .i64 j ∧ j ≤ N ∧ Hid (GamRel w R (P + 10) (.slice (some ⟨g, 0, none⟩) N cap) (halved xs j) wr)) (fun c _ => N - (intOf c).toNat)
    case atStart => exact ⟨0, rfl, Nat.zero_le _, H7⟩
    case round =>
      obtain ⟨j, rfl, hj, H8⟩ := hrel
      clear H7
      by_cases hjlt : j < N
      · have hjl' : (j : Int) < (N : Int) := by omega
        obtain ⟨x, hx⟩ : ∃ x, xs[j]? = some x := ⟨_, List.getElem?_eq_getElem (by have := HL.out; omega)⟩
        have hcell := H8.out.cell (halved_at hx)
        have hfz := H8.out.frozen j
        obtain ⟨x1, x2⟩ : 0 ≤ x ∧ x ≤ 36 := HBD.out.at_ hx
        have htd : x.tdiv 2 = x / 2 := Int.tdiv_eq_ediv_of_nonneg x1
        have H9 := Lib.hid (H8.out.store (k := j) (x := x / 2) (by rw [halved_len _ _ (by have := HL.out; omega)]; exact HL.out))
        have HS := Lib.hid (halved_set hx)
        clear hx
        go_wp2_with fail
        go_roundw
        case rel => exact ⟨j + 1, by go_num, by omega, (show Hid _ from by have := H9.out; rw [HS.out] at this; exact this)⟩
        case measure => simp [intOf]; omega
      · have hjl' : (N : Int) ≤ (j : Int) := by omega
        have HLY : Hid ((halved xs j).length = N) := Lib.hid (by rw [halved_len _ _ (by have := HL.out; omega)]; exact HL.out)
        clear HL
        generalize halved xs j = ys at H8 HLY
        have H := H8
        have HL := HLY
        clear H8 HLY
        go_wp2_with fail
        refine (odd_any _ R (P + 10) _ (by decide) (by decide) (by omega) H.out.1).mono ?_
        rintro e w9 ⟨b, rfl, k1⟩
        have H9 := Lib.hid (H.out.picked k1)
        clear k1 H
        cases b
        · go_wp2_with fail
          go_ret2
          exact ⟨_, _, _, rfl, H9.out.mono (by omega), by rw [HL.out]; omega, by omega, by omega⟩
        · have hown0 := H9.out.2.1
          unfold IOwn at hown0
          have hown := Lib.hid (World.ownsRow.alloc (w := w9) hown0 (.cells #[.int .i64 0] 3))
          have hsz := H9.out.2.2.1.size
          clear hown0
          rw [HL.out] at hown
          go_wp2_with (at_builtin; refine wpList_append_own _ rfl _ _ 41 rfl w.heap.size 3 i0 (.int .i64 0) 1 8 Try.underlying41 hi hz0 hz1 hz2 rfl (by decide) _ _ _ rfl hown.out ⟨w9.heap.size, 0, none⟩ 1 1 [.int .i64 0] rfl rfl ?k13a one_int ?k13b ?k13c ?k13d ?_)
          case k13a => exact one_new w9 _ _
          case k13b => unfold maxLen; omega
          case k13c => omega
          case k13d => simp; omega
          intro v' w' hown' hgrow _
          have HX := Lib.hid (H9.out.append (show IOwn w' w.heap.size v' (ys ++ [0]) from by simpa [IOwn, HL.out] using hown') (grown_after (w := w9) ((Below.refl _ w9).alloc (Nat.le_refl _) _) hgrow))
          clear hown' hgrow hown
          go_wp2_with fail
          go_ret2
          exact ⟨_, _, _, rfl, HX.out.mono (by omega), by rw [List.length_append, HL.out]; simp; omega, by omega, by omega⟩
  · have hv0 : (v2 == 0) = false := by rw [beq_eq_false_iff_ne]; omega
    have hv1 : (v2 == 1) = false := by rw [beq_eq_false_iff_ne]; omega
    have hv2 : (v2 == 2) = false := by rw [beq_eq_false_iff_ne]; omega
    have H := H4
    clear H4
    obtain ⟨ys, hys⟩ : ∃ ys, xs = ys := ⟨_, rfl⟩
    rw [hys] at H HL
    clear hys
    go_wp2_with fail
    refine (odd_any _ R (P + 10) _ (by decide) (by decide) (by omega) H.out.1).mono ?_
    rintro e w9 ⟨b, rfl, k1⟩
    have H9 := Lib.hid (H.out.picked k1)
    clear k1 H
    cases b
    · go_wp2_with fail
      go_ret2
      exact ⟨_, _, _, rfl, H9.out.mono (by omega), by rw [HL.out]; omega, by omega, by omega⟩
    · have hown0 := H9.out.2.1
      unfold IOwn at hown0
      have hown := Lib.hid (World.ownsRow.alloc (w := w9) hown0 (.cells #[.int .i64 0] 3))
      have hsz := H9.out.2.2.1.size
      clear hown0
      rw [HL.out] at hown
      go_wp2_with (at_builtin; refine wpList_append_own _ rfl _ _ 41 rfl w.heap.size 3 i0 (.int .i64 0) 1 8 Try.underlying41 hi hz0 hz1 hz2 rfl (by decide) _ _ _ rfl hown.out ⟨w9.heap.size, 0, none⟩ 1 1 [.int .i64 0] rfl rfl ?k14a one_int ?k14b ?k14c ?k14d ?_)
      case k14a => exact one_new w9 _ _
      case k14b => unfold maxLen; omega
      case k14c => omega
      case k14d => simp; omega
      intro v' w' hown' hgrow _
      have HX := Lib.hid (H9.out.append (show IOwn w' w.heap.size v' (ys ++ [0]) from by simpa [IOwn, HL.out] using hown') (grown_after (w := w9) ((Below.refl _ w9).alloc (Nat.le_refl _) _) hgrow))
      clear hown' hgrow hown
      go_wp2_with fail
      go_ret2
      exact ⟨_, _, _, rfl, HX.out.mono (by omega), by rw [List.length_append, HL.out]; simp; omega, by omega, by omega⟩

/-- a number of worlds and a table that were drawn -/
def DrawTab (w : World) (e : Ending) (w' : World) : Prop := ∃ (n : Int) (v : Value) (xs : List Int), e = .returned (.tuple #[.int .i64 n, v]) ∧ IOwn w' w.heap.size v xs ∧ xs.length ≤ 17 ∧ 1 ≤ n ∧ n ≤ 5 ∧ Below w.heap.size w w'

set_option maxHeartbeats 1000000 in
theorem drawAdditiveOk_any (w : World) (a : Option Addr) (len cap : Nat) (zs : List Int) (h : IsRowC .u8 w a len cap zs) :
    Calls Try.prog 45 #[.slice a len cap] w (DrawTab w) := by
  go_enter Try.func45, Try.ntmps45
  go_wp2_with fail
  refine (open_any w a len cap zs h).mono ?_
  rintro e w1 ⟨rfl, ho⟩
  go_wp2_with fail
  refine (l20Table_any _ w.heap.size 0 (by decide) ho.rd).mono ?_
  rintro e w2 ⟨n, v, xs, rfl, h2, hl, n1, n4⟩
  have HO := Lib.hid (drawn_row0 ho h2)
  clear ho h2
  go_wp2_with fail
  go_ret2
  exact ⟨_, _, _, rfl, HO.out.1, hl, n1, by omega, HO.out.2⟩

/-- a measure that was drawn: it need not be one -/
def DrawMea (w : World) (e : Ending) (w' : World) : Prop := ∃ v xs, e = .returned v ∧ IOwn w' w.heap.size v xs ∧ xs.length ≤ 4 ∧ Bnd 37 xs ∧ Below w.heap.size w w'

end Go.Proofs.Yteljcicdibbhdaa
