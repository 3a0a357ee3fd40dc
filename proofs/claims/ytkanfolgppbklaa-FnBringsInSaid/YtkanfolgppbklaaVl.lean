/- The walk of the law of BringsIn. Conditions: a row of bytes that came in. -/
import Derived.Test.YtkanfolgppbklaaVd
import Derived.Test.YtkanfolgppbklaaVk
import Derived.Maps.AppendAt
namespace Go.Proofs.Ytkanfolgppbklaa
open Go.RowKit
set_option linter.unusedVariables false

/-- the row p holds the first k of zs -/
def BApp (w : World) (zs : List Bt) (k : Nat) (p : Value) (wr : World) : Prop := BOwn wr w.heap.size p (zs.take k) ∧ Below w.heap.size w wr

theorem BRd.cellk {w : World} {b off n c : Nat} {bs : List Bt} {k : Nat} {q : Bt} (h : BRd w (.slice (some ⟨b, off, none⟩) n c) bs) (hx : bs[k]? = some q) : w.cell? ⟨b, off + k * 3, none⟩ = some (.int .i64 q.1) ∧ w.cell? ⟨b, off + k * 3 + 1, none⟩ = some (.int .i64 q.2.1) ∧ w.cell? ⟨b, off + k * 3 + 2, none⟩ = some (.int .i64 q.2.2) := by
  have hn := h.form
  obtain ⟨A, cp, e, -⟩ := hn
  injection e with e1 e2 e3
  have hk : k < n := by rw [e2]; exact (List.getElem?_eq_some_iff.1 hx).1
  obtain ⟨b', off', q', hA, -, hx', h0, h1, h2⟩ := BRd.at_ h hk
  injection hA with hA
  injection hA with hb ho
  subst hb ho
  obtain rfl : q' = q := Option.some.inj (hx'.symm.trans hx)
  exact ⟨h0, h1, h2⟩

theorem GRd.take7 {α : Type} {c : Nat} {enc : α → List Value} {w : World} {A : Option Addr} {n cp : Nat} {xs : List α} (h : GRd c enc w (.slice A n cp) xs) {k : Nat} (hk : k ≤ n) : GRd c enc w (.slice A k cp) (xs.take k) := by
  obtain ⟨A', cp', e, hl, hm, hc⟩ := h
  injection e with e1 e2 e3
  subst e1
  subst e2
  subst e3
  have hlen : (xs.take k).length = k := by simp; omega
  refine ⟨A, cp, by rw [hlen], by omega, hm, fun h0 => ?_⟩
  obtain ⟨b, off, hA, hb, hcell⟩ := hc (by omega)
  refine ⟨b, off, hA, hb, fun i x hx j u hu => hcell i x ?_ j u hu⟩
  rw [List.getElem?_take] at hx
  split at hx
  · exact hx
  · cases hx

theorem GRd.drop7 {α : Type} {c : Nat} {enc : α → List Value} {w : World} {b off n cp : Nat} {xs : List α} (h : GRd c enc w (.slice (some ⟨b, off, none⟩) n cp) xs) {k m : Nat} (hk : n = k + m) : GRd c enc w (.slice (some ⟨b, off + k * c, none⟩) m (cp - k)) (xs.drop k) := by
  obtain ⟨A', cp', e, hl, hm, hc⟩ := h
  injection e with e1 e2 e3
  subst e1
  subst e3
  have hlen : (xs.drop k).length = m := by rw [List.length_drop]; omega
  refine ⟨_, _, by rw [hlen], by omega, by omega, fun h0 => ?_⟩
  obtain ⟨b', off', hA, hb, hcell⟩ := hc (by omega)
  injection hA with hA
  injection hA with hb' ho'
  subst hb' ho'
  refine ⟨b, off + k * c, rfl, hb, fun i x hx j u hu => ?_⟩
  rw [List.getElem?_drop] at hx
  have := hcell (k + i) x hx j u hu
  rwa [Nat.add_mul, ← Nat.add_assoc] at this

theorem neg_at {bs : List Bt} {k : Nat} {q : Bt} (hx : bs[k]? = some q) : (bs.map negBt)[k]? = some (negBt q) := by rw [List.getElem?_map, hx]; rfl

theorem bsB_parts {bs : List Bt} {u : Int} (h : bsB bs u = true) : bs.all okBt = true ∧ inB u 0 3 = true := by
  rw [bsB, Bool.and_eq_true] at h; exact h

theorem bsB_take {bs : List Bt} {u : Int} (h : bsB bs u = true) (k : Nat) : bsB (bs.take k) u = true := by
  obtain ⟨h1, h2⟩ := bsB_parts h
  rw [bsB, h2, Bool.and_true, List.all_eq_true]
  exact fun x hx => List.all_eq_true.1 h1 x (List.mem_of_mem_take hx)

theorem bsB_drop {bs : List Bt} {u : Int} (h : bsB bs u = true) (k : Nat) : bsB (bs.drop k) u = true := by
  obtain ⟨h1, h2⟩ := bsB_parts h
  rw [bsB, h2, Bool.and_true, List.all_eq_true]
  exact fun x hx => List.all_eq_true.1 h1 x (List.mem_of_mem_drop hx)

theorem bsN_yes {bs : List Bt} {u : Int} (h : bsB bs u = true) : bsN bs u = bsI bs u.toNat := by rw [bsN, if_pos h]

theorem bsN_split {bs : List Bt} {u : Int} (h : bsB bs u = true) (k : Nat) : bsN (bs.take k) u + bsN (bs.drop k) u = bsN bs u := by
  rw [bsN_yes h, bsN_yes (bsB_take h k), bsN_yes (bsB_drop h k), ← bs_append, List.take_append_drop]

theorem bsN_bound {bs : List Bt} {u : Int} (h : bsB bs u = true) (hl : bs.length ≤ 4) : -1296 ≤ bsN bs u ∧ bsN bs u ≤ 1296 := by
  rw [bsN_yes h]
  have := bs_bound (bsB_parts h).1 u.toNat
  omega

theorem bsN_neg {bs : List Bt} {u : Int} (h : bsB bs u = true) : bsN (bs.map negBt) u = -bsN bs u := by
  rw [bsN_yes h, bsN_yes (by rw [bsB_neg]; exact h), bs_neg]

set_option maxRecDepth 100000 in
set_option maxHeartbeats 8000000 in
theorem FnBringsIn_walk (a0 : Option Addr) (len0 cap0 : Nat) (z0 : List Int) (w : World) (w0 : IsRowC .u8 w a0 len0 cap0 z0) :
    Calls Try.prog 3 #[.slice a0 len0 cap0] w fun e w' => e = .returned (.bool true) ∧ Below w.heap.size w w' := by
  by_cases hlen : 1048576 < len0
  · clear w0
    go_enter Try.func3, Try.ntmps3
    go_wp2
    go_ret
    exact ⟨rfl, Below.refl _ _⟩
  · have hlen' : decide (1048576 < len0) = false := by simpa using hlen
    go_enter Try.func3, Try.ntmps3
    go_wp2_with fail
    refine (drawBringsIn_any _ _ _ _ _ w0).mono ?_
    rintro e w1 ⟨vb, bs, u, rfl, ovb1, hl4, hu1, hu4, B1⟩
    clear hlen hlen' w0
    have z1 := B1.size
    have hnb : bs.length ≤ 1048576 := by omega
    rcases Bool.eq_false_or_eq_true (bsB bs u) with h | h
    · have HB := Lib.hid h
      obtain ⟨n, hn⟩ : ∃ n, bsN bs u = n := ⟨_, rfl⟩
      obtain ⟨n1, n2⟩ : -1296 ≤ n ∧ n ≤ 1296 := by rw [← hn]; exact bsN_bound h hl4
      have HN := Lib.hid hn
      have HOK := Lib.hid (List.all_eq_true.1 (bsB_parts h).1)
      have HNB : Hid (bsB (bs.map negBt) u = true) := Lib.hid (by rw [bsB_neg]; exact h)
      have HNN : Hid (bsN (bs.map negBt) u = -n) := Lib.hid (by rw [bsN_neg h, hn])
      have HNL : Hid ((bs.map negBt).length = bs.length) := Lib.hid (List.length_map ..)
      clear h hn
      obtain ⟨j0, hj, hy0, hy1, hy2⟩ := info_parts Try_betinfo
      go_wp2_with fail
      refine (implBringsIn_any w1 u vb bs (ovb1.rd bC_len) hnb).mono ?_
      rintro e w2 ⟨rfl, b2⟩
      rw [HN.out, HB.out]
      have z2 := b2.size
      have B2 := below_step B1 b2 (by omega)
      have ovb2 := ovb1.keep (SameAt.of_below b2)
      clear B1 b2 ovb1
      go_wp2_with fail
      refine (specBringsIn_any w2 u vb bs (ovb2.rd bC_len) hnb).mono ?_
      rintro e w3 ⟨rfl, b3⟩
      rw [HN.out, HB.out]
      have z3 := b3.size
      have B3 := below_step B2 b3 (by omega)
      have ovb3 := ovb2.keep (SameAt.of_below b3)
      clear B2 b3 ovb2
      obtain ⟨A, c, rfl, hlc, hmc⟩ := (ovb3.rd bC_len).form
      have HV : Hid (∀ wr, Below w3.heap.size w3 wr → BRd wr (.slice A bs.length c) bs) := Lib.hid (fun wr h => (ovb3.rd bC_len).keep (SameAt.of_below h))
      have HB3 := Lib.hid B3
      have H0 : Hid (BApp w3 (bs.map negBt) 0 (.slice (some ⟨w3.heap.size, 0, none⟩) 0 0) (w3.alloc (.cells #[] 30))) := Lib.hid ⟨lit_none w3 _ (Nat.le_refl _), (Below.refl _ _).alloc (Nat.le_refl _) _⟩
      clear ovb3 B3
      go_wp2_with fail
      go_loopw [9, 10] (fun p i wr => ∃ k : Nat, i = .int .i64 (k : Int) ∧ k ≤ bs.length ∧ Hid (BApp w3 (bs.map negBt) k p wr)) (fun _ i _ => bs.length - (intOf i).toNat)
      case atStart => exact ⟨0, rfl, Nat.zero_le _, H0⟩
      case round =>
        obtain ⟨k, rfl, hk, HF⟩ := hrel
        clear H0
        by_cases hlt : k < bs.length
        · obtain ⟨G, off, ⟨e, p, s⟩, rfl, -, hx, hc0, hc1, hc2⟩ := BRd.at_ (HV.out wr HF.out.2) hlt
          obtain ⟨-, -, s1, s2⟩ := (okBt_iff _).1 (HOK.out _ (List.mem_of_getElem? hx))
          dsimp only at hc0 hc1 hc2 s1 s2
          have HX := Lib.hid (neg_at hx)
          have HCC : Hid (∀ w', Below w3.heap.size w3 w' → w'.cell? ⟨G, off + k * 3, none⟩ = some (.int .i64 e) ∧ w'.cell? ⟨G, off + k * 3 + 1, none⟩ = some (.int .i64 p) ∧ w'.cell? ⟨G, off + k * 3 + 2, none⟩ = some (.int .i64 s)) := Lib.hid (fun w' hb' => BRd.cellk (HV.out w' hb') hx)
          have hneg : IntKind.i64.wrap (-s) = -s := IntWalk.i64_in _ (by omega)
          have i1 : (0 : Int) ≤ (k : Int) := by omega
          have i2 : (k : Int) < (bs.length : Int) := by omega
          have BD : Below w3.heap.size w3 wr.drew := HF.out.2.drew
          clear hx hc0 hc1 hc2
          obtain ⟨hc0, hc1, hc2⟩ := HCC.out wr.drew BD
          go_wp2_with fail
          refine wp_region_held_drew (S := fun w' => w'.cell? ⟨G, off + k * 3, none⟩ = some (.int .i64 e) ∧ w'.cell? ⟨G, off + k * 3 + 1, none⟩ = some (.int .i64 p) ∧ w'.cell? ⟨G, off + k * 3 + 2, none⟩ = some (.int .i64 s)) (by kernel_rfl) (⟨hc0, hc1, hc2⟩) (fun hHeld => ?_)
          refine take_in (i := 0) (v := ?_) rfl (by kernel_rfl) (fun _ _ _ h => h) rfl ?_ hHeld ?_
          rotate_left
          · intro w hSw; go_simp; all_goals with_reducible rfl
          try simp only [Act.put, List.setIfInBounds_toArray, List.set_cons_zero, List.set_cons_succ]
          refine take_in (i := 1) (v := ?_) rfl (by kernel_rfl) (fun _ _ _ h => h) rfl ?_ hHeld ?_
          rotate_left
          · intro w hSw; go_simp; all_goals with_reducible rfl
          try simp only [Act.put, List.setIfInBounds_toArray, List.set_cons_zero, List.set_cons_succ]
          refine take_in (i := 2) (v := ?_) rfl (by kernel_rfl) (fun _ _ _ h => h) rfl ?_ hHeld ?_
          rotate_left
          · intro w hSw; go_simp; all_goals with_reducible rfl
          try simp only [Act.put, List.setIfInBounds_toArray, List.set_cons_zero, List.set_cons_succ]
          refine take_in (i := 3) (v := ?_) rfl (by kernel_rfl) (fun _ _ _ h => h) rfl ?_ hHeld ?_
          rotate_left
          · intro w hSw; go_simp; all_goals with_reducible rfl
          try simp only [Act.put, List.setIfInBounds_toArray, List.set_cons_zero, List.set_cons_succ]
          refine take_in (i := 4) (v := ?_) rfl (by kernel_rfl) (fun _ _ _ h => h) rfl ?_ hHeld ?_
          rotate_left
          · intro w hSw; go_simp; all_goals with_reducible rfl
          try simp only [Act.put, List.setIfInBounds_toArray, List.set_cons_zero, List.set_cons_succ]
          refine take_in (i := 5) (v := ?_) rfl (by kernel_rfl) (fun _ _ _ h => h) rfl ?_ hHeld ?_
          rotate_left
          · intro w hSw; obtain ⟨h1, h2, h3⟩ := hSw; go_simp; all_goals with_reducible rfl
          try simp only [Act.put, List.setIfInBounds_toArray, List.set_cons_zero, List.set_cons_succ]
          refine take_in (i := 6) (v := ?_) rfl (by kernel_rfl) (fun _ _ _ h => h) rfl ?_ hHeld ?_
          rotate_left
          · intro w hSw; go_simp; all_goals with_reducible rfl
          try simp only [Act.put, List.setIfInBounds_toArray, List.set_cons_zero, List.set_cons_succ]
          refine take_in (i := 7) (v := ?_) rfl (by kernel_rfl) (fun _ _ _ h => h) rfl ?_ hHeld ?_
          rotate_left
          · intro w hSw; go_simp; all_goals with_reducible rfl
          try simp only [Act.put, List.setIfInBounds_toArray, List.set_cons_zero, List.set_cons_succ]
          refine take_in (i := 8) (v := ?_) rfl (by kernel_rfl) (fun _ _ _ h => h) rfl ?_ hHeld ?_
          rotate_left
          · intro w hSw; go_simp; all_goals with_reducible rfl
          try simp only [Act.put, List.setIfInBounds_toArray, List.set_cons_zero, List.set_cons_succ]
          refine take_in (i := 9) (v := ?_) rfl (by kernel_rfl) (fun _ _ _ h => h) rfl ?_ hHeld ?_
          rotate_left
          · intro w hSw; go_simp; all_goals with_reducible rfl
          try simp only [Act.put, List.setIfInBounds_toArray, List.set_cons_zero, List.set_cons_succ]
          refine take_in (i := 10) (v := ?_) rfl (by kernel_rfl) (fun _ _ _ h => h) rfl ?_ hHeld ?_
          rotate_left
          · intro w hSw; obtain ⟨h1, h2, h3⟩ := hSw; go_simp; all_goals with_reducible rfl
          try simp only [Act.put, List.setIfInBounds_toArray, List.set_cons_zero, List.set_cons_succ]
          refine take_in (i := 11) (v := ?_) rfl (by kernel_rfl) (fun _ _ _ h => h) rfl ?_ hHeld ?_
          rotate_left
          · intro w hSw; go_simp; all_goals with_reducible rfl
          try simp only [Act.put, List.setIfInBounds_toArray, List.set_cons_zero, List.set_cons_succ]
          refine take_in (i := 12) (v := ?_) rfl (by kernel_rfl) (fun _ _ _ h => h) rfl ?_ hHeld ?_
          rotate_left
          · intro w hSw; go_simp; all_goals with_reducible rfl
          try simp only [Act.put, List.setIfInBounds_toArray, List.set_cons_zero, List.set_cons_succ]
          refine take_in (i := 13) (v := ?_) rfl (by kernel_rfl) (fun _ _ _ h => h) rfl ?_ hHeld ?_
          rotate_left
          · intro w hSw; go_simp; all_goals with_reducible rfl
          try simp only [Act.put, List.setIfInBounds_toArray, List.set_cons_zero, List.set_cons_succ]
          refine take_in (i := 14) (v := ?_) rfl (by kernel_rfl) (fun _ _ _ h => h) rfl ?_ hHeld ?_
          rotate_left
          · intro w hSw; go_simp; all_goals with_reducible rfl
          try simp only [Act.put, List.setIfInBounds_toArray, List.set_cons_zero, List.set_cons_succ]
          refine take_in (i := 15) (v := ?_) rfl (by kernel_rfl) (fun _ _ _ h => h) rfl ?_ hHeld ?_
          rotate_left
          · intro w hSw; obtain ⟨h1, h2, h3⟩ := hSw; go_simp; all_goals with_reducible rfl
          try simp only [Act.put, List.setIfInBounds_toArray, List.set_cons_zero, List.set_cons_succ]
          refine take_in (i := 16) (v := ?_) rfl (by kernel_rfl) (fun _ _ _ h => h) rfl ?_ hHeld ?_
          rotate_left
          · intro w hSw; go_simp; all_goals with_reducible rfl
          try simp only [Act.put, List.setIfInBounds_toArray, List.set_cons_zero, List.set_cons_succ]
          refine take_in (i := 17) (v := ?_) rfl (by kernel_rfl) (fun _ _ _ h => h) rfl ?_ hHeld ?_
          rotate_left
          · intro w hSw; go_simp; all_goals with_reducible rfl
          try simp only [Act.put, List.setIfInBounds_toArray, List.set_cons_zero, List.set_cons_succ]
          have BA : Below w3.heap.size w3 (wr.drew.alloc (.cells #[.int .i64 e, .int .i64 p, .int .i64 (-s)] 30)) := BD.alloc BD.size _
          refine ready_one (i := 18) rfl (by kernel_rfl) (fun K hK => ?_)
          go_simp
          refine hK.out _ (wr.drew.alloc (.cells #[.int .i64 e, .int .i64 p, .int .i64 (-s)] 30)) (HCC.out _ BA) (fun hHeld => ?_)
          clear hK K
          try simp only [Act.put, List.setIfInBounds_toArray, List.set_cons_zero, List.set_cons_succ]
          have rk := World.ownsRow.alloc (w := wr.drew) (show wr.drew.ownsRow w3.heap.size 30 3 u9 _ (((bs.map negBt).take k).flatMap bC) from HF.out.1) (.cells #[.int .i64 e, .int .i64 p, .int .i64 (-s)] 30)
          have hkl : ((bs.map negBt).take k).length = k := by rw [List.length_take, HNL.out]; omega
          rw [hkl] at rk
          refine ready_one (i := 19) rfl (by kernel_rfl) (fun K hK => ?_)
          obtain ⟨v5, w5, rn5, o5, g5, -, -⟩ := run_append_own_at (P := Try.prog) _ w3.heap.size 23 23 30 j0 (.agg #[.int .i64 0, .int .i64 0, .int .i64 0]) 3 24 Try.underlying23 hj hy0 hy1 hy2 rfl (by decide) u9 k _ rk ⟨wr.drew.heap.size, 0, none⟩ 1 1 [.int .i64 e, .int .i64 p, .int .i64 (-s)] rfl (World.news_of_block (heap_alloc_new wr.drew _)) three_one (by unfold maxLen; omega) (by omega) BA.size
          refine step_append (s := .tmp 60) (x := .tmp 78) rfl rfl rn5 ?_
          have B5 : Below w3.heap.size w3 w5 := BA.grown g5 BA.size (fun g hg => (World.ownsRow.lt rk g hg).1)
          have HF5 : Hid (BApp w3 (bs.map negBt) (k + 1) v5 w5) := Lib.hid ⟨by
            rw [List.take_add_one, HX.out]
            show w5.ownsRow w3.heap.size 30 3 v5 _ _
            rw [List.length_append, hkl, List.flatMap_append]
            exact o5, B5⟩
          refine hK.out _ w5 (HCC.out _ B5) (fun hHeld => ?_)
          clear hK K rk o5 g5 rn5 hkl
          try simp only [Act.put, List.setIfInBounds_toArray, List.set_cons_zero, List.set_cons_succ]
          refine take_in (i := 20) (v := ?_) rfl (by kernel_rfl) (fun _ _ _ h => h) rfl ?_ hHeld ?_
          rotate_left
          · intro w hSw; go_simp; all_goals with_reducible rfl
          try simp only [Act.put, List.setIfInBounds_toArray, List.set_cons_zero, List.set_cons_succ]
          refine wpAnyH_done (by kernel_rfl) ?_ _
          clear hc0 hc1 hc2 BA BD B5
          go_wp2_with fail
          go_roundw
          case rel => exact ⟨k + 1, by go_num, by omega, HF5⟩
          case measure => simp [intOf]; omega
        · have O1 : Hid (BOwn wr w3.heap.size u9 (bs.map negBt)) := Lib.hid (by have := HF.out.1; rwa [List.take_of_length_le (by rw [HNL.out]; omega)] at this)
          have B4 := Lib.hid HF.out.2
          have B5 := Lib.hid (below_step HB3.out HF.out.2 HB3.out.size)
          clear hj hy0 hy1 hy2 HF
          go_wp2_with fail
          refine (implBringsIn_any _ u _ _ (O1.out.rd bC_len) (by rw [HNL.out]; omega)).mono ?_
          rintro r w6 ⟨rfl, b6⟩
          rw [HNN.out, HNB.out]
          have B6 := Lib.hid (below_step B5.out b6 B5.out.size)
          have B46 := Lib.hid (below_step B4.out b6 B4.out.size)
          clear b6
          rcases Nat.eq_zero_or_pos bs.length with h0 | h0
          · obtain rfl : bs = [] := List.eq_nil_of_length_eq_zero h0
            obtain rfl : n = 0 := HN.out.symm.trans (by rw [bsN_yes HB.out]; rfl)
            clear h0
            go_wp2_with fail
            go_ret
            exact ⟨ret_bool (by simp), B6.out⟩
          · obtain ⟨L, hL⟩ : ∃ L, bs.length = L + 1 := ⟨bs.length - 1, by omega⟩
            obtain ⟨x, hx⟩ : ∃ x, bsN (bs.take L) u = x := ⟨_, rfl⟩
            obtain ⟨y, hy⟩ : ∃ y, bsN (bs.drop L) u = y := ⟨_, rfl⟩
            have hxy : x + y = n := by rw [← hx, ← hy, bsN_split HB.out, HN.out]
            obtain ⟨x1, x2⟩ : -1296 ≤ x ∧ x ≤ 1296 := by rw [← hx]; exact bsN_bound (bsB_take HB.out L) (by rw [List.length_take]; omega)
            obtain ⟨y1, y2⟩ : -1296 ≤ y ∧ y ≤ 1296 := by rw [← hy]; exact bsN_bound (bsB_drop HB.out L) (by rw [List.length_drop]; omega)
            have HXN := Lib.hid hx
            have HYN := Lib.hid hy
            have HXB := Lib.hid (bsB_take HB.out L)
            have HYB := Lib.hid (bsB_drop HB.out L)
            obtain ⟨G, off, q, rfl, -, -, -⟩ := BRd.at_ (HV.out _ B46.out) (k := 0) (by omega)
            have HLL := Lib.hid hL
            have hw1 : IntKind.i64.wrap ((bs.length : Int) - 1) = (L : Int) := by rw [IntWalk.i64_in _ (by omega)]; omega
            have hw2 : wrap64 ((bs.length : Int) - 1) = (L : Int) := by rw [IntWalk.wrap64_in _ (by omega)]; omega
            have hw3 : IntKind.i64.wrap (x + y) = n := by rw [IntWalk.i64_in _ (by omega)]; exact hxy
            have hw4 : IntKind.i64.wrap (-n) = -n := IntWalk.i64_in _ (by omega)
            have i1 : (0 : Int) ≤ (L : Int) := by omega
            have i2 : (L : Int) ≤ (bs.length : Int) := by omega
            have i3 : L ≤ bs.length := by omega
            have i4 : (L : Int) < (c : Int) := by omega
            have i5 : L < c := by omega
            have i6 : (L : Int) < (bs.length : Int) := by omega
            have i7 : L ≠ c := by omega
            clear h0 hL hx hy hxy
            go_wp2_with fail
            refine (implBringsIn_any _ u _ (bs.take L) (GRd.take7 (HV.out _ B46.out) i3) (by rw [List.length_take]; omega)).mono ?_
            rintro r w7 ⟨rfl, b7⟩
            rw [HXN.out, HXB.out]
            have B7 := Lib.hid (below_step B6.out b7 B6.out.size)
            have B47 := Lib.hid (below_step B46.out b7 B46.out.size)
            clear b7
            go_wp2_with fail
            refine (implBringsIn_any _ u _ (bs.drop L) (GRd.drop7 (HV.out _ B47.out) (by omega)) (by rw [List.length_drop]; omega)).mono ?_
            rintro r w8 ⟨rfl, b8⟩
            rw [HYN.out, HYB.out]
            have B8 := Lib.hid (below_step B7.out b8 B7.out.size)
            clear b8
            go_wp2_with fail
            go_ret
            exact ⟨ret_bool (by simp), B8.out⟩
    · have HB := Lib.hid h
      have HN := Lib.hid (bsN_no h)
      clear h
      go_wp2_with fail
      refine (implBringsIn_any w1 u vb bs (ovb1.rd bC_len) hnb).mono ?_
      rintro e w2 ⟨rfl, b2⟩
      rw [HN.out, HB.out]
      have z2 := b2.size
      have B2 := below_step B1 b2 (by omega)
      have ovb2 := ovb1.keep (SameAt.of_below b2)
      clear B1 b2 ovb1
      go_wp2_with fail
      refine (specBringsIn_any w2 u vb bs (ovb2.rd bC_len) hnb).mono ?_
      rintro e w3 ⟨rfl, b3⟩
      rw [HN.out, HB.out]
      have z3 := b3.size
      have B3 := below_step B2 b3 (by omega)
      have ovb3 := ovb2.keep (SameAt.of_below b3)
      clear B2 b3 ovb2
      go_wp2_with fail
      refine (alive_any _).mono ?_
      rintro e w' ⟨rfl, rfl⟩
      go_wp2_with fail
      go_ret
      exact ⟨ret_bool (by simp), B3⟩

end Go.Proofs.Ytkanfolgppbklaa
