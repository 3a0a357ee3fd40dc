/- The walk of the law of PoolWorst. Conditions: a row of bytes that came in. (gen_yk.py) -/
import Derived.Test.YteefbkfhgmbcbaaYh
import Derived.Test.YteefbkfhgmbcbaaGf
namespace Go.Proofs.Yteefbkfhgmbcbaa
open Go.RowKit
set_option linter.unusedVariables false

/-- what a ticket brings is a gamble; its worst is at most nothing, and less with tickets on two worlds -/
theorem pool_worst {W : Int} {ts : List Qt} {x : Int} (h : takB W ts x = true) : gokB (takL W ts x.toNat) = true ∧ worstI (takL W ts x.toNat) ≤ 0 ∧ (∀ (k : Nat) (u v : Qt), ts[k]? = some u → ts[0]? = some v → u.1 ≠ v.1 → worstI (takL W ts x.toNat) < 0) := by
  obtain ⟨hT, hx0, hx1⟩ := (takB_iff W ts x).1 h
  obtain ⟨hW1, hW4, hl6, hall⟩ := (tkB_iff W ts).1 hT
  have hp := pays_of hT
  have hlt : x.toNat < ts.length := by omega
  obtain ⟨t, ht⟩ : ∃ t, ts[x.toNat]? = some t := ⟨_, List.getElem?_eq_getElem hlt⟩
  have htm := List.mem_of_getElem? ht
  have hs := sum2_bound hp
  have hg : gokB (takL W ts x.toNat) = true := by
    refine (gokB_iff _).2 ⟨by rw [tak_len]; omega, by rw [tak_len]; omega, fun z hz => ?_⟩
    obtain ⟨k, hk⟩ := List.mem_iff_getElem?.1 hz
    have hkl : k < W.toNat := by
      have := (List.getElem?_eq_some_iff.1 hk).1
      rwa [tak_len] at this
    rw [tak_at hkl] at hk
    have h1 := tak_bound hp ht (k : Int)
    have h2 := hp t htm
    have h3 := Option.some.inj hk
    omega
  have hwl := worst_least hg
  have hat : ∀ u ∈ ts, worstI (takL W ts x.toNat) ≤ takI ts x.toNat u.1 := by
    intro u hu
    have h1 := (tkOne_iff W u).1 (hall u hu)
    have h2 : u.1.toNat < W.toNat := by omega
    have h3 := List.mem_of_getElem? (tak_at (w := W) (ts := ts) (a := x.toNat) h2)
    rw [show ((u.1.toNat : Nat) : Int) = u.1 by omega] at h3
    exact hwl.2 _ h3
  have hother : ∀ u ∈ ts, u.1 ≠ t.1 → worstI (takL W ts x.toNat) < 0 := by
    intro u hu hne
    have h1 := hat u hu
    have h2 := onW_pos hp hu
    have h3 := tak_lost hp ht (x := u.1) (by omega) (fun e => hne e.symm)
    have h4 := hp t htm
    omega
  refine ⟨hg, ?_, ?_⟩
  · by_cases hsame : ∀ u ∈ ts, u.1 = t.1
    · have h1 := hat t htm
      rw [tak_same hp ht hsame] at h1
      exact h1
    · obtain ⟨u, hu⟩ := Classical.not_forall.1 hsame
      obtain ⟨hu, hne⟩ := Classical.not_imp.1 hu
      exact Int.le_of_lt (hother u hu hne)
  · intro k u v hu hv hne
    by_cases h1 : u.1 = t.1
    · exact hother v (List.mem_of_getElem? hv) (fun e => hne (h1.trans e.symm))
    · exact hother u (List.mem_of_getElem? hu) h1

set_option maxRecDepth 100000 in
set_option maxHeartbeats 8000000 in
theorem FnPoolWorst_walk (a0 : Option Addr) (len0 cap0 : Nat) (z0 : List Int) (w : World) (w0 : IsRowC .u8 w a0 len0 cap0 z0) :
    Calls Try.prog 8 #[.slice a0 len0 cap0] w fun e w' => e = .returned (.bool true) ∧ Below w.heap.size w w' := by
  by_cases hlen : 1048576 < len0
  · clear w0
    go_enter Try.func8, Try.ntmps8
    go_wp2
    go_ret
    exact ⟨rfl, Below.refl _ _⟩
  · have hlen' : decide (1048576 < len0) = false := by simpa using hlen
    go_enter Try.func8, Try.ntmps8
    go_wp2_with fail
    refine (drawTakenBy_any _ _ _ _ _ w0).mono ?_
    rintro e w1 ⟨W, x, g, c, ts, rfl, hl7, ov1, B1⟩
    clear hlen hlen' w0
    have z1 := B1.size
    obtain ⟨y, hy⟩ : ∃ y, takR W ts x = y := ⟨_, rfl⟩
    have HY := Lib.hid hy
    go_wp2_with fail
    refine (implTakenBy_any w1 W _ ts x (ov1.rd qC_len)).mono ?_
    rintro e w2 ⟨vx, rfl, ovx2, b2⟩
    rw [HY.out] at ovx2
    have z2 := b2.size
    have B2 := below_step B1 b2 (by omega)
    have ov2 := ov1.keep (SameAt.of_below b2)
    clear B1 b2 ov1
    obtain ⟨A1, c1, rfl, hlc1, hmc1, -⟩ := id ovx2.rd
    rcases Nat.eq_zero_or_pos y.length with h0 | h0
    · obtain rfl : y = [] := List.eq_nil_of_length_eq_zero h0
      clear h0 hy
      go_wp2_with fail
      refine (alive_any _).mono ?_
      rintro e w' ⟨rfl, rfl⟩
      go_wp2_with fail
      go_ret
      exact ⟨rfl, B2⟩
    · have h : takB W ts x = true := by
        rcases Bool.eq_false_or_eq_true (takB W ts x) with h | h
        · exact h
        · exfalso
          have : y = [] := by rw [← hy]; unfold takR; rw [if_neg (by rw [h]; decide)]
          rw [this] at h0; simp at h0
      have hyo : y = takL W ts x.toNat := by rw [← hy]; unfold takR; rw [if_pos h]
      obtain ⟨k1, k2, k3⟩ := pool_worst h
      rw [← hyo] at k1 k2 k3
      have hpos : 0 < ts.length := by
        obtain ⟨-, hx0, hx1⟩ := (takB_iff W ts x).1 h
        omega
      have hposI : (0 : Int) < (ts.length : Int) := by omega
      have HG := Lib.hid k1
      have HV : Hid (∀ wq, Below w2.heap.size w2 wq → QRd wq (.slice (some ⟨g, 0, none⟩) ts.length c) ts) := Lib.hid (fun wq h => (ov2.rd qC_len).keep (SameAt.of_below h))
      have HX := Lib.hid ovx2.rd
      have HB2 := Lib.hid B2
      have hne : ((y.length : Int) == 0) = false := by simpa using (by omega : ¬ ((y.length : Int) = 0))
      obtain ⟨n, hn⟩ : ∃ n, worstI y = n := ⟨_, rfl⟩
      have HN := Lib.hid hn
      rw [hn] at k2 k3
      have HK3 := Lib.hid k3
      clear h hy hyo k1 k3 hn ov2 ovx2 B2
      go_wp2_with fail
      refine (implWorstOf_any w2 _ y HX.out).mono ?_
      rintro e w' ⟨rfl, rfl⟩
      rw [HG.out, HN.out]
      go_wp2_with fail
      go_loopw [9, 10] (fun t i wr => ∃ (k : Nat) (b : Bool), t = .bool b ∧ i = .int .i64 (k : Int) ∧ k ≤ ts.length ∧ Hid (Below w2.heap.size w2 wr) ∧ Hid (b = true → n < 0)) (fun _ i _ => ts.length - (intOf i).toNat)
      case atStart => exact ⟨0, false, rfl, rfl, Nat.zero_le _, Lib.hid (Below.refl _ _), Lib.hid (fun h => by cases h)⟩
      case round =>
        obtain ⟨k, b, rfl, rfl, hk, HF, HT⟩ := hrel
        by_cases hlt : k < ts.length
        · have hlt' : (k : Int) < (ts.length : Int) := by omega
          obtain ⟨u, hu⟩ : ∃ u, ts[k]? = some u := ⟨_, List.getElem?_eq_getElem hlt⟩
          obtain ⟨v, hv⟩ : ∃ v, ts[0]? = some v := ⟨_, List.getElem?_eq_getElem hpos⟩
          have hcu := QRd.cell (HV.out wr HF.out) hu
          have hcv := QRd.cell (HV.out wr HF.out) hv
          have HTW := Lib.hid (HK3.out k u v hu hv)
          clear hu hv
          obtain ⟨p, q⟩ := u
          obtain ⟨r, s⟩ := v
          obtain ⟨hca, hcb⟩ := hcu
          obtain ⟨hcc, hcd⟩ := hcv
          simp only [Nat.zero_add, Nat.zero_mul] at hca hcc
          clear hcb hcd
          cases b with
          | true =>
            go_wp2_with fail
            refine wp_region_held_drew (S := fun w' => w'.cell? ⟨g, k * 2, none⟩ = some (.int .i64 p) ∧ w'.cell? ⟨g, 0, none⟩ = some (.int .i64 r)) (by kernel_rfl) (⟨hca, hcc⟩) (fun hHeld => ?_)
            refine take_in (i := 0) (v := ?_) rfl (by kernel_rfl) (fun _ _ _ h => h) rfl ?_ hHeld ?_
            rotate_left
            · intro w hSw; obtain ⟨h0, h1⟩ := hSw; go_simp; all_goals with_reducible rfl
            try simp only [Act.put, List.setIfInBounds_toArray, List.set_cons_zero, List.set_cons_succ]
            refine take_in (i := 1) (v := ?_) rfl (by kernel_rfl) (fun _ _ _ h => h) rfl ?_ hHeld ?_
            rotate_left
            · intro w hSw; obtain ⟨h0, h1⟩ := hSw; go_simp; all_goals with_reducible rfl
            try simp only [Act.put, List.setIfInBounds_toArray, List.set_cons_zero, List.set_cons_succ]
            refine take_out (i := 2) rfl (by kernel_rfl) (fun _ _ _ h => h) rfl hHeld ?_
            try simp only [Act.put, List.setIfInBounds_toArray, List.set_cons_zero, List.set_cons_succ]
            refine take_out (i := 3) rfl (by kernel_rfl) (fun _ _ _ h => h) rfl hHeld ?_
            try simp only [Act.put, List.setIfInBounds_toArray, List.set_cons_zero, List.set_cons_succ]
            refine take_out (i := 4) rfl (by kernel_rfl) (fun _ _ _ h => h) rfl hHeld ?_
            try simp only [Act.put, List.setIfInBounds_toArray, List.set_cons_zero, List.set_cons_succ]
            refine take_out (i := 5) rfl (by kernel_rfl) (fun _ _ _ h => h) rfl hHeld ?_
            try simp only [Act.put, List.setIfInBounds_toArray, List.set_cons_zero, List.set_cons_succ]
            refine take_out (i := 6) rfl (by kernel_rfl) (fun _ _ _ h => h) rfl hHeld ?_
            try simp only [Act.put, List.setIfInBounds_toArray, List.set_cons_zero, List.set_cons_succ]
            refine take_out (i := 7) rfl (by kernel_rfl) (fun _ _ _ h => h) rfl hHeld ?_
            try simp only [Act.put, List.setIfInBounds_toArray, List.set_cons_zero, List.set_cons_succ]
            refine take_out (i := 8) rfl (by kernel_rfl) (fun _ _ _ h => h) rfl hHeld ?_
            try simp only [Act.put, List.setIfInBounds_toArray, List.set_cons_zero, List.set_cons_succ]
            refine take_out (i := 9) rfl (by kernel_rfl) (fun _ _ _ h => h) rfl hHeld ?_
            try simp only [Act.put, List.setIfInBounds_toArray, List.set_cons_zero, List.set_cons_succ]
            refine take_out (i := 10) rfl (by kernel_rfl) (fun _ _ _ h => h) rfl hHeld ?_
            try simp only [Act.put, List.setIfInBounds_toArray, List.set_cons_zero, List.set_cons_succ]
            refine take_out (i := 11) rfl (by kernel_rfl) (fun _ _ _ h => h) rfl hHeld ?_
            try simp only [Act.put, List.setIfInBounds_toArray, List.set_cons_zero, List.set_cons_succ]
            refine take_in (i := 12) (v := ?_) rfl (by kernel_rfl) (fun _ _ _ h => h) rfl ?_ hHeld ?_
            rotate_left
            · intro w hSw; obtain ⟨h0, h1⟩ := hSw; go_simp; all_goals with_reducible rfl
            try simp only [Act.put, List.setIfInBounds_toArray, List.set_cons_zero, List.set_cons_succ]
            refine take_in (i := 13) (v := ?_) rfl (by kernel_rfl) (fun _ _ _ h => h) rfl ?_ hHeld ?_
            rotate_left
            · intro w hSw; obtain ⟨h0, h1⟩ := hSw; go_simp; all_goals with_reducible rfl
            try simp only [Act.put, List.setIfInBounds_toArray, List.set_cons_zero, List.set_cons_succ]
            refine wpAnyH_done (by kernel_rfl) ?_ _
            clear hca hcc
            go_wp2_with fail
            go_roundw
            case rel => exact ⟨k + 1, true, rfl, by go_num, by omega, Lib.hid HF.out.drew, Lib.hid (fun _ => HT.out (by trivial))⟩
            case measure => simp [intOf]; omega
          | false =>
            go_wp2_with fail
            refine wp_region_held_drew (S := fun w' => w'.cell? ⟨g, k * 2, none⟩ = some (.int .i64 p) ∧ w'.cell? ⟨g, 0, none⟩ = some (.int .i64 r)) (by kernel_rfl) (⟨hca, hcc⟩) (fun hHeld => ?_)
            refine take_in (i := 0) (v := ?_) rfl (by kernel_rfl) (fun _ _ _ h => h) rfl ?_ hHeld ?_
            rotate_left
            · intro w hSw; obtain ⟨h0, h1⟩ := hSw; go_simp; all_goals with_reducible rfl
            try simp only [Act.put, List.setIfInBounds_toArray, List.set_cons_zero, List.set_cons_succ]
            refine take_in (i := 1) (v := ?_) rfl (by kernel_rfl) (fun _ _ _ h => h) rfl ?_ hHeld ?_
            rotate_left
            · intro w hSw; obtain ⟨h0, h1⟩ := hSw; go_simp; all_goals with_reducible rfl
            try simp only [Act.put, List.setIfInBounds_toArray, List.set_cons_zero, List.set_cons_succ]
            refine take_in (i := 2) (v := ?_) rfl (by kernel_rfl) (fun _ _ _ h => h) rfl ?_ hHeld ?_
            rotate_left
            · intro w hSw; obtain ⟨h0, h1⟩ := hSw; go_simp; all_goals with_reducible rfl
            try simp only [Act.put, List.setIfInBounds_toArray, List.set_cons_zero, List.set_cons_succ]
            refine take_in (i := 3) (v := ?_) rfl (by kernel_rfl) (fun _ _ _ h => h) rfl ?_ hHeld ?_
            rotate_left
            · intro w hSw; obtain ⟨h0, h1⟩ := hSw; go_simp; all_goals with_reducible rfl
            try simp only [Act.put, List.setIfInBounds_toArray, List.set_cons_zero, List.set_cons_succ]
            refine take_in (i := 4) (v := ?_) rfl (by kernel_rfl) (fun _ _ _ h => h) rfl ?_ hHeld ?_
            rotate_left
            · intro w hSw; obtain ⟨h0, h1⟩ := hSw; go_simp; all_goals with_reducible rfl
            try simp only [Act.put, List.setIfInBounds_toArray, List.set_cons_zero, List.set_cons_succ]
            refine take_in (i := 5) (v := ?_) rfl (by kernel_rfl) (fun _ _ _ h => h) rfl ?_ hHeld ?_
            rotate_left
            · intro w hSw; obtain ⟨h0, h1⟩ := hSw; go_simp; all_goals with_reducible rfl
            try simp only [Act.put, List.setIfInBounds_toArray, List.set_cons_zero, List.set_cons_succ]
            refine take_in (i := 6) (v := ?_) rfl (by kernel_rfl) (fun _ _ _ h => h) rfl ?_ hHeld ?_
            rotate_left
            · intro w hSw; obtain ⟨h0, h1⟩ := hSw; go_simp; all_goals with_reducible rfl
            try simp only [Act.put, List.setIfInBounds_toArray, List.set_cons_zero, List.set_cons_succ]
            refine take_in (i := 7) (v := ?_) rfl (by kernel_rfl) (fun _ _ _ h => h) rfl ?_ hHeld ?_
            rotate_left
            · intro w hSw; obtain ⟨h0, h1⟩ := hSw; go_simp; all_goals with_reducible rfl
            try simp only [Act.put, List.setIfInBounds_toArray, List.set_cons_zero, List.set_cons_succ]
            refine take_in (i := 8) (v := ?_) rfl (by kernel_rfl) (fun _ _ _ h => h) rfl ?_ hHeld ?_
            rotate_left
            · intro w hSw; obtain ⟨h0, h1⟩ := hSw; go_simp; all_goals with_reducible rfl
            try simp only [Act.put, List.setIfInBounds_toArray, List.set_cons_zero, List.set_cons_succ]
            refine take_in (i := 9) (v := ?_) rfl (by kernel_rfl) (fun _ _ _ h => h) rfl ?_ hHeld ?_
            rotate_left
            · intro w hSw; obtain ⟨h0, h1⟩ := hSw; go_simp; all_goals with_reducible rfl
            try simp only [Act.put, List.setIfInBounds_toArray, List.set_cons_zero, List.set_cons_succ]
            refine take_in (i := 10) (v := ?_) rfl (by kernel_rfl) (fun _ _ _ h => h) rfl ?_ hHeld ?_
            rotate_left
            · intro w hSw; obtain ⟨h0, h1⟩ := hSw; go_simp; all_goals with_reducible rfl
            try simp only [Act.put, List.setIfInBounds_toArray, List.set_cons_zero, List.set_cons_succ]
            refine take_in (i := 11) (v := ?_) rfl (by kernel_rfl) (fun _ _ _ h => h) rfl ?_ hHeld ?_
            rotate_left
            · intro w hSw; obtain ⟨h0, h1⟩ := hSw; go_simp; all_goals with_reducible rfl
            try simp only [Act.put, List.setIfInBounds_toArray, List.set_cons_zero, List.set_cons_succ]
            refine take_in (i := 12) (v := ?_) rfl (by kernel_rfl) (fun _ _ _ h => h) rfl ?_ hHeld ?_
            rotate_left
            · intro w hSw; obtain ⟨h0, h1⟩ := hSw; go_simp; all_goals with_reducible rfl
            try simp only [Act.put, List.setIfInBounds_toArray, List.set_cons_zero, List.set_cons_succ]
            refine take_in (i := 13) (v := ?_) rfl (by kernel_rfl) (fun _ _ _ h => h) rfl ?_ hHeld ?_
            rotate_left
            · intro w hSw; obtain ⟨h0, h1⟩ := hSw; go_simp; all_goals with_reducible rfl
            try simp only [Act.put, List.setIfInBounds_toArray, List.set_cons_zero, List.set_cons_succ]
            refine wpAnyH_done (by kernel_rfl) ?_ _
            clear hca hcc
            go_wp2_with fail
            go_roundw
            case rel => exact ⟨k + 1, (p != r), rfl, by go_num, by omega, Lib.hid HF.out.drew, Lib.hid (fun e => HTW.out (by simpa using e))⟩
            case measure => simp [intOf]; omega
        · have hlt' : (ts.length : Int) ≤ (k : Int) := by omega
          have hz := HF.out.size
          have hz2 := HB2.out.size
          have HE := Lib.hid (below_step HB2.out HF.out hz2)
          cases b with
          | true =>
            have hn0 : n < 0 := HT.out (by trivial)
            go_wp2_with fail
            go_ret
            exact ⟨ret_bool (by simp), HE.out⟩
          | false =>
            go_wp2_with fail
            go_ret
            exact ⟨ret_bool (by simp), HE.out⟩

end Go.Proofs.Yteefbkfhgmbcbaa
