/- The walk of the law of TakenBy. Conditions: a row of bytes that came in. (gen_yl.py) -/
import Derived.Test.YteefbkfhgmbcbaaYh
namespace Go.Proofs.Yteefbkfhgmbcbaa
open Go.RowKit
set_option linter.unusedVariables false

/-- what the first k tickets bring in world x -/
def psum (ts : List Qt) (x : Int) (k : Nat) : Int := ((List.range k).map fun q => takI ts q x).sum

theorem psum_succ (ts : List Qt) (x : Int) (k : Nat) : psum ts x (k + 1) = psum ts x k + takI ts k x := by
  simp [psum, List.range_succ]

theorem takI_near {ts : List Qt} (h : Pays ts) (hl : ts.length ≤ 6) {k : Nat} (hk : k < ts.length) (x : Int) : -300 ≤ takI ts k x ∧ takI ts k x ≤ 300 := by
  obtain ⟨t, ht⟩ : ∃ t, ts[k]? = some t := ⟨_, List.getElem?_eq_getElem hk⟩
  have h1 := tak_bound h ht x
  have h2 := h t (List.mem_of_getElem? ht)
  have h3 := sum2_bound h
  omega

theorem psum_near {ts : List Qt} (h : Pays ts) (hl : ts.length ≤ 6) (x : Int) (k : Nat) (hk : k ≤ ts.length) : -300 * (k : Int) ≤ psum ts x k ∧ psum ts x k ≤ 300 * (k : Int) := by
  induction k with
  | zero => simp [psum]
  | succ k ih =>
    have h1 := ih (by omega)
    have h2 := takI_near h hl (show k < ts.length by omega) x
    rw [psum_succ]
    omega

set_option maxRecDepth 100000 in
set_option maxHeartbeats 8000000 in
theorem FnTakenBy_walk (a0 : Option Addr) (len0 cap0 : Nat) (z0 : List Int) (w : World) (w0 : IsRowC .u8 w a0 len0 cap0 z0) :
    Calls Try.prog 7 #[.slice a0 len0 cap0] w fun e w' => e = .returned (.bool true) ∧ Below w.heap.size w w' := by
  by_cases hlen : 1048576 < len0
  · clear w0
    go_enter Try.func7, Try.ntmps7
    go_wp2
    go_ret
    exact ⟨rfl, Below.refl _ _⟩
  · have hlen' : decide (1048576 < len0) = false := by simpa using hlen
    go_enter Try.func7, Try.ntmps7
    go_wp2_with fail
    refine (drawTakenBy_any _ _ _ _ _ w0).mono ?_
    rintro e w1 ⟨W, x, g, c, ts, rfl, hl7, ov1, B1⟩
    clear hlen hlen' w0
    have z1 := B1.size
    obtain ⟨y, hy⟩ : ∃ y, takR W ts x = y := ⟨_, rfl⟩
    have HY := Lib.hid hy
    go_wp2_with fail
    refine (implTakenBy_any w1 W _ ts x (ov1.rd qC_len)).mono ?_
    rintro e w2 ⟨vx, rfl, ovx2, b2⟩
    rw [HY.out] at ovx2
    have z2 := b2.size
    have B2 := below_step B1 b2 (by omega)
    have ov2 := ov1.keep (SameAt.of_below b2)
    clear B1 b2 ov1
    go_wp2_with fail
    refine (specTakenBy_any w2 W _ ts x (ov2.rd qC_len)).mono ?_
    rintro e w3 ⟨vy, rfl, ovy3, b3⟩
    rw [HY.out] at ovy3
    have z3 := b3.size
    have B3 := below_step B2 b3 (by omega)
    have ov3 := ov2.keep (SameAt.of_below b3)
    have ovx3 := ovx2.keep (SameAt.of_below b3)
    clear B2 b3 ov2 ovx2
    go_wp2_with fail
    refine (sameInts_any w3 vx vy _ _ (ovx3.rd) (ovy3.rd)).mono ?_
    rintro e w' ⟨q4, rfl, rfl⟩
    rw [decide_self]
    have z4 : w3.heap.size ≤ (w3.drewN q4).heap.size := Nat.le_refl _
    have B4 : Below w.heap.size w (w3.drewN q4) := below_drewN B3 q4
    have ov4 : KOwn (w3.drewN q4) _ _ _ := ov3
    have ovx4 : IOwn (w3.drewN q4) _ vx _ := ovx3
    clear B3 ov3 ovx3 ovy3
    generalize w3.drewN q4 = w4 at *
    rcases Nat.eq_zero_or_pos y.length with h0 | h0
    · obtain rfl : y = [] := List.eq_nil_of_length_eq_zero h0
      obtain ⟨A1, c1, rfl, hlc1, hmc1, -⟩ := id ovx4.rd
      clear h0 hy
      go_wp2_with fail
      refine (alive_any _).mono ?_
      rintro e w' ⟨rfl, rfl⟩
      go_wp2_with fail
      go_ret
      exact ⟨rfl, B4⟩
    · have h : takB W ts x = true := by
        rcases Bool.eq_false_or_eq_true (takB W ts x) with h | h
        · exact h
        · exfalso
          have : y = [] := by rw [← hy]; unfold takR; rw [if_neg (by rw [h]; decide)]
          rw [this] at h0; simp at h0
      have hyo : y = takL W ts x.toNat := by rw [← hy]; unfold takR; rw [if_pos h]
      obtain ⟨hT, hx0, hx1⟩ := (takB_iff W ts x).1 h
      obtain ⟨hW1, hW4, hl6, hall⟩ := (tkB_iff W ts).1 hT
      have hp := pays_of hT
      obtain ⟨m, rfl⟩ : ∃ m : Nat, W = (m : Int) := ⟨W.toNat, by omega⟩
      obtain ⟨a, rfl⟩ : ∃ a : Nat, x = (a : Int) := ⟨x.toNat, by omega⟩
      have hm1 : 1 ≤ m := by omega
      have hm4 : m ≤ 4 := by omega
      have hat : a < ts.length := by omega
      have hat' : (a : Int) < (ts.length : Int) := by omega
      obtain ⟨t, ht⟩ : ∃ t, ts[a]? = some t := ⟨_, List.getElem?_eq_getElem hat⟩
      have htm := List.mem_of_getElem? ht
      have hin := (tkOne_iff _ t).1 (hall t htm)
      have hyl : y.length = m := by rw [hyo, tak_len]; simp
      have HAT : Hid (∀ j, j < m → y[j]? = some (takI ts a (j : Int))) := Lib.hid (fun j hj => by rw [hyo]; exact tak_at (by simpa using hj))
      have HTB : Hid (∀ k, k < ts.length → takR (m : Int) ts (k : Int) = takL (m : Int) ts k) := Lib.hid (fun k hk => by
        unfold takR
        rw [if_pos ((takB_iff _ _ _).2 ⟨hT, by omega, by omega⟩)]
        rfl)
      have HBD : Hid (∀ x, -t.2 ≤ takI ts a x ∧ (t.1 = x → 0 ≤ takI ts a x)) := Lib.hid (fun x => ⟨(tak_bound hp ht x).1, (tak_bound hp ht x).2.2⟩)
      have HP := Lib.hid hp
      have HS : Hid (∀ x, psum ts x ts.length = 0) := Lib.hid (fun x => tak_sum hp x)
      have HV : Hid (∀ wq, Below w4.heap.size w4 wq → QRd wq (.slice (some ⟨g, 0, none⟩) ts.length c) ts) := Lib.hid (fun wq h => (ov4.rd qC_len).keep (SameAt.of_below h))
      obtain ⟨A1, c1, hv1, hlc1, hmc1, -⟩ := id ovx4.rd
      rw [hyl] at hv1 hlc1
      subst hv1
      have HX : Hid (∀ wq, Below w4.heap.size w4 wq → IRd wq (.slice A1 m c1) y) := Lib.hid (fun wq h => ovx4.rd.keep (SameAt.of_below h))
      have HB4 := Lib.hid B4
      have HT := Lib.hid ht
      have hne : ((m : Int) == 0) = false := by simpa using (by omega : ¬ ((m : Int) = 0))
      have hwx : 0 ≤ t.1 ∧ t.1 < (m : Int) ∧ 1 ≤ t.2 ∧ t.2 ≤ 50 := by
        have := hp t htm
        omega
      clear h hy hyo hT hp hall htm ht hyl B4 ov4 ovx4 hin hx0 hx1 h0
      obtain ⟨p, q⟩ := t
      obtain ⟨hp0, hpm, hq1, hq50⟩ := hwx
      simp only at hp0 hpm hq1 hq50
      obtain ⟨f, rfl⟩ : ∃ f : Nat, p = (f : Int) := ⟨p.toNat, by omega⟩
      have hfm : f < m := by omega
      obtain ⟨d, hd⟩ : ∃ d, -q = d := ⟨_, rfl⟩
      have hwd : IntKind.i64.wrap (-q) = d := by rw [hd]; exact IntWalk.i64_in _ (by omega)
      have HD := Lib.hid hd
      clear hd
      go_wp2_with fail
      go_loopw [7] (fun i wr => ∃ j : Nat, i = .int .i64 (j : Int) ∧ j ≤ m ∧ Hid (Below w4.heap.size w4 wr)) (fun i _ => m - (intOf i).toNat)
      case atStart => exact ⟨0, rfl, Nat.zero_le _, Lib.hid (Below.refl _ _)⟩
      case round =>
        obtain ⟨j, rfl, hj, HF⟩ := hrel
        by_cases hjl : j < m
        · have hjl' : (j : Int) < (m : Int) := by omega
          go_wp2_with fail
          go_loopw [8, 9] (fun s i wq => ∃ k : Nat, s = .int .i64 (psum ts (j : Int) k) ∧ i = .int .i64 (k : Int) ∧ k ≤ ts.length ∧ Hid (Below w4.heap.size w4 wq)) (fun _ i _ => ts.length - (intOf i).toNat)
          case atStart => exact ⟨0, rfl, rfl, Nat.zero_le _, HF⟩
          case round =>
            clear HF
            obtain ⟨k, rfl, rfl, hk, HJ⟩ := hrel
            obtain ⟨s, hs⟩ : ∃ s, psum ts (j : Int) k = s := ⟨_, rfl⟩
            have HS1 := Lib.hid hs
            rw [hs]
            have hsb := psum_near HP.out hl6 (j : Int) k hk
            rw [hs] at hsb
            clear hs
            by_cases hkl : k < ts.length
            · have hkl' : (k : Int) < (ts.length : Int) := by omega
              have hz := HJ.out.size
              go_wp2_with fail
              refine (implTakenBy_any wr (m : Int) _ ts (k : Int) (HV.out wr HJ.out)).mono ?_
              rintro e w5 ⟨vo, rfl, ovo, b5⟩
              rw [HTB.out k hkl] at ovo
              have HJ5 := Lib.hid (below_step HJ.out b5 hz)
              have hlo : (takL (m : Int) ts k).length = m := by rw [tak_len]; simp
              obtain ⟨A2, c2, hv2, hlc2, hmc2, -⟩ := id ovo.rd
              rw [hlo] at hv2 hlc2
              subst hv2
              obtain ⟨G2, o2, n, rfl, -, hn, hc1⟩ := ovo.rd.at_ hjl
              rw [tak_at (by simpa using hjl)] at hn
              obtain rfl := Option.some.inj hn
              have hnb := takI_near HP.out hl6 hkl (j : Int)
              have HPS := Lib.hid (psum_succ ts (j : Int) k)
              rw [HS1.out] at HPS
              obtain ⟨n, hn'⟩ : ∃ n, takI ts k (j : Int) = n := ⟨_, rfl⟩
              rw [hn'] at hnb HPS hc1
              obtain ⟨b, hb⟩ : ∃ b, s + n = b := ⟨_, rfl⟩
              rw [hb] at HPS
              have hw2 : IntKind.i64.wrap (s + n) = b := by rw [hb]; exact IntWalk.i64_in _ (by omega)
              clear hn hn' hb hlo ovo b5 HJ hz
              go_wp2_with fail
              go_roundw
              case rel => exact ⟨k + 1, by rw [HPS.out], by go_num, by omega, HJ5⟩
              case measure => simp [intOf]; omega
            · obtain rfl : k = ts.length := by omega
              have hkl' : decide ((ts.length : Int) < (ts.length : Int)) = false := by simp
              obtain rfl : s = 0 := by rw [← HS1.out]; exact HS.out _
              obtain ⟨G1, o1, n, rfl, -, hn, hc1⟩ := (HX.out wr HJ.out).at_ hjl
              rw [HAT.out j hjl] at hn
              have hcl := QRd.cell (HV.out wr HJ.out) HT.out
              obtain ⟨hca, hcb⟩ := hcl
              simp only [Nat.zero_add] at hca hcb
              have hnd : decide (n < d) = false := by
                have := (HBD.out (j : Int)).1
                have h1 := HD.out
                have h2 := Option.some.inj hn
                simp only [decide_eq_false_iff_not]
                omega
              clear hn hca
              go_wp2_with fail
              refine wp_region_held_drew (S := fun w' => w'.cell? ⟨G1, o1 + j, none⟩ = some (.int .i64 n) ∧ w'.cell? ⟨g, a * 2 + 1, none⟩ = some (.int .i64 q)) (by kernel_rfl) (⟨hc1, hcb⟩) (fun hHeld => ?_)
              refine take_in (i := 0) (v := ?_) rfl (by kernel_rfl) (fun _ _ _ h => h) rfl ?_ hHeld ?_
              rotate_left
              · intro w hSw; obtain ⟨h0, h1⟩ := hSw; go_simp; all_goals with_reducible rfl
              try simp only [Act.put, List.setIfInBounds_toArray, List.set_cons_zero, List.set_cons_succ]
              refine take_in (i := 1) (v := ?_) rfl (by kernel_rfl) (fun _ _ _ h => h) rfl ?_ hHeld ?_
              rotate_left
              · intro w hSw; obtain ⟨h0, h1⟩ := hSw; go_simp; all_goals with_reducible rfl
              try simp only [Act.put, List.setIfInBounds_toArray, List.set_cons_zero, List.set_cons_succ]
              refine take_in (i := 2) (v := ?_) rfl (by kernel_rfl) (fun _ _ _ h => h) rfl ?_ hHeld ?_
              rotate_left
              · intro w hSw; obtain ⟨h0, h1⟩ := hSw; go_simp; all_goals with_reducible rfl
              try simp only [Act.put, List.setIfInBounds_toArray, List.set_cons_zero, List.set_cons_succ]
              refine take_in (i := 3) (v := ?_) rfl (by kernel_rfl) (fun _ _ _ h => h) rfl ?_ hHeld ?_
              rotate_left
              · intro w hSw; obtain ⟨h0, h1⟩ := hSw; go_simp; all_goals with_reducible rfl
              try simp only [Act.put, List.setIfInBounds_toArray, List.set_cons_zero, List.set_cons_succ]
              refine take_in (i := 4) (v := ?_) rfl (by kernel_rfl) (fun _ _ _ h => h) rfl ?_ hHeld ?_
              rotate_left
              · intro w hSw; obtain ⟨h0, h1⟩ := hSw; go_simp; all_goals with_reducible rfl
              try simp only [Act.put, List.setIfInBounds_toArray, List.set_cons_zero, List.set_cons_succ]
              refine take_in (i := 5) (v := ?_) rfl (by kernel_rfl) (fun _ _ _ h => h) rfl ?_ hHeld ?_
              rotate_left
              · intro w hSw; obtain ⟨h0, h1⟩ := hSw; go_simp; all_goals with_reducible rfl
              try simp only [Act.put, List.setIfInBounds_toArray, List.set_cons_zero, List.set_cons_succ]
              refine take_in (i := 6) (v := ?_) rfl (by kernel_rfl) (fun _ _ _ h => h) rfl ?_ hHeld ?_
              rotate_left
              · intro w hSw; obtain ⟨h0, h1⟩ := hSw; go_simp; all_goals with_reducible rfl
              try simp only [Act.put, List.setIfInBounds_toArray, List.set_cons_zero, List.set_cons_succ]
              refine take_in (i := 7) (v := ?_) rfl (by kernel_rfl) (fun _ _ _ h => h) rfl ?_ hHeld ?_
              rotate_left
              · intro w hSw; obtain ⟨h0, h1⟩ := hSw; go_simp; all_goals with_reducible rfl
              try simp only [Act.put, List.setIfInBounds_toArray, List.set_cons_zero, List.set_cons_succ]
              refine take_in (i := 8) (v := ?_) rfl (by kernel_rfl) (fun _ _ _ h => h) rfl ?_ hHeld ?_
              rotate_left
              · intro w hSw; obtain ⟨h0, h1⟩ := hSw; go_simp; all_goals with_reducible rfl
              try simp only [Act.put, List.setIfInBounds_toArray, List.set_cons_zero, List.set_cons_succ]
              refine take_in (i := 9) (v := ?_) rfl (by kernel_rfl) (fun _ _ _ h => h) rfl ?_ hHeld ?_
              rotate_left
              · intro w hSw; obtain ⟨h0, h1⟩ := hSw; go_simp; all_goals with_reducible rfl
              try simp only [Act.put, List.setIfInBounds_toArray, List.set_cons_zero, List.set_cons_succ]
              refine take_in (i := 10) (v := ?_) rfl (by kernel_rfl) (fun _ _ _ h => h) rfl ?_ hHeld ?_
              rotate_left
              · intro w hSw; obtain ⟨h0, h1⟩ := hSw; go_simp; all_goals with_reducible rfl
              try simp only [Act.put, List.setIfInBounds_toArray, List.set_cons_zero, List.set_cons_succ]
              refine take_in (i := 11) (v := ?_) rfl (by kernel_rfl) (fun _ _ _ h => h) rfl ?_ hHeld ?_
              rotate_left
              · intro w hSw; obtain ⟨h0, h1⟩ := hSw; go_simp; all_goals with_reducible rfl
              try simp only [Act.put, List.setIfInBounds_toArray, List.set_cons_zero, List.set_cons_succ]
              refine take_in (i := 12) (v := ?_) rfl (by kernel_rfl) (fun _ _ _ h => h) rfl ?_ hHeld ?_
              rotate_left
              · intro w hSw; obtain ⟨h0, h1⟩ := hSw; go_simp; all_goals with_reducible rfl
              try simp only [Act.put, List.setIfInBounds_toArray, List.set_cons_zero, List.set_cons_succ]
              refine take_in (i := 13) (v := ?_) rfl (by kernel_rfl) (fun _ _ _ h => h) rfl ?_ hHeld ?_
              rotate_left
              · intro w hSw; obtain ⟨h0, h1⟩ := hSw; go_simp; all_goals with_reducible rfl
              try simp only [Act.put, List.setIfInBounds_toArray, List.set_cons_zero, List.set_cons_succ]
              refine take_in (i := 14) (v := ?_) rfl (by kernel_rfl) (fun _ _ _ h => h) rfl ?_ hHeld ?_
              rotate_left
              · intro w hSw; obtain ⟨h0, h1⟩ := hSw; go_simp; all_goals with_reducible rfl
              try simp only [Act.put, List.setIfInBounds_toArray, List.set_cons_zero, List.set_cons_succ]
              refine wpAnyH_done (by kernel_rfl) ?_ _
              clear hc1 hcb
              go_wp2_with fail
              go_roundw
              case rel => exact ⟨j + 1, by go_num, by omega, Lib.hid HJ.out.drew⟩
              case measure => simp [intOf]; omega
        · obtain rfl : j = m := by omega
          have hjl' : decide ((j : Int) < (j : Int)) = false := by simp
          obtain ⟨G1, o1, n, rfl, -, hn, hc1⟩ := (HX.out wr HF.out).at_ hfm
          rw [HAT.out f hfm] at hn
          have hcl := QRd.cell (HV.out wr HF.out) HT.out
          obtain ⟨hca, hcb⟩ := hcl
          simp only [Nat.zero_add] at hca hcb
          have hn0 : 0 ≤ n := by
            have := (HBD.out (f : Int)).2 rfl
            have h2 := Option.some.inj hn
            omega
          have hz2 := HB4.out.size
          have HE := Lib.hid (below_step HB4.out HF.out hz2)
          clear hn hcb
          go_wp2_with fail
          go_ret
          exact ⟨ret_bool (by simp), HE.out⟩

end Go.Proofs.Yteefbkfhgmbcbaa
