/- Rows of bids and quotes that laws build; the walks of the laws of BidsOk, TightOk. Conditions: rows of bytes that came in. (gen_jh.py) -/
import Derived.Test.YtodmgcbcacblbaaJp
import Derived.Test.YtodmgcbcacblbaaJf
import Derived.Test.YtodmgcbcacblbaaEv2
namespace Go.Proofs.Ytodmgcbcacblbaa
open Go.RowKit
set_option linter.unusedVariables false

theorem brd_empty (w : World) (A : Option Addr) : BRd w (.slice A 0 0) [] := ⟨A, 0, rfl, Nat.le_refl _, by omega, fun h => by simp at h⟩

theorem run_app_b13 (w : World) (base N : Nat) (hN : w.heap.size = N) (v : Value) (bs : List Bt) (L : Nat) (hL : bs.length = L) (e l u : Int) (hown : BOwn w base v bs) (h1 : L ≤ 1000000) (hb : base ≤ w.heap.size) :
    ∃ g c w', (Builtin.append_ #[23, 23] 23 #[v, .slice (some ⟨N, 0, none⟩) 1 1]).run Try.prog (w.alloc (.cells #[.int .i64 e, .int .i64 l, .int .i64 u] 28)) = .ok (.slice (some ⟨g, 0, none⟩) (L + 1) c) w' ∧
      BOwn w' base (.slice (some ⟨g, 0, none⟩) (L + 1) c) (bs ++ [(e, l, u)]) ∧ w.grownBy w' v.ownBlock ∧ (v.ownBlock = some g ∨ N ≤ g) := by
  subst hL; subst hN
  obtain ⟨j0, hj, hy0, hy1, hy2⟩ := info_parts Try_bidinfo
  have hown2 : (w.alloc (.cells #[.int .i64 e, .int .i64 l, .int .i64 u] 28)).ownsRow base 28 3 v bs.length (bs.flatMap bC) := World.ownsRow.alloc hown _
  obtain ⟨v', w', k0, k1, k2, k3, k4⟩ := run_append_own_at (P := Try.prog) (w.alloc (.cells #[.int .i64 e, .int .i64 l, .int .i64 u] 28)) base 23 23 28 j0 (.agg #[.int .i64 0, .int .i64 0, .int .i64 0]) 3 24 Try.underlying23 hj hy0 hy1 hy2 rfl (by decide) v bs.length (bs.flatMap bC) hown2 ⟨w.heap.size, 0, none⟩ 1 1 [.int .i64 e, .int .i64 l, .int .i64 u] rfl (three_new13 w _ _ _ _) three_one13 (by unfold maxLen; omega) (by omega) (by simp; omega)
  have hl : (bs ++ [(e, l, u)]).length = bs.length + 1 := by simp
  obtain ⟨g, c, hv, -⟩ : ∃ g c, v' = .slice (some ⟨g, 0, none⟩) (bs.length + 1) c ∧ True := by
    rcases k1.2 with ⟨-, hz⟩ | ⟨g, cap, cur, e, -⟩
    · omega
    · exact ⟨g, cap, e, trivial⟩
  subst hv
  refine ⟨g, c, w', k0, ?_, grown_after (w := w) ((Below.refl _ w).alloc (Nat.le_refl _) _) k2, ?_⟩
  · unfold BOwn GOwn
    rw [hl, List.flatMap_append]
    exact k1
  · have hg : Value.ownBlock (.slice (some ⟨g, 0, none⟩) (bs.length + 1) c) = some g := rfl
    rcases k4 with k4 | k4
    · exact .inl (k4.symm.trans hg)
    · right
      rw [hg] at k4
      injection k4 with k4
      rw [k4]; simp

theorem run_app_q13 (w : World) (base N : Nat) (hN : w.heap.size = N) (v : Value) (qs : List Qt) (L : Nat) (hL : qs.length = L) (e p : Int) (hown : QOwn w base v qs) (h1 : L ≤ 1000000) (hb : base ≤ w.heap.size) :
    ∃ g c w', (Builtin.append_ #[35, 35] 35 #[v, .slice (some ⟨N, 0, none⟩) 1 1]).run Try.prog (w.alloc (.cells #[.int .i64 e, .int .i64 p] 37)) = .ok (.slice (some ⟨g, 0, none⟩) (L + 1) c) w' ∧
      QOwn w' base (.slice (some ⟨g, 0, none⟩) (L + 1) c) (qs ++ [(e, p)]) ∧ w.grownBy w' v.ownBlock ∧ (v.ownBlock = some g ∨ N ≤ g) := by
  subst hL; subst hN
  obtain ⟨j0, hj, hy0, hy1, hy2⟩ := info_parts Try_quoteinfo
  have hown2 : (w.alloc (.cells #[.int .i64 e, .int .i64 p] 37)).ownsRow base 37 2 v qs.length (qs.flatMap qC) := World.ownsRow.alloc hown _
  obtain ⟨v', w', k0, k1, k2, k3, k4⟩ := run_append_own_at (P := Try.prog) (w.alloc (.cells #[.int .i64 e, .int .i64 p] 37)) base 35 35 37 j0 (.agg #[.int .i64 0, .int .i64 0]) 2 16 Try.underlying35 hj hy0 hy1 hy2 rfl (by decide) v qs.length (qs.flatMap qC) hown2 ⟨w.heap.size, 0, none⟩ 1 1 [.int .i64 e, .int .i64 p] rfl (two_new13 w _ _ _) two_one13 (by unfold maxLen; omega) (by omega) (by simp; omega)
  have hl : (qs ++ [(e, p)]).length = qs.length + 1 := by simp
  obtain ⟨g, c, hv, -⟩ : ∃ g c, v' = .slice (some ⟨g, 0, none⟩) (qs.length + 1) c ∧ True := by
    rcases k1.2 with ⟨-, hz⟩ | ⟨g, cap, cur, e, -⟩
    · omega
    · exact ⟨g, cap, e, trivial⟩
  subst hv
  refine ⟨g, c, w', k0, ?_, grown_after (w := w) ((Below.refl _ w).alloc (Nat.le_refl _) _) k2, ?_⟩
  · unfold QOwn GOwn
    rw [hl, List.flatMap_append]
    exact k1
  · have hg : Value.ownBlock (.slice (some ⟨g, 0, none⟩) (qs.length + 1) c) = some g := rfl
    rcases k4 with k4 | k4
    · exact .inl (k4.symm.trans hg)
    · right
      rw [hg] at k4
      injection k4 with k4
      rw [k4]; simp

/-- a row of bids that is built: so far -/
def WiRel (w : World) (F : List Bt) (k : Nat) (p : Value) (wr : World) : Prop := BOwn wr w.heap.size p (F.take k) ∧ Below w.heap.size w wr ∧ ∃ g c, p = .slice (some ⟨g, 0, none⟩) k c

theorem wi_start (w : World) (F : List Bt) : WiRel w F 0 (.slice (some ⟨w.heap.size, 0, none⟩) 0 0) (w.alloc (.cells #[] 28)) := by
  refine ⟨?_, (Below.refl _ _).alloc (Nat.le_refl _) _, _, _, rfl⟩
  have h := World.ownsRow_lit w #[] 0 (e := 28) (base := w.heap.size) (size := 3) (Nat.le_refl _) (by unfold maxLen; omega) rfl
  simpa [GOwn] using h

theorem WiRel.step {w wr w' : World} {F : List Bt} {k g c : Nat} {p : Value} {q : Bt} (h : WiRel w F k p wr) (hq : F[k]? = some q) (ho : BOwn w' w.heap.size (.slice (some ⟨g, 0, none⟩) (k + 1) c) (F.take k ++ [q])) (hg : wr.grownBy w' p.ownBlock) :
    WiRel w F (k + 1) (.slice (some ⟨g, 0, none⟩) (k + 1) c) w' := by
  refine ⟨by rw [List.take_add_one, hq]; exact ho, ?_, _, _, rfl⟩
  exact h.2.1.grown hg h.2.1.size (fun g hg' => (World.ownsRow.lt h.1 g hg').1)

/-- the widest prices -/
def wideL (bs : List Bt) : List Bt := bs.map fun b => (b.1, 0, 6)

theorem wide_len (bs : List Bt) : (wideL bs).length = bs.length := by simp [wideL]

theorem wide_at {bs : List Bt} {k : Nat} {b : Bt} (h : bs[k]? = some b) : (wideL bs)[k]? = some (b.1, 0, 6) := by rw [wideL, List.getElem?_map, h]; rfl

theorem wide_ok {n : Nat} {bs : List Bt} (h : bidsB (n : Int) bs = true) : bidsB (n : Int) (wideL bs) = true ∧ sfairB (n : Int) (wideL bs) = true := by
  obtain ⟨⟨h1, h4⟩, h2, h3⟩ := (bidsB_iff _ _).1 h
  have hw : bidsB (n : Int) (wideL bs) = true := by
    refine (bidsB_iff _ _).2 ⟨⟨h1, h4⟩, by rw [wide_len]; exact h2, fun b hb => ?_⟩
    obtain ⟨x, hx, rfl⟩ := List.mem_map.1 hb
    obtain ⟨k1, -, -⟩ := (bidB_iff _ _).1 (h3 x hx)
    exact (bidB_iff _ _).2 ⟨k1, ⟨Int.le_refl 0, (by show (0 : Int) ≤ 6; decide)⟩, Int.le_refl 6⟩
  refine ⟨hw, ?_⟩
  obtain ⟨v, rfl⟩ : ∃ v, n = v + 1 := ⟨n - 1, by omega⟩
  rw [sfairB, hw, Int.toNat_natCast, Bool.true_and, anyS, List.any_eq_true]
  have hm : (36 :: List.replicate v 0) ∈ lay (v + 1) 36 := (mem_lay _ _ _).2 ⟨by simp, by simp⟩
  refine ⟨_, hm, (sfitI_iff _ _).2 fun b hb => ?_⟩
  obtain ⟨x, hx, rfl⟩ := List.mem_map.1 hb
  have := onI_bound (natL_nonneg (36 :: List.replicate v 0)) x.1
  rw [natL_sum, ((mem_lay _ _ _).1 hm).2] at this
  show 6 * 0 ≤ onI _ x.1 ∧ onI _ x.1 ≤ 6 * 6
  omega

theorem bids_empty : bidsB 1 [] = true ∧ bidsB 0 [] = false := by decide

set_option maxRecDepth 100000 in
set_option maxHeartbeats 8000000 in
theorem FnBidsOk_walk (a0 : Option Addr) (len0 cap0 : Nat) (z0 : List Int) (w : World) (w0 : IsRowC .u8 w a0 len0 cap0 z0) :
    Calls Try.prog 3 #[.slice a0 len0 cap0] w fun e w' => e = .returned (.bool true) ∧ Below w.heap.size w w' := by
  by_cases hlen : 1048576 < len0
  · clear w0
    go_enter Try.func3, Try.ntmps3
    go_wp2
    go_ret
    exact ⟨rfl, Below.refl _ _⟩
  · have hlen' : decide (1048576 < len0) = false := by simpa using hlen
    go_enter Try.func3, Try.ntmps3
    go_wp2_with fail
    refine (drawBidsOk_any _ _ _ _ _ w0).mono ?_
    rintro e w1 ⟨n, v, bs, rfl, ⟨n1, n4⟩, ov, hl4, B1⟩
    have HB1 := Lib.hid B1
    obtain ⟨A, c, rfl, hl, hmx⟩ := (ov.rd bC_len).form
    have HV : Hid (∀ wr, Below w1.heap.size w1 wr → BRd wr (.slice A bs.length c) bs) := Lib.hid (fun wr hb => (ov.rd bC_len).keep (SameAt.of_below hb))
    obtain ⟨t, ht⟩ : ∃ t, bidsB (n : Int) bs = t := ⟨_, rfl⟩
    have HT := Lib.hid ht
    clear ov B1 w0
    cases t
    · clear ht
      have C1 := Lib.hid (Below.refl w1.heap.size w1)
      go_wp2_with fail
      refine (implBidsOk_any w1 (n : Int) _ bs (HV.out w1 C1.out)).mono ?_
      rintro e w2 ⟨rfl, b2⟩
      rw [HT.out]
      have C2 := Lib.hid (below_step C1.out b2 C1.out.size)
      clear b2
      go_wp2_with fail
      refine (specBidsOk_any w2 (n : Int) _ bs (HV.out w2 C2.out)).mono ?_
      rintro e w3 ⟨rfl, b3⟩
      rw [HT.out]
      have C3 := Lib.hid (below_step C2.out b3 C2.out.size)
      clear b3
      have H0 := Lib.hid (wi_start w3 (wideL bs))
      go_wp2_with fail
      go_loopw [6, 7] (fun p i wr => ∃ k : Nat, i = .int .i64 (k : Int) ∧ k ≤ bs.length ∧ Hid (WiRel w3 (wideL bs) k p wr)) (fun _ i _ => bs.length - (intOf i).toNat)
      case atStart => exact ⟨0, rfl, Nat.zero_le _, H0⟩
      case round =>
        obtain ⟨k, rfl, hk, HF⟩ := hrel
        obtain ⟨g0, c0, rfl⟩ := HF.out.2.2
        clear H0
        have K3 := Lib.hid (below_step C3.out HF.out.2.1 C3.out.size)
        by_cases hlt : k < bs.length
        · have hlt' : (k : Int) < (bs.length : Int) := by omega
          have hk0 : (0 : Int) ≤ (k : Int) := by omega
          obtain ⟨b, off, ⟨e, lo, hi⟩, rfl, -, hx, hc0, -, -⟩ := BRd.at_ (HV.out wr K3.out) hlt
          have hc0 : wr.cell? ⟨b, off + k * 3, none⟩ = some (.int .i64 e) := hc0
          have HQ := Lib.hid (wide_at hx)
          have hlk : Hid (((wideL bs).take k).length = k) := Lib.hid (by rw [List.length_take, wide_len]; omega)
          clear hx
          go_wp2_with (at_builtin; refine wp_app_b13 rfl _ _ rfl wr w3.heap.size _ _ k hlk.out _ _ _ (by rfl) HF.out.1 (by rfl) (by omega) HF.out.2.1.size ?_)
          intro g c2 w' hown' hgrow
          have HN := Lib.hid (HF.out.step HQ.out hown' hgrow)
          clear hown' hgrow HF hlk
          go_wp2_with fail
          go_roundw
          case rel => exact ⟨k + 1, by go_num, by omega, HN⟩
          case measure => simp [intOf]; omega
        · obtain rfl : k = bs.length := by omega
          have hlt' : decide ((bs.length : Int) < (bs.length : Int)) = false := by simp
          have HW : Hid (BRd wr (.slice (some ⟨g0, 0, none⟩) bs.length c0) (wideL bs)) := Lib.hid (by
            have h := HF.out.1.rd bC_len
            rwa [← wide_len bs, List.take_length, wide_len] at h)
          clear HF
          go_wp2_with fail
          refine (implBidsOk_any _ 1 _ [] (brd_empty _ _)).mono ?_
          rintro e w5 ⟨rfl, b5⟩
          rw [bids_empty.1]
          have L5 := Lib.hid (below_step ((Below.refl wr.heap.size wr).alloc (Nat.le_refl _) _) b5 (by simp))
          clear b5
          go_wp2_with fail
          refine (implBidsOk_any _ 0 _ [] (brd_empty _ _)).mono ?_
          rintro e w6 ⟨rfl, b6⟩
          rw [bids_empty.2]
          have L6 := Lib.hid (below_step (L5.out.alloc L5.out.size _) b6 (by have := L5.out.size; simp; omega))
          clear b6
          go_wp2_with fail
          refine (alive_any _).mono ?_
          rintro e w' ⟨rfl, rfl⟩
          go_wp2_with fail
          go_ret
          exact ⟨rfl, below_step HB1.out (below_step K3.out L6.out K3.out.size) HB1.out.size⟩
    · have HWO := Lib.hid (wide_ok ht)
      clear ht
      have C1 := Lib.hid (Below.refl w1.heap.size w1)
      go_wp2_with fail
      refine (implBidsOk_any w1 (n : Int) _ bs (HV.out w1 C1.out)).mono ?_
      rintro e w2 ⟨rfl, b2⟩
      rw [HT.out]
      have C2 := Lib.hid (below_step C1.out b2 C1.out.size)
      clear b2
      go_wp2_with fail
      refine (specBidsOk_any w2 (n : Int) _ bs (HV.out w2 C2.out)).mono ?_
      rintro e w3 ⟨rfl, b3⟩
      rw [HT.out]
      have C3 := Lib.hid (below_step C2.out b3 C2.out.size)
      clear b3
      have H0 := Lib.hid (wi_start w3 (wideL bs))
      go_wp2_with fail
      go_loopw [6, 7] (fun p i wr => ∃ k : Nat, i = .int .i64 (k : Int) ∧ k ≤ bs.length ∧ Hid (WiRel w3 (wideL bs) k p wr)) (fun _ i _ => bs.length - (intOf i).toNat)
      case atStart => exact ⟨0, rfl, Nat.zero_le _, H0⟩
      case round =>
        obtain ⟨k, rfl, hk, HF⟩ := hrel
        obtain ⟨g0, c0, rfl⟩ := HF.out.2.2
        clear H0
        have K3 := Lib.hid (below_step C3.out HF.out.2.1 C3.out.size)
        by_cases hlt : k < bs.length
        · have hlt' : (k : Int) < (bs.length : Int) := by omega
          have hk0 : (0 : Int) ≤ (k : Int) := by omega
          obtain ⟨b, off, ⟨e, lo, hi⟩, rfl, -, hx, hc0, -, -⟩ := BRd.at_ (HV.out wr K3.out) hlt
          have hc0 : wr.cell? ⟨b, off + k * 3, none⟩ = some (.int .i64 e) := hc0
          have HQ := Lib.hid (wide_at hx)
          have hlk : Hid (((wideL bs).take k).length = k) := Lib.hid (by rw [List.length_take, wide_len]; omega)
          clear hx
          go_wp2_with (at_builtin; refine wp_app_b13 rfl _ _ rfl wr w3.heap.size _ _ k hlk.out _ _ _ (by rfl) HF.out.1 (by rfl) (by omega) HF.out.2.1.size ?_)
          intro g c2 w' hown' hgrow
          have HN := Lib.hid (HF.out.step HQ.out hown' hgrow)
          clear hown' hgrow HF hlk
          go_wp2_with fail
          go_roundw
          case rel => exact ⟨k + 1, by go_num, by omega, HN⟩
          case measure => simp [intOf]; omega
        · obtain rfl : k = bs.length := by omega
          have hlt' : decide ((bs.length : Int) < (bs.length : Int)) = false := by simp
          have HW : Hid (BRd wr (.slice (some ⟨g0, 0, none⟩) bs.length c0) (wideL bs)) := Lib.hid (by
            have h := HF.out.1.rd bC_len
            rwa [← wide_len bs, List.take_length, wide_len] at h)
          clear HF
          go_wp2_with fail
          refine (implBidsOk_any _ 1 _ [] (brd_empty _ _)).mono ?_
          rintro e w5 ⟨rfl, b5⟩
          rw [bids_empty.1]
          have L5 := Lib.hid (below_step ((Below.refl wr.heap.size wr).alloc (Nat.le_refl _) _) b5 (by simp))
          clear b5
          go_wp2_with fail
          refine (implBidsOk_any _ 0 _ [] (brd_empty _ _)).mono ?_
          rintro e w6 ⟨rfl, b6⟩
          rw [bids_empty.2]
          have L6 := Lib.hid (below_step (L5.out.alloc L5.out.size _) b6 (by have := L5.out.size; simp; omega))
          clear b6
          go_wp2_with fail
          refine (implBidsOk_any w6 (n : Int) _ (wideL bs) (HW.out.keep (SameAt.of_below L6.out))).mono ?_
          rintro e w7 ⟨rfl, b7⟩
          rw [HWO.out.1]
          have L7 := Lib.hid (below_step L6.out b7 L6.out.size)
          clear b7
          go_wp2_with fail
          refine (implSidesFair_any w7 (n : Int) _ (wideL bs) (HW.out.keep (SameAt.of_below L7.out))).mono ?_
          rintro e w8 ⟨rfl, b8⟩
          rw [HWO.out.2]
          have L8 := Lib.hid (below_step L7.out b8 L7.out.size)
          clear b8
          go_wp2_with fail
          refine (alive_any _).mono ?_
          rintro e w' ⟨rfl, rfl⟩
          go_wp2_with fail
          go_ret
          exact ⟨rfl, below_step HB1.out (below_step K3.out L8.out K3.out.size) HB1.out.size⟩

theorem rep_on13 (n a : Nat) : onN (List.replicate n 0) a = 0 ∧ (List.replicate n 0).sum = 0 := by
  induction n generalizing a with
  | zero => exact ⟨rfl, rfl⟩
  | succ n ih =>
    rw [List.replicate_succ]
    simp only [onN, List.sum_cons, (ih (a / 2)).1, (ih 0).2]; simp

theorem onN_zero13 (l : List Nat) : onN l 0 = 0 := by
  induction l with
  | nil => rfl
  | cons x l ih => simp [onN, ih]

/-- any number of grains may lie on an event that sometimes comes true and sometimes not -/
theorem any_grains13 {v : Nat} (hv : v + 1 ≤ 4) {e : Int} (he : evB ((v + 1 : Nat) : Int) e = true) (h0 : e ≠ 0) (h1 : e ≠ 2 ^ (v + 1) - 1) (x : Int) (x0 : 0 ≤ x) (x6 : x ≤ 36) : ∃ l ∈ lay (v + 1) 36, onI (natL l) e = x := by
  obtain ⟨w1, w2, w3, w4⟩ := (evB_iff _ _).1 he
  unfold allI at w4
  rw [Int.toNat_natCast] at w4
  obtain ⟨a, ha⟩ : ∃ a : Nat, e = a := ⟨e.toNat, by omega⟩
  subst ha
  obtain ⟨y, hy⟩ : ∃ y : Nat, x = y := ⟨x.toNat, by omega⟩
  subst hy
  have hy6 : y ≤ 36 := by omega
  have tab : ∀ v : Fin 4, ∀ a : Fin 16, (a : Nat) ≠ 0 → ((a : Nat) : Int) ≠ 2 ^ ((v : Nat) + 1) - 1 → ((a : Nat) : Int) ≤ 2 ^ ((v : Nat) + 1) - 1 → ∃ i j : Fin 4, (i : Nat) ≤ (v : Nat) ∧ (j : Nat) ≤ (v : Nat) ∧ (i : Nat) ≠ (j : Nat) ∧ (a : Nat) / 2 ^ (i : Nat) % 2 = 1 ∧ (a : Nat) / 2 ^ (j : Nat) % 2 = 0 := by decide +kernel
  have ha16 : a < 16 := by
    have : (a : Int) ≤ 15 := (evB_15 he).2
    omega
  obtain ⟨i, j, hi, hj, hne, bi, bj⟩ := tab ⟨v, by omega⟩ ⟨a, ha16⟩ (fun (h : a = 0) => h0 (by rw [h]; rfl)) h1 w4
  have hi : (i : Nat) ≤ v := hi
  have hj : (j : Nat) ≤ v := hj
  have bi : a / 2 ^ (i : Nat) % 2 = 1 := bi
  have bj : a / 2 ^ (j : Nat) % 2 = 0 := bj
  have key : ∀ (n : Nat) (l : List Nat) (a i : Nat) (z : Nat), l = List.replicate n 0 → i < n → onN (l.set i z) a = a / 2 ^ i % 2 * z ∧ (l.set i z).sum = z := by
    intro n
    induction n with
    | zero => intro l a i z _ h; omega
    | succ n ih =>
      intro l a i z hl hi
      subst hl
      rw [List.replicate_succ]
      cases i with
      | zero =>
        simp only [List.set_cons_zero, onN, List.sum_cons, Nat.pow_zero, Nat.div_one]
        have := rep_on13 n (a / 2)
        rw [this.1, this.2]; simp
      | succ i =>
        obtain ⟨k1, k2⟩ := ih (List.replicate n 0) (a / 2) i z rfl (by omega)
        simp only [List.set_cons_succ, onN, List.sum_cons, k1, k2]
        rw [Nat.div_div_eq_div_mul, show 2 * 2 ^ i = 2 ^ (i + 1) from by rw [Nat.pow_succ, Nat.mul_comm]]
        simp
  have two : ∀ (n : Nat) (a i j y z : Nat), i < n → j < n → i ≠ j → onN (((List.replicate n 0).set i y).set j z) a = a / 2 ^ i % 2 * y + a / 2 ^ j % 2 * z ∧ (((List.replicate n 0).set i y).set j z).sum = y + z := by
    intro n
    induction n with
    | zero => intro a i j y z h; omega
    | succ n ih =>
      intro a i j y z hi hj hne
      rw [List.replicate_succ]
      cases i with
      | zero =>
        cases j with
        | zero => omega
        | succ j =>
          obtain ⟨k1, k2⟩ := key n (List.replicate n 0) (a / 2) j z rfl (by omega)
          simp only [List.set_cons_zero, List.set_cons_succ, onN, List.sum_cons, k1, k2, Nat.pow_zero, Nat.div_one]
          rw [Nat.div_div_eq_div_mul, show 2 * 2 ^ j = 2 ^ (j + 1) from by rw [Nat.pow_succ, Nat.mul_comm]]
          exact ⟨rfl, trivial⟩
      | succ i =>
        cases j with
        | zero =>
          obtain ⟨k1, k2⟩ := key n (List.replicate n 0) (a / 2) i y rfl (by omega)
          simp only [List.set_cons_zero, List.set_cons_succ, onN, List.sum_cons, k1, k2, Nat.pow_zero, Nat.div_one]
          rw [Nat.div_div_eq_div_mul, show 2 * 2 ^ i = 2 ^ (i + 1) from by rw [Nat.pow_succ, Nat.mul_comm]]
          exact ⟨Nat.add_comm _ _, Nat.add_comm _ _⟩
        | succ j =>
          obtain ⟨k1, k2⟩ := ih (a / 2) i j y z (by omega) (by omega) (by omega)
          simp only [List.set_cons_succ, onN, List.sum_cons, k1, k2]
          rw [Nat.div_div_eq_div_mul, Nat.div_div_eq_div_mul, show 2 * 2 ^ i = 2 ^ (i + 1) from by rw [Nat.pow_succ, Nat.mul_comm], show 2 * 2 ^ j = 2 ^ (j + 1) from by rw [Nat.pow_succ, Nat.mul_comm]]
          simp
  obtain ⟨k1, k2⟩ := two (v + 1) a i j y (36 - y) (by omega) (by omega) hne
  refine ⟨_, (mem_lay _ _ _).2 ⟨by simp, k2.trans (by omega)⟩, ?_⟩
  rw [onN_cast, k1, bi, bj]; simp

/-- what the law of TightOk wants of one bid -/
theorem tight_one {n : Nat} {b : Bt} (h : bidsB (n : Int) [b] = true) :
    (b.1 = 0 → tightB (n : Int) [b] = (decide (b.2.1 = 0) && decide (b.2.2 = 0))) ∧
    (b.1 = 2 ^ n - 1 → tightB (n : Int) [b] = (decide (b.2.1 = 6) && decide (b.2.2 = 6))) ∧
    (b.1 ≠ 0 → b.1 ≠ 2 ^ n - 1 → tightB (n : Int) [b] = true) := by
  obtain ⟨⟨w1, w4⟩, -, hb⟩ := (bidsB_iff _ _).1 h
  obtain ⟨he, ⟨l0, lh⟩, h6⟩ := (bidB_iff _ _).1 (hb b (by simp))
  have hn1 : 1 ≤ n := by omega
  have hy := so_yes h he
  have ha := so_any h he
  have hbd : ∀ l ∈ lay n 36, ∀ e : Int, 0 ≤ onI (natL l) e ∧ onI (natL l) e ≤ 36 := by
    intro l hl e
    obtain ⟨v, rfl⟩ : ∃ v, n = v + 1 := ⟨n - 1, by omega⟩
    have := onI_bound (natL_nonneg l) e
    rw [natL_sum, ((mem_lay _ _ _).1 hl).2] at this
    exact this
  have hfit : ∀ l, SFitL n [b] l ↔ l ∈ lay n 36 ∧ 6 * b.2.1 ≤ onI (natL l) b.1 ∧ onI (natL l) b.1 ≤ 6 * b.2.2 := by
    intro l
    unfold SFitL
    rw [sfitI_iff]
    exact and_congr_right fun _ => ⟨fun hh => hh b (by simp), fun hh x hx => by obtain rfl := List.mem_singleton.1 hx; exact hh⟩
  have htb : tightB (n : Int) [b] = (tight1 (n : Int) [b] b && sfairB (n : Int) [b]) := by rw [tightB, List.all_cons, List.all_nil, Bool.and_true]
  have hsf : sfairB (n : Int) [b] = anyS n [b] := by rw [sfairB, h, Bool.true_and, Int.toNat_natCast]
  -- told, with these bounds
  have told : ∀ (lo hi : Int), (∃ l ∈ lay n 36, onI (natL l) b.1 = lo) → (∃ l ∈ lay n 36, onI (natL l) b.1 = hi) → (∀ l ∈ lay n 36, SFitL n [b] l → lo ≤ onI (natL l) b.1 ∧ onI (natL l) b.1 ≤ hi) → (6 * b.2.1 ≤ lo ∧ lo ≤ hi ∧ hi ≤ 6 * b.2.2) →
      tightB (n : Int) [b] = (decide (lo * 6 = b.2.1 * 36) && decide (hi * 6 = b.2.2 * 36)) := by
    rintro lo hi ⟨l1, m1, e1⟩ ⟨l2, m2, e2⟩ hall hin
    have f1 : SFitL n [b] l1 := (hfit l1).2 ⟨m1, by omega⟩
    have f2 : SFitL n [b] l2 := (hfit l2).2 ⟨m2, by omega⟩
    have hany : anyS n [b] = true := (sany_iff _ _).2 ⟨l1, f1⟩
    obtain ⟨⟨x, hx, ex⟩, hle, h0⟩ := sleast_some hany b.1
    obtain ⟨⟨y, hy2, ey⟩, hge⟩ := smost_some hany b.1
    have a1 := hle l1 f1
    have a2 := hge l2 f2
    have a3 := (hall x hx.1 hx).1
    have a4 := (hall y hy2.1 hy2).2
    have el : sleastI n [b] b.1 = lo := by omega
    have em : smostI n [b] b.1 = hi := by omega
    rw [htb, hsf, hany, Bool.and_true, tight1, ha, hany, hy.1, hy.2, el, em, Bool.true_and]
  have nofit : anyS n [b] = false → tightB (n : Int) [b] = false := fun hn => by rw [htb, hsf, hn, Bool.and_false]
  obtain ⟨v, rfl⟩ : ∃ v, n = v + 1 := ⟨n - 1, by omega⟩
  have hm0 : (36 :: List.replicate v 0) ∈ lay (v + 1) 36 := (mem_lay _ _ _).2 ⟨by simp, by simp⟩
  refine ⟨fun h0 => ?_, fun hf => ?_, fun h0 hf => ?_⟩
  · have on0 : ∀ l : List Nat, onI (natL l) b.1 = 0 := fun l => by
      rw [h0, show ((0 : Int)) = ((0 : Nat) : Int) from rfl, onN_cast, onN_zero13]
    by_cases hz : b.2.1 = 0
    · rw [told 0 0 ⟨_, hm0, on0 _⟩ ⟨_, hm0, on0 _⟩ (fun l _ _ => by rw [on0]; omega) (by omega)]
      congr 1
      · rw [decide_eq_true hz, decide_eq_true (by omega)]
      · exact decide_eq_decide.2 (by omega)
    · rw [decide_eq_false hz, Bool.false_and]
      refine nofit ?_
      rw [← Bool.not_eq_true, sany_iff]
      rintro ⟨l, hl⟩
      have := ((hfit l).1 hl).2
      rw [on0] at this; omega
  · have on36 : ∀ l ∈ lay (v + 1) 36, onI (natL l) b.1 = 36 := fun l hl => by
      obtain ⟨k1, k2⟩ := (mem_lay _ _ _).1 hl
      have := on_all (natL l)
      rw [natL_len, k1, natL_sum, k2] at this
      rw [hf]; exact this
    by_cases hz : b.2.2 = 6
    · rw [told 36 36 ⟨_, hm0, on36 _ hm0⟩ ⟨_, hm0, on36 _ hm0⟩ (fun l hl _ => by rw [on36 l hl]; omega) (by omega)]
      congr 1
      · exact decide_eq_decide.2 (by omega)
      · rw [decide_eq_true hz, decide_eq_true (by omega)]
    · rw [decide_eq_false hz, Bool.and_false]
      refine nofit ?_
      rw [← Bool.not_eq_true, sany_iff]
      rintro ⟨l, hl⟩
      obtain ⟨k1, k2⟩ := (hfit l).1 hl
      rw [on36 l k1] at k2; omega
  · have some := any_grains13 (v := v) (by omega) he h0 hf
    have s1 := some (6 * b.2.1) (by omega) (by omega)
    have s2 := some (6 * b.2.2) (by omega) (by omega)
    rw [told (6 * b.2.1) (6 * b.2.2) s1 s2 (fun l hl hs => ((hfit l).1 hs).2) (by omega), decide_eq_true (by omega), decide_eq_true (by omega)]; rfl

end Go.Proofs.Ytodmgcbcacblbaa
