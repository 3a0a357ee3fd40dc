/- impl.BalanceOf: the fold over rows. Conditions: stated at each. -/
import Derived.Test.YtpldhdidobggdaaQg
namespace Go.Proofs.Ytpldhdidobggdaa
open Go.RowKit
set_option linter.unusedVariables false

/-- the function value addRows -/
def addF : Value := .func (.func 66) #[] #[]

/-- a row that lies behind base -/
def FoldPost (base : Nat) (xs : List Int) (w : World) (e : Ending) (w' : World) : Prop := ∃ t, e = .returned t ∧ IOwn w' base t xs ∧ Below w.heap.size w w'

set_option maxHeartbeats 1000000 in
theorem foldRows_any (w : World) (base : Nat) (v u : Value) (R S : Nat → List Int) (n : Nat) (hr : RowsOf R n v w) (hu : IOwn w base u (S 0)) (hb : base ≤ w.heap.size)
    (hs : ∀ k, k < n → S (k + 1) = sumL (S k) (R k) ∧ (S k).length = (R k).length ∧ Small3 (S k) ∧ Small3 (R k)) :
    Calls Try.prog 64 #[v, u, addF] w (FoldPost base (S n) w) := by
  obtain ⟨A, c, rfl, hl, hm⟩ := hr.form
  have HR := Lib.hid hr
  have HS := Lib.hid hs
  have HU := Lib.hid hu
  have HBB := Lib.hid hb
  clear hr hs hu hb
  unfold addF
  go_enter Try.func64, Try.ntmps64
  go_wp2_with fail
  go_loopw [1, 11] (fun t i wr => ∃ k : Nat, i = .int .i64 k ∧ k ≤ n ∧ Hid (IOwn wr base t (S k)) ∧ Hid (Below w.heap.size w wr)) (fun _ i _ => n - (intOf i).toNat)
  case atStart => exact ⟨0, rfl, Nat.zero_le _, HU, Lib.hid (Below.refl _ _)⟩
  case round =>
    obtain ⟨k, rfl, hk, HO, HB⟩ := hrel
    by_cases hlt : k < n
    · obtain ⟨b, off, x, rfl, hcx, hx⟩ := (HR.out.keep HB.out).at_ hlt
      have HX := Lib.hid hx
      clear hx
      go_wp2_with fail
      refine (addRows_any _ _ _ _ _ HO.out.rd HX.out (HS.out k hlt).2.1 (HS.out k hlt).2.2.1 (HS.out k hlt).2.2.2).mono ?_
      rintro r w2 ⟨t2, rfl, o2, b2⟩
      have HO2 : Hid (IOwn w2 base t2 (S (k + 1))) := Lib.hid (by rw [(HS.out k hlt).1]; exact o2.base (Nat.le_trans HBB.out HB.out.size))
      have HB2 : Hid (Below w.heap.size w w2) := Lib.hid (below_step HB.out b2 HB.out.size)
      clear o2 b2 hcx
      go_wp2_with fail
      go_roundw
      case rel => exact ⟨k + 1, by go_num, by omega, HO2, HB2⟩
      case measure => simp [intOf]; omega
    · go_wp2_with fail
      go_ret
      have hkn : k = n := by omega
      subst hkn
      exact ⟨_, rfl, HO.out, HB.out⟩

/-- a block of n zeros -/
def zObj (n : Nat) : Obj := .cells (madeCells #[.int .i64 0] n) 3

theorem zeros_own (w : World) (base n : Nat) (hb : base ≤ w.heap.size) (hn : n ≤ 1048576) : IOwn (w.alloc (zObj n)) base (.slice (some ⟨w.heap.size, 0, none⟩) n n) (List.replicate n 0) := by
  have h := World.ownsRow_lit w (madeCells #[.int .i64 0] n) n (e := 3) (base := base) (size := 1) hb (by unfold maxLen; omega) (by simp [size_madeCells])
  unfold IOwn zObj
  rw [List.length_replicate]
  rw [toList_madeCells_one] at h
  simpa using h

theorem run_zeros (w : World) (n : Nat) (hn : n ≤ 1048576) : (Instr.makeSlice 24 (.int .i64 (n : Int)) (.int .i64 (n : Int))).run Try.prog w = .ok (.slice (some ⟨w.heap.size, 0, none⟩) n n) (w.alloc (zObj n)) := by
  obtain ⟨i0, hi, hz0, hz1, hz2⟩ := info_parts Try_intinfo
  have h := run_make (P := Try.prog) w 24 3 i0 (.int .i64 0) Try.underlying24 hi hz0 .i64 .i64 (n : Int) (n : Int) (by omega) (Int.le_refl _) (by rw [hz2]; omega) (by omega)
  rw [hz1] at h
  simpa [zObj, Value.cells] using h

/-- the balance of the first k quotes -/
def balTake (n : Int) (qs : List Qt) (ss : List Int) (k : Nat) : List Int := balL n (qs.take k) (ss.take k)

theorem balTake_zero (n : Nat) (qs : List Qt) (ss : List Int) : balTake (n : Int) qs ss 0 = List.replicate n 0 := by
  unfold balTake balL
  apply List.ext_getElem?
  intro i
  by_cases hi : i < n
  · simp [hi, balI]
  · simp [hi]

theorem balTake_all {n : Int} {qs : List Qt} {ss : List Int} (h : ss.length = qs.length) : balTake n qs ss qs.length = balL n qs ss := by
  unfold balTake
  rw [List.take_length, ← h, List.take_length]

theorem small_map {n : Int} (h1 : 1 ≤ n) (h2 : n ≤ 4) {f : Nat → Int} (hf : ∀ k, -1000 ≤ f k ∧ f k ≤ 1000) : Small3 ((List.range n.toNat).map f) := small3_of (map_gok h1 h2 hf)

theorem bal_step {n : Int} {qs : List Qt} {ss : List Int} (h : balB n qs ss = true) {k : Nat} (hk : k < qs.length) :
    balTake n qs ss (k + 1) = sumL (balTake n qs ss k) (gainAt n qs ss k) ∧ (balTake n qs ss k).length = (gainAt n qs ss k).length ∧ Small3 (balTake n qs ss k) ∧ Small3 (gainAt n qs ss k) := by
  obtain ⟨h1, h2, h3⟩ := (balB_iff _ _ _).1 h
  obtain ⟨h4, h5, h6⟩ := (bokB_iff _ _).1 h1
  have hq : qs[k]? = some (qs[k]'hk) := List.getElem?_eq_getElem hk
  have hs : ss[k]? = some (ss[k]'(by omega)) := List.getElem?_eq_getElem (by omega)
  have hg := bal_gain h hq hs
  have hb := bal_bound (w := n) (qs := qs.take k) (ss := ss.take k) (fun q hq => h6 q (List.mem_of_mem_take hq)) (fun s hs => h3 s (List.mem_of_mem_take hs)) (by simp [h2])
  rw [gainAt_eq hq hs]
  refine ⟨?_, by simp [balTake, balL, gainL], small_map h4.1 h4.2 (fun j => ?_), small_map h4.1 h4.2 (fun j => ?_)⟩
  · unfold balTake balL gainL
    rw [sumL_map]
    apply List.map_congr_left
    intro j _
    exact balI_take hq hs h2 j
  · have := hb j
    have hl : (qs.take k).length ≤ 3 := by simp; omega
    omega
  · have := gain_bound hg j
    omega

theorem balB_no1 {n : Int} {qs : List Qt} {ss : List Int} (h : bokB n qs = false) : balB n qs ss = false := by rw [balB, h]; rfl

theorem balB_no2 {n : Int} {qs : List Qt} {ss : List Int} (h : bokB n qs = true) (k : (decide (ss.length = qs.length) && ss.all stB) = false) : balB n qs ss = false := by rw [balB, Bool.and_assoc, h, k]; rfl

theorem balB_yes {n : Int} {qs : List Qt} {ss : List Int} (h : bokB n qs = true) (k : (decide (ss.length = qs.length) && ss.all stB) = true) : balB n qs ss = true := by rw [balB, Bool.and_assoc, h, k]; rfl

theorem balR_no {n : Int} {qs : List Qt} {ss : List Int} (h : balB n qs ss = false) : balR n qs ss = [] := by rw [balR, h]; rfl

theorem balR_yes {n : Int} {qs : List Qt} {ss : List Int} (h : balB n qs ss = true) : balR n qs ss = balL n qs ss := by rw [balR, if_pos h]

set_option maxHeartbeats 4000000 in
theorem implBalanceOf_any (w : World) (n : Int) (v u : Value) (qs : List Qt) (ss : List Int) (hv : QRd w v qs) (hu : IRd w u ss) :
    Calls Try.prog 43 #[.int .i64 n, v, u] w (RowOk w.heap.size (balR n qs ss) (balB n qs ss) w) := by
  have HV := Lib.hid hv
  have HU := Lib.hid hu
  clear hv hu
  rcases Bool.eq_false_or_eq_true (bokB n qs) with h | h
  · rcases Bool.eq_false_or_eq_true (decide (ss.length = qs.length) && ss.all stB) with k | k
    · have HB := Lib.hid (balB_yes h k)
      have HK := Lib.hid k
      have hw1 := (bal_wok HB.out).1
      have hw2 := (bal_wok HB.out).2
      obtain ⟨m, rfl⟩ : ∃ m : Nat, n = m := ⟨n.toNat, by omega⟩
      have hmk : ∀ w : World, (Instr.makeSlice 24 (.int .i64 (m : Int)) (.int .i64 (m : Int))).run Try.prog w = .ok (.slice (some ⟨w.heap.size, 0, none⟩) m m) (w.alloc (zObj m)) := fun w => run_zeros w m (by omega)
      clear k
      go_enter Try.func43, Try.ntmps43
      go_wp2_with fail
      refine (implBookOk_any w m v qs HV.out).mono ?_
      rintro r w2 ⟨rfl, b2⟩
      have HB2 := Lib.hid b2
      rw [h]
      have HV2 := Lib.hid (HV.out.keep (SameAt.of_below b2))
      have HU2 := Lib.hid (HU.out.keep (SameAt.of_below b2))
      clear b2
      go_wp2_with fail
      refine (stakesOk_any w2 v u qs ss HV2.out HU2.out).mono ?_
      rintro r w' ⟨rfl, rfl⟩
      rw [HK.out]
      go_wp2_with fail
      clear h
      have hs2 : w.heap.size ≤ w2.heap.size := HB2.out.size
      have HZB : Hid (IOwn (w2.alloc (zObj m)).drew w.heap.size (.slice (some ⟨w2.heap.size, 0, none⟩) m m) (List.replicate m 0)) := Lib.hid (zeros_own w2 _ m hs2 (by omega))
      go_region_with (first
        | (go_at_call 65; refine (gainRows_any _ _ _ _ _ _ ?_ ?_ HB.out).mono ?_; (first | exact HV2.out | exact HV2.out.keep (SameAt.of_below (by go_grown))); (first | exact HU2.out | exact HU2.out.keep (SameAt.of_below (by go_grown))); rintro r w3 ⟨v3, rfl, h3, b3⟩; have HR3 := Lib.hid h3; have HB3 := Lib.hid b3; have hs3 := b3.size; clear h3 b3)
        | (go_at_call 64; refine (foldRows_any _ w.heap.size _ _ (gainAt m qs ss) (balTake m qs ss) qs.length ?_ ?_ ?_ (fun k hk => bal_step HB.out hk)).mono ?_; (first | exact HR3.out | exact HR3.out.keep (by go_grown)); (rw [balTake_zero]; first | exact zeros_own _ _ _ (by (try simp at hs3); omega) (by omega) | exact HZB.out.keep (SameAt.of_below HB3.out)); ((try simp at hs3); (try simp); omega); rintro r w4 ⟨t, rfl, o4, b4⟩; have HO4 := Lib.hid o4; have HB4 := Lib.hid b4; clear o4 b4))
      all_goals
        go_wp2_with fail
        go_returns
        have hs3 := HB3.out.size
        first
          | exact rowOk_ret HB.out (by rw [balR_yes HB.out, balTake_all ((balB_iff _ _ _).1 HB.out).2.1]) HO4.out (below_step ((below_step HB2.out.drew HB3.out HB2.out.drew.size).alloc (below_step HB2.out.drew HB3.out HB2.out.drew.size).size _) HB4.out ((below_step HB2.out.drew HB3.out HB2.out.drew.size).alloc (below_step HB2.out.drew HB3.out HB2.out.drew.size).size _).size)
          | exact rowOk_ret HB.out (by rw [balR_yes HB.out, balTake_all ((balB_iff _ _ _).1 HB.out).2.1]) HO4.out (below_step (below_step (HB2.out.alloc HB2.out.size _).drew HB3.out (HB2.out.alloc HB2.out.size _).drew.size) HB4.out (below_step (HB2.out.alloc HB2.out.size _).drew HB3.out (HB2.out.alloc HB2.out.size _).drew.size).size)
    · have HN := Lib.hid (balB_no2 h k)
      go_enter Try.func43, Try.ntmps43
      go_wp2_with fail
      refine (implBookOk_any w n v qs HV.out).mono ?_
      rintro r w2 ⟨rfl, b2⟩
      have HB2 := Lib.hid b2
      rw [h]
      have HV2 := Lib.hid (HV.out.keep (SameAt.of_below b2))
      have HU2 := Lib.hid (HU.out.keep (SameAt.of_below b2))
      clear b2
      go_wp2_with fail
      refine (stakesOk_any w2 v u qs ss HV2.out HU2.out).mono ?_
      rintro r w' ⟨rfl, rfl⟩
      rw [k]
      go_wp2_with fail
      go_ret2
      exact rowOk_ret HN.out (balR_no HN.out) (nil_own _ _) HB2.out
  · have HN := Lib.hid (balB_no1 (ss := ss) h)
    go_enter Try.func43, Try.ntmps43
    go_wp2_with fail
    refine (implBookOk_any w n v qs HV.out).mono ?_
    rintro r w2 ⟨rfl, b2⟩
    have HB2 := Lib.hid b2
    rw [h]
    clear b2
    go_wp2_with fail
    go_ret2
    exact rowOk_ret HN.out (balR_no HN.out) (nil_own _ _) HB2.out

end Go.Proofs.Ytpldhdidobggdaa
