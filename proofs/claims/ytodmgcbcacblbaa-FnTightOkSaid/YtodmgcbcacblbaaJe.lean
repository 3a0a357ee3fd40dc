/- Contracts of spec's chapter 13: SidesOn, TightOk. Conditions: rows that read as lists. (gen_je.py) -/
import Derived.Test.YtodmgcbcacblbaaJb
import Derived.Test.YtodmgcbcacblbaaTa
namespace Go.Proofs.Ytodmgcbcacblbaa
open Go.RowKit
set_option linter.unusedVariables false

/-! what is handed back -/

def soL (n : Int) (bs : List Bt) (e : Int) : Int := if bidsB n bs = true ∧ evB n e = true then sleastI n.toNat bs e else -1

def soM (n : Int) (bs : List Bt) (e : Int) : Int := if bidsB n bs = true ∧ evB n e = true then smostI n.toNat bs e else -1

def soB (n : Int) (bs : List Bt) (e : Int) : Bool := decide (0 ≤ soL n bs e)

theorem so_yes {n : Nat} {bs : List Bt} {e : Int} (h : bidsB (n : Int) bs = true) (k : evB (n : Int) e = true) : soL n bs e = sleastI n bs e ∧ soM n bs e = smostI n bs e := by
  rw [soL, soM, if_pos ⟨h, k⟩, if_pos ⟨h, k⟩, Int.toNat_natCast]; exact ⟨rfl, rfl⟩

theorem so_no {n : Int} {bs : List Bt} {e : Int} (h : ¬ (bidsB n bs = true ∧ evB n e = true)) : soL n bs e = -1 ∧ soM n bs e = -1 ∧ soB n bs e = false := by
  have h1 : soL n bs e = -1 := by rw [soL, if_neg h]
  exact ⟨h1, by rw [soM, if_neg h], by rw [soB, h1]; rfl⟩

/-- told exactly if some measure fits -/
theorem so_any {n : Nat} {bs : List Bt} {e : Int} (h : bidsB (n : Int) bs = true) (k : evB (n : Int) e = true) : soB n bs e = anyS n bs := by
  rw [soB, (so_yes h k).1]
  rcases Bool.eq_false_or_eq_true (anyS n bs) with ha | ha
  · rw [ha]; exact decide_eq_true (sleast_some ha e).2.2
  · rw [ha, sleast_none ha e]; rfl

theorem so_bound {n : Int} {bs : List Bt} {e : Int} (h : soB n bs e = true) : (0 ≤ soL n bs e ∧ soL n bs e ≤ 144) ∧ 0 ≤ soM n bs e ∧ soM n bs e ≤ 144 := by
  by_cases hc : bidsB n bs = true ∧ evB n e = true
  · obtain ⟨h1, h2⟩ := hc
    obtain ⟨w1, w4⟩ := ((bidsB_iff _ _).1 h1).1
    obtain ⟨m, rfl⟩ : ∃ m : Nat, n = m := ⟨n.toNat, by omega⟩
    rw [so_any h1 h2] at h
    obtain ⟨⟨l, hl, e1⟩, -, -⟩ := sleast_some h e
    obtain ⟨⟨l2, hl2, e2⟩, -⟩ := smost_some h e
    rw [(so_yes h1 h2).1, (so_yes h1 h2).2, e1, e2]
    have key : ∀ x, SFitL m bs x → 0 ≤ onI (natL x) e ∧ onI (natL x) e ≤ 144 := by
      intro x hx
      obtain ⟨k1, k2⟩ := sfit_len (by omega) hx
      have hg : Grs (natL x) := grs_of ((mea_lay (natL x)).2 ⟨by rw [natL_len]; omega, x, by rw [natL_len, k1]; exact hx.1, rfl⟩)
      have := grs_on hg e (natL x).length
      rwa [List.take_length] at this
    exact ⟨key l hl, key l2 hl2⟩
  · rw [(so_no hc).2.2] at h; cases h

/-- two numbers and whether they are told -/
def TriPost (x y : Int) (b : Bool) (w : World) (e : Ending) (w' : World) : Prop := e = .returned (.tuple #[.int .i64 x, .int .i64 y, .bool b]) ∧ Below w.heap.size w w'

theorem tri_ret {x y x' y' : Int} {b b' : Bool} {w w' : World} (h1 : x = x') (h2 : y = y') (h3 : b = b') (hb : Below w.heap.size w w') : TriPost x y b w (.returned (.tuple #[.int .i64 x', .int .i64 y', .bool b'])) w' := by subst h1; subst h2; subst h3; exact ⟨rfl, hb⟩

theorem sleastF_no {bs : List Bt} {f : List Nat → Int} {b : Int} {l : List Nat} (h : sfitI (natL l) bs = false) : sleastF bs f b l = b := by rw [sleastF, h]; rfl

theorem sleastF_neg {bs : List Bt} {f : List Nat → Int} {b : Int} {l : List Nat} (h : sfitI (natL l) bs = true) (hb : b < 0) : sleastF bs f b l = f l := by rw [sleastF, h, decide_eq_true hb]; rfl

theorem sleastF_less {bs : List Bt} {f : List Nat → Int} {b : Int} {l : List Nat} (h : sfitI (natL l) bs = true) (hb : ¬ b < 0) (hf : f l < b) : sleastF bs f b l = f l := by rw [sleastF, h, decide_eq_false hb, decide_eq_true hf]; rfl

theorem sleastF_more {bs : List Bt} {f : List Nat → Int} {b : Int} {l : List Nat} (h : sfitI (natL l) bs = true) (hb : ¬ b < 0) (hf : ¬ f l < b) : sleastF bs f b l = b := by rw [sleastF, h, decide_eq_false hb, decide_eq_false hf]; rfl

theorem smostF_no {bs : List Bt} {f : List Nat → Int} {b : Int} {l : List Nat} (h : sfitI (natL l) bs = false) : smostF bs f b l = b := by rw [smostF, h]; rfl

theorem smostF_up {bs : List Bt} {f : List Nat → Int} {b : Int} {l : List Nat} (h : sfitI (natL l) bs = true) (hb : b < f l) : smostF bs f b l = f l := by rw [smostF, if_pos h]; omega

theorem smostF_down {bs : List Bt} {f : List Nat → Int} {b : Int} {l : List Nat} (h : sfitI (natL l) bs = true) (hb : ¬ b < f l) : smostF bs f b l = b := by rw [smostF, if_pos h]; omega

set_option maxRecDepth 100000 in
set_option maxHeartbeats 8000000 in
theorem specSidesOn_any (w : World) (n : Int) (v : Value) (bs : List Bt) (e : Int) (hv : BRd w v bs) :
    Calls Try.prog 40 #[.int .i64 n, v, .int .i64 e] w (TriPost (soL n bs e) (soM n bs e) (soB n bs e) w) := by
  have HV := Lib.hid hv
  clear hv
  rcases Bool.eq_false_or_eq_true (bidsB n bs) with h | h
  · rcases Bool.eq_false_or_eq_true (evB n e) with k | k
    · have H := Lib.hid h
      have HK := Lib.hid k
      have HQ := Lib.hid (bids_of h)
      have HE := Lib.hid (evB_15 k)
      have hw1 : 1 ≤ n := ((bidsB_iff _ _).1 h).1.1
      have hw2 : n ≤ 4 := ((bidsB_iff _ _).1 h).1.2
      obtain ⟨m, rfl⟩ : ∃ m : Nat, n = m := ⟨n.toNat, by omega⟩
      have hm1 : 1 ≤ m := by omega
      have hm4 : m ≤ 4 := by omega
      go_enter Try.func40, Try.ntmps40
      go_wp2_with fail
      refine (specBidsOk_any _ _ _ _ HV.out).mono ?_
      rintro r w2 ⟨rfl, b2⟩
      rw [h]
      have HB2 := Lib.hid b2
      have HV2 := Lib.hid (HV.out.keep (SameAt.of_below b2))
      clear b2 h
      go_wp2_with fail
      refine (specEventOk_any _ _ _).mono ?_
      rintro r w' ⟨rfl, rfl⟩
      rw [k]
      clear k
      go_wp2_with fail
      refine (l4First_any w2 m 36 hm1 hm4).mono ?_
      rintro r w3 ⟨u, rfl, o3, b3⟩
      have H0 := Lib.hid (WkRel.start hm1 o3 b3)
      clear o3 b3
      obtain ⟨L, hL⟩ : ∃ L, (lay m 36).length = L := ⟨_, rfl⟩
      have HL := Lib.hid hL
      clear hL
      go_wp2_with fail
      go_loopg [9, 10, 12] (L + 1) (fun gk c c2 s wr => ∃ (d : Nat) (t : Bool) (x y : Int), gk = L + 1 - d ∧ d ≤ L ∧ s = .bool t ∧ c = .int .i64 x ∧ c2 = .int .i64 y ∧ Hid (x = foldTo (sleastF bs fun l => onI (natL l) e) (-1) m d) ∧ Hid (y = foldTo (smostF bs fun l => onI (natL l) e) (-1) m d) ∧ Hid (WkRel w2 m 36 u d t wr))
      case atStart => exact ⟨0, true, -1, -1, by omega, Nat.zero_le _, rfl, rfl, rfl, Lib.hid (foldTo_zero _ _ _).symm, Lib.hid (foldTo_zero _ _ _).symm, H0⟩
      case round =>
        obtain ⟨d, t, x, y, hgk, hd, rfl, rfl, rfl, HX, HY, HW⟩ := hrel
        clear H0
        cases t
        · have HF : Hid (soL (m : Int) bs e = x ∧ soM (m : Int) bs e = y) := Lib.hid (by
            have hd : (lay m 36).length = d := by obtain ⟨-, l, -, -, h2⟩ := HW.out; exact h2 rfl
            rw [(so_yes H.out HK.out).1, (so_yes H.out HK.out).2, HX.out, HY.out, foldTo_all _ _ (by omega), foldTo_all _ _ (by omega)]; exact ⟨rfl, rfl⟩)
          have HS : Hid (soB (m : Int) bs e = decide (0 ≤ x)) := Lib.hid (by rw [soB, HF.out.1])
          have HB := Lib.hid (below_step HB2.out HW.out.1 HB2.out.size)
          go_wp2_with fail
          go_returns
          exact tri_ret HF.out.1 HF.out.2 HS.out HB.out
        · obtain ⟨-, l, ol, hl, -⟩ := id HW.out
          have hl := hl rfl
          have HLL := Lib.hid hl
          have HCS := Lib.hid (foldTo_succ (sleastF bs fun l => onI (natL l) e) (-1) hl)
          have HCM := Lib.hid (foldTo_succ (smostF bs fun l => onI (natL l) e) (-1) hl)
          have hdL : d < L := by rw [← HL.out]; exact (List.getElem?_eq_some_iff.1 hl).1
          obtain ⟨hf1, hf2⟩ := lay_facts hm1 hl
          have HOL := Lib.hid ol
          have HG : Hid (Grs (natL l)) := Lib.hid (grs_of ((mea_lay (natL l)).2 ⟨by rw [natL_len]; omega, l, by rw [natL_len, hf1]; exact List.mem_of_getElem? hl, rfl⟩))
          clear hl ol
          obtain ⟨fb, hfb⟩ : ∃ fb, sfitI (natL l) bs = fb := ⟨_, rfl⟩
          obtain ⟨z, hz⟩ : ∃ z, onI (natL l) e = z := ⟨_, rfl⟩
          have HFB := Lib.hid hfb
          have HZB := Lib.hid hz
          clear hfb hz
          go_wp2_with fail
          refine (l4On_any wr u (natL l) e HOL.out.rd HG.out HE.out.1 HE.out.2).mono ?_
          rintro r w4 ⟨rfl, b4⟩
          rw [HZB.out]
          have HW4 := Lib.hid (HW.out.keep b4)
          have HOL4 := Lib.hid (HOL.out.keep (SameAt.of_below b4))
          clear b4
          go_wp2_with fail
          refine (l13Fits_any w4 u v (natL l) bs HOL4.out.rd (HV2.out.keep (SameAt.of_below HW4.out.1)) HG.out HQ.out).mono ?_
          rintro r w6 ⟨rfl, b5⟩
          rw [HFB.out]
          have HW6 := Lib.hid (HW4.out.keep b5)
          have HOL6 := Lib.hid (HOL4.out.keep (SameAt.of_below b5))
          clear b5
          cases fb
          · go_wp2_with fail
            refine (l4Step_any w6 w2.heap.size u l (by omega) (by omega) (by omega) HOL6.out).mono ?_
            intro r w7 hstep
            obtain ⟨t', rfl, hW7⟩ := WkRel.step hm1 hm4 (.inl rfl) HW6.out.1 HLL.out hstep
            have HW7 := Lib.hid hW7
            clear hW7 hstep
            go_wp2_with fail
            go_roundg (L + 1 - (d + 1))
            case measure => omega
            case rel => exact ⟨d + 1, t', _, _, rfl, by omega, rfl, rfl, rfl, Lib.hid (by rw [HCS.out, ← HX.out]; exact (sleastF_no HFB.out).symm), Lib.hid (by rw [HCM.out, ← HY.out]; exact (smostF_no HFB.out).symm), HW7⟩
          · by_cases hyz : y < z
            · by_cases hx : x < 0
              · go_wp2_with fail
                refine (l4Step_any w6 w2.heap.size u l (by omega) (by omega) (by omega) HOL6.out).mono ?_
                intro r w7 hstep
                obtain ⟨t', rfl, hW7⟩ := WkRel.step hm1 hm4 (.inl rfl) HW6.out.1 HLL.out hstep
                have HW7 := Lib.hid hW7
                clear hW7 hstep
                go_wp2_with fail
                go_roundg (L + 1 - (d + 1))
                case measure => omega
                case rel => exact ⟨d + 1, t', _, _, rfl, by omega, rfl, rfl, rfl, Lib.hid (by rw [HCS.out, ← HX.out]; exact ((sleastF_neg HFB.out (by omega)).trans HZB.out).symm), Lib.hid (by rw [HCM.out, ← HY.out]; exact ((smostF_up HFB.out (by rw [HZB.out]; omega)).trans HZB.out).symm), HW7⟩
              · have hx' : decide (x < 0) = false := decide_eq_false hx
                by_cases hzx : z < x
                · go_wp2_with fail
                  refine (l4Step_any w6 w2.heap.size u l (by omega) (by omega) (by omega) HOL6.out).mono ?_
                  intro r w7 hstep
                  obtain ⟨t', rfl, hW7⟩ := WkRel.step hm1 hm4 (.inl rfl) HW6.out.1 HLL.out hstep
                  have HW7 := Lib.hid hW7
                  clear hW7 hstep
                  go_wp2_with fail
                  go_roundg (L + 1 - (d + 1))
                  case measure => omega
                  case rel => exact ⟨d + 1, t', _, _, rfl, by omega, rfl, rfl, rfl, Lib.hid (by rw [HCS.out, ← HX.out]; exact ((sleastF_less HFB.out (by omega) (by rw [HZB.out]; omega)).trans HZB.out).symm), Lib.hid (by rw [HCM.out, ← HY.out]; exact ((smostF_up HFB.out (by rw [HZB.out]; omega)).trans HZB.out).symm), HW7⟩
                · have hzx' : decide (z < x) = false := decide_eq_false hzx
                  go_wp2_with fail
                  refine (l4Step_any w6 w2.heap.size u l (by omega) (by omega) (by omega) HOL6.out).mono ?_
                  intro r w7 hstep
                  obtain ⟨t', rfl, hW7⟩ := WkRel.step hm1 hm4 (.inl rfl) HW6.out.1 HLL.out hstep
                  have HW7 := Lib.hid hW7
                  clear hW7 hstep
                  go_wp2_with fail
                  go_roundg (L + 1 - (d + 1))
                  case measure => omega
                  case rel => exact ⟨d + 1, t', _, _, rfl, by omega, rfl, rfl, rfl, Lib.hid (by rw [HCS.out, ← HX.out]; exact (sleastF_more HFB.out (by omega) (by rw [HZB.out]; omega)).symm), Lib.hid (by rw [HCM.out, ← HY.out]; exact ((smostF_up HFB.out (by rw [HZB.out]; omega)).trans HZB.out).symm), HW7⟩
            · have hyz' : z ≤ y := by omega
              by_cases hx : x < 0
              · go_wp2_with fail
                refine (l4Step_any w6 w2.heap.size u l (by omega) (by omega) (by omega) HOL6.out).mono ?_
                intro r w7 hstep
                obtain ⟨t', rfl, hW7⟩ := WkRel.step hm1 hm4 (.inl rfl) HW6.out.1 HLL.out hstep
                have HW7 := Lib.hid hW7
                clear hW7 hstep
                go_wp2_with fail
                go_roundg (L + 1 - (d + 1))
                case measure => omega
                case rel => exact ⟨d + 1, t', _, _, rfl, by omega, rfl, rfl, rfl, Lib.hid (by rw [HCS.out, ← HX.out]; exact ((sleastF_neg HFB.out (by omega)).trans HZB.out).symm), Lib.hid (by rw [HCM.out, ← HY.out]; exact (smostF_down HFB.out (by rw [HZB.out]; omega)).symm), HW7⟩
              · have hx' : decide (x < 0) = false := decide_eq_false hx
                by_cases hzx : z < x
                · go_wp2_with fail
                  refine (l4Step_any w6 w2.heap.size u l (by omega) (by omega) (by omega) HOL6.out).mono ?_
                  intro r w7 hstep
                  obtain ⟨t', rfl, hW7⟩ := WkRel.step hm1 hm4 (.inl rfl) HW6.out.1 HLL.out hstep
                  have HW7 := Lib.hid hW7
                  clear hW7 hstep
                  go_wp2_with fail
                  go_roundg (L + 1 - (d + 1))
                  case measure => omega
                  case rel => exact ⟨d + 1, t', _, _, rfl, by omega, rfl, rfl, rfl, Lib.hid (by rw [HCS.out, ← HX.out]; exact ((sleastF_less HFB.out (by omega) (by rw [HZB.out]; omega)).trans HZB.out).symm), Lib.hid (by rw [HCM.out, ← HY.out]; exact (smostF_down HFB.out (by rw [HZB.out]; omega)).symm), HW7⟩
                · have hzx' : decide (z < x) = false := decide_eq_false hzx
                  go_wp2_with fail
                  refine (l4Step_any w6 w2.heap.size u l (by omega) (by omega) (by omega) HOL6.out).mono ?_
                  intro r w7 hstep
                  obtain ⟨t', rfl, hW7⟩ := WkRel.step hm1 hm4 (.inl rfl) HW6.out.1 HLL.out hstep
                  have HW7 := Lib.hid hW7
                  clear hW7 hstep
                  go_wp2_with fail
                  go_roundg (L + 1 - (d + 1))
                  case measure => omega
                  case rel => exact ⟨d + 1, t', _, _, rfl, by omega, rfl, rfl, rfl, Lib.hid (by rw [HCS.out, ← HX.out]; exact (sleastF_more HFB.out (by omega) (by rw [HZB.out]; omega)).symm), Lib.hid (by rw [HCM.out, ← HY.out]; exact (smostF_down HFB.out (by rw [HZB.out]; omega)).symm), HW7⟩
    · have HN := Lib.hid (so_no (n := n) (bs := bs) (e := e) (by rw [k]; simp))
      go_enter Try.func40, Try.ntmps40
      go_wp2_with fail
      refine (specBidsOk_any _ _ _ _ HV.out).mono ?_
      rintro r w2 ⟨rfl, b2⟩
      rw [h]
      have HB2 := Lib.hid b2
      clear b2
      go_wp2_with fail
      refine (specEventOk_any _ _ _).mono ?_
      rintro r w' ⟨rfl, rfl⟩
      rw [k]
      go_wp2_with fail
      go_returns
      exact tri_ret HN.out.1 HN.out.2.1 HN.out.2.2 HB2.out
  · have HN := Lib.hid (so_no (n := n) (bs := bs) (e := e) (by rw [h]; simp))
    go_enter Try.func40, Try.ntmps40
    go_wp2_with fail
    refine (specBidsOk_any _ _ _ _ HV.out).mono ?_
    rintro r w2 ⟨rfl, b2⟩
    rw [h]
    have HB2 := Lib.hid b2
    clear b2
    go_wp2_with fail
    go_returns
    exact tri_ret HN.out.1 HN.out.2.1 HN.out.2.2 HB2.out

/-- both prices of a bid are reached -/
def tight1 (n : Int) (bs : List Bt) (b : Bt) : Bool := soB n bs b.1 && (decide (soL n bs b.1 * 6 = b.2.1 * 36) && decide (soM n bs b.1 * 6 = b.2.2 * 36))

def tightB (n : Int) (bs : List Bt) : Bool := bs.all (tight1 n bs) && sfairB n bs

theorem tight_no {n : Int} {bs : List Bt} {k : Nat} {b : Bt} (h : bs[k]? = some b) (hb : tight1 n bs b = false) : tightB n bs = false := by
  rw [← Bool.not_eq_true, tightB, Bool.and_eq_true, List.all_eq_true]
  rintro ⟨h3, -⟩
  rw [h3 b (List.mem_of_getElem? h)] at hb; cases hb

theorem so_bids {n : Int} {bs : List Bt} {e : Int} (h : soB n bs e = true) : Bids bs := by
  by_cases hc : bidsB n bs = true ∧ evB n e = true
  · exact bids_of hc.1
  · rw [(so_no hc).2.2] at h; cases h

set_option maxRecDepth 100000 in
set_option maxHeartbeats 4000000 in
theorem specTightOk_any (w : World) (n : Int) (v : Value) (bs : List Bt) (hv : BRd w v bs) :
    Calls Try.prog 46 #[.int .i64 n, v] w (BoolPost (tightB n bs) w) := by
  obtain ⟨A, c, rfl, hl, hm⟩ := hv.form
  have HV := Lib.hid hv
  clear hv
  go_enter Try.func46, Try.ntmps46
  go_wp2_with fail
  go_loopw [5] (fun i wr => ∃ k : Nat, i = .int .i64 (k : Int) ∧ k ≤ bs.length ∧ Hid (∀ y ∈ bs.take k, tight1 n bs y = true) ∧ Hid (Below w.heap.size w wr)) (fun i _ => bs.length - (intOf i).toNat)
  case atStart => exact ⟨0, rfl, Nat.zero_le _, Lib.hid (by simp), Lib.hid (Below.refl _ _)⟩
  case round =>
    obtain ⟨k, rfl, hk, HA, HB⟩ := hrel
    by_cases hlt : k < bs.length
    · have hlt' : (k : Int) < (bs.length : Int) := by omega
      have hk0 : (0 : Int) ≤ (k : Int) := by omega
      obtain ⟨b, off, ⟨e, lo, hi⟩, rfl, -, hx, hc0, -, -⟩ := BRd.at_ (HV.out.keep (SameAt.of_below HB.out)) hlt
      have hc0 : wr.cell? ⟨b, off + k * 3, none⟩ = some (.int .i64 e) := hc0
      have HX := Lib.hid hx
      clear hx
      obtain ⟨s, hs⟩ : ∃ s, soB n bs e = s := ⟨_, rfl⟩
      obtain ⟨x, hx⟩ : ∃ x, soL n bs e = x := ⟨_, rfl⟩
      obtain ⟨y, hy⟩ : ∃ y, soM n bs e = y := ⟨_, rfl⟩
      have HS := Lib.hid hs
      have HXX := Lib.hid hx
      have HYY := Lib.hid hy
      have HT : Hid (tight1 n bs (e, lo, hi) = (s && (decide (x * 6 = lo * 36) && decide (y * 6 = hi * 36)))) := Lib.hid (by rw [← hs, ← hx, ← hy]; rfl)
      go_wp2_with fail
      refine (specSidesOn_any wr n _ bs e (HV.out.keep (SameAt.of_below HB.out))).mono ?_
      rintro r w2 ⟨rfl, b2⟩
      rw [hs, hx, hy]
      have HB2 := Lib.hid (below_step HB.out b2 HB.out.size)
      clear b2 hc0
      cases s
      · have HN := Lib.hid (tight_no HX.out (HT.out.trans (by simp)))
        clear hs hx hy
        go_wp2_with fail
        go_ret
        exact ⟨ret_bool HN.out.symm, HB2.out⟩
      · obtain ⟨⟨x1, x2⟩, y1, y2⟩ := so_bound hs
        rw [hx] at x1 x2
        rw [hy] at y1 y2
        obtain ⟨-, ⟨l1, l2⟩, h1, h2⟩ := so_bids hs _ (List.mem_of_getElem? HX.out)
        have l1 : 0 ≤ lo := l1
        have l2 : lo ≤ 6 := l2
        have h1 : 0 ≤ hi := h1
        have h2 : hi ≤ 6 := h2
        obtain ⟨b', off', ⟨e', lo', hi'⟩, hadr, -, hx', -, hc1, hc2⟩ := BRd.at_ (HV.out.keep (SameAt.of_below HB2.out)) hlt
        rw [HX.out] at hx'
        injection hx' with hx'
        injection hx' with z1 z2
        injection z2 with z2 z3
        subst z1; subst z2; subst z3
        injection hadr with hadr
        injection hadr with a1 a2
        subst a1; subst a2
        have hc1 : w2.cell? ⟨b, off + k * 3 + 1, none⟩ = some (.int .i64 lo) := hc1
        have hc2 : w2.cell? ⟨b, off + k * 3 + 2, none⟩ = some (.int .i64 hi) := hc2
        have hwx : IntKind.i64.wrap (x * 6) = x * 6 := IntWalk.i64_in _ (by omega)
        have hwy : IntKind.i64.wrap (y * 6) = y * 6 := IntWalk.i64_in _ (by omega)
        have hwl : IntKind.i64.wrap (lo * 36) = lo * 36 := IntWalk.i64_in _ (by omega)
        have hwh : IntKind.i64.wrap (hi * 36) = hi * 36 := IntWalk.i64_in _ (by omega)
        clear hs hx hy
        rcases Bool.eq_false_or_eq_true (x * 6 == lo * 36) with c1 | c1
        · have d1 : x * 6 = lo * 36 := by simpa using c1
          have e1 : (x * 6 != lo * 36) = false := by simp [bne, c1]
          rcases Bool.eq_false_or_eq_true (y * 6 == hi * 36) with c2 | c2
          · have d2 : y * 6 = hi * 36 := by simpa using c2
            have e2 : (y * 6 != hi * 36) = false := by simp [bne, c2]
            have HN := Lib.hid (takeb13 (P := fun z => tight1 n bs z = true) HX.out HA.out (HT.out.trans (by rw [decide_eq_true d1, decide_eq_true d2]; rfl)))
            clear d1 d2 c1 c2
            have e3 := e1
            have e4 := e2
            rw [← hwx, ← hwl] at e3
            rw [← hwy, ← hwh] at e4
            go_wp2_with fail
            go_roundw
            case rel => exact ⟨k + 1, by go_num, by omega, HN, HB2⟩
            case measure => simp [intOf]; omega
          · have d2 : ¬ y * 6 = hi * 36 := by simpa using c2
            have e2 : (y * 6 != hi * 36) = true := by simp [bne, c2]
            have HN := Lib.hid (tight_no HX.out (HT.out.trans (by rw [decide_eq_false d2]; simp)))
            clear d1 d2 c1 c2
            have e3 := e1
            have e4 := e2
            rw [← hwx, ← hwl] at e3
            rw [← hwy, ← hwh] at e4
            go_wp2_with fail
            go_ret
            exact ⟨ret_bool HN.out.symm, HB2.out⟩
        · have d1 : ¬ x * 6 = lo * 36 := by simpa using c1
          have e1 : (x * 6 != lo * 36) = true := by simp [bne, c1]
          have HN := Lib.hid (tight_no HX.out (HT.out.trans (by rw [decide_eq_false d1]; simp)))
          clear d1 c1
          have e3 := e1
          rw [← hwx, ← hwl] at e3
          go_wp2_with fail
          go_ret
          exact ⟨ret_bool HN.out.symm, HB2.out⟩
    · obtain rfl : k = bs.length := by omega
      have hlt' : decide ((bs.length : Int) < (bs.length : Int)) = false := by simp
      have HF : Hid (tightB n bs = sfairB n bs) := Lib.hid (by
        have : bs.all (tight1 n bs) = true := List.all_eq_true.2 (by have := HA.out; rwa [List.take_length] at this)
        rw [tightB, this, Bool.true_and])
      go_wp2_with fail
      refine (specSidesFair_any wr n _ bs (HV.out.keep (SameAt.of_below HB.out))).mono ?_
      rintro r w2 ⟨rfl, b2⟩
      have HB2 := Lib.hid (below_step HB.out b2 HB.out.size)
      clear b2
      go_wp2_with fail
      go_ret
      exact ⟨ret_bool HF.out.symm, HB2.out⟩

end Go.Proofs.Ytodmgcbcacblbaa
