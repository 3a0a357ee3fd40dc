/- The program's contracts of chapter 13: SidesFair, TakerGain, WinningStakes, SidesOn, TightOk. Conditions: rows that read as lists. (gen_jp2.py) -/
import Derived.Test.YtodmgcbcacblbaaJc
import Derived.Test.YtodmgcbcacblbaaJe
import Derived.Test.YtodmgcbcacblbaaJo
import Derived.Test.YtodmgcbcacblbaaSo
import Derived.Test.YtodmgcbcacblbaaGf
import Derived.Test.YtodmgcbcacblbaaQi
import Derived.Sort.Row
import Derived.Sort.QuietIn
namespace Go.Proofs.Ytodmgcbcacblbaa
open Go.RowKit Go.Shelf
set_option linter.unusedVariables false
attribute [local go_sem] Oper.semAt_some

/-! facts -/

theorem sid_of {m : Nat} {bs : List Bt} {x : List Int} (h : x ∈ Two.sidAll m bs) : ∃ l, SFitL m bs l ∧ x = natL l := by
  obtain ⟨l, hl, rfl⟩ := List.mem_map.1 h
  obtain ⟨h1, h2⟩ := List.mem_filter.1 hl
  exact ⟨l, ⟨h1, h2⟩, rfl⟩

theorem sid_mem {m : Nat} {bs : List Bt} {l : List Nat} (h : SFitL m bs l) : natL l ∈ Two.sidAll m bs :=
  List.mem_map.2 ⟨l, List.mem_filter.2 ⟨h.1, h.2⟩, rfl⟩

theorem sid_nil {m : Nat} {bs : List Bt} (h : anyS m bs = false) : Two.sidAll m bs = [] := by
  rcases hL : Two.sidAll m bs with _ | ⟨x, L⟩
  · rfl
  · obtain ⟨l, hl, -⟩ := sid_of (m := m) (bs := bs) (x := x) (by rw [hL]; simp)
    rw [(sany_iff m bs).2 ⟨l, hl⟩] at h; cases h

theorem sid_some {m : Nat} {bs : List Bt} {x : List Int} {L : List (List Int)} (h : x ∈ L) (hp : L <+: Two.sidAll m bs) : anyS m bs = true := by
  obtain ⟨l, hl, -⟩ := sid_of (hp.subset h)
  exact (sany_iff m bs).2 ⟨l, hl⟩

theorem sid_none {m : Nat} {bs : List Bt} (h : Two.sidAll m bs = []) : anyS m bs = false := by
  rw [← Bool.not_eq_true]
  intro h2
  obtain ⟨l, hl⟩ := (sany_iff m bs).1 h2
  have := sid_mem hl
  rw [h] at this; cases this

theorem sgrs {m : Nat} {bs : List Bt} {l : List Nat} (h1 : 1 ≤ m) (h4 : m ≤ 4) (h : SFitL m bs l) : Grs (natL l) := by
  obtain ⟨e1, e2⟩ := sfit_len h1 h
  exact grs_of ((mea_lay _).2 ⟨⟨by rw [natL_len]; omega, by rw [natL_len]; omega⟩, l, by rw [natL_len, e1]; exact h.1, rfl⟩)

theorem son_36 {m : Nat} {bs : List Bt} {l : List Nat} (h1 : 1 ≤ m) (h : SFitL m bs l) (e : Int) : 0 ≤ onI (natL l) e ∧ onI (natL l) e ≤ 36 := by
  obtain ⟨-, e2⟩ := sfit_len h1 h
  have := onI_bound (natL_nonneg l) e
  rw [natL_sum, e2] at this
  exact this

def sleastS (e : Int) (s : Int) (x : List Int) : Int := minI s (onI x e)

def smostS (e : Int) (s : Int) (x : List Int) : Int := maxI s (onI x e)

theorem smin_rows (f : List Int → Int) (L : List (List Int)) (b : Int) :
    (L.foldl (fun s x => minI s (f x)) b = b ∨ ∃ x ∈ L, L.foldl (fun s x => minI s (f x)) b = f x) ∧ (∀ x ∈ L, L.foldl (fun s x => minI s (f x)) b ≤ f x) ∧ L.foldl (fun s x => minI s (f x)) b ≤ b := by
  induction L generalizing b with
  | nil => exact ⟨.inl rfl, fun l hl => (by cases hl), Int.le_refl _⟩
  | cons x L ih =>
    obtain ⟨h1, h2, h3⟩ := ih (minI b (f x))
    simp only [List.foldl_cons]
    have hb : minI b (f x) ≤ b ∧ minI b (f x) ≤ f x ∧ (minI b (f x) = b ∨ minI b (f x) = f x) := by unfold minI; split <;> omega
    refine ⟨?_, fun l hl => ?_, by omega⟩
    · rcases h1 with h1 | ⟨l, hl, h1⟩
      · rcases hb.2.2 with h4 | h4
        · exact .inl (h1.trans h4)
        · exact .inr ⟨x, by simp, h1.trans h4⟩
      · exact .inr ⟨l, by simp [hl], h1⟩
    · rcases List.mem_cons.1 hl with rfl | hl
      · omega
      · exact h2 l hl

theorem smax_rows (f : List Int → Int) (L : List (List Int)) (b : Int) :
    (L.foldl (fun s x => maxI s (f x)) b = b ∨ ∃ x ∈ L, L.foldl (fun s x => maxI s (f x)) b = f x) ∧ (∀ x ∈ L, f x ≤ L.foldl (fun s x => maxI s (f x)) b) ∧ b ≤ L.foldl (fun s x => maxI s (f x)) b := by
  induction L generalizing b with
  | nil => exact ⟨.inl rfl, fun l hl => (by cases hl), Int.le_refl _⟩
  | cons x L ih =>
    obtain ⟨h1, h2, h3⟩ := ih (maxI b (f x))
    simp only [List.foldl_cons]
    have hb : b ≤ maxI b (f x) ∧ f x ≤ maxI b (f x) ∧ (maxI b (f x) = b ∨ maxI b (f x) = f x) := by unfold maxI; split <;> omega
    refine ⟨?_, fun l hl => ?_, by omega⟩
    · rcases h1 with h1 | ⟨l, hl, h1⟩
      · rcases hb.2.2 with h4 | h4
        · exact .inl (h1.trans h4)
        · exact .inr ⟨x, by simp, h1.trans h4⟩
      · exact .inr ⟨l, by simp [hl], h1⟩
    · rcases List.mem_cons.1 hl with rfl | hl
      · omega
      · exact h2 l hl

/-- what the two folds over the measures that fit come to -/
theorem so_is {m : Nat} {bs : List Bt} {e : Int} (h1 : 1 ≤ m) (hb : bidsB (m : Int) bs = true) (he : evB (m : Int) e = true) :
    (soB m bs e = false ∧ (Two.sidAll m bs).foldl (smostS e) (-1) = -1) ∨
    (soB m bs e = true ∧ (Two.sidAll m bs).foldl (sleastS e) 37 = soL m bs e ∧ (Two.sidAll m bs).foldl (smostS e) (-1) = soM m bs e ∧ 0 ≤ soM m bs e) := by
  obtain ⟨y1, y2⟩ := so_yes hb he
  rw [so_any hb he, y1, y2]
  rcases Bool.eq_false_or_eq_true (anyS m bs) with h | h
  · right
    obtain ⟨⟨l, hl, el⟩, hmin, h0⟩ := sleast_some h e
    obtain ⟨⟨l', hl', el'⟩, hmax⟩ := smost_some h e
    obtain ⟨k1, k2, k3⟩ := smin_rows (fun x => onI x e) (Two.sidAll m bs) 37
    obtain ⟨j1, j2, j3⟩ := smax_rows (fun x => onI x e) (Two.sidAll m bs) (-1)
    have hle := k2 _ (sid_mem hl)
    have hge := j2 _ (sid_mem hl')
    have h36 := son_36 h1 hl e
    have h36' := son_36 h1 hl' e
    change (Two.sidAll m bs).foldl (sleastS e) 37 = 37 ∨ _ at k1
    change (Two.sidAll m bs).foldl (sleastS e) 37 ≤ onI (natL l) e at hle
    change (Two.sidAll m bs).foldl (smostS e) (-1) = -1 ∨ _ at j1
    change onI (natL l') e ≤ (Two.sidAll m bs).foldl (smostS e) (-1) at hge
    refine ⟨h, ?_, ?_, by omega⟩
    · rcases k1 with k1 | ⟨x, hx, k1⟩
      · omega
      · obtain ⟨l2, hl2, rfl⟩ := sid_of hx
        have h5 := hmin l2 hl2
        change (Two.sidAll m bs).foldl (sleastS e) 37 = onI (natL l2) e at k1
        omega
    · rcases j1 with j1 | ⟨x, hx, j1⟩
      · omega
      · obtain ⟨l2, hl2, rfl⟩ := sid_of hx
        have h5 := hmax l2 hl2
        change (Two.sidAll m bs).foldl (smostS e) (-1) = onI (natL l2) e at j1
        omega
  · left
    rw [sid_nil h]
    exact ⟨h, rfl⟩

theorem win_in {n : Int} {bs : List Bt} (sum : Nat) : (stks bs.length sum).find? (winB n bs) = winIn (winB n bs) bs.length sum := rfl

theorem win_zero {n : Int} {bs : List Bt} (hb : bidsB n bs = true) : winIn (winB n bs) bs.length 0 = none := by
  cases h : winIn (winB n bs) bs.length 0 with
  | none => rfl
  | some ss =>
    obtain ⟨h1, h2, h3, h4⟩ := winIn_some h
    have := zero_wins (tg_two hb h1 h2) h3
    rw [h4] at this; cases this

theorem winning_all {n : Int} {bs : List Bt} (hb : bidsB n bs = true) : winning n bs = (stAll bs.length).find? (winB n bs) := by
  have hq3 : bs.length ≤ 3 := ((bidsB_iff _ _).1 hb).2.1
  have ht := all_tab ⟨bs.length, by omega⟩
  have ht : stAll bs.length = (List.range 7).flatMap fun s => stks bs.length s := ht
  have hr : List.range 7 = [0, 1, 2, 3, 4, 5, 6] := rfl
  rw [ht, win_yes hb, List.find?_flatMap, hr]
  have hf : (fun s => (stks bs.length s).find? (winB n bs)) = winIn (winB n bs) bs.length := funext fun s => win_in s
  rw [hf]
  simp only [List.findSome?_cons, win_zero hb, List.findSome?_nil, winFrom, Nat.reduceAdd]
  cases winIn (winB n bs) bs.length 1 <;> cases winIn (winB n bs) bs.length 2 <;> cases winIn (winB n bs) bs.length 3 <;> cases winIn (winB n bs) bs.length 4 <;> cases winIn (winB n bs) bs.length 5 <;> cases winIn (winB n bs) bs.length 6 <;> rfl

theorem winR_find {n : Int} {bs : List Bt} (h : bidsB n bs = true) : winR n bs = ((stAll bs.length).find? (winB n bs)).getD [] ∧ winOk n bs = ((stAll bs.length).find? (winB n bs)).isSome := by
  rw [← winning_all h]
  exact ⟨rfl, rfl⟩

theorem set_twice13 (w : World) (blk off : Nat) (v v' : Value) : (w.setCell ⟨blk, off, none⟩ v).setCell ⟨blk, off, none⟩ v' = w.setCell ⟨blk, off, none⟩ v' := by
  unfold World.setCell
  congr 1
  apply Array.ext_getElem?
  intro i
  simp only [Array.getElem?_modify]
  split
  · rename_i hi
    subst hi
    cases w.heap[blk]? with
    | none => rfl
    | some o => cases o <;> simp
  · rfl

theorem set_comm13 (w : World) {b c : Nat} (h : b ≠ c) (u v : Value) : (w.setCell ⟨b, 0, none⟩ u).setCell ⟨c, 0, none⟩ v = (w.setCell ⟨c, 0, none⟩ v).setCell ⟨b, 0, none⟩ u := by
  unfold World.setCell
  congr 1
  apply Array.ext_getElem?
  intro i
  simp only [Array.getElem?_modify]
  by_cases h1 : b = i
  · have h2 : ¬ (c = i) := fun e => h (h1.trans e.symm)
    simp [h1, h2]
  · by_cases h2 : c = i
    · simp [h1, h2]
    · simp [h1, h2]

/-! takenQuotes, TakerGain, winsBy, WinningStakes -/

set_option maxHeartbeats 4000000 in
theorem takenQuotes_any (w : World) (v u : Value) (bs : List Bt) (ss : List Int) (hv : BRd w v bs) (hu : IRd w u ss) (hl : ss.length = bs.length) (h3 : bs.length ≤ 3) :
    Calls Try.prog 81 #[v, u] w (NewQs (tkQ bs ss) w) := by
  obtain ⟨A, c, rfl, hlc, hm⟩ := hv.form
  obtain ⟨A', c', rfl, hlc', hm', -⟩ := id hu
  have HV := Lib.hid hv
  have HU := Lib.hid hu
  have HTL := Lib.hid (tkQ_len hl)
  have HL := Lib.hid hl
  clear hv hu hl
  obtain ⟨i0, hi, hz0, hz1, hz2⟩ := info_parts Try_quoteinfo
  go_enter Try.func81, Try.ntmps81
  go_wp2_with (at_make; refine wpList_make_full _ rfl _ _ 35 rfl w.heap.size 37 i0 (.agg #[.int .i64 0, .int .i64 0]) 2 Try.underlying35 hi hz0 hz1 .i64 .i64 _ _ bs.length rfl rfl rfl rfl ?b2 ?b3 (Nat.le_refl _) ?_)
  case b2 => first | omega | (rw [hz2]; omega)
  case b3 => unfold maxLen; omega
  intro w0 hown0 hgrow0
  have H0 : Hid (QFill w (tkQ bs ss) 0 w0) := Lib.hid (GFill.start qC_len (by decide) (0, 0) hown0 rfl HTL.out hgrow0)
  clear hown0 hgrow0 hi hz0 hz1 hz2
  go_wp2_with fail
  go_loopw [13] (fun i wr => ∃ k : Nat, i = .int .i64 k ∧ k ≤ bs.length ∧ Hid (QFill w (tkQ bs ss) k wr)) (fun i _ => bs.length - (intOf i).toNat)
  case atStart => exact ⟨0, rfl, Nat.zero_le _, H0⟩
  case round =>
    obtain ⟨k, rfl, hk, H⟩ := hrel
    clear H0
    by_cases hlt : k < bs.length
    · have hlt' : (k : Int) < (bs.length : Int) := by omega
      have hk0 : (0 : Int) ≤ (k : Int) := by omega
      have hls : k < ss.length := by have := HL.out; omega
      have hls' : (k : Int) < (ss.length : Int) := by omega
      have HLT : Hid (k < (tkQ bs ss).length) := Lib.hid (by have := HTL.out; omega)
      have hBl : w.heap.size < wr.heap.size := (World.ownsRow.lt H.out.1 w.heap.size rfl).2
      obtain ⟨b, off, ⟨e, lo, hi⟩, rfl, hbw, hx, hc0, hc1, hc2⟩ := BRd.at_ (HV.out.keep (SameAt.of_below H.out.2)) hlt
      have hc0 : wr.cell? ⟨b, off + k * 3, none⟩ = some (.int .i64 e) := hc0
      have hc1 : wr.cell? ⟨b, off + k * 3 + 1, none⟩ = some (.int .i64 lo) := hc1
      have hc2 : wr.cell? ⟨b, off + k * 3 + 2, none⟩ = some (.int .i64 hi) := hc2
      obtain ⟨b', off', s, rfl, hbw', hs, hcs0⟩ := HU.out.at_ hls
      have hcs : wr.cell? ⟨b', off' + k, none⟩ = some (.int .i64 s) := (H.out.2.cell (p := ⟨b', off' + k, none⟩) hbw').trans hcs0
      have hne : b' ≠ w.heap.size := by omega
      have hne' : ¬ (w.heap.size = b') := by omega
      have HQ := Lib.hid (tkQ_at hx hs)
      have H2 := H
      have hbl' : b' < wr.heap.size := by omega
      obtain ⟨hf0, o0, ho0⟩ := H2.out.old qC_len HLT.out (j := 0) (by decide)
      obtain ⟨hf1, o1, ho1⟩ := H2.out.old qC_len HLT.out (j := 1) (by decide)
      rw [Nat.add_zero] at hf0 ho0
      clear hx hs H hcs0
      by_cases hs0 : 0 < s
      · have HP : Hid (tkP (e, lo, hi) s = hi) := Lib.hid (by rw [tkP, if_pos hs0])
        go_wp2_with fail
        go_roundw
        case rel => exact ⟨k + 1, by go_num, by omega, Lib.hid (by
          have hst := (H2.out.step2 qC_len HQ.out (v0 := .int .i64 e) (v1 := .int .i64 _) (by rw [HP.out]; rfl)).keep ((Below.refl _ _).alloc (Nat.le_refl _) (.cells #[.int .i64 e, .int .i64 lo, .int .i64 hi] 28))
          first | exact hst | (rw [set_twice13]; exact hst))⟩
        case measure => simp [intOf]; omega
      · have hs0' : decide (0 < s) = false := decide_eq_false hs0
        have HP : Hid (tkP (e, lo, hi) s = lo) := Lib.hid (by rw [tkP, if_neg hs0])
        go_wp2_with fail
        go_roundw
        case rel => exact ⟨k + 1, by go_num, by omega, Lib.hid (by
          have hst := (H2.out.step2 qC_len HQ.out (v0 := .int .i64 e) (v1 := .int .i64 _) (by rw [HP.out]; rfl)).keep ((Below.refl _ _).alloc (Nat.le_refl _) (.cells #[.int .i64 e, .int .i64 lo, .int .i64 hi] 28))
          first | exact hst | (rw [set_twice13]; exact hst))⟩
        case measure => simp [intOf]; omega
    · obtain rfl : k = bs.length := by omega
      go_wp2_with fail
      go_ret
      obtain ⟨h1, h2⟩ := H.out.all HTL.out.symm
      rw [HTL.out] at h1
      exact ⟨_, rfl, h1, h2⟩

set_option maxHeartbeats 4000000 in
theorem implTakerGain_any (w : World) (n : Int) (v u : Value) (bs : List Bt) (ss : List Int) (hv : BRd w v bs) (hu : IRd w u ss) :
    Calls Try.prog 31 #[.int .i64 n, v, u] w (RowOk w.heap.size (tgR n bs ss) (tgB n bs ss) w) := by
  obtain ⟨A, c, rfl, hl, hm⟩ := id hv.form
  obtain ⟨A', c', rfl, hl', hm', -⟩ := id hu
  have HV := Lib.hid hv
  have HU := Lib.hid hu
  clear hv hu
  rcases Bool.eq_false_or_eq_true (bidsB n bs) with h | h
  · by_cases hlen : ss.length = bs.length
    · have hne : ((ss.length : Int) != (bs.length : Int)) = false := by rw [hlen]; simp
      have HTB : Hid (tgB n bs ss = balB n (tkQ bs ss) ss) := Lib.hid (by rw [tgB, h, decide_eq_true hlen]; rfl)
      have HTR : Hid (tgR n bs ss = balR n (tkQ bs ss) ss) := Lib.hid (by rw [tgR, balR, HTB.out]; rfl)
      have h3 := ((bidsB_iff _ _).1 h).2.1
      have HLEN := Lib.hid hlen
      clear hlen
      go_enter Try.func31, Try.ntmps31
      go_wp2_with fail
      refine (implBidsOk_any _ _ _ _ HV.out).mono ?_
      rintro r w2 ⟨rfl, b2⟩
      rw [h]
      have HB2 := Lib.hid b2
      have HV2 := Lib.hid (HV.out.keep (SameAt.of_below b2))
      have HU2 := Lib.hid (HU.out.keep (SameAt.of_below b2))
      clear b2 h
      go_wp2_with fail
      refine (takenQuotes_any w2 _ _ bs ss HV2.out HU2.out HLEN.out h3).mono ?_
      rintro r w3 ⟨q, rfl, o3, b3⟩
      have HB3 := Lib.hid (below_step HB2.out b3 HB2.out.size)
      have HQ3 := Lib.hid (o3.rd qC_len)
      have HU3 := Lib.hid (HU2.out.keep (SameAt.of_below b3))
      clear b3 o3
      go_wp2_with fail
      refine (implBalanceOf_any w3 n _ _ (tkQ bs ss) ss HQ3.out HU3.out).mono ?_
      rintro r w5 ⟨x, rfl, o5, b5⟩
      have HO := Lib.hid (o5.base HB3.out.size)
      have HB5 := Lib.hid (below_step HB3.out b5 HB3.out.size)
      clear o5 b5
      go_wp2_with fail
      go_ret2
      exact rowOk_ret HTB.out HTR.out HO.out HB5.out
    · have hne : ((ss.length : Int) != (bs.length : Int)) = true := by simp; omega
      have HTB : Hid (tgB n bs ss = false) := Lib.hid (by rw [tgB, decide_eq_false hlen]; simp)
      clear hlen
      go_enter Try.func31, Try.ntmps31
      go_wp2_with fail
      refine (implBidsOk_any _ _ _ _ HV.out).mono ?_
      rintro r w2 ⟨rfl, b2⟩
      rw [h]
      have HB2 := Lib.hid b2
      clear b2 h
      go_wp2_with fail
      go_ret2
      exact rowOk_ret HTB.out (tg_no HTB.out) (nil_own _ _) HB2.out
  · have HTB : Hid (tgB n bs ss = false) := Lib.hid (by rw [tgB, h]; rfl)
    go_enter Try.func31, Try.ntmps31
    go_wp2_with fail
    refine (implBidsOk_any _ _ _ _ HV.out).mono ?_
    rintro r w2 ⟨rfl, b2⟩
    rw [h]
    have HB2 := Lib.hid b2
    clear b2 h
    go_wp2_with fail
    go_ret2
    exact rowOk_ret HTB.out (tg_no HTB.out) (nil_own _ _) HB2.out

set_option maxHeartbeats 4000000 in
theorem winsBy_any (w : World) (n : Int) (v u : Value) (bs : List Bt) (ss : List Int) (hb : bidsB n bs = true) (hv : BRd w v bs) (hu : IRd w u ss) :
    Calls Try.prog 76 #[.int .i64 n, v, u] w (BoolPost (winB n bs ss) w) := by
  obtain ⟨A, c, rfl, hl, hm⟩ := id hv.form
  obtain ⟨A', c', rfl, hl', hm', -⟩ := id hu
  have HV := Lib.hid hv
  have HU := Lib.hid hu
  clear hv hu
  obtain ⟨t, ht⟩ : ∃ t, tgB n bs ss = t := ⟨_, rfl⟩
  obtain ⟨k, hk⟩ : ∃ k, worstI (tgR n bs ss) = k := ⟨_, rfl⟩
  obtain ⟨g, hg⟩ : ∃ g, gokB (tgR n bs ss) = g := ⟨_, rfl⟩
  have HW : Hid (winB n bs ss = (t && decide (0 < k))) := Lib.hid (by
    rw [winB, hg, hk]
    cases t
    · rw [tg_no ht] at hg hk
      have : g = false := by rw [← hg]; rfl
      rw [this]
      first | done | rfl
    · have := tg_gok ht
      rw [← tg_yes ht, hg] at this
      rw [this])
  have HT := Lib.hid ht
  have HK := Lib.hid hk
  clear ht hk hg
  go_enter Try.func76, Try.ntmps76
  go_wp2_with fail
  refine (implTakerGain_any _ _ _ _ _ _ HV.out HU.out).mono ?_
  rintro r w2 ⟨x, rfl, o2, b2⟩
  rw [HT.out]
  have HO := Lib.hid o2.rd
  have HB2 := Lib.hid b2
  clear o2 b2
  go_wp2_with fail
  refine (implWorstOf_any _ _ _ HO.out).mono ?_
  rintro r w3 ⟨rfl, rfl⟩
  rw [HK.out]
  rcases Bool.eq_false_or_eq_true (decide (0 < k)) with h | h
  all_goals
    have h' := h
    simp only [decide_eq_true_eq, decide_eq_false_iff_not] at h'
    cases t
    all_goals
      go_wp2_with fail
      go_ret
      exact ⟨ret_bool (by rw [HW.out]; first | rfl | (rw [h]; rfl)), HB2.out⟩

set_option maxHeartbeats 1000000 in
theorem winTest_any (W : World) (n : Int) (v u : Value) (bs : List Bt) (ss : List Int) (b : Nat) (hb : bidsB n bs = true) (h0 : W.cell? ⟨b, 0, none⟩ = some (.int .i64 n)) (h1 : W.cell? ⟨b + 1, 0, none⟩ = some v) (hv : BRd W v bs) (hu : IRd W u ss) :
    Calls Try.prog 75 #[u, .pointer (some ⟨b, 0, none⟩), .pointer (some ⟨b + 1, 0, none⟩)] W (BoolPost (winB n bs ss) W) := by
  obtain ⟨A, c, rfl, hl, hmx⟩ := id hv.form
  obtain ⟨A', c', rfl, hl', hm', -⟩ := id hu
  have HV := Lib.hid hv
  have HU := Lib.hid hu
  have HB := Lib.hid hb
  clear hv hu hb
  go_enter Try.func75, Try.ntmps75
  go_wp2_with fail
  refine (winsBy_any _ _ _ _ _ _ HB.out HV.out HU.out).mono ?_
  rintro r w2 ⟨rfl, b2⟩
  have HB2 := Lib.hid b2
  clear b2
  go_wp2_with fail
  go_ret
  exact ⟨ret_bool rfl, HB2.out⟩

/-- what the test of WinningStakes$1 answers, wherever the two variables lie -/
def Tests_WinningStakes (w : World) (b : Nat) (P : List Int → Bool) : Prop :=
  ∀ A v x, Below w.heap.size w A → IRd A v x → Calls Try.prog 75 #[v, .pointer (some ⟨b, 0, none⟩), .pointer (some ⟨b + 1, 0, none⟩)] A (BoolPost (P x) A)

set_option maxRecDepth 100000 in
set_option maxHeartbeats 8000000 in
theorem firstStakes_WinningStakes (w : World) (c b : Nat) (P : List Int → Bool) (c3 : c ≤ 3) (hT : Tests_WinningStakes w b P) :
    Calls Try.prog 74 #[.int .i64 (c : Int), .func (.func 75) #[] #[.pointer (some ⟨b, 0, none⟩), .pointer (some ⟨b + 1, 0, none⟩)]] w (RowOk w.heap.size (((stAll c).find? P).getD []) ((stAll c).find? P).isSome w) := by
  obtain ⟨w1, hw1⟩ : ∃ w1, w.alloc (.cells #[.func (.func 75) #[] #[.pointer (some ⟨b, 0, none⟩), .pointer (some ⟨b + 1, 0, none⟩)]] 79) = w1 := ⟨_, rfl⟩
  have hsz1 : w1.heap.size = w.heap.size + 1 := by rw [← hw1]; simp
  have hBw : Below w.heap.size w w1 := by rw [← hw1]; exact (Below.refl _ _).alloc (Nat.le_refl _) _
  have hn0 : w1.cell? ⟨w.heap.size, 0, none⟩ = some (.func (.func 75) #[] #[.pointer (some ⟨b, 0, none⟩), .pointer (some ⟨b + 1, 0, none⟩)]) := by
    rw [← hw1]; exact (new_cell w _ 79).1
  obtain ⟨w3, hw3⟩ : ∃ w3, (w1.alloc (.cells #[.slice none 0 0] 31)).alloc (.cells #[.bool false] 4) = w3 := ⟨_, rfl⟩
  have hsz3 : w3.heap.size = w1.heap.size + 2 := by rw [← hw3]; simp
  have hB3 : Below w1.heap.size w1 w3 := by rw [← hw3]; exact ((Below.refl _ _).alloc (Nat.le_refl _) _).alloc (by simp) _
  have hR3 : ResI w1 (.slice none 0 0) false w3 := by
    have h1 := new_cell w1 (.slice none 0 0) 31
    have h2 := new_cell (w1.alloc (.cells #[.slice none 0 0] 31)) (.bool false) 4
    rw [World.size_alloc] at h2
    refine ⟨?_, ?_, ?_, ?_, hB3⟩
    · rw [← hw3]; exact old_cell _ h1.1
    · rw [← hw3]; exact h2.1
    · rw [← hw3]; exact old_frz _ h1.1 h1.2
    · rw [← hw3]; exact h2.2
  -- the test's cell, wherever the results' cells lie
  have HARG : Hid (∀ x t B, ResI w1 x t B → B.cell? ⟨w.heap.size, 0, none⟩ = some (.func (.func 75) #[] #[.pointer (some ⟨b, 0, none⟩), .pointer (some ⟨b + 1, 0, none⟩)]) ∧ Below w.heap.size w B) := Lib.hid (fun x t B h => by
    have hb := h.2.2.2.2
    exact ⟨(hb.cell (p := ⟨w.heap.size, 0, none⟩) (show w.heap.size < w1.heap.size by omega)).trans hn0, hBw.trans (hb.mono (by omega))⟩)
  have HR3 := Lib.hid hR3
  have HS1 := Lib.hid hsz1
  have HS3 := Lib.hid hsz3
  have HP : Hid (w.heap.size + 1 = w1.heap.size) := Lib.hid hsz1.symm
  have HW1 := Lib.hid hw1
  have HW3 := Lib.hid hw3
  have HT := Lib.hid hT
  clear hsz1 hBw hn0 hsz3 hB3 hR3 hw1 hw3 hT
  refine (callsIn_wide (n := 4)).1 ?_
  refine callsIn_of_wp_marks Try.func74 rfl trivial ?_ rfl
  simp only [Try.ntmps74, List.size_toArray, List.length_cons, List.length_nil, Nat.reduceAdd, Nat.reduceSub, Array.replicate_succ, Array.replicate_zero, List.push_toArray, List.append_toArray, List.nil_append, List.cons_append]
  gi_wp2_with fail
  rw [HW1.out, HW3.out]
  refine ⟨trivial, (callsIn_wide.2 (stakesInOrder_any _ _)).mono ?_⟩
  rintro e w5 ⟨rfl, hw5⟩
  have hsz5 : w5.heap.size = w3.heap.size + 1 := by rw [← hw5]; simp
  have hB5 : Below w3.heap.size w3 w5 := by rw [← hw5]; exact (Below.refl _ _).alloc (Nat.le_refl _) _
  have hc5 : w5.cell? ⟨w3.heap.size, 0, none⟩ = some (.int .i64 (c : Int)) := by
    rw [← hw5]
    exact (new_cell w3 (.int .i64 (c : Int)) 3).1
  have HS5 := Lib.hid hsz5
  have HR5 := Lib.hid (res_below HR3.out hB5 (by have := HS3.out; omega))
  have HW := Lib.hid (stWalk_any 3 w1.heap.size w3.heap.size c w5 (by have := HS3.out; omega) hc5 c3)
  have HPS := HP.out
  clear hw5 hsz5 hB5 hc5
  gi_wp2_with fail
  try rw [HP.out]
  refine wpIn_rows (by omega) (gf := 124) (lb := #[.pointer (some ⟨w3.heap.size, 0, none⟩)]) rfl (enters_of Try.func124 (by kernel_rfl) rfl) HW.out (by have := HS5.out; have := HS3.out; omega) rfl
    (TstI P w1) (TstX P w1) (tst_stays (by have := HS5.out; have := HS3.out; omega)) (fun _ _ _ _ _ o' hx hl ho hc => tst_put o' hx (by have := HS5.out; have := HS3.out; omega) ho hc) ⟨fun y hy => (by cases hy), HR5.out⟩ ?round ?done ?stop
  case round =>
    intro l pre x v W hpre
    clear hpre
    gi_wp2_with fail
    refine ⟨trivial, ?_⟩
    rintro B ⟨hno, hr⟩ hs ho
    obtain ⟨A2, n2, c3, rfl⟩ := own_slice ho
    have HNO := Lib.hid hno
    have HR := Lib.hid hr
    have HO := Lib.hid ho
    obtain ⟨hc0, hbw⟩ := HARG.out _ _ _ hr
    have HTC := Lib.hid (HT.out B _ x hbw ho.rd)
    obtain ⟨t, ht⟩ : ∃ t, P x = t := ⟨_, rfl⟩
    rw [ht] at HTC
    have HTT := Lib.hid ht
    have HSB : Hid (w1.heap.size + 2 ≤ B.heap.size) := Lib.hid (by have := HS5.out; have := HS3.out; omega)
    clear hno hr ho hs hbw ht
    gi_wp2_with fail
    refine ⟨trivial, (calls_round HTC.out).mono ?_⟩
    rintro e B2 ⟨rfl, b2⟩
    have HB2 := Lib.hid b2
    have HR2 := Lib.hid (res_below HR.out b2 HSB.out)
    clear b2 hc0
    cases t
    · gi_wp2_with fail
      refine ⟨kept_below HB2.out, fun y hy => ?_, HR2.out⟩
      rcases List.mem_append.1 hy with hy | hy
      · exact HNO.out y hy
      · obtain rfl := List.mem_singleton.1 hy; exact HTT.out
    · have HO2 := Lib.hid (HO.out.keep (SameAt.of_below HB2.out))
      obtain ⟨c1, c2, f1, f2, hb⟩ := id HR2.out
      have c2' : (B2.setCell ⟨w1.heap.size, 0, none⟩ (.slice A2 n2 c3)).cell? ⟨w1.heap.size + 1, 0, none⟩ = some (.bool false) := ofs_cell c2 (by omega)
      have f2' : (B2.setCell ⟨w1.heap.size, 0, none⟩ (.slice A2 n2 c3)).frozen? ⟨w1.heap.size + 1, 0, none⟩ = false := by rw [World.frozen?_setCell]; exact f2
      clear hb
      gi_wp2_with fail
      refine ⟨(others_below HB2.out).trans ((KeepsOthers.setCell _ _ _).trans (KeepsOthers.setCell _ _ _)), rfl, pre, x, _, rfl, HNO.out, HTT.out, res_set HR2.out _ true, ?_⟩
      exact own_far2 HO2.out ⟨by have := HS5.out; have := HS3.out; omega, by have := HS5.out; have := HS3.out; omega⟩ (by have := HS5.out; have := HS3.out; omega)
  case done =>
    rintro D W hD ⟨hall, hr⟩ hK
    have HN := Lib.hid (tst_miss hall)
    have HR := Lib.hid hr
    obtain ⟨c1, c2, f1, f2, hb⟩ := id hr
    have c2' : (W.setCell ⟨w1.heap.size, 0, none⟩ (.slice none 0 0)).cell? ⟨w1.heap.size + 1, 0, none⟩ = some (.bool false) := ofs_cell c2 (by omega)
    have f2' : (W.setCell ⟨w1.heap.size, 0, none⟩ (.slice none 0 0)).frozen? ⟨w1.heap.size + 1, 0, none⟩ = false := by rw [World.frozen?_setCell]; exact f2
    clear hb hr hall
    gi_wp2_with fail
    have hK2 := ((KeepsOthers.setCell W ⟨w1.heap.size, 0, none⟩ (.slice none 0 0)).trans (KeepsOthers.setCell _ ⟨w1.heap.size + 1, 0, none⟩ (.bool false))).same D _ hK rfl
    refine ⟨by simp, .inl ⟨_, _, rfl, run_takeDeferred hK2, ?_⟩⟩
    have hR := res_below (res_set HR.out (.slice none 0 0) false) (below_put (B := D) (.deferred none) (Array.getElem?_eq_some_iff.1 hK2).1 (Nat.le_refl _)) (by have := HS5.out; have := HS3.out; omega)
    obtain ⟨d1, d2, -, -, -⟩ := id hR
    refine ⟨.tuple #[.slice none 0 0, .bool false], by simp [results, Try.f74, go_sem, d1, d2], rowOk_ret HN.out.1 HN.out.2 (nil_own _ _) (HARG.out _ _ _ hR).2⟩
  case stop =>
    rintro D c pre W hD hpre ⟨rfl, ys, x, v, rfl, hno, hx, hr, ho⟩ hK
    have HN := Lib.hid (tst_hit hpre hno hx)
    have HR := Lib.hid hr
    have HO := Lib.hid ho
    clear hr ho hpre hno hx
    gi_wp2_with fail
    refine ⟨by simp, .inl ⟨_, _, rfl, run_takeDeferred hK, ?_⟩⟩
    have hR := res_below HR.out (below_put (B := D) (.deferred none) (Array.getElem?_eq_some_iff.1 hK).1 (Nat.le_refl _)) (by have := HS5.out; have := HS3.out; omega)
    obtain ⟨d1, d2, -, -, -⟩ := id hR
    refine ⟨.tuple #[v, .bool true], by simp [results, Try.f74, go_sem, d1, d2], rowOk_ret HN.out.1 HN.out.2 ((own_putc _ HO.out hK rfl).base (by have := HS1.out; omega)) (HARG.out _ _ _ hR).2⟩

set_option maxRecDepth 100000 in
set_option maxHeartbeats 8000000 in
theorem implWinningStakes_any (w : World) (n : Int) (v : Value) (bs : List Bt) (hv : BRd w v bs) :
    Calls Try.prog 28 #[.int .i64 n, v] w (RowOk w.heap.size (winR n bs) (winOk n bs) w) := by
  obtain ⟨A, c, rfl, hl, hmx⟩ := hv.form
  obtain ⟨w1, hw1⟩ : ∃ w1, (w.alloc (.cells #[.int .i64 n] 3)).alloc (.cells #[.slice A bs.length c] 23) = w1 := ⟨_, rfl⟩
  have hsz1 : w1.heap.size = w.heap.size + 2 := by rw [← hw1]; simp
  have hBw : Below w.heap.size w w1 := by rw [← hw1]; exact ((Below.refl _ _).alloc (Nat.le_refl _) _).alloc (by simp) _
  have hn0 : w1.cell? ⟨w.heap.size, 0, none⟩ = some (.int .i64 n) := by
    rw [← hw1]; exact old_cell _ (new_cell w (.int .i64 n) 3).1
  have hn1 : w1.cell? ⟨w.heap.size + 1, 0, none⟩ = some (.slice A bs.length c) := by
    have h1 := new_cell (w.alloc (.cells #[.int .i64 n] 3)) (.slice A bs.length c) 23
    rw [World.size_alloc] at h1
    rw [← hw1]; exact h1.1
  have HARG : Hid (∀ B, Below w1.heap.size w1 B → B.cell? ⟨w.heap.size, 0, none⟩ = some (.int .i64 n) ∧ B.cell? ⟨w.heap.size + 1, 0, none⟩ = some (.slice A bs.length c) ∧ BRd B (.slice A bs.length c) bs ∧ Below w.heap.size w B) := Lib.hid (fun B hb =>
    ⟨(hb.cell (p := ⟨w.heap.size, 0, none⟩) (show w.heap.size < w1.heap.size by omega)).trans hn0, (hb.cell (p := ⟨w.heap.size + 1, 0, none⟩) (show w.heap.size + 1 < w1.heap.size by omega)).trans hn1,
      (hv.keep (SameAt.of_below hBw)).keep (SameAt.of_below hb), hBw.trans (hb.mono (by omega))⟩)
  have HS1 := Lib.hid hsz1
  have HW1 := Lib.hid hw1
  clear hv hsz1 hBw hn0 hn1 hw1
  have hs1 : (w.alloc (.cells #[.int .i64 n] 3)).heap.size = w.heap.size + 1 := by simp
  obtain ⟨hc0, hc1, hv0, -⟩ := HARG.out w1 (Below.refl _ _)
  have HV0 := Lib.hid hv0
  clear hv0
  rcases Bool.eq_false_or_eq_true (bidsB n bs) with h | h
  · have H := Lib.hid (winR_find h)
    have HOK := Lib.hid h
    have hq3 : bs.length ≤ 3 := ((bidsB_iff _ _).1 h).2.1
    go_enter Try.func28, Try.ntmps28
    go_wp2_with fail
    rw [HW1.out]
    refine (implBidsOk_any _ _ _ _ HV0.out).mono ?_
    rintro e w2 ⟨rfl, b2⟩
    rw [h]
    have HB2 := Lib.hid b2
    obtain ⟨hc2, hc3, hv2, hb2⟩ := HARG.out w2 b2
    have HBW := Lib.hid hb2
    clear b2 h hc0 hc1 hv2 hb2
    go_wp2_with fail
    refine (firstStakes_WinningStakes w2 bs.length w.heap.size (winB n bs) hq3 (fun A' u x hA hx => ?_)).mono ?_
    · obtain ⟨k0, k1, k2, -⟩ := HARG.out A' (HB2.out.trans (hA.mono HB2.out.size))
      exact winTest_any A' n _ u bs x _ HOK.out k0 k1 k2 hx
    rintro r w3 ⟨x, rfl, o3, b3⟩
    have HO3 := Lib.hid (o3.base HBW.out.size)
    have HB3 := Lib.hid (below_step HBW.out b3 HBW.out.size)
    clear b3 o3 hc2 hc3
    go_wp2_with fail
    go_ret2
    exact rowOk_ret H.out.2 H.out.1 HO3.out HB3.out
  · have HN := Lib.hid (win_no h)
    go_enter Try.func28, Try.ntmps28
    go_wp2_with fail
    rw [HW1.out]
    refine (implBidsOk_any _ _ _ _ HV0.out).mono ?_
    rintro e w2 ⟨rfl, b2⟩
    rw [h]
    have HB2 := Lib.hid (HARG.out w2 b2).2.2.2
    clear b2 h hc0 hc1
    go_wp2_with fail
    go_ret2
    exact rowOk_ret HN.out.2 HN.out.1 (nil_own _ _) HB2.out

/-! SidesFair -/

/-- the variable that holds the result -/
def ResB (w : World) (t : Bool) (A : World) : Prop := A.cell? ⟨w.heap.size, 0, none⟩ = some (.bool t) ∧ A.frozen? ⟨w.heap.size, 0, none⟩ = false ∧ Below w.heap.size w A

theorem resb_below {w A A' : World} {t : Bool} {B : Nat} (h : ResB w t A) (hb : Below B A A') (hB : w.heap.size + 1 ≤ B) : ResB w t A' := by
  obtain ⟨h1, h2, h3⟩ := h
  exact ⟨(hb.cell (p := ⟨w.heap.size, 0, none⟩) (show w.heap.size < B by omega)).trans h1, (hb.frozen (p := ⟨w.heap.size, 0, none⟩) (show w.heap.size < B by omega)).trans h2, h3.trans (hb.mono (by omega))⟩

theorem resb_set {w A : World} {t : Bool} (h : ResB w t A) (s : Bool) : ResB w s (A.setCell ⟨w.heap.size, 0, none⟩ (.bool s)) := by
  obtain ⟨h1, h2, h3⟩ := h
  refine ⟨World.cell?_setCell_same' _ _ _ (by rw [h1]; rfl), ?_, h3.setCell (p := ⟨w.heap.size, 0, none⟩) (Nat.le_refl _) _⟩
  rw [World.frozen?_setCell]; exact h2

/-- nothing has come -/
def SfI (w : World) (pre : List (List Int)) (A : World) : Prop := pre = [] ∧ ResB w false A

/-- the first has come: the body has returned -/
def SfX (w : World) (c : Code) (pre : List (List Int)) (A : World) : Prop := c = .ret ∧ (∃ x, x ∈ pre) ∧ ResB w true A

theorem sf_stays {w : World} {B : Nat} (hB : w.heap.size + 1 ≤ B) : Stays B (SfI w) := by
  rintro pre A A' ⟨h1, h2⟩ hb
  exact ⟨h1, resb_below h2 hb hB⟩

theorem sf_put {w A : World} {c : Code} {pre : List (List Int)} {l : Nat} {o : Obj} (o' : Obj) (h : SfX w c pre A) (hl : w.heap.size + 1 ≤ l) (ho : A.heap[l]? = some o) : SfX w c pre (A.putObj l o') := by
  obtain ⟨h1, h2, h3⟩ := h
  exact ⟨h1, h2, resb_below h3 (below_put o' (Array.getElem?_eq_some_iff.1 ho).1 (Nat.le_refl _)) hl⟩

set_option maxRecDepth 100000 in
set_option maxHeartbeats 8000000 in
theorem implSidesFair_any (w : World) (n : Int) (v : Value) (bs : List Bt) (hv : BRd w v bs) :
    Calls Try.prog 20 #[.int .i64 n, v] w (BoolPost (sfairB n bs) w) := by
  obtain ⟨A, c, rfl, hl, hmx⟩ := id hv.form
  obtain ⟨w1, hw1⟩ : ∃ w1, w.alloc (.cells #[.bool false] 4) = w1 := ⟨_, rfl⟩
  have hsz1 : w1.heap.size = w.heap.size + 1 := by rw [← hw1]; simp
  have hB1 : Below w.heap.size w w1 := by rw [← hw1]; exact (Below.refl _ _).alloc (Nat.le_refl _) _
  have hR1 : ResB w false w1 := by
    have h1 := new_cell w (.bool false) 4
    rw [hw1] at h1
    exact ⟨h1.1, h1.2, hB1⟩
  have HV := Lib.hid (hv.keep (SameAt.of_below hB1))
  have HS1 := Lib.hid hsz1
  have HR1 := Lib.hid hR1
  have HW1 := Lib.hid hw1
  clear hv hsz1 hB1 hR1 hw1
  rcases Bool.eq_false_or_eq_true (bidsB n bs) with h | h
  · have hn1 : 1 ≤ n := ((bidsB_iff _ _).1 h).1.1
    have hn2 : n ≤ 4 := ((bidsB_iff _ _).1 h).1.2
    have HQ := Lib.hid (bids_of h)
    obtain ⟨m, rfl⟩ : ∃ m : Nat, n = m := ⟨n.toNat, by omega⟩
    have hm1 : 1 ≤ m := by omega
    have hm4 : m ≤ 4 := by omega
    have HF : Hid (sfairB (m : Int) bs = anyS m bs) := Lib.hid (by rw [sfairB, h, Bool.true_and, Int.toNat_natCast])
    refine (callsIn_wide (n := 4)).1 ?_; refine callsIn_of_wp_marks Try.func20 rfl trivial ?_ rfl; simp only [Try.ntmps20, List.size_toArray, List.length_cons, List.length_nil, Nat.reduceAdd, Nat.reduceSub, Array.replicate_succ, Array.replicate_zero, List.push_toArray, List.append_toArray, List.nil_append, List.cons_append]
    gi_wp2_with fail
    rw [HW1.out]
    refine ⟨trivial, (callsIn_wide.2 (implBidsOk_any _ _ _ _ HV.out)).mono ?_⟩
    rintro e w2 ⟨rfl, b2⟩
    rw [h]
    have HR2 := Lib.hid (resb_below HR1.out b2 (by have := HS1.out; omega))
    have HSW : Hid (w.heap.size + 1 ≤ w2.heap.size) := Lib.hid (by have := HS1.out; have := b2.size; omega)
    have HV2 := Lib.hid (HV.out.keep (SameAt.of_below b2))
    clear b2 h
    gi_wp2_with fail
    refine ⟨trivial, (callsIn_wide.2 (Two.fittingSides_any _ _ A _ c)).mono ?_⟩
    rintro e w5 ⟨rfl, hw5⟩
    obtain ⟨hB5, hsz5, hq0, hq1, hq2⟩ := hw5
    have HS := Lib.hid hsz5
    have HR5 := Lib.hid (resb_below HR2.out hB5 HSW.out)
    have HV5 := Lib.hid (HV2.out.keep (SameAt.of_below hB5))
    have HW := Lib.hid (Two.sidWalk_any 3 (fun _ => False) w2.heap.size m (.slice A bs.length c) bs w5 (fun h => h) (fun h => h) (fun h => h) (fun _ h => h.elim) ⟨hq0, hq1, hq2⟩ (fun A' hA => HV5.out.keep ⟨hA.1, fun g _ hlt => hA.2 g hlt (fun h => h)⟩) HQ.out hm1 hm4)
    clear hsz5 hB5 hq0 hq1 hq2
    gi_wp2_with fail
    refine Two.wpIn_rows (by omega) (gf := 120) (lb := #[.pointer (some ⟨w2.heap.size + 1, 0, none⟩), .pointer (some ⟨w2.heap.size + 1 + 1, 0, none⟩)]) rfl (enters_of Try.func120 (by kernel_rfl) rfl) HW.out (fun _ h => h.elim) rfl
      (SfI w) (SfX w) (sf_stays (by have := HS.out; have := HSW.out; omega)) (fun _ _ _ _ _ o' hx hl ho hc => sf_put o' hx (by have := HS.out; have := HSW.out; omega) ho) ⟨rfl, HR5.out⟩ ?round ?done ?stop
    case round =>
      intro l pre x v W hpre
      clear hpre
      gi_wp2_with fail
      refine ⟨trivial, ?_⟩
      rintro B ⟨rfl, hr⟩ hs ho
      have HR := Lib.hid hr
      obtain ⟨c1, f1, hb⟩ := id hr
      clear hb hr ho hs
      gi_wp2_with fail
      exact ⟨KeepsOthers.setCell _ _ _, rfl, ⟨x, by simp⟩, resb_set HR.out true⟩
    case done =>
      rintro D W hD ⟨hall, hr⟩ hK
      have HN := Lib.hid (HF.out.trans (sid_none hall))
      have HR := Lib.hid hr
      obtain ⟨c1, f1, hb⟩ := id hr
      clear hb hr hall
      gi_wp2_with fail
      have hK2 := (KeepsOthers.setCell W ⟨w.heap.size, 0, none⟩ (.bool false)).same D _ hK rfl
      refine ⟨by simp, .inl ⟨_, _, rfl, run_takeDeferred hK2, ?_⟩⟩
      have hR := resb_below (resb_set HR.out false) (below_put (B := D) (.deferred none) (Array.getElem?_eq_some_iff.1 hK2).1 (Nat.le_refl _)) (by have := HS.out; have := HSW.out; omega)
      obtain ⟨d1, -, hb⟩ := id hR
      refine ⟨.bool false, by simp [results, Try.f20, go_sem, d1], ret_bool HN.out.symm, hb⟩
    case stop =>
      rintro D c pre W hD hpre ⟨rfl, ⟨x, hx⟩, hr⟩ hK
      have HN := Lib.hid (HF.out.trans (sid_some hx hpre))
      have HR := Lib.hid hr
      clear hr hpre
      gi_wp2_with fail
      refine ⟨by simp, .inl ⟨_, _, rfl, run_takeDeferred hK, ?_⟩⟩
      have hR := resb_below HR.out (below_put (B := D) (.deferred none) (Array.getElem?_eq_some_iff.1 hK).1 (Nat.le_refl _)) (by have := HS.out; have := HSW.out; omega)
      obtain ⟨d1, -, hb⟩ := id hR
      refine ⟨.bool true, by simp [results, Try.f20, go_sem, d1], ret_bool HN.out.symm, hb⟩
  · have HN : Hid (sfairB n bs = false) := Lib.hid (by rw [sfairB, h]; rfl)
    refine (callsIn_wide (n := 4)).1 ?_; refine callsIn_of_wp_marks Try.func20 rfl trivial ?_ rfl; simp only [Try.ntmps20, List.size_toArray, List.length_cons, List.length_nil, Nat.reduceAdd, Nat.reduceSub, Array.replicate_succ, Array.replicate_zero, List.push_toArray, List.append_toArray, List.nil_append, List.cons_append]
    gi_wp2_with fail
    rw [HW1.out]
    refine ⟨trivial, (callsIn_wide.2 (implBidsOk_any _ _ _ _ HV.out)).mono ?_⟩
    rintro e w2 ⟨rfl, b2⟩
    rw [h]
    have HR2 := Lib.hid (resb_below HR1.out b2 (by have := HS1.out; omega))
    clear b2
    obtain ⟨c1, f1, hb⟩ := id HR2.out
    clear hb
    gi_wp2_with fail
    have hR := resb_set HR2.out false
    obtain ⟨d1, -, hb⟩ := id hR
    refine ⟨.bool false, by simp [results, Try.f20, go_sem, d1], ret_bool HN.out.symm, hb⟩

/-! SidesOn -/

/-- what holds between two rounds: the least and the most so far, and the event -/
def SoI (w w2 : World) (e : Int) (pre : List (List Int)) (A : World) : Prop :=
  (A.cell? ⟨w2.heap.size, 0, none⟩ = some (.int .i64 (pre.foldl (sleastS e) 37)) ∧ A.frozen? ⟨w2.heap.size, 0, none⟩ = false) ∧ (A.cell? ⟨w2.heap.size + 1, 0, none⟩ = some (.int .i64 (pre.foldl (smostS e) (-1))) ∧ A.frozen? ⟨w2.heap.size + 1, 0, none⟩ = false) ∧
  A.cell? ⟨w.heap.size, 0, none⟩ = some (.int .i64 e) ∧ Below w.heap.size w A

theorem so_stays {w w2 : World} {e : Int} {B : Nat} (h0 : w.heap.size < w2.heap.size) (hB : w2.heap.size + 2 ≤ B) : Stays B (SoI w w2 e) := by
  rintro pre A A' ⟨⟨h1, h2⟩, ⟨h3, h4⟩, h5, h6⟩ hb
  exact ⟨⟨(hb.cell (p := ⟨w2.heap.size, 0, none⟩) (show w2.heap.size < B by omega)).trans h1, (hb.frozen (p := ⟨w2.heap.size, 0, none⟩) (show w2.heap.size < B by omega)).trans h2⟩, ⟨(hb.cell (p := ⟨w2.heap.size + 1, 0, none⟩) (show w2.heap.size + 1 < B by omega)).trans h3, (hb.frozen (p := ⟨w2.heap.size + 1, 0, none⟩) (show w2.heap.size + 1 < B by omega)).trans h4⟩,
    (hb.cell (p := ⟨w.heap.size, 0, none⟩) (show w.heap.size < B by omega)).trans h5, h6.trans (hb.mono (by omega))⟩

theorem so_set {w w2 A : World} {e : Int} {pre : List (List Int)} (x : List Int) (h0 : w.heap.size < w2.heap.size) (h : SoI w w2 e pre A) :
    SoI w w2 e (pre ++ [x]) ((A.setCell ⟨w2.heap.size, 0, none⟩ (.int .i64 (sleastS e (pre.foldl (sleastS e) 37) x))).setCell ⟨w2.heap.size + 1, 0, none⟩ (.int .i64 (smostS e (pre.foldl (smostS e) (-1)) x))) := by
  obtain ⟨⟨h1, h2⟩, ⟨h3, h4⟩, h5, h6⟩ := h
  refine ⟨⟨?_, ?_⟩, ⟨?_, ?_⟩, ?_, (h6.setCell (p := ⟨w2.heap.size, 0, none⟩) (Nat.le_of_lt h0) _).setCell (p := ⟨w2.heap.size + 1, 0, none⟩) (by show _ ≤ w2.heap.size + 1; omega) _⟩
  · rw [List.foldl_append]
    exact ofs_cell (World.cell?_setCell_same' _ _ _ (by rw [h1]; rfl)) (by omega)
  · rw [World.frozen?_setCell, World.frozen?_setCell]; exact h2
  · rw [List.foldl_append]
    exact World.cell?_setCell_same' _ _ _ (by rw [ofs_cell h3 (by omega)]; rfl)
  · rw [World.frozen?_setCell, World.frozen?_setCell]; exact h4
  · exact ofs_cell (ofs_cell h5 (by omega)) (by omega)

theorem two_kept {A B : World} {c : Nat} (h : Below A.heap.size A B) (u v : Value) : Two.KeptBut (fun k => k = c ∨ k = c + 1) A ((B.setCell ⟨c, 0, none⟩ u).setCell ⟨c + 1, 0, none⟩ v) :=
  ⟨by simp [World.setCell]; exact h.size, fun k hk hn => by
    rw [Below.heap_setCell _ ⟨c + 1, 0, none⟩ _ _ (fun e => hn (.inr e)), Below.heap_setCell _ ⟨c, 0, none⟩ _ _ (fun e => hn (.inl e))]
    exact h.block k hk⟩

/-- a region that holds no defer statement is walked in a round as without one -/
theorem ops_round {F : Fence} {n : Nat} {P : Program} {ops : Array Oper} {Q : Exit → Act → World → Prop} (l : Nat) (hd : ∀ (i : Nat) (o : Oper), ops[i]? = some o → ∀ c, o.op ≠ .defer c) (L : List Nat) :
    ∀ (a : Act) (w : World), wpOpsIn F n P ops Q L a w → wpOpsIn (F.inRound l) n P ops Q L a w := by
  induction L with
  | nil => exact fun a w h => h
  | cons i rest ih =>
    intro a w h
    simp only [wpOpsIn] at h ⊢
    cases ho : ops[i]? with
    | none => simp only [ho] at h ⊢; exact ih a w h
    | some o =>
      simp only [ho] at h ⊢
      by_cases hw : Region.wanted o (yielded ops a.tmps) = true
      · rw [if_pos hw] at h ⊢
        have h2 := Oper.wpIn_mono ih h
        unfold Oper.wpIn at h2 ⊢
        rw [Oper.semAt_plain _ _ _ (hd i o ho)] at h2 ⊢
        exact h2
      · rw [if_neg hw] at h ⊢
        exact ⟨h.1, ih _ _ h.2⟩

theorem region_round {F : Fence} {n : Nat} {P : Program} {ops : Array Oper} {Q : Exit → Act → World → Prop} {l id : Nat} {a : Act} {w : World} (hm : P.follows .mixedOrders = true) (hd : ∀ (i : Nat) (o : Oper), ops[i]? = some o → ∀ c, o.op ≠ .defer c)
    (h : wpAnyIn F n P .any ops Q ops.size (Array.replicate ops.size false) a { w with drawn := w.drawn + 1 }) : (Code.region id ops true).wpIn (F.inRound l) n P Q a w :=
  wpIn_region_draw fun t => by
    simp only [Region.schedule, hm, Bool.true_or, if_true]
    exact ops_round l hd _ _ _ (wpAnyIn_sound ops.size t _ a _ h)

set_option maxRecDepth 100000 in
set_option maxHeartbeats 8000000 in
theorem implSidesOn_any (w : World) (n : Int) (v : Value) (bs : List Bt) (e : Int) (hv : BRd w v bs) :
    Calls Try.prog 39 #[.int .i64 n, v, .int .i64 e] w (TriPost (soL n bs e) (soM n bs e) (soB n bs e) w) := by
  obtain ⟨A, c, rfl, hl, hmx⟩ := id hv.form
  obtain ⟨w1, hw1⟩ : ∃ w1, w.alloc (.cells #[.int .i64 e] 3) = w1 := ⟨_, rfl⟩
  have hsz1 : w1.heap.size = w.heap.size + 1 := by rw [← hw1]; simp
  have hB1 : Below w.heap.size w w1 := by rw [← hw1]; exact (Below.refl _ _).alloc (Nat.le_refl _) _
  have hc1 : w1.cell? ⟨w.heap.size, 0, none⟩ = some (.int .i64 e) := by rw [← hw1]; exact (new_cell w _ _).1
  have HV := Lib.hid (hv.keep (SameAt.of_below hB1))
  have HS1 := Lib.hid hsz1
  have HB1 := Lib.hid hB1
  have HC1 : Hid (∀ A', Below w1.heap.size w1 A' → A'.cell? ⟨w.heap.size, 0, none⟩ = some (.int .i64 e)) := Lib.hid (fun A' h => (h.cell (p := ⟨w.heap.size, 0, none⟩) (show w.heap.size < w1.heap.size by omega)).trans hc1)
  have HW1 := Lib.hid hw1
  clear hv hsz1 hB1 hw1 hc1
  rcases Bool.eq_false_or_eq_true (bidsB n bs) with h | h
  · rcases Bool.eq_false_or_eq_true (evB n e) with k | k
    · have hn1 : 1 ≤ n := ((bidsB_iff _ _).1 h).1.1
      have hn2 : n ≤ 4 := ((bidsB_iff _ _).1 h).1.2
      have HE := Lib.hid (evB_15 k)
      have HQ := Lib.hid (bids_of h)
      obtain ⟨m, rfl⟩ : ∃ m : Nat, n = m := ⟨n.toNat, by omega⟩
      have hm1 : 1 ≤ m := by omega
      have hm4 : m ≤ 4 := by omega
      have HIS := Lib.hid (so_is hm1 h k)
      have HNO : Hid (soB (m : Int) bs e = false → soL (m : Int) bs e = -1 ∧ soM (m : Int) bs e = -1) := Lib.hid (fun hx => by
        obtain ⟨y1, y2⟩ := so_yes h k
        rw [so_any h k] at hx
        rw [y1, y2, sleast_none hx, smost_none hx]; exact ⟨rfl, rfl⟩)
      refine (callsIn_wide (n := 4)).1 ?_; refine callsIn_of_wp_marks Try.func39 rfl trivial ?_ rfl; simp only [Try.ntmps39, List.size_toArray, List.length_cons, List.length_nil, Nat.reduceAdd, Nat.reduceSub, Array.replicate_succ, Array.replicate_zero, List.push_toArray, List.append_toArray, List.nil_append, List.cons_append]
      gi_wp2_with fail
      rw [HW1.out]
      refine ⟨trivial, (callsIn_wide.2 (implBidsOk_any _ _ _ _ HV.out)).mono ?_⟩
      rintro r w2 ⟨rfl, b2⟩
      rw [h]
      have HBW := Lib.hid (below_step HB1.out b2 HB1.out.size)
      have hce := HC1.out w2 b2
      have HSW : Hid (w.heap.size < w2.heap.size) := Lib.hid (by have := HS1.out; have := b2.size; omega)
      have HV2 := Lib.hid (HV.out.keep (SameAt.of_below b2))
      clear b2 h
      gi_wp2_with fail
      refine ⟨trivial, (callsIn_wide.2 (implEventOk_any _ _ _)).mono ?_⟩
      rintro r w' ⟨rfl, rfl⟩
      rw [k]
      clear k
      obtain ⟨w4, hw4⟩ : ∃ w4, (w2.alloc (.cells #[.int .i64 37] 3)).alloc (.cells #[.int .i64 (-1)] 3) = w4 := ⟨_, rfl⟩
      have h0c := new_cell w2 (.int .i64 37) 3
      have h1c := new_cell (w2.alloc (.cells #[.int .i64 37] 3)) (.int .i64 (-1)) 3
      rw [World.size_alloc, hw4] at h1c
      have hB4 : Below w2.heap.size w2 w4 := by rw [← hw4]; exact ((Below.refl _ _).alloc (Nat.le_refl _) _).alloc (by simp) _
      have hsz4 : w4.heap.size = w2.heap.size + 2 := by rw [← hw4]; simp
      have hk0 : w4.cell? ⟨w2.heap.size, 0, none⟩ = some (.int .i64 37) ∧ w4.frozen? ⟨w2.heap.size, 0, none⟩ = false := by
        rw [← hw4]; exact ⟨old_cell _ h0c.1, old_frz _ h0c.1 h0c.2⟩
      have hce4 : w4.cell? ⟨w.heap.size, 0, none⟩ = some (.int .i64 e) := (hB4.cell (p := ⟨w.heap.size, 0, none⟩) HSW.out).trans hce
      have H4 : Hid (SoI w w2 e [] w4) := Lib.hid ⟨hk0, h1c, hce4, below_step HBW.out hB4 HBW.out.size⟩
      have HW4 := Lib.hid hw4
      have HS4 := Lib.hid hsz4
      have HV4 := Lib.hid (HV2.out.keep (SameAt.of_below hB4))
      clear hw4 h0c h1c hB4 hsz4 hk0 hce4
      gi_wp2_with fail
      rw [HW4.out]
      refine ⟨trivial, (callsIn_wide.2 (Two.fittingSides_any _ _ A _ c)).mono ?_⟩
      rintro e2 w5 ⟨rfl, hw5⟩
      obtain ⟨hB5, hsz5, hq0, hq1, hq2⟩ := hw5
      have HS := Lib.hid hsz5
      have H5 := Lib.hid (so_stays (B := w4.heap.size) HSW.out (by have := HS4.out; omega) _ _ _ H4.out hB5)
      have HV5 : Hid (∀ A', Two.Held w5 (fun k => k = w2.heap.size ∨ k = w2.heap.size + 1) A' → BRd A' (.slice A bs.length c) bs) := Lib.hid (fun A' hA => (HV2.out).keep ⟨by have := hA.1; have := HS.out; have := HS4.out; omega, fun g _ hlt => by
        have h1 := hA.2 g (by have := HS.out; have := HS4.out; omega) (by omega)
        rw [h1, hB5.block g (by have := HS4.out; omega), ← HW4.out]
        exact (((Below.refl w2.heap.size w2).alloc (Nat.le_refl _) _).alloc (by simp) _).block g hlt⟩)
      have HW := Lib.hid (Two.sidWalk_any 3 (fun k => k = w2.heap.size ∨ k = w2.heap.size + 1) w4.heap.size m (.slice A bs.length c) bs w5 (by have := HS4.out; omega) (by have := HS4.out; omega) (by have := HS4.out; omega) (fun k hk => by have := HS4.out; have := HS.out; omega) ⟨hq0, hq1, hq2⟩ HV5.out HQ.out hm1 hm4)
      clear hsz5 hB5 hq0 hq1 hq2
      gi_wp2_with fail
      refine Two.wpIn_rows (by omega) (gf := 120) (lb := #[.pointer (some ⟨w4.heap.size + 1, 0, none⟩), .pointer (some ⟨w4.heap.size + 1 + 1, 0, none⟩)]) rfl (enters_of Try.func120 (by kernel_rfl) rfl) HW.out (fun k hk => by have := HS4.out; have := HS.out; omega) rfl
        (SoI w w2 e) (fun _ _ _ => False) (so_stays HSW.out (by have := HS4.out; have := HS.out; omega)) (fun _ _ _ _ _ _ h => h.elim) H5.out ?round ?done ?stop
      case round =>
        intro l pre x v W hpre
        have HG : Hid (Grs x) := Lib.hid (by
          obtain ⟨l, hl, rfl⟩ := sid_of (hpre.subset (by simp : x ∈ pre ++ [x]))
          exact sgrs hm1 hm4 hl)
        clear hpre
        gi_wp2_with fail
        refine ⟨trivial, ?_⟩
        rintro B hJ hs ho
        have HJ := Lib.hid hJ
        obtain ⟨⟨c1, f1⟩, ⟨c2, f2⟩, c3, hb⟩ := hJ
        have HO := Lib.hid ho.rd
        obtain ⟨N, hN⟩ : ∃ N, onI x e = N := ⟨_, rfl⟩
        obtain ⟨L, hL⟩ : ∃ L, pre.foldl (sleastS e) 37 = L := ⟨_, rfl⟩
        obtain ⟨M, hM⟩ : ∃ M, pre.foldl (smostS e) (-1) = M := ⟨_, rfl⟩
        have HNX := Lib.hid hN
        obtain ⟨Y, hY⟩ : ∃ Y, minI L N = Y := ⟨_, rfl⟩
        obtain ⟨Z, hZ⟩ : ∃ Z, maxI M N = Z := ⟨_, rfl⟩
        have HF : SoI w w2 e (pre ++ [x]) ((B.setCell ⟨w2.heap.size, 0, none⟩ (.int .i64 Y)).setCell ⟨w2.heap.size + 1, 0, none⟩ (.int .i64 Z)) := by
          have h := so_set x HSW.out HJ.out
          rw [hL, hM, sleastS, smostS, hN, hY, hZ] at h
          exact h
        have HF1 := Lib.hid (fun (X : World) (hX : X = ((B.setCell ⟨w2.heap.size, 0, none⟩ (.int .i64 Y)).setCell ⟨w2.heap.size + 1, 0, none⟩ (.int .i64 Z)).drew) => (show Two.KeptBut (fun k => k = w2.heap.size ∨ k = w2.heap.size + 1) B X ∧ SoI w w2 e (pre ++ [x]) X from hX ▸ ⟨two_kept (Below.refl _ _) _ _, HF.1, HF.2.1, HF.2.2.1, HF.2.2.2.drew⟩))
        have HYY : Hid ((N < L → Y = N) ∧ (L ≤ N → Y = L)) := Lib.hid (by rw [← hY]; unfold minI; constructor <;> intro h <;> split <;> omega)
        have HZZ : Hid ((M < N → Z = N) ∧ (N ≤ M → Z = M)) := Lib.hid (by rw [← hZ]; unfold maxI; constructor <;> intro h <;> split <;> omega)
        have HCM := Lib.hid (set_comm13 B (show w2.heap.size + 1 ≠ w2.heap.size by omega) (.int .i64 Z) (.int .i64 Y))
        rw [hL] at c1
        rw [hM] at c2
        have hfr : Hid True := Lib.hid trivial
        clear hb ho hs hN hL hM HJ hY hZ HF
        gi_wp2_with fail
        refine ⟨trivial, (calls_round (implGrains_any B _ x e HO.out HG.out HE.out.1 HE.out.2)).mono ?_⟩
        rintro r B2 ⟨rfl, rfl⟩
        rw [HNX.out]
        have hmix : Try.prog.follows .mixedOrders = true := by kernel_rfl
        gi_wp2_with fail
        refine region_round hmix (fun i o h => by have : i < 8 := (Array.getElem?_eq_some_iff.1 h).1; match i, this with | 0, _ | 1, _ | 2, _ | 3, _ | 4, _ | 5, _ | 6, _ | 7, _ => (injection h with h; subst h; intro c hc; cases hc) | i + 8, h9 => exact absurd h9 (by omega)) ?_
        refine wpAnyIn_take (i := 1) (v := .int .i64 N) rfl rfl (by kernel_rfl) (by kernel_rfl) (by kernel_rfl) (fun _ _ _ h => h) ⟨Or.inl ⟨by rfl, by intro w; go_simp⟩, fun _ => rfl⟩ ?_
        refine wpAnyIn_take (i := 4) (v := .int .i64 N) rfl rfl (by kernel_rfl) (by kernel_rfl) (by kernel_rfl) (fun _ _ _ h => h) ⟨Or.inl ⟨by rfl, by intro w; go_simp⟩, fun _ => rfl⟩ ?_
        refine wpAnyIn_ready (rs := [0, 3]) (by kernel_rfl) (by simp) ?_
        refine AllReadyIn.cons rfl (fun K hK => ?_) ?_
        · go_simp
          refine hK _ _ ?_
          clear hK K
          refine wpAnyIn_take (i := 2) (v := .int .i64 Y) rfl rfl (by kernel_rfl) (by kernel_rfl) (by kernel_rfl) (fun _ _ _ h => h) ⟨Or.inl ⟨by rfl, by intro w; first | (rcases Classical.em (N < L) with h | h; (rw [HYY.out.1 h]; go_simp); (rw [HYY.out.2 (Int.not_lt.1 h)]; go_simp))⟩, fun _ => rfl⟩ ?_
          refine wpAnyIn_ready (rs := [3, 6]) (by kernel_rfl) (by simp) ?_
          refine AllReadyIn.cons rfl (fun K hK => ?_) ?_
          · go_simp
            refine hK _ _ ?_
            clear hK K
            refine wpAnyIn_take (i := 5) (v := .int .i64 Z) rfl rfl (by kernel_rfl) (by kernel_rfl) (by kernel_rfl) (fun _ _ _ h => h) ⟨Or.inl ⟨by rfl, by intro w; first | (rcases Classical.em (M < N) with h | h; (rw [HZZ.out.1 h]; go_simp); (rw [HZZ.out.2 (Int.not_lt.1 h)]; go_simp))⟩, fun _ => rfl⟩ ?_
            refine wpAnyIn_ready (rs := [6]) (by kernel_rfl) (by simp) ?_
            refine AllReadyIn.cons rfl (fun K hK => ?_) ?_
            · go_simp
              refine hK _ _ ?_
              clear hK K
              refine wpAnyIn_ready (rs := [7]) (by kernel_rfl) (by simp) ?_
              refine AllReadyIn.cons rfl (fun K hK => ?_) ?_
              · go_simp
                refine hK _ _ ?_
                clear hK K
                refine wpAnyIn_done (by kernel_rfl) ?_ _
                gi_wp2_with fail
                first | exact HF1.out _ rfl | exact HF1.out _ (congrArg World.drew HCM.out)
              exact AllReadyIn.nil
            exact AllReadyIn.nil
          refine AllReadyIn.cons rfl (fun K hK => ?_) ?_
          · go_simp
            refine hK _ _ ?_
            clear hK K
            refine wpAnyIn_ready (rs := [3]) (by kernel_rfl) (by simp) ?_
            refine AllReadyIn.cons rfl (fun K hK => ?_) ?_
            · go_simp
              refine hK _ _ ?_
              clear hK K
              refine wpAnyIn_take (i := 5) (v := .int .i64 Z) rfl rfl (by kernel_rfl) (by kernel_rfl) (by kernel_rfl) (fun _ _ _ h => h) ⟨Or.inl ⟨by rfl, by intro w; first | (rcases Classical.em (M < N) with h | h; (rw [HZZ.out.1 h]; go_simp); (rw [HZZ.out.2 (Int.not_lt.1 h)]; go_simp))⟩, fun _ => rfl⟩ ?_
              refine wpAnyIn_ready (rs := [7]) (by kernel_rfl) (by simp) ?_
              refine AllReadyIn.cons rfl (fun K hK => ?_) ?_
              · go_simp
                refine hK _ _ ?_
                clear hK K
                refine wpAnyIn_done (by kernel_rfl) ?_ _
                gi_wp2_with fail
                first | exact HF1.out _ rfl | exact HF1.out _ (congrArg World.drew HCM.out)
              exact AllReadyIn.nil
            exact AllReadyIn.nil
          exact AllReadyIn.nil
        refine AllReadyIn.cons rfl (fun K hK => ?_) ?_
        · go_simp
          refine hK _ _ ?_
          clear hK K
          refine wpAnyIn_take (i := 5) (v := .int .i64 Z) rfl rfl (by kernel_rfl) (by kernel_rfl) (by kernel_rfl) (fun _ _ _ h => h) ⟨Or.inl ⟨by rfl, by intro w; first | (rcases Classical.em (M < N) with h | h; (rw [HZZ.out.1 h]; go_simp); (rw [HZZ.out.2 (Int.not_lt.1 h)]; go_simp))⟩, fun _ => rfl⟩ ?_
          refine wpAnyIn_ready (rs := [0]) (by kernel_rfl) (by simp) ?_
          refine AllReadyIn.cons rfl (fun K hK => ?_) ?_
          · go_simp
            refine hK _ _ ?_
            clear hK K
            refine wpAnyIn_take (i := 2) (v := .int .i64 Y) rfl rfl (by kernel_rfl) (by kernel_rfl) (by kernel_rfl) (fun _ _ _ h => h) ⟨Or.inl ⟨by rfl, by intro w; first | (rcases Classical.em (N < L) with h | h; (rw [HYY.out.1 h]; go_simp); (rw [HYY.out.2 (Int.not_lt.1 h)]; go_simp))⟩, fun _ => rfl⟩ ?_
            refine wpAnyIn_ready (rs := [6]) (by kernel_rfl) (by simp) ?_
            refine AllReadyIn.cons rfl (fun K hK => ?_) ?_
            · go_simp
              refine hK _ _ ?_
              clear hK K
              refine wpAnyIn_ready (rs := [7]) (by kernel_rfl) (by simp) ?_
              refine AllReadyIn.cons rfl (fun K hK => ?_) ?_
              · go_simp
                refine hK _ _ ?_
                clear hK K
                refine wpAnyIn_done (by kernel_rfl) ?_ _
                gi_wp2_with fail
                first | exact HF1.out _ rfl | exact HF1.out _ (congrArg World.drew HCM.out)
              exact AllReadyIn.nil
            exact AllReadyIn.nil
          exact AllReadyIn.nil
        exact AllReadyIn.nil
      case done =>
        rintro D W hD ⟨⟨c1, f1⟩, ⟨c2, f2⟩, c3, hb⟩ hK
        have HB := Lib.hid hb
        have hmix : Try.prog.follows .mixedOrders = true := by kernel_rfl
        clear hb
        rcases HIS.out with ⟨hs, hx⟩ | ⟨hs, hx, hy, hz⟩
        · rw [hx] at c2
          have HS0 := Lib.hid hs
          have HN0 := Lib.hid (HNO.out hs)
          clear hs hx
          gi_wp2_with fail
          refine ⟨by simp, .inl ⟨_, _, rfl, run_takeDeferred hK, ?_⟩⟩
          refine ⟨.tuple #[.int .i64 (-1), .int .i64 (-1), .bool false], by simp [results, Try.f39, go_sem], tri_ret HN0.out.1 HN0.out.2 HS0.out ?_⟩
          exact HB.out.trans (below_put _ (Array.getElem?_eq_some_iff.1 hK).1 (by have := HS.out; have := HS4.out; have := HSW.out; omega))
        · rw [hx] at c1
          rw [hy] at c2
          obtain ⟨L, hL⟩ : ∃ L, soL (m : Int) bs e = L := ⟨_, rfl⟩
          obtain ⟨M, hM⟩ : ∃ M, soM (m : Int) bs e = M := ⟨_, rfl⟩
          rw [hL] at c1
          rw [hM] at c2 hz
          have hz' : ¬ (M < 0) := by omega
          have HS0 := Lib.hid hs
          have HL0 := Lib.hid hL
          have HM0 := Lib.hid hM
          clear hs hx hy hL hM
          gi_wp2_with fail
          gi_region
          all_goals
            gi_wp2_with fail
            refine ⟨by simp, .inl ⟨_, _, rfl, run_takeDeferred (w := W.drew) hK, ?_⟩⟩
            refine ⟨.tuple #[.int .i64 L, .int .i64 M, .bool true], by simp [results, Try.f39, go_sem], tri_ret HL0.out HM0.out HS0.out ?_⟩
            exact HB.out.drew.trans (below_put _ (Array.getElem?_eq_some_iff.1 hK).1 (by have := HS.out; have := HS4.out; have := HSW.out; omega))
      case stop =>
        rintro D c pre W _ _ h _
        exact h.elim
    · obtain ⟨hN0, hN1, hN2⟩ := so_no (n := n) (bs := bs) (e := e) (by simp [k])
      have HN := Lib.hid (And.intro hN0 (And.intro hN1 hN2))
      clear hN0 hN1 hN2
      go_enter Try.func39, Try.ntmps39
      go_wp2_with fail
      rw [HW1.out]
      refine (implBidsOk_any _ _ _ _ HV.out).mono ?_
      rintro r w2 ⟨rfl, b2⟩
      rw [h]
      have HBW := Lib.hid (below_step HB1.out b2 HB1.out.size)
      have hce := HC1.out w2 b2
      clear b2 h
      go_wp2_with fail
      refine (implEventOk_any _ _ _).mono ?_
      rintro r w' ⟨rfl, rfl⟩
      rw [k]
      clear k
      go_wp2_with fail
      go_ret3
      exact tri_ret HN.out.1 HN.out.2.1 HN.out.2.2 HBW.out
  · obtain ⟨hN0, hN1, hN2⟩ := so_no (n := n) (bs := bs) (e := e) (by simp [h])
    have HN := Lib.hid (And.intro hN0 (And.intro hN1 hN2))
    clear hN0 hN1 hN2
    go_enter Try.func39, Try.ntmps39
    go_wp2_with fail
    rw [HW1.out]
    refine (implBidsOk_any _ _ _ _ HV.out).mono ?_
    rintro r w2 ⟨rfl, b2⟩
    rw [h]
    have HBW := Lib.hid (below_step HB1.out b2 HB1.out.size)
    have hce := HC1.out w2 b2
    clear b2 h
    go_wp2_with fail
    go_ret3
    exact tri_ret HN.out.1 HN.out.2.1 HN.out.2.2 HBW.out

/-! TightOk -/

theorem tight_parts {n : Int} {bs : List Bt} : tightB n bs = (sfairB n bs && bs.all (tight1 n bs)) := by rw [tightB, Bool.and_comm]

set_option maxHeartbeats 8000000 in
theorem reached_any (w : World) (n : Int) (v : Value) (bs : List Bt) (q : Bt) (hv : BRd w v bs) (hs : soB n bs q.1 = true) (hq : (0 ≤ q.2.1 ∧ q.2.1 ≤ 6) ∧ (0 ≤ q.2.2 ∧ q.2.2 ≤ 6)) :
    Calls Try.prog 98 #[.int .i64 n, v, bV q] w (BoolPost (tight1 n bs q) w) := by
  obtain ⟨e, lo, hi⟩ := q
  obtain ⟨⟨l1, l2⟩, h1, h2⟩ := hq
  have l1 : 0 ≤ lo := l1
  have l2 : lo ≤ 6 := l2
  have h1 : 0 ≤ hi := h1
  have h2 : hi ≤ 6 := h2
  have hs : soB n bs e = true := hs
  obtain ⟨⟨x1, x2⟩, y1, y2⟩ := so_bound hs
  obtain ⟨x, hx⟩ : ∃ x, soL n bs e = x := ⟨_, rfl⟩
  obtain ⟨y, hy⟩ : ∃ y, soM n bs e = y := ⟨_, rfl⟩
  have HT : Hid (tight1 n bs (e, lo, hi) = (decide (x * 6 = lo * 36) && decide (y * 6 = hi * 36))) := Lib.hid (by rw [← hx, ← hy]; show (soB n bs e && _) = _; rw [hs]; rfl)
  rw [hx] at x1 x2
  rw [hy] at y1 y2
  have HX := Lib.hid hx
  have HY := Lib.hid hy
  have HS := Lib.hid hs
  have hB1 : Below w.heap.size w (w.alloc (bBlk (e, lo, hi))) := (Below.refl _ _).alloc (Nat.le_refl _) _
  have HV := Lib.hid (hv.keep (SameAt.of_below hB1))
  have HB1 := Lib.hid hB1
  have HCC : Hid (∀ w2, Below (w.alloc (bBlk (e, lo, hi))).heap.size (w.alloc (bBlk (e, lo, hi))) w2 → w2.cell? ⟨w.heap.size, 1, none⟩ = some (.int .i64 lo) ∧ w2.cell? ⟨w.heap.size, 2, none⟩ = some (.int .i64 hi)) := Lib.hid (fun w2 h => (bbox_cells h).2)
  clear hv hs hx hy hB1
  unfold bBlk at HV HB1 HCC
  unfold bV
  have hwx : IntKind.i64.wrap (x * 6) = x * 6 := IntWalk.i64_in _ (by omega)
  have hwy : IntKind.i64.wrap (y * 6) = y * 6 := IntWalk.i64_in _ (by omega)
  have hwl : IntKind.i64.wrap (lo * 36) = lo * 36 := IntWalk.i64_in _ (by omega)
  have hwh : IntKind.i64.wrap (hi * 36) = hi * 36 := IntWalk.i64_in _ (by omega)
  rcases Bool.eq_false_or_eq_true (x * 6 == lo * 36) with c1 | c1
  all_goals
    rcases Bool.eq_false_or_eq_true (y * 6 == hi * 36) with c2 | c2
    all_goals
      have HR : Hid (tight1 n bs (e, lo, hi) = ((x * 6 == lo * 36) && (y * 6 == hi * 36))) := Lib.hid HT.out
      rw [c1, c2] at HR
      go_enter Try.func98, Try.ntmps98
      go_wp2_with fail
      refine (implSidesOn_any _ n _ bs e HV.out).mono ?_
      rintro r w2 ⟨rfl, b2⟩
      rw [HX.out, HY.out, HS.out]
      obtain ⟨k1, k2⟩ := HCC.out w2 b2
      have HB2 := Lib.hid (below_step HB1.out b2 HB1.out.size)
      clear b2
      go_wp2_with fail
      go_ret
      exact ⟨ret_bool HR.out.symm, HB2.out⟩

set_option maxHeartbeats 4000000 in
theorem tightTest_any (W : World) (so : Bool) (q : Bt) (B : Nat) (n : Int) (v : Value) (bs : List Bt) (hB : W.cell? ⟨B, 0, none⟩ = some (.int .i64 n)) (hB2 : W.cell? ⟨B + 1, 0, none⟩ = some v) (hv : BRd W v bs) (hs : soB n bs q.1 = true) (hq : (0 ≤ q.2.1 ∧ q.2.1 ≤ 6) ∧ (0 ≤ q.2.2 ∧ q.2.2 ≤ 6)) :
    Calls Try.prog 97 #[.bool so, bV q, .pointer (some ⟨B, 0, none⟩), .pointer (some ⟨B + 1, 0, none⟩)] W (BoolPost (so && tight1 n bs q) W) := by
  obtain ⟨A, c, rfl, hl, hmx⟩ := id hv.form
  obtain ⟨e, lo, hi⟩ := q
  have HBw : Hid (Below W.heap.size W (W.alloc (bBlk (e, lo, hi)))) := Lib.hid ((Below.refl _ _).alloc (Nat.le_refl _) _)
  have hcb : (W.alloc (.cells #[.int .i64 e, .int .i64 lo, .int .i64 hi] 28)).cell? ⟨B, 0, none⟩ = some (.int .i64 n) := old_cell _ hB
  have hcc : (W.alloc (.cells #[.int .i64 e, .int .i64 lo, .int .i64 hi] 28)).cell? ⟨B + 1, 0, none⟩ = some (.slice A bs.length c) := old_cell _ hB2
  have HV := Lib.hid (hv.keep (SameAt.of_below HBw.out))
  unfold bBlk at HBw HV
  have HC := Lib.hid (fun W' (hv' : BRd W' (.slice A bs.length c) bs) => reached_any W' n _ bs (e, lo, hi) hv' hs hq)
  clear hB hB2 hv hs hq
  cases so
  · unfold bV
    go_enter Try.func97, Try.ntmps97
    go_wp2_with fail
    go_ret
    exact ⟨ret_bool rfl, HBw.out⟩
  · obtain ⟨t, ht⟩ : ∃ t, tight1 n bs (e, lo, hi) = t := ⟨_, rfl⟩
    rw [ht] at HC
    rw [ht]
    clear ht
    unfold bV at HC ⊢
    go_enter Try.func97, Try.ntmps97
    go_wp2_with fail
    refine (HC.out _ HV.out).mono ?_
    rintro r w2 ⟨rfl, b2⟩
    have HB2 := Lib.hid (below_step HBw.out b2 HBw.out.size)
    clear b2
    go_wp2_with fail
    go_ret
    exact ⟨ret_bool (by simp), HB2.out⟩

set_option maxHeartbeats 4000000 in
theorem foldTight_any (w : World) (u : Value) (bs : List Bt) (n : Int) (B : Nat) (hu : BRd w u bs) (hT : ∀ A so q, Below w.heap.size w A → q ∈ bs → Calls Try.prog 97 #[.bool so, bV q, .pointer (some ⟨B, 0, none⟩), .pointer (some ⟨B + 1, 0, none⟩)] A (BoolPost (so && tight1 n bs q) A)) :
    Calls Try.prog 58 #[u, .bool true, .func (.func 97) #[] #[.pointer (some ⟨B, 0, none⟩), .pointer (some ⟨B + 1, 0, none⟩)]] w (BoolPost (bs.all (tight1 n bs)) w) := by
  obtain ⟨A, c, rfl, hl, hmx⟩ := hu.form
  have HT := Lib.hid hT
  have HU := Lib.hid hu
  clear hu hT
  go_enter Try.func58, Try.ntmps58
  go_wp2_with fail
  go_loopw [1, 11] (fun t i wr => ∃ (k : Nat) (b : Bool), i = .int .i64 (k : Int) ∧ k ≤ bs.length ∧ t = .bool b ∧ Hid (b = (bs.take k).all (tight1 n bs)) ∧ Hid (Below w.heap.size w wr)) (fun _ i _ => bs.length - (intOf i).toNat)
  case atStart => exact ⟨0, true, rfl, Nat.zero_le _, rfl, Lib.hid (by simp), Lib.hid (Below.refl _ _)⟩
  case round =>
    obtain ⟨k, t, rfl, hk, rfl, HN, HB⟩ := hrel
    by_cases hlt : k < bs.length
    · obtain ⟨b, off, ⟨e, lo, hi⟩, rfl, -, hx, hc0, hc1, hc2⟩ := BRd.at_ (HU.out.keep (SameAt.of_below HB.out)) hlt
      have HX := Lib.hid hx
      clear hx
      go_wp2_with fail
      refine (HT.out _ t (e, lo, hi) (HB.out.alloc HB.out.size _) (List.mem_of_getElem? HX.out)).mono ?_
      rintro r w2 ⟨rfl, b2⟩
      have HB2 : Hid (Below w.heap.size w w2) := Lib.hid (below_step (HB.out.alloc HB.out.size _) b2 (by simp; have := HB.out.size; omega))
      clear b2 hc0 hc1 hc2
      obtain ⟨t2, ht2⟩ : ∃ t2, (t && (tight1 n bs) (e, lo, hi)) = t2 := ⟨_, rfl⟩
      rw [ht2]
      have HT2 := Lib.hid ht2
      clear ht2
      go_wp2_with fail
      go_roundw
      case rel => exact ⟨k + 1, t2, by go_num, by omega, rfl, Lib.hid (by rw [ball_step HX.out, ← HN.out]; exact HT2.out.symm), HB2⟩
      case measure => simp [intOf]; omega
    · go_wp2_with fail
      go_ret
      exact ⟨ret_bool (by have := HN.out; rw [List.take_of_length_le (by omega)] at this; exact this), HB.out⟩

set_option maxHeartbeats 4000000 in
theorem implTightOk_any (w : World) (n : Int) (v : Value) (bs : List Bt) (hv : BRd w v bs) :
    Calls Try.prog 45 #[.int .i64 n, v] w (BoolPost (tightB n bs) w) := by
  obtain ⟨A, c, rfl, hl, hmx⟩ := id hv.form
  obtain ⟨w1, hw1⟩ : ∃ w1, (w.alloc (.cells #[.int .i64 n] 3)).alloc (.cells #[.slice A bs.length c] 23) = w1 := ⟨_, rfl⟩
  have hsz1 : w1.heap.size = w.heap.size + 2 := by rw [← hw1]; simp
  have hBw : Below w.heap.size w w1 := by rw [← hw1]; exact ((Below.refl _ _).alloc (Nat.le_refl _) _).alloc (by simp) _
  have hn0 : w1.cell? ⟨w.heap.size, 0, none⟩ = some (.int .i64 n) := by
    rw [← hw1]; exact old_cell _ (new_cell w (.int .i64 n) 3).1
  have hn1 : w1.cell? ⟨w.heap.size + 1, 0, none⟩ = some (.slice A bs.length c) := by
    have h1 := new_cell (w.alloc (.cells #[.int .i64 n] 3)) (.slice A bs.length c) 23
    rw [World.size_alloc] at h1
    rw [← hw1]; exact h1.1
  have HARG : Hid (∀ B, Below w1.heap.size w1 B → B.cell? ⟨w.heap.size, 0, none⟩ = some (.int .i64 n) ∧ B.cell? ⟨w.heap.size + 1, 0, none⟩ = some (.slice A bs.length c) ∧ BRd B (.slice A bs.length c) bs ∧ Below w.heap.size w B) := Lib.hid (fun B hb =>
    ⟨(hb.cell (p := ⟨w.heap.size, 0, none⟩) (show w.heap.size < w1.heap.size by omega)).trans hn0, (hb.cell (p := ⟨w.heap.size + 1, 0, none⟩) (show w.heap.size + 1 < w1.heap.size by omega)).trans hn1,
      (hv.keep (SameAt.of_below hBw)).keep (SameAt.of_below hb), hBw.trans (hb.mono (by omega))⟩)
  have HS1 := Lib.hid hsz1
  have HW1 := Lib.hid hw1
  clear hv hsz1 hBw hn0 hn1 hw1
  have hs1 : (w.alloc (.cells #[.int .i64 n] 3)).heap.size = w.heap.size + 1 := by simp
  obtain ⟨hc0, hc1, hv0, -⟩ := HARG.out w1 (Below.refl _ _)
  have HV0 := Lib.hid hv0
  clear hv0
  rcases Bool.eq_false_or_eq_true (sfairB n bs) with h | h
  · have HP : Hid (tightB n bs = bs.all (tight1 n bs)) := Lib.hid (by rw [tight_parts, h]; rfl)
    have hb : bidsB n bs = true := by rw [sfairB, Bool.and_eq_true] at h; exact h.1
    have ha : anyS n.toNat bs = true := by rw [sfairB, Bool.and_eq_true] at h; exact h.2
    have HSO : Hid (∀ q ∈ bs, soB n bs q.1 = true ∧ ((0 ≤ q.2.1 ∧ q.2.1 ≤ 6) ∧ (0 ≤ q.2.2 ∧ q.2.2 ≤ 6))) := Lib.hid (fun q hq => by
      have h1 : 1 ≤ n := ((bidsB_iff _ _).1 hb).1.1
      have h2 := ((bidB_iff _ _).1 (((bidsB_iff _ _).1 hb).2.2 q hq)).1
      obtain ⟨m, rfl⟩ : ∃ m : Nat, n = m := ⟨n.toNat, by omega⟩
      rw [so_any hb h2]
      rw [Int.toNat_natCast] at ha
      exact ⟨ha, (bids_of hb q hq).2⟩)
    clear ha hb
    go_enter Try.func45, Try.ntmps45
    go_wp2_with fail
    rw [HW1.out]
    refine (implSidesFair_any _ _ _ _ HV0.out).mono ?_
    rintro e w2 ⟨rfl, b2⟩
    rw [h]
    have HB2 := Lib.hid b2
    obtain ⟨hc2, hc3, hv2, hb2⟩ := HARG.out w2 b2
    have HV2 := Lib.hid hv2
    have HBW := Lib.hid hb2
    clear b2 h hc0 hc1 hv2 hb2
    go_wp2_with fail
    refine (foldTight_any w2 _ bs n w.heap.size HV2.out (fun A' so q hA hq => ?_)).mono ?_
    · obtain ⟨k0, k1, k2, -⟩ := HARG.out A' (HB2.out.trans (hA.mono HB2.out.size))
      exact tightTest_any A' so q _ n _ bs k0 k1 k2 (HSO.out q hq).1 (HSO.out q hq).2
    rintro r w3 ⟨rfl, b3⟩
    have HB3 := Lib.hid (below_step HBW.out b3 HBW.out.size)
    clear b3 hc2 hc3
    go_wp2_with fail
    go_ret
    exact ⟨ret_bool HP.out.symm, HB3.out⟩
  · have HP : Hid (tightB n bs = false) := Lib.hid (by rw [tight_parts, h]; rfl)
    go_enter Try.func45, Try.ntmps45
    go_wp2_with fail
    rw [HW1.out]
    refine (implSidesFair_any _ _ _ _ HV0.out).mono ?_
    rintro e w2 ⟨rfl, b2⟩
    rw [h]
    have HB2 := Lib.hid (HARG.out w2 b2).2.2.2
    clear b2 h hc0 hc1
    go_wp2_with fail
    go_ret
    exact ⟨ret_bool HP.out.symm, HB2.out⟩

end Go.Proofs.Ytodmgcbcacblbaa
