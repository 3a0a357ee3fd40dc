/- The search for losing stakes as a function of lists. No condition. Contracts on spec's chapter 5: LosesBy. No condition. Contracts on spec's chapter 5: l5Search. Conditions: stated at each. Contracts on spec's chapter 5: LosingStakes, SafeOk, SureLossOf. Conditions: stated at each. -/
import Derived.Test.YtfjmlbcmidichaaSx
import Derived.Test.YtfjmlbcmidichaaQi
import Derived.Test.YtfjmlbcmidichaaMe
import Derived.Laws.AppendOwnNone
namespace Go.Proofs.Ytfjmlbcmidichaa
set_option linter.unusedVariables false

/-- stakes surely lose -/
def lossB (n : Int) (qs : List Qt) (ss : List Int) : Bool := balB n qs ss && losesB (balL n qs ss)

theorem loss_two {n : Int} {qs : List Qt} {ss : List Int} (hb : bokB n qs = true) (hl : ss.length = qs.length) (h2 : Two2 ss) : lossB n qs ss = losesB (balL n qs ss) := by
  rw [lossB, balB_two hb hl h2, Bool.true_and]

/-- the first stakes that go on these, k more, with so much left -/
def searchL (n : Int) (qs : List Qt) (ts : List Int) (k : Nat) (left : Int) : List Int :=
  match (stks k left.toNat).find? fun t => losesB (balL n qs (ts ++ t)) with
  | some t => ts ++ t
  | none => []

theorem search_zero (n : Int) (qs : List Qt) (ts : List Int) {left : Int} (h0 : 0 ≤ left) : searchL n qs ts 0 left = if (left == 0 && losesB (balL n qs ts)) = true then ts else [] := by
  unfold searchL stks
  by_cases h : left = 0
  · subst h
    simp only [Int.toNat_zero, if_true, List.find?_cons, List.append_nil, beq_self_eq_true, Bool.true_and]
    cases hb : losesB (balL n qs ts) <;> simp
  · have h1 : ¬ left.toNat = 0 := by omega
    have h2 : (left == 0) = false := by simp [h]
    rw [if_neg h1, h2]
    simp

def subL (n : Int) (qs : List Qt) (ts : List Int) (k : Nat) (left s : Int) : List Int :=
  if (s.natAbs : Int) ≤ left then searchL n qs (ts ++ [s]) k (left - s.natAbs) else []

def overL (n : Int) (qs : List Qt) (ts : List Int) (k : Nat) (left : Int) : List Int → List Int
  | [] => []
  | s :: l => match subL n qs ts k left s with
    | [] => overL n qs ts k left l
    | x :: xs => x :: xs

theorem search_flat (n : Int) (qs : List Qt) (ts : List Int) (k : Nat) {left : Int} (h0 : 0 ≤ left) (l : List Int) :
    (match ((l.filter fun s => decide (s.natAbs ≤ left.toNat)).flatMap fun s => (stks k (left.toNat - s.natAbs)).map fun t => s :: t).find? fun t => losesB (balL n qs (ts ++ t)) with
      | some t => ts ++ t
      | none => []) = overL n qs ts k left l := by
  induction l with
  | nil => rfl
  | cons s l ih =>
    unfold overL
    by_cases h : s.natAbs ≤ left.toNat
    · rw [List.filter_cons, if_pos (by simpa using h), List.flatMap_cons, List.find?_append]
      have e1 : (left - (s.natAbs : Int)).toNat = left.toNat - s.natAbs := by omega
      rw [subL, if_pos (by omega), searchL, e1]
      rw [List.find?_map]
      have e2 : ((fun t => losesB (balL n qs (ts ++ t))) ∘ fun t => s :: t) = fun t => losesB (balL n qs (ts ++ [s] ++ t)) := by
        funext t; simp [Function.comp]
      rw [e2]
      cases hf : (stks k (left.toNat - s.natAbs)).find? fun t => losesB (balL n qs (ts ++ [s] ++ t)) with
      | none => simpa using ih
      | some t =>
        obtain ⟨y, ys, hy⟩ : ∃ y ys, ts ++ [s] ++ t = y :: ys := by
          cases ts with
          | nil => exact ⟨s, t, rfl⟩
          | cons a b => exact ⟨a, b ++ [s] ++ t, rfl⟩
        have hz : ts ++ s :: t = y :: ys := by rw [← hy]; simp
        simp only [Option.map_some, Option.some_or, hz, hy]
    · rw [List.filter_cons, if_neg (by simpa using h)]
      rw [subL, if_neg (by omega)]
      exact ih

theorem search_succ (n : Int) (qs : List Qt) (ts : List Int) (k : Nat) {left : Int} (h0 : 0 ≤ left) : searchL n qs ts (k + 1) left = overL n qs ts k left tries := by
  rw [searchL, stks]
  exact search_flat n qs ts k h0 tries

theorem over_skip {n : Int} {qs : List Qt} {ts : List Int} {k : Nat} {left s : Int} {l : List Int} (h : subL n qs ts k left s = []) : overL n qs ts k left (s :: l) = overL n qs ts k left l := by
  rw [overL, h]

theorem over_stop {n : Int} {qs : List Qt} {ts : List Int} {k : Nat} {left s : Int} {l : List Int} (h : 0 < (subL n qs ts k left s).length) : overL n qs ts k left (s :: l) = subL n qs ts k left s := by
  rw [overL]
  cases hx : subL n qs ts k left s with
  | nil => rw [hx] at h; exact absurd h (Nat.lt_irrefl 0)
  | cons y ys => rfl

theorem sub_far {n : Int} {qs : List Qt} {ts : List Int} {k : Nat} {left s : Int} (h : left < (s.natAbs : Int)) : subL n qs ts k left s = [] := by
  rw [subL, if_neg (by omega)]

theorem sub_near {n : Int} {qs : List Qt} {ts : List Int} {k : Nat} {left s : Int} (h : (s.natAbs : Int) ≤ left) : subL n qs ts k left s = searchL n qs (ts ++ [s]) k (left - s.natAbs) := by
  rw [subL, if_pos h]

theorem search_len {n : Int} {qs : List Qt} {ts : List Int} {k : Nat} {left : Int} : (searchL n qs ts k left).length = 0 ∨ (searchL n qs ts k left).length = ts.length + k := by
  unfold searchL
  split
  · rename_i t ht
    have := ((mem_stks _ _ _).1 (List.mem_of_find?_eq_some ht)).1
    exact .inr (by rw [List.length_append, this])
  · exact .inl rfl

/-- the search from nothing on is the first losing stakes of this sum -/
theorem search_lose {n : Int} {qs : List Qt} {sum : Nat} (h1 : 1 ≤ sum) : loseIn n qs sum = if 0 < (searchL n qs [] qs.length (sum : Int)).length then some (searchL n qs [] qs.length (sum : Int)) else none := by
  rw [searchL, loseIn, Int.toNat_natCast]
  show _ = _
  simp only [List.nil_append]
  cases hf : (stks qs.length sum).find? fun t => losesB (balL n qs t) with
  | none => rfl
  | some t =>
    have h2 := ((mem_stks _ _ _).1 (List.mem_of_find?_eq_some hf)).2.2
    have : 0 < t.length := by
      cases t with
      | nil => simp [absSum] at h2; omega
      | cons a b => simp
    simp [this]

/-- from such a sum on, up to the sum of 6 -/
theorem lose_step {n : Int} {qs : List Qt} {sum m : Nat} : loseFrom n qs sum (m + 1) = match loseIn n qs sum with
    | some ss => some ss
    | none => loseFrom n qs (sum + 1) m := rfl

/-- what is handed back -/
def lossR (n : Int) (qs : List Qt) : List Int := (losing n qs).getD []

def lossOk (n : Int) (qs : List Qt) : Bool := (losing n qs).isSome

theorem loss_no {n : Int} {qs : List Qt} (h : bokB n qs = false) : lossR n qs = [] ∧ lossOk n qs = false := by
  rw [lossR, lossOk, losing, h]; exact ⟨rfl, rfl⟩

theorem loss_yes {n : Int} {qs : List Qt} (h : bokB n qs = true) : losing n qs = loseFrom n qs 1 6 := by rw [losing, if_pos h]

end Go.Proofs.Ytfjmlbcmidichaa

namespace Go.Proofs.Ytfjmlbcmidichaa
open Go.RowKit
set_option linter.unusedVariables false

set_option maxHeartbeats 2000000 in
theorem specLosesBy_any (w : World) (n : Int) (v u : Value) (qs : List Qt) (ss : List Int) (hv : QRd w v qs) (hu : IRd w u ss) :
    Calls Try.prog 40 #[.int .i64 n, v, u] w (BoolPost (lossB n qs ss) w) := by
  have HV := Lib.hid hv
  have HU := Lib.hid hu
  clear hv hu
  rcases Bool.eq_false_or_eq_true (balB n qs ss) with h | h
  · have HE : Hid (lossB n qs ss = losesB (balR n qs ss)) := Lib.hid (by rw [lossB, h, Bool.true_and, balR_yes h])
    go_enter Try.func40, Try.ntmps40
    go_wp2_with fail
    refine (specBalanceOf_any _ _ _ _ _ _ HV.out HU.out).mono ?_
    rintro r w2 ⟨x, rfl, o2, b2⟩
    have HO := Lib.hid o2.rd
    have HB := Lib.hid b2
    rw [h]
    clear o2 b2 h
    go_wp2_with fail
    refine (specLosesOk_any _ _ _ HO.out).mono ?_
    rintro e w' ⟨rfl, rfl⟩
    go_wp2_with fail
    go_ret
    exact ⟨ret_bool HE.out.symm, HB.out⟩
  · have HE : Hid (lossB n qs ss = false) := Lib.hid (by rw [lossB, h, Bool.false_and])
    go_enter Try.func40, Try.ntmps40
    go_wp2_with fail
    refine (specBalanceOf_any _ _ _ _ _ _ HV.out HU.out).mono ?_
    rintro r w2 ⟨x, rfl, o2, b2⟩
    have HB := Lib.hid b2
    rw [h]
    clear o2 b2 h
    go_wp2_with fail
    go_ret
    exact ⟨ret_bool HE.out.symm, HB.out⟩

end Go.Proofs.Ytfjmlbcmidichaa

namespace Go.Proofs.Ytfjmlbcmidichaa
open Go.RowKit
set_option linter.unusedVariables false

theorem ints_one' (ys : List Int) : ∀ u ∈ ys.map (Value.int .i64), u.oneCell' = true := by
  intro u hu
  obtain ⟨x, -, rfl⟩ := List.mem_map.1 hu
  rfl

/-- some row of ints, which the call owns -/
def Rows (base : Nat) (xs : List Int) (w : World) (e : Ending) (w' : World) : Prop := ∃ v, e = .returned v ∧ IOwn w' base v xs ∧ Below w.heap.size w w'

theorem rows_ret {w w' : World} {base : Nat} {xs ys : List Int} {v : Value} (h : xs = ys) (o : IOwn w' base v ys) (b : Below w.heap.size w w') : Rows base xs w (.returned v) w' := by
  subst h; exact ⟨v, rfl, o, b⟩

theorem ird_news {w : World} {g n c : Nat} {ts : List Int} (h : IRd w (.slice (some ⟨g, 0, none⟩) n c) ts) : ∀ j u, (ts.map (Value.int .i64))[j]? = some u → w.cell? ((⟨g, 0, none⟩ : Addr).add j) = some u := by
  intro j u hu
  rw [List.getElem?_map] at hu
  cases hx : ts[j]? with
  | none => rw [hx] at hu; cases hu
  | some x =>
    rw [hx] at hu
    obtain rfl := Option.some.inj hu
    have := IRd.cellk h hx
    rw [addr_add]
    exact this

theorem below_app {w w' : World} {o : Obj} {row : Option Nat} (hg : (w.alloc o).grownBy w' row) (hr : ∀ k, row = some k → w.heap.size ≤ k) : Below w.heap.size w w' :=
  (Below.refl _ w).grown (grown_after (w := w) ((Below.refl _ w).alloc (Nat.le_refl _) _) hg) (Nat.le_refl _) hr

/-- up to here nothing was found -/
def SrchRel (w : World) (n : Int) (qs : List Qt) (ts : List Int) (k : Nat) (left : Int) (d : Nat) (wr : World) : Prop :=
  Below w.heap.size w wr ∧ overL n qs ts k left tries = overL n qs ts k left (tries.drop d)

set_option maxHeartbeats 8000000 in
theorem l5Search_any (k : Nat) : ∀ (w : World) (base : Nat) (n : Int) (v : Value) (qs : List Qt) (g cap : Nat) (ts : List Int) (left : Int) (hv : QRd w v qs) (hb : bokB n qs = true) (h2 : Two2 ts) (hl : ts.length + k = qs.length)
    (hu : IOwn w base (.slice (some ⟨g, 0, none⟩) ts.length cap) ts) (l0 : 0 ≤ left) (l6 : left ≤ 6) (hbase : base ≤ w.heap.size),
    Calls Try.prog 76 #[.int .i64 n, v, .slice (some ⟨g, 0, none⟩) ts.length cap, .int .i64 left] w (Rows base (searchL n qs ts k left) w) := by
  induction k with
  | zero =>
    intro w base n v qs g cap ts left hv hb h2 hl hu l0 l6 hbase
    obtain ⟨A, c, rfl, hl1, hm1⟩ := hv.form
    have HV := Lib.hid hv
    have HU := Lib.hid hu
    have HE := Lib.hid (loss_two hb (by omega) h2)
    have HS := Lib.hid (search_zero n qs ts l0)
    have hs1 : ((ts.length : Int) == (qs.length : Int)) = true := by simp; omega
    have hq3 := ((bokB_iff _ _).1 hb).2.1
    clear hv hu hl hl1 hb h2
    rcases Bool.eq_false_or_eq_true (left == 0) with hz | hz
    · have h0 : left = 0 := by simpa using hz
      subst h0
      clear hz
      obtain ⟨t, ht⟩ : ∃ t, losesB (balL n qs ts) = t := ⟨_, rfl⟩
      have HT := Lib.hid ht
      clear ht
      go_enter Try.func76, Try.ntmps76
      go_wp2_with fail
      refine (specLosesBy_any _ _ _ _ _ _ HV.out HU.out.rd).mono ?_
      rintro r w2 ⟨rfl, b2⟩
      rw [HE.out, HT.out]
      have HB := Lib.hid b2
      clear b2
      cases t
      · go_wp2_with fail
        go_ret
        exact rows_ret (by rw [HS.out, HT.out]; rfl) (lit_own _ _ (Nat.le_trans hbase HB.out.size)) (HB.out.alloc HB.out.size _)
      · go_wp2_with fail
        go_ret
        exact rows_ret (by rw [HS.out, HT.out]; rfl) (HU.out.keep (SameAt.of_below HB.out)) HB.out
    · have hz' : ¬ left = 0 := by intro h; subst h; cases hz
      have HZ := Lib.hid hz
      go_enter Try.func76, Try.ntmps76
      go_wp2_with fail
      go_ret
      exact rows_ret (by rw [HS.out, HZ.out]; rfl) (lit_own _ _ hbase) ((Below.refl _ _).alloc (Nat.le_refl _) _)
  | succ k ih =>
    intro w base n v qs g cap ts left hv hb h2 hl hu l0 l6 hbase
    obtain ⟨A, c, rfl, hl1, hm1⟩ := hv.form
    have HV := Lib.hid hv
    have HU := Lib.hid hu
    have HS := Lib.hid (search_succ n qs ts k l0)
    have hs1 : ((ts.length : Int) == (qs.length : Int)) = false := by simp; omega
    have hq3 := ((bokB_iff _ _).1 hb).2.1
    have ht3 : ts.length ≤ 2 := by omega
    have HL := Lib.hid hl
    have HBK := Lib.hid hb
    have H2 := Lib.hid h2
    have IH := Lib.hid ih
    clear hv hu hl hl1 hb h2 ih
    go_enter Try.func76, Try.ntmps76
    go_wp2_with fail
    have hw0 : wrap64 0 = 0 := by unfold wrap64; omega
    have hw1 : wrap64 1 = 1 := by unfold wrap64; omega
    have hw2 : wrap64 2 = 2 := by unfold wrap64; omega
    have hw3 : wrap64 3 = 3 := by unfold wrap64; omega
    have hv1 : wrap64 (-1) = -1 := by unfold wrap64; omega
    have hv2 : wrap64 (-2) = -2 := by unfold wrap64; omega
    obtain ⟨i0, hi, hz0, hz1, hz2⟩ := info_parts Try_intinfo
    go_loopg [9] 6 (fun gk s wr => ∃ (d : Nat) (x : Int), gk = 6 - d ∧ d ≤ 5 ∧ s = .int .i64 x ∧ x = (d : Int) - 2 ∧ Hid (SrchRel w n qs ts k left d wr))
    case atStart => exact ⟨0, -2, rfl, by omega, rfl, rfl, Lib.hid ⟨Below.refl _ _, rfl⟩⟩
    case round =>
      obtain ⟨d, x, hgk, hd, rfl, hx, HR⟩ := hrel
      obtain ⟨hBW, hov⟩ := HR.out
      have hsz := hBW.size
      have HBW := Lib.hid hBW
      have HOV := Lib.hid hov
      clear HR hBW hov
      rcases Nat.lt_or_ge d 5 with h5 | h5
      · obtain ⟨a, ha⟩ : ∃ a : Int, a = (x.natAbs : Int) := ⟨_, rfl⟩
        have HTD : Hid (tries.drop d = x :: tries.drop (d + 1)) := Lib.hid (by
          rw [hx]
          rcases (by omega : d = 0 ∨ d = 1 ∨ d = 2 ∨ d = 3 ∨ d = 4) with rfl | rfl | rfl | rfl | rfl <;> rfl)
        have HX2 : Hid (-2 ≤ x ∧ x ≤ 2) := Lib.hid (by omega)
        by_cases hle : a ≤ left
        · have HSUB : Hid (subL n qs ts k left x = searchL n qs (ts ++ [x]) k (left - a)) := Lib.hid (by rw [ha]; exact sub_near (by omega))
          obtain ⟨res, hres⟩ : ∃ res, searchL n qs (ts ++ [x]) k (left - a) = res := ⟨_, rfl⟩
          have hrl : res.length ≤ 3 := by
            have h1 := search_len (n := n) (qs := qs) (ts := ts ++ [x]) (k := k) (left := left - a)
            rw [hres, List.length_append, List.length_singleton] at h1
            have h2 := HL.out
            omega
          have HRES := Lib.hid hres
          have h2' : Two2 (ts ++ [x]) := fun y hy => by
            rcases List.mem_append.1 hy with h | h
            · exact H2.out y h
            · obtain rfl := List.mem_singleton.1 h; exact HX2.out
          obtain ⟨us, hus⟩ : ∃ us, us = ts ++ [x] := ⟨_, rfl⟩
          have hul : us.length + k = qs.length ∧ 0 < us.length := by
            have h2 := HL.out
            rw [hus, List.length_append, List.length_singleton]
            omega
          rw [← hus] at h2'
          have HUL := Lib.hid hul
          have HUS := Lib.hid hus
          have H2' := Lib.hid h2'
          clear h2' hres hul hus
          have hown := Lib.hid (lit_own wr wr.heap.size (Nat.le_refl _))
          have hnews := Lib.hid (ird_news ((HU.out.keep (SameAt.of_below HBW.out)).rd.keep (SameAt.grow (w' := wr.alloc (.cells #[] 3)) rfl)))
          rcases (by omega : (d = 0 ∧ x = -2 ∧ a = 2) ∨ (d = 1 ∧ x = -1 ∧ a = 1) ∨ (d = 2 ∧ x = 0 ∧ a = 0) ∨ (d = 3 ∧ x = 1 ∧ a = 1) ∨ (d = 4 ∧ x = 2 ∧ a = 2)) with ⟨rfl, rfl, rfl⟩ | ⟨rfl, rfl, rfl⟩ | ⟨rfl, rfl, rfl⟩ | ⟨rfl, rfl, rfl⟩ | ⟨rfl, rfl, rfl⟩
          · clear hx ha
            go_wp2_with (at_builtin; refine wpList_append_own _ rfl (.tmp 38) (.tmp 39) 26 rfl wr.heap.size 3 i0 (.int .i64 0) 1 8 Try.underlying26 hi hz0 hz1 hz2 rfl (by decide) _ _ _ rfl hown.out ⟨g, 0, none⟩ ts.length cap (ts.map (Value.int .i64)) rfl ?c00 hnews.out (ints_one' ts) ?c03 ?c04 ?c05 ?_)
            case c00 => simp
            case c03 => unfold maxLen; simp; omega
            case c04 => simp; omega
            case c05 => simp
            intro v1 w1 hown1 hgrow1 _
            have hown1 : w1.ownsRow wr.heap.size 3 1 v1 ts.length (ts.map (Value.int .i64)) := by simpa using hown1
            have b1 : Below wr.heap.size wr w1 := below_app hgrow1 (fun k hk => by have h1 : wr.heap.size = k := Option.some.inj hk; omega)
            have hge1 := World.ownsRow.lt hown1
            have hs1' := b1.size
            have HB1 := Lib.hid b1
            have HGE := Lib.hid hge1
            have hown2 := Lib.hid (World.ownsRow.alloc (w := w1) hown1 (.cells #[.int .i64 (-2)] 3))
            clear hown hnews hown1 hgrow1 b1 hge1
            go_wp2_with (at_builtin; refine wpList_append_own _ rfl (.tmp 40) (.tmp 42) 26 rfl wr.heap.size 3 i0 (.int .i64 0) 1 8 Try.underlying26 hi hz0 hz1 hz2 rfl (by decide) _ _ _ rfl hown2.out ⟨w1.heap.size, 0, none⟩ 1 1 [.int .i64 (-2)] rfl rfl ?d01 one_int ?d03 ?d04 ?d05 ?_)
            case d01 => exact one_new w1 _ _
            case d03 => unfold maxLen; omega
            case d04 => omega
            case d05 => simp; omega
            intro v2 w2 hown3 hgrow2 _
            have o2 : IOwn w2 wr.heap.size v2 us := by rw [HUS.out]; unfold IOwn; simpa using hown3
            have b2 : Below wr.heap.size wr w2 := (HB1.out.alloc HB1.out.size _).grown hgrow2 (by simp; omega) (fun k hk => (HGE.out k hk).1)
            obtain ⟨g2, c2, rfl, hc2, hm2⟩ := o2.form HUL.out.2
            have hs2' := b2.size
            have HO2 := Lib.hid o2
            have HB2 := Lib.hid b2
            clear hown2 hown3 hgrow2 o2 b2 HB1 HGE
            go_wp2_with fail
            refine (IH.out w2 wr.heap.size n _ qs g2 c2 us _ ((HV.out.keep (SameAt.of_below HBW.out)).keep (SameAt.of_below HB2.out)) HBK.out H2'.out HUL.out.1 HO2.out (by omega) (by omega) hs2').mono ?_
            rintro r w3 ⟨v3, rfl, o3, b3⟩
            rw [HUS.out] at o3
            first
              | rw [HRES.out] at o3
              | (have h0 := HRES.out; rw [Int.sub_zero] at h0; rw [h0] at o3)
            obtain ⟨A3, c3, rfl, hl3, hm3, -⟩ := id o3.rd
            have HO3 := Lib.hid (o3.base (Nat.le_trans hbase hsz))
            have HB3 := Lib.hid (below_step HBW.out (below_step HB2.out b3 hs2') hsz)
            clear o3 b3 HO2 HB2
            by_cases hz : (res.length : Int) ≤ 0
            · have HE : Hid (subL n qs ts k left (-2) = []) := Lib.hid (by rw [HSUB.out, HRES.out]; exact List.eq_nil_of_length_eq_zero (by omega))
              go_wp2_with fail
              go_roundg (6 - (0 + 1))
              case measure => omega
              case rel => exact ⟨0 + 1, (-2) + 1, rfl, by omega, by simp, by omega, Lib.hid ⟨HB3.out, by rw [HOV.out, HTD.out, over_skip HE.out]⟩⟩
            · have HE : Hid (overL n qs ts k left ((-2) :: tries.drop (0 + 1)) = res) := Lib.hid (by
                rw [← HRES.out, ← HSUB.out]
                exact over_stop (by rw [HSUB.out, HRES.out]; omega))
              go_wp2_with fail
              go_ret
              exact rows_ret (by rw [HS.out, HOV.out, HTD.out, HE.out]) HO3.out HB3.out
          · clear hx ha
            go_wp2_with (at_builtin; refine wpList_append_own _ rfl (.tmp 38) (.tmp 39) 26 rfl wr.heap.size 3 i0 (.int .i64 0) 1 8 Try.underlying26 hi hz0 hz1 hz2 rfl (by decide) _ _ _ rfl hown.out ⟨g, 0, none⟩ ts.length cap (ts.map (Value.int .i64)) rfl ?c10 hnews.out (ints_one' ts) ?c13 ?c14 ?c15 ?_)
            case c10 => simp
            case c13 => unfold maxLen; simp; omega
            case c14 => simp; omega
            case c15 => simp
            intro v1 w1 hown1 hgrow1 _
            have hown1 : w1.ownsRow wr.heap.size 3 1 v1 ts.length (ts.map (Value.int .i64)) := by simpa using hown1
            have b1 : Below wr.heap.size wr w1 := below_app hgrow1 (fun k hk => by have h1 : wr.heap.size = k := Option.some.inj hk; omega)
            have hge1 := World.ownsRow.lt hown1
            have hs1' := b1.size
            have HB1 := Lib.hid b1
            have HGE := Lib.hid hge1
            have hown2 := Lib.hid (World.ownsRow.alloc (w := w1) hown1 (.cells #[.int .i64 (-1)] 3))
            clear hown hnews hown1 hgrow1 b1 hge1
            go_wp2_with (at_builtin; refine wpList_append_own _ rfl (.tmp 40) (.tmp 42) 26 rfl wr.heap.size 3 i0 (.int .i64 0) 1 8 Try.underlying26 hi hz0 hz1 hz2 rfl (by decide) _ _ _ rfl hown2.out ⟨w1.heap.size, 0, none⟩ 1 1 [.int .i64 (-1)] rfl rfl ?d11 one_int ?d13 ?d14 ?d15 ?_)
            case d11 => exact one_new w1 _ _
            case d13 => unfold maxLen; omega
            case d14 => omega
            case d15 => simp; omega
            intro v2 w2 hown3 hgrow2 _
            have o2 : IOwn w2 wr.heap.size v2 us := by rw [HUS.out]; unfold IOwn; simpa using hown3
            have b2 : Below wr.heap.size wr w2 := (HB1.out.alloc HB1.out.size _).grown hgrow2 (by simp; omega) (fun k hk => (HGE.out k hk).1)
            obtain ⟨g2, c2, rfl, hc2, hm2⟩ := o2.form HUL.out.2
            have hs2' := b2.size
            have HO2 := Lib.hid o2
            have HB2 := Lib.hid b2
            clear hown2 hown3 hgrow2 o2 b2 HB1 HGE
            go_wp2_with fail
            refine (IH.out w2 wr.heap.size n _ qs g2 c2 us _ ((HV.out.keep (SameAt.of_below HBW.out)).keep (SameAt.of_below HB2.out)) HBK.out H2'.out HUL.out.1 HO2.out (by omega) (by omega) hs2').mono ?_
            rintro r w3 ⟨v3, rfl, o3, b3⟩
            rw [HUS.out] at o3
            first
              | rw [HRES.out] at o3
              | (have h0 := HRES.out; rw [Int.sub_zero] at h0; rw [h0] at o3)
            obtain ⟨A3, c3, rfl, hl3, hm3, -⟩ := id o3.rd
            have HO3 := Lib.hid (o3.base (Nat.le_trans hbase hsz))
            have HB3 := Lib.hid (below_step HBW.out (below_step HB2.out b3 hs2') hsz)
            clear o3 b3 HO2 HB2
            by_cases hz : (res.length : Int) ≤ 0
            · have HE : Hid (subL n qs ts k left (-1) = []) := Lib.hid (by rw [HSUB.out, HRES.out]; exact List.eq_nil_of_length_eq_zero (by omega))
              go_wp2_with fail
              go_roundg (6 - (1 + 1))
              case measure => omega
              case rel => exact ⟨1 + 1, (-1) + 1, rfl, by omega, by simp, by omega, Lib.hid ⟨HB3.out, by rw [HOV.out, HTD.out, over_skip HE.out]⟩⟩
            · have HE : Hid (overL n qs ts k left ((-1) :: tries.drop (1 + 1)) = res) := Lib.hid (by
                rw [← HRES.out, ← HSUB.out]
                exact over_stop (by rw [HSUB.out, HRES.out]; omega))
              go_wp2_with fail
              go_ret
              exact rows_ret (by rw [HS.out, HOV.out, HTD.out, HE.out]) HO3.out HB3.out
          · clear hx ha
            go_wp2_with (at_builtin; refine wpList_append_own _ rfl (.tmp 38) (.tmp 39) 26 rfl wr.heap.size 3 i0 (.int .i64 0) 1 8 Try.underlying26 hi hz0 hz1 hz2 rfl (by decide) _ _ _ rfl hown.out ⟨g, 0, none⟩ ts.length cap (ts.map (Value.int .i64)) rfl ?c20 hnews.out (ints_one' ts) ?c23 ?c24 ?c25 ?_)
            case c20 => simp
            case c23 => unfold maxLen; simp; omega
            case c24 => simp; omega
            case c25 => simp
            intro v1 w1 hown1 hgrow1 _
            have hown1 : w1.ownsRow wr.heap.size 3 1 v1 ts.length (ts.map (Value.int .i64)) := by simpa using hown1
            have b1 : Below wr.heap.size wr w1 := below_app hgrow1 (fun k hk => by have h1 : wr.heap.size = k := Option.some.inj hk; omega)
            have hge1 := World.ownsRow.lt hown1
            have hs1' := b1.size
            have HB1 := Lib.hid b1
            have HGE := Lib.hid hge1
            have hown2 := Lib.hid (World.ownsRow.alloc (w := w1) hown1 (.cells #[.int .i64 0] 3))
            clear hown hnews hown1 hgrow1 b1 hge1
            go_wp2_with (at_builtin; refine wpList_append_own _ rfl (.tmp 40) (.tmp 42) 26 rfl wr.heap.size 3 i0 (.int .i64 0) 1 8 Try.underlying26 hi hz0 hz1 hz2 rfl (by decide) _ _ _ rfl hown2.out ⟨w1.heap.size, 0, none⟩ 1 1 [.int .i64 0] rfl rfl ?d21 one_int ?d23 ?d24 ?d25 ?_)
            case d21 => exact one_new w1 _ _
            case d23 => unfold maxLen; omega
            case d24 => omega
            case d25 => simp; omega
            intro v2 w2 hown3 hgrow2 _
            have o2 : IOwn w2 wr.heap.size v2 us := by rw [HUS.out]; unfold IOwn; simpa using hown3
            have b2 : Below wr.heap.size wr w2 := (HB1.out.alloc HB1.out.size _).grown hgrow2 (by simp; omega) (fun k hk => (HGE.out k hk).1)
            obtain ⟨g2, c2, rfl, hc2, hm2⟩ := o2.form HUL.out.2
            have hs2' := b2.size
            have HO2 := Lib.hid o2
            have HB2 := Lib.hid b2
            clear hown2 hown3 hgrow2 o2 b2 HB1 HGE
            go_wp2_with fail
            refine (IH.out w2 wr.heap.size n _ qs g2 c2 us _ ((HV.out.keep (SameAt.of_below HBW.out)).keep (SameAt.of_below HB2.out)) HBK.out H2'.out HUL.out.1 HO2.out (by omega) (by omega) hs2').mono ?_
            rintro r w3 ⟨v3, rfl, o3, b3⟩
            rw [HUS.out] at o3
            first
              | rw [HRES.out] at o3
              | (have h0 := HRES.out; rw [Int.sub_zero] at h0; rw [h0] at o3)
            obtain ⟨A3, c3, rfl, hl3, hm3, -⟩ := id o3.rd
            have HO3 := Lib.hid (o3.base (Nat.le_trans hbase hsz))
            have HB3 := Lib.hid (below_step HBW.out (below_step HB2.out b3 hs2') hsz)
            clear o3 b3 HO2 HB2
            by_cases hz : (res.length : Int) ≤ 0
            · have HE : Hid (subL n qs ts k left 0 = []) := Lib.hid (by rw [HSUB.out, HRES.out]; exact List.eq_nil_of_length_eq_zero (by omega))
              go_wp2_with fail
              go_roundg (6 - (2 + 1))
              case measure => omega
              case rel => exact ⟨2 + 1, 0 + 1, rfl, by omega, by simp, by omega, Lib.hid ⟨HB3.out, by rw [HOV.out, HTD.out, over_skip HE.out]⟩⟩
            · have HE : Hid (overL n qs ts k left (0 :: tries.drop (2 + 1)) = res) := Lib.hid (by
                rw [← HRES.out, ← HSUB.out]
                exact over_stop (by rw [HSUB.out, HRES.out]; omega))
              go_wp2_with fail
              go_ret
              exact rows_ret (by rw [HS.out, HOV.out, HTD.out, HE.out]) HO3.out HB3.out
          · clear hx ha
            go_wp2_with (at_builtin; refine wpList_append_own _ rfl (.tmp 38) (.tmp 39) 26 rfl wr.heap.size 3 i0 (.int .i64 0) 1 8 Try.underlying26 hi hz0 hz1 hz2 rfl (by decide) _ _ _ rfl hown.out ⟨g, 0, none⟩ ts.length cap (ts.map (Value.int .i64)) rfl ?c30 hnews.out (ints_one' ts) ?c33 ?c34 ?c35 ?_)
            case c30 => simp
            case c33 => unfold maxLen; simp; omega
            case c34 => simp; omega
            case c35 => simp
            intro v1 w1 hown1 hgrow1 _
            have hown1 : w1.ownsRow wr.heap.size 3 1 v1 ts.length (ts.map (Value.int .i64)) := by simpa using hown1
            have b1 : Below wr.heap.size wr w1 := below_app hgrow1 (fun k hk => by have h1 : wr.heap.size = k := Option.some.inj hk; omega)
            have hge1 := World.ownsRow.lt hown1
            have hs1' := b1.size
            have HB1 := Lib.hid b1
            have HGE := Lib.hid hge1
            have hown2 := Lib.hid (World.ownsRow.alloc (w := w1) hown1 (.cells #[.int .i64 1] 3))
            clear hown hnews hown1 hgrow1 b1 hge1
            go_wp2_with (at_builtin; refine wpList_append_own _ rfl (.tmp 40) (.tmp 42) 26 rfl wr.heap.size 3 i0 (.int .i64 0) 1 8 Try.underlying26 hi hz0 hz1 hz2 rfl (by decide) _ _ _ rfl hown2.out ⟨w1.heap.size, 0, none⟩ 1 1 [.int .i64 1] rfl rfl ?d31 one_int ?d33 ?d34 ?d35 ?_)
            case d31 => exact one_new w1 _ _
            case d33 => unfold maxLen; omega
            case d34 => omega
            case d35 => simp; omega
            intro v2 w2 hown3 hgrow2 _
            have o2 : IOwn w2 wr.heap.size v2 us := by rw [HUS.out]; unfold IOwn; simpa using hown3
            have b2 : Below wr.heap.size wr w2 := (HB1.out.alloc HB1.out.size _).grown hgrow2 (by simp; omega) (fun k hk => (HGE.out k hk).1)
            obtain ⟨g2, c2, rfl, hc2, hm2⟩ := o2.form HUL.out.2
            have hs2' := b2.size
            have HO2 := Lib.hid o2
            have HB2 := Lib.hid b2
            clear hown2 hown3 hgrow2 o2 b2 HB1 HGE
            go_wp2_with fail
            refine (IH.out w2 wr.heap.size n _ qs g2 c2 us _ ((HV.out.keep (SameAt.of_below HBW.out)).keep (SameAt.of_below HB2.out)) HBK.out H2'.out HUL.out.1 HO2.out (by omega) (by omega) hs2').mono ?_
            rintro r w3 ⟨v3, rfl, o3, b3⟩
            rw [HUS.out] at o3
            first
              | rw [HRES.out] at o3
              | (have h0 := HRES.out; rw [Int.sub_zero] at h0; rw [h0] at o3)
            obtain ⟨A3, c3, rfl, hl3, hm3, -⟩ := id o3.rd
            have HO3 := Lib.hid (o3.base (Nat.le_trans hbase hsz))
            have HB3 := Lib.hid (below_step HBW.out (below_step HB2.out b3 hs2') hsz)
            clear o3 b3 HO2 HB2
            by_cases hz : (res.length : Int) ≤ 0
            · have HE : Hid (subL n qs ts k left 1 = []) := Lib.hid (by rw [HSUB.out, HRES.out]; exact List.eq_nil_of_length_eq_zero (by omega))
              go_wp2_with fail
              go_roundg (6 - (3 + 1))
              case measure => omega
              case rel => exact ⟨3 + 1, 1 + 1, rfl, by omega, by simp, by omega, Lib.hid ⟨HB3.out, by rw [HOV.out, HTD.out, over_skip HE.out]⟩⟩
            · have HE : Hid (overL n qs ts k left (1 :: tries.drop (3 + 1)) = res) := Lib.hid (by
                rw [← HRES.out, ← HSUB.out]
                exact over_stop (by rw [HSUB.out, HRES.out]; omega))
              go_wp2_with fail
              go_ret
              exact rows_ret (by rw [HS.out, HOV.out, HTD.out, HE.out]) HO3.out HB3.out
          · clear hx ha
            go_wp2_with (at_builtin; refine wpList_append_own _ rfl (.tmp 38) (.tmp 39) 26 rfl wr.heap.size 3 i0 (.int .i64 0) 1 8 Try.underlying26 hi hz0 hz1 hz2 rfl (by decide) _ _ _ rfl hown.out ⟨g, 0, none⟩ ts.length cap (ts.map (Value.int .i64)) rfl ?c40 hnews.out (ints_one' ts) ?c43 ?c44 ?c45 ?_)
            case c40 => simp
            case c43 => unfold maxLen; simp; omega
            case c44 => simp; omega
            case c45 => simp
            intro v1 w1 hown1 hgrow1 _
            have hown1 : w1.ownsRow wr.heap.size 3 1 v1 ts.length (ts.map (Value.int .i64)) := by simpa using hown1
            have b1 : Below wr.heap.size wr w1 := below_app hgrow1 (fun k hk => by have h1 : wr.heap.size = k := Option.some.inj hk; omega)
            have hge1 := World.ownsRow.lt hown1
            have hs1' := b1.size
            have HB1 := Lib.hid b1
            have HGE := Lib.hid hge1
            have hown2 := Lib.hid (World.ownsRow.alloc (w := w1) hown1 (.cells #[.int .i64 2] 3))
            clear hown hnews hown1 hgrow1 b1 hge1
            go_wp2_with (at_builtin; refine wpList_append_own _ rfl (.tmp 40) (.tmp 42) 26 rfl wr.heap.size 3 i0 (.int .i64 0) 1 8 Try.underlying26 hi hz0 hz1 hz2 rfl (by decide) _ _ _ rfl hown2.out ⟨w1.heap.size, 0, none⟩ 1 1 [.int .i64 2] rfl rfl ?d41 one_int ?d43 ?d44 ?d45 ?_)
            case d41 => exact one_new w1 _ _
            case d43 => unfold maxLen; omega
            case d44 => omega
            case d45 => simp; omega
            intro v2 w2 hown3 hgrow2 _
            have o2 : IOwn w2 wr.heap.size v2 us := by rw [HUS.out]; unfold IOwn; simpa using hown3
            have b2 : Below wr.heap.size wr w2 := (HB1.out.alloc HB1.out.size _).grown hgrow2 (by simp; omega) (fun k hk => (HGE.out k hk).1)
            obtain ⟨g2, c2, rfl, hc2, hm2⟩ := o2.form HUL.out.2
            have hs2' := b2.size
            have HO2 := Lib.hid o2
            have HB2 := Lib.hid b2
            clear hown2 hown3 hgrow2 o2 b2 HB1 HGE
            go_wp2_with fail
            refine (IH.out w2 wr.heap.size n _ qs g2 c2 us _ ((HV.out.keep (SameAt.of_below HBW.out)).keep (SameAt.of_below HB2.out)) HBK.out H2'.out HUL.out.1 HO2.out (by omega) (by omega) hs2').mono ?_
            rintro r w3 ⟨v3, rfl, o3, b3⟩
            rw [HUS.out] at o3
            first
              | rw [HRES.out] at o3
              | (have h0 := HRES.out; rw [Int.sub_zero] at h0; rw [h0] at o3)
            obtain ⟨A3, c3, rfl, hl3, hm3, -⟩ := id o3.rd
            have HO3 := Lib.hid (o3.base (Nat.le_trans hbase hsz))
            have HB3 := Lib.hid (below_step HBW.out (below_step HB2.out b3 hs2') hsz)
            clear o3 b3 HO2 HB2
            by_cases hz : (res.length : Int) ≤ 0
            · have HE : Hid (subL n qs ts k left 2 = []) := Lib.hid (by rw [HSUB.out, HRES.out]; exact List.eq_nil_of_length_eq_zero (by omega))
              go_wp2_with fail
              go_roundg (6 - (4 + 1))
              case measure => omega
              case rel => exact ⟨4 + 1, 2 + 1, rfl, by omega, by simp, by omega, Lib.hid ⟨HB3.out, by rw [HOV.out, HTD.out, over_skip HE.out]⟩⟩
            · have HE : Hid (overL n qs ts k left (2 :: tries.drop (4 + 1)) = res) := Lib.hid (by
                rw [← HRES.out, ← HSUB.out]
                exact over_stop (by rw [HSUB.out, HRES.out]; omega))
              go_wp2_with fail
              go_ret
              exact rows_ret (by rw [HS.out, HOV.out, HTD.out, HE.out]) HO3.out HB3.out
        · have HE : Hid (subL n qs ts k left x = []) := Lib.hid (sub_far (by omega))
          rcases (by omega : (d = 0 ∧ x = -2 ∧ a = 2) ∨ (d = 1 ∧ x = -1 ∧ a = 1) ∨ (d = 2 ∧ x = 0 ∧ a = 0) ∨ (d = 3 ∧ x = 1 ∧ a = 1) ∨ (d = 4 ∧ x = 2 ∧ a = 2)) with ⟨rfl, rfl, rfl⟩ | ⟨rfl, rfl, rfl⟩ | ⟨rfl, rfl, rfl⟩ | ⟨rfl, rfl, rfl⟩ | ⟨rfl, rfl, rfl⟩
          · clear hx ha
            have hlt : left < 2 := by omega
            go_wp2_with fail
            go_roundg (6 - (0 + 1))
            case measure => omega
            case rel => exact ⟨0 + 1, (-2) + 1, rfl, by omega, by simp, by omega, Lib.hid ⟨HBW.out, by rw [HOV.out, HTD.out, over_skip HE.out]⟩⟩
          · clear hx ha
            have hlt : left < 1 := by omega
            go_wp2_with fail
            go_roundg (6 - (1 + 1))
            case measure => omega
            case rel => exact ⟨1 + 1, (-1) + 1, rfl, by omega, by simp, by omega, Lib.hid ⟨HBW.out, by rw [HOV.out, HTD.out, over_skip HE.out]⟩⟩
          · exact absurd l0 (by omega)
          · clear hx ha
            have hlt : left < 1 := by omega
            go_wp2_with fail
            go_roundg (6 - (3 + 1))
            case measure => omega
            case rel => exact ⟨3 + 1, 1 + 1, rfl, by omega, by simp, by omega, Lib.hid ⟨HBW.out, by rw [HOV.out, HTD.out, over_skip HE.out]⟩⟩
          · clear hx ha
            have hlt : left < 2 := by omega
            go_wp2_with fail
            go_roundg (6 - (4 + 1))
            case measure => omega
            case rel => exact ⟨4 + 1, 2 + 1, rfl, by omega, by simp, by omega, Lib.hid ⟨HBW.out, by rw [HOV.out, HTD.out, over_skip HE.out]⟩⟩
      · obtain rfl : d = 5 := by omega
        obtain rfl : x = 3 := by omega
        have HE : Hid (overL n qs ts k left (tries.drop 5) = []) := Lib.hid rfl
        go_wp2_with fail
        go_ret
        exact rows_ret (by rw [HS.out, HOV.out, HE.out]) (lit_own _ _ (Nat.le_trans hbase hsz)) (HBW.out.alloc hsz _)

end Go.Proofs.Ytfjmlbcmidichaa

namespace Go.Proofs.Ytfjmlbcmidichaa
open Go.RowKit
set_option linter.unusedVariables false

theorem two_nil : Two2 [] := fun s hs => by cases hs

theorem lose_hit {n : Int} {qs : List Qt} {sum : Nat} {res : List Int} (h1 : 1 ≤ sum) (h6 : sum ≤ 6) (hl : losing n qs = loseFrom n qs sum (7 - sum)) (hr : searchL n qs [] qs.length (sum : Int) = res) (hp : 0 < res.length) : lossOk n qs = true ∧ lossR n qs = res := by
  have e := search_lose (n := n) (qs := qs) h1
  rw [hr, if_pos hp] at e
  have h : losing n qs = some res := by rw [hl, show 7 - sum = (6 - sum) + 1 from by omega, lose_step, e]
  rw [lossOk, lossR, h]
  exact ⟨rfl, rfl⟩

theorem lose_miss {n : Int} {qs : List Qt} {sum : Nat} {res : List Int} (h1 : 1 ≤ sum) (h6 : sum ≤ 6) (hl : losing n qs = loseFrom n qs sum (7 - sum)) (hr : searchL n qs [] qs.length (sum : Int) = res) (hp : ¬ 0 < res.length) : losing n qs = loseFrom n qs (sum + 1) (7 - (sum + 1)) := by
  have e := search_lose (n := n) (qs := qs) h1
  rw [hr, if_neg hp] at e
  rw [hl, show 7 - sum = (6 - sum) + 1 from by omega, lose_step, e, show 7 - (sum + 1) = 6 - sum from by omega]

theorem lose_end {n : Int} {qs : List Qt} (hl : losing n qs = loseFrom n qs 7 (7 - 7)) : lossOk n qs = false ∧ lossR n qs = [] := by
  have h : losing n qs = none := hl
  rw [lossOk, lossR, h]
  exact ⟨rfl, rfl⟩

set_option maxHeartbeats 4000000 in
theorem specLosingStakes_any (w : World) (n : Int) (v : Value) (qs : List Qt) (hv : QRd w v qs) :
    Calls Try.prog 43 #[.int .i64 n, v] w (RowOk w.heap.size (lossR n qs) (lossOk n qs) w) := by
  have HV := Lib.hid hv
  clear hv
  rcases Bool.eq_false_or_eq_true (bokB n qs) with h | h
  · have H := Lib.hid h
    have H0 := Lib.hid (loss_yes h)
    have hq3 := ((bokB_iff _ _).1 h).2.1
    go_enter Try.func43, Try.ntmps43
    clear h
    go_wp2_with fail
    go_loopg [6] 7 (fun gk s wr => ∃ (sum : Nat), gk = 8 - sum ∧ 1 ≤ sum ∧ sum ≤ 7 ∧ s = .int .i64 (sum : Int) ∧ Hid (Below w.heap.size w wr) ∧ Hid (losing n qs = loseFrom n qs sum (7 - sum)))
    case atStart => exact ⟨1, rfl, by omega, by omega, rfl, Lib.hid (Below.refl _ _), H0⟩
    case round =>
      obtain ⟨sum, hgk, hs1, hs7, rfl, HB, HL⟩ := hrel
      clear H0
      have hsz := HB.out.size
      rcases Nat.lt_or_ge sum 7 with h7 | h7
      · obtain ⟨res, hres⟩ : ∃ res, searchL n qs [] qs.length (sum : Int) = res := ⟨_, rfl⟩
        have hrl : res.length ≤ 3 := by
          have h1 := search_len (n := n) (qs := qs) (ts := []) (k := qs.length) (left := (sum : Int))
          rw [hres, List.length_nil] at h1
          omega
        have HRES := Lib.hid hres
        clear hres
        go_wp2_with fail
        refine (specBookOk_any _ _ _ _ (HV.out.keep (SameAt.of_below HB.out))).mono ?_
        rintro r w2 ⟨rfl, b2⟩
        rw [H.out]
        have hs2 := b2.size
        have HB2 := Lib.hid (below_step HB.out b2 hsz)
        clear b2 HB
        have hsz2 := HB2.out.size
        go_wp2_with fail
        refine (l5Search_any qs.length _ w2.heap.size n _ qs w2.heap.size 0 [] (sum : Int) (HV.out.keep (SameAt.of_below (HB2.out.alloc hsz2 _))) H.out two_nil (by simp) (lit_own w2 w2.heap.size (Nat.le_refl _)) (by omega) (by omega) (by simp)).mono ?_
        rintro r w3 ⟨v3, rfl, o3, b3⟩
        rw [HRES.out] at o3
        obtain ⟨A3, c3, rfl, hl3, hm3, -⟩ := id o3.rd
        have HO3 := Lib.hid (o3.base hsz2)
        have HB3 := Lib.hid (below_step (HB2.out.alloc hsz2 (.cells #[] 3)) b3 (by simp; omega))
        clear o3 b3 HB2
        by_cases hz : (res.length : Int) ≤ 0
        · have HM := Lib.hid (lose_miss hs1 (by omega) HL.out HRES.out (by omega))
          go_wp2_with fail
          go_roundg (8 - (sum + 1))
          case measure => omega
          case rel => exact ⟨sum + 1, rfl, by omega, by omega, by go_num, HB3, HM⟩
        · have HM := Lib.hid (lose_hit hs1 (by omega) HL.out HRES.out (by omega))
          go_wp2_with fail
          go_ret2
          exact rowOk_ret HM.out.1 HM.out.2 HO3.out HB3.out
      · obtain rfl : sum = 7 := by omega
        have HM := Lib.hid (lose_end HL.out)
        go_wp2_with fail
        go_ret2
        exact rowOk_ret HM.out.1 HM.out.2 (lit_own _ _ hsz) (HB.out.alloc hsz _)
  · have HN := Lib.hid (loss_no h)
    have H := Lib.hid h
    go_enter Try.func43, Try.ntmps43
    clear h
    go_wp2_with fail
    go_loopg [6] 1 (fun gk s wr => gk = 1 ∧ s = .int .i64 1 ∧ wr = w)
    case atStart => exact ⟨rfl, rfl, rfl⟩
    case round =>
      obtain ⟨hgk, rfl, rfl⟩ := hrel
      go_wp2_with fail
      refine (specBookOk_any _ _ _ _ HV.out).mono ?_
      rintro r w2 ⟨rfl, b2⟩
      rw [H.out]
      have HB2 := Lib.hid b2
      clear b2
      go_wp2_with fail
      go_ret2
      exact rowOk_ret HN.out.2 HN.out.1 (lit_own _ _ HB2.out.size) (HB2.out.alloc HB2.out.size _)

def safeB (n : Int) (qs : List Qt) : Bool := bokB n qs && !lossOk n qs

set_option maxHeartbeats 2000000 in
theorem specSafeOk_any (w : World) (n : Int) (v : Value) (qs : List Qt) (hv : QRd w v qs) :
    Calls Try.prog 47 #[.int .i64 n, v] w (BoolPost (safeB n qs) w) := by
  have HV := Lib.hid hv
  clear hv
  obtain ⟨b, hb⟩ : ∃ b, bokB n qs = b := ⟨_, rfl⟩
  obtain ⟨l, hl⟩ : ∃ l, lossOk n qs = l := ⟨_, rfl⟩
  have HS : Hid (safeB n qs = (b && !l)) := Lib.hid (by rw [safeB, hb, hl])
  have H := Lib.hid hb
  have HL := Lib.hid hl
  clear hb hl
  go_enter Try.func47, Try.ntmps47
  go_wp2_with fail
  refine (specLosingStakes_any _ _ _ _ HV.out).mono ?_
  rintro r w2 ⟨x, rfl, -, b2⟩
  rw [HL.out]
  have HB2 := Lib.hid b2
  clear b2
  go_wp2_with fail
  refine (specBookOk_any _ _ _ _ (HV.out.keep (SameAt.of_below HB2.out))).mono ?_
  rintro r w3 ⟨rfl, b3⟩
  rw [H.out]
  have HB3 := Lib.hid (below_step HB2.out b3 HB2.out.size)
  clear b3
  cases b
  all_goals
    cases l
    all_goals
      go_wp2_with fail
      go_ret
      exact ⟨ret_bool HS.out.symm, HB3.out⟩

/-- how much is lost at least, and whether it is told -/
def sureI (n : Int) (qs : List Qt) : Int := if lossOk n qs = true then -(bestI (balL n qs (lossR n qs))) else 0

theorem loss_got {n : Int} {qs : List Qt} (h : lossOk n qs = true) : losing n qs = some (lossR n qs) := by
  rw [lossOk] at h
  rw [lossR]
  cases hl : losing n qs with
  | none => rw [hl] at h; cases h
  | some ss => rfl

theorem loss_bal {n : Int} {qs : List Qt} (h : lossOk n qs = true) : balB n qs (lossR n qs) = true := by
  obtain ⟨h1, h2, h3, -⟩ := losing_some (loss_got h)
  exact balB_two h1 h2 h3

theorem best_small {g : List Int} (h : gokB g = true) : -1000 ≤ bestI g ∧ bestI g ≤ 1000 := by
  have := (best_greatest h).1
  exact ((gokB_iff g).1 h).2.2 _ this

set_option maxHeartbeats 4000000 in
theorem specSureLossOf_any (w : World) (n : Int) (v : Value) (qs : List Qt) (hv : QRd w v qs) :
    Calls Try.prog 50 #[.int .i64 n, v] w (NumPost (sureI n qs) (lossOk n qs) w) := by
  have HV := Lib.hid hv
  clear hv
  rcases Bool.eq_false_or_eq_true (lossOk n qs) with h | h
  · have H := Lib.hid h
    have HBB := Lib.hid (loss_bal h)
    have HBR := Lib.hid (balR_yes (loss_bal h))
    have HGK := Lib.hid (bal_gok (loss_bal h))
    obtain ⟨t, ht⟩ : ∃ t, bestI (balL n qs (lossR n qs)) = t := ⟨_, rfl⟩
    have hts := best_small (bal_gok (loss_bal h))
    rw [ht] at hts
    have HS : Hid (sureI n qs = -t) := Lib.hid (by rw [sureI, if_pos h, ht])
    have HT := Lib.hid ht
    clear h ht
    obtain ⟨t1, t2⟩ := hts
    go_enter Try.func50, Try.ntmps50
    go_wp2_with fail
    refine (specLosingStakes_any _ _ _ _ HV.out).mono ?_
    rintro r w2 ⟨x, rfl, o2, b2⟩
    rw [H.out]
    have HB2 := Lib.hid b2
    have HO2 := Lib.hid o2.rd
    clear b2 o2
    go_wp2_with fail
    refine (specBalanceOf_any _ _ _ _ _ _ (HV.out.keep (SameAt.of_below HB2.out)) HO2.out).mono ?_
    rintro r w3 ⟨y, rfl, o3, b3⟩
    rw [HBR.out] at o3
    rw [HBB.out]
    have HB3 := Lib.hid (below_step HB2.out b3 HB2.out.size)
    have HO3 := Lib.hid o3.rd
    clear b3 o3
    go_wp2_with fail
    refine (specBestOf_any _ _ _ HO3.out).mono ?_
    rintro e w' ⟨rfl, rfl⟩
    rw [HT.out, HGK.out]
    go_wp2_with fail
    go_ret2
    exact numPost_ret HS.out H.out HB3.out
  · have H := Lib.hid h
    have HS : Hid (sureI n qs = 0) := Lib.hid (by rw [sureI, h]; rfl)
    clear h
    go_enter Try.func50, Try.ntmps50
    go_wp2_with fail
    refine (specLosingStakes_any _ _ _ _ HV.out).mono ?_
    rintro r w2 ⟨x, rfl, o2, b2⟩
    rw [H.out]
    have HB2 := Lib.hid b2
    clear b2 o2
    go_wp2_with fail
    go_ret2
    exact numPost_ret HS.out H.out HB2.out

end Go.Proofs.Ytfjmlbcmidichaa
