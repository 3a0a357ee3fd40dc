/- Contracts of spec's chapter 13: TakerGain, l13Search, WinningStakes. Conditions: rows that read as lists. (gen_jc.py) -/
import Derived.Test.YtodmgcbcacblbaaJb
import Derived.Test.YtodmgcbcacblbaaSc
import Derived.Test.YtodmgcbcacblbaaQi
import Derived.Maps.AppendAt
namespace Go.Proofs.Ytodmgcbcacblbaa
open Go.RowKit
set_option linter.unusedVariables false

theorem two_one13 {x y : Int} : ∀ u ∈ [Value.int .i64 x, .int .i64 y], u.oneCell' = true := by
  intro u hu
  simp only [List.mem_cons, List.not_mem_nil, or_false] at hu
  rcases hu with rfl | rfl <;> rfl

theorem two_new13 (w : World) (x y : Value) (t : TypeId) : ∀ j u, [x, y][j]? = some u → (w.alloc (.cells #[x, y] t)).cell? ((⟨w.heap.size, 0, none⟩ : Addr).add j) = some u := by
  intro j u hj
  have h : ∀ i, (w.alloc (.cells #[x, y] t)).cell? ⟨w.heap.size, i, none⟩ = (#[x, y] : Array Value)[i]? := fun i => cell_of_row _ _ i _ t (0, 0) (heap_alloc_new w _)
  rw [addr_add, h]
  match j, hj with
  | 0, hj => exact hj
  | 1, hj => exact hj
  | j + 2, hj => cases hj

theorem wp_app_q13 {ops : Array Oper} {rest : List Oper} {o : Oper} {a : Act} {Q : Exit → Act → World → Prop} (hgd : o.guard = none) (s x : Operand)
    (ho : o.op = .call { callee := .builtin .append, args := #[s, x], argTypes := #[35, 35] }) (w : World) (base : Nat) (v : Value) (qs : List Qt) (L : Nat) (hL : qs.length = L) (e p : Int)
    (hs : a.eval s = v) (hown : QOwn w base v qs) (hx : a.eval x = .slice (some ⟨w.heap.size, 0, none⟩) 1 1)
    (h1 : L ≤ 1000000) (hb : base ≤ w.heap.size)
    (h : ∀ g c w', QOwn w' base (.slice (some ⟨g, 0, none⟩) (L + 1) c) (qs ++ [(e, p)]) → w.grownBy w' v.ownBlock → wpList Try.prog ops Q rest (a.put o.dst (.slice (some ⟨g, 0, none⟩) (L + 1) c)) w') :
    wpList Try.prog ops Q (o :: rest) a (w.alloc (.cells #[.int .i64 e, .int .i64 p] 37)) := by
  subst hL
  obtain ⟨j0, hj, hy0, hy1, hy2⟩ := info_parts Try_quoteinfo
  have hown2 : (w.alloc (.cells #[.int .i64 e, .int .i64 p] 37)).ownsRow base 37 2 v qs.length (qs.flatMap qC) := World.ownsRow.alloc hown _
  refine wpList_append_own_at _ hgd s x 35 ho base 37 j0 (.agg #[.int .i64 0, .int .i64 0]) 2 16 Try.underlying35 hj hy0 hy1 hy2 rfl (by decide) v qs.length (qs.flatMap qC) hs hown2 ⟨w.heap.size, 0, none⟩ 1 1 [.int .i64 e, .int .i64 p] hx rfl (two_new13 w _ _ _) two_one13 (by unfold maxLen; omega) (by omega) (by simp; omega) ?_
  intro v' w' k1 k2 k3 k4
  have hl : (qs ++ [(e, p)]).length = qs.length + 1 := by simp
  obtain ⟨g, c, hv, -⟩ : ∃ g c, v' = .slice (some ⟨g, 0, none⟩) (qs.length + 1) c ∧ True := by
    rcases k1.2 with ⟨-, hz⟩ | ⟨g, cap, cur, e, -⟩
    · omega
    · exact ⟨g, cap, e, trivial⟩
  subst hv
  refine h g c w' ?_ (grown_after (w := w) ((Below.refl _ w).alloc (Nat.le_refl _) _) k2)
  unfold QOwn GOwn
  rw [hl, List.flatMap_append]
  exact k1

/-- the book so far -/
def TkRel (w : World) (bs : List Bt) (ss : List Int) (k : Nat) (p : Value) (wr : World) : Prop := QOwn wr w.heap.size p ((tkQ bs ss).take k) ∧ Below w.heap.size w wr ∧ ∃ g c, p = .slice (some ⟨g, 0, none⟩) k c

theorem tk_start (w : World) (bs : List Bt) (ss : List Int) : TkRel w bs ss 0 (.slice (some ⟨w.heap.size, 0, none⟩) 0 0) (w.alloc (.cells #[] 37)) := by
  refine ⟨?_, (Below.refl _ _).alloc (Nat.le_refl _) _, _, _, rfl⟩
  have h := World.ownsRow_lit w #[] 0 (e := 37) (base := w.heap.size) (size := 2) (Nat.le_refl _) (by unfold maxLen; omega) rfl
  simpa [GOwn] using h

theorem TkRel.step {w wr w' : World} {bs : List Bt} {ss : List Int} {k g c : Nat} {p : Value} {q : Qt} (h : TkRel w bs ss k p wr) (hq : (tkQ bs ss)[k]? = some q) (ho : QOwn w' w.heap.size (.slice (some ⟨g, 0, none⟩) (k + 1) c) ((tkQ bs ss).take k ++ [q])) (hg : wr.grownBy w' p.ownBlock) :
    TkRel w bs ss (k + 1) (.slice (some ⟨g, 0, none⟩) (k + 1) c) w' := by
  refine ⟨by rw [List.take_add_one, hq]; exact ho, ?_, _, _, rfl⟩
  exact h.2.1.grown hg h.2.1.size (fun g hg' => (World.ownsRow.lt h.1 g hg').1)

set_option maxRecDepth 100000 in
set_option maxHeartbeats 4000000 in
theorem specTakerGain_any (w : World) (n : Int) (v u : Value) (bs : List Bt) (ss : List Int) (hv : BRd w v bs) (hu : IRd w u ss) :
    Calls Try.prog 32 #[.int .i64 n, v, u] w (RowOk w.heap.size (tgR n bs ss) (tgB n bs ss) w) := by
  obtain ⟨A, c, rfl, hl, hm⟩ := hv.form
  obtain ⟨A', c', rfl, hl', hm', -⟩ := id hu
  have HV := Lib.hid (fun wr (h : Below w.heap.size w wr) => hv.keep (SameAt.of_below h))
  have HU := Lib.hid (fun wr (h : Below w.heap.size w wr) => hu.keep (SameAt.of_below h))
  clear hv hu
  rcases Bool.eq_false_or_eq_true (bidsB n bs) with h | h
  · by_cases hlen : ss.length = bs.length
    · have hne : ((ss.length : Int) != (bs.length : Int)) = false := by rw [hlen]; simp
      have HTL := Lib.hid (tkQ_len hlen)
      have HTB : Hid (tgB n bs ss = balB n (tkQ bs ss) ss) := Lib.hid (by rw [tgB, h, decide_eq_true hlen]; rfl)
      have HTR : Hid (tgR n bs ss = balR n (tkQ bs ss) ss) := Lib.hid (by rw [tgR, balR, HTB.out]; rfl)
      have hq3 := ((bidsB_iff _ _).1 h).2.1
      have H := Lib.hid h
      have HLEN := Lib.hid hlen
      clear h hlen
      go_enter Try.func32, Try.ntmps32
      go_wp2_with fail
      refine (specBidsOk_any _ _ _ _ (HV.out _ (Below.refl _ _))).mono ?_
      rintro r w2 ⟨rfl, b2⟩
      rw [H.out]
      have HB2 := Lib.hid b2
      have H0 := Lib.hid (tk_start w2 bs ss)
      clear b2
      go_wp2_with fail
      clear hne
      go_loopw [8, 9] (fun p i wr => ∃ k : Nat, i = .int .i64 (k : Int) ∧ k ≤ bs.length ∧ Hid (TkRel w2 bs ss k p wr)) (fun _ i _ => bs.length - (intOf i).toNat)
      case atStart => exact ⟨0, rfl, Nat.zero_le _, H0⟩
      case round =>
        obtain ⟨k, rfl, hk, HF⟩ := hrel
        obtain ⟨g0, c0, rfl⟩ := HF.out.2.2
        clear H0
        have K := Lib.hid (below_step HB2.out HF.out.2.1 HB2.out.size)
        by_cases hlt : k < bs.length
        · have hlt' : (k : Int) < (bs.length : Int) := by omega
          have hk0 : (0 : Int) ≤ (k : Int) := by omega
          have hls : k < ss.length := by have := HLEN.out; omega
          have hls' : (k : Int) < (ss.length : Int) := by omega
          obtain ⟨b, off, ⟨e, lo, hi⟩, rfl, -, hx, hc0, hc1, hc2⟩ := BRd.at_ (HV.out _ K.out) hlt
          have hc0 : wr.cell? ⟨b, off + k * 3, none⟩ = some (.int .i64 e) := hc0
          have hc1 : wr.cell? ⟨b, off + k * 3 + 1, none⟩ = some (.int .i64 lo) := hc1
          have hc2 : wr.cell? ⟨b, off + k * 3 + 2, none⟩ = some (.int .i64 hi) := hc2
          obtain ⟨b', off', s, rfl, -, hs, hcs⟩ := (HU.out _ K.out).at_ hls
          have HQ := Lib.hid (tkQ_at hx hs)
          have hlk : Hid (((tkQ bs ss).take k).length = k) := Lib.hid (by rw [List.length_take]; have := HTL.out; omega)
          clear hx hs
          by_cases hs0 : 0 < s
          · have HP : Hid (tkP (e, lo, hi) s = hi) := Lib.hid (by rw [tkP, if_pos hs0])
            go_wp2_with (at_builtin; refine wp_app_q13 rfl _ _ rfl wr w2.heap.size _ _ k hlk.out _ _ (by rfl) HF.out.1 (by rfl) (by omega) HF.out.2.1.size ?_)
            intro g c2 w' hown' hgrow
            have HL := Lib.hid (HF.out.step HQ.out (by rw [HP.out]; exact hown') hgrow)
            clear hown' hgrow HF hlk
            go_wp2_with fail
            go_roundw
            case rel => exact ⟨k + 1, by go_num, by omega, HL⟩
            case measure => simp [intOf]; omega
          · have hs0' : decide (0 < s) = false := decide_eq_false hs0
            have HP : Hid (tkP (e, lo, hi) s = lo) := Lib.hid (by rw [tkP, if_neg hs0])
            go_wp2_with (at_builtin; refine wp_app_q13 rfl _ _ rfl wr w2.heap.size _ _ k hlk.out _ _ (by rfl) HF.out.1 (by rfl) (by omega) HF.out.2.1.size ?_)
            intro g c2 w' hown' hgrow
            have HL := Lib.hid (HF.out.step HQ.out (by rw [HP.out]; exact hown') hgrow)
            clear hown' hgrow HF hlk
            go_wp2_with fail
            go_roundw
            case rel => exact ⟨k + 1, by go_num, by omega, HL⟩
            case measure => simp [intOf]; omega
        · obtain rfl : k = bs.length := by omega
          have hlt' : decide ((bs.length : Int) < (bs.length : Int)) = false := by simp
          have HBK : Hid (QRd wr (.slice (some ⟨g0, 0, none⟩) bs.length c0) (tkQ bs ss)) := Lib.hid (by
            have h := HF.out.1.rd qC_len
            rwa [← HTL.out, List.take_length, HTL.out] at h)
          clear HF hk
          go_wp2_with fail
          refine (specBalanceOf_any wr n _ _ (tkQ bs ss) ss HBK.out (HU.out _ K.out)).mono ?_
          rintro r w5 ⟨x, rfl, o5, b5⟩
          have HO := Lib.hid (o5.base K.out.size)
          have HB5 := Lib.hid (below_step K.out b5 K.out.size)
          clear o5 b5
          go_wp2_with fail
          go_ret2
          exact rowOk_ret HTB.out HTR.out HO.out HB5.out
    · have hne : ((ss.length : Int) != (bs.length : Int)) = true := by simp; omega
      have HTB : Hid (tgB n bs ss = false) := Lib.hid (by rw [tgB, decide_eq_false hlen]; simp)
      have H := Lib.hid h
      clear h hlen
      go_enter Try.func32, Try.ntmps32
      go_wp2_with fail
      refine (specBidsOk_any _ _ _ _ (HV.out _ (Below.refl _ _))).mono ?_
      rintro r w2 ⟨rfl, b2⟩
      rw [H.out]
      have HB2 := Lib.hid b2
      clear b2
      go_wp2_with fail
      go_ret2
      exact rowOk_ret HTB.out (tg_no HTB.out) (lit_own _ _ HB2.out.size) (HB2.out.alloc HB2.out.size _)
  · have HTB : Hid (tgB n bs ss = false) := Lib.hid (by rw [tgB, h]; rfl)
    have H := Lib.hid h
    clear h
    go_enter Try.func32, Try.ntmps32
    go_wp2_with fail
    refine (specBidsOk_any _ _ _ _ (HV.out _ (Below.refl _ _))).mono ?_
    rintro r w2 ⟨rfl, b2⟩
    rw [H.out]
    have HB2 := Lib.hid b2
    clear b2
    go_wp2_with fail
    go_ret2
    exact rowOk_ret HTB.out (tg_no HTB.out) (lit_own _ _ HB2.out.size) (HB2.out.alloc HB2.out.size _)

/-- up to here nothing was found -/
def WSrchRel (w : World) (n : Int) (bs : List Bt) (ts : List Int) (k : Nat) (left : Int) (d : Nat) (wr : World) : Prop :=
  Below w.heap.size w wr ∧ woverL (winB n bs) ts k left tries = woverL (winB n bs) ts k left (tries.drop d)

set_option maxRecDepth 100000 in
set_option maxHeartbeats 8000000 in
theorem l13Search_any (k : Nat) : ∀ (w : World) (base : Nat) (n : Int) (v : Value) (bs : List Bt) (g cap : Nat) (ts : List Int) (left : Int) (hv : BRd w v bs) (hb : bidsB n bs = true) (h2 : Two2 ts) (hl : ts.length + k = bs.length)
    (hu : IOwn w base (.slice (some ⟨g, 0, none⟩) ts.length cap) ts) (l0 : 0 ≤ left) (l6 : left ≤ 6) (hbase : base ≤ w.heap.size),
    Calls Try.prog 86 #[.int .i64 n, v, .slice (some ⟨g, 0, none⟩) ts.length cap, .int .i64 left] w (Rows base (wsearchL (winB n bs) ts k left) w) := by
  induction k with
  | zero =>
    intro w base n v bs g cap ts left hv hb h2 hl hu l0 l6 hbase
    obtain ⟨A, c, rfl, hl1, hm1⟩ := hv.form
    have HV := Lib.hid hv
    have HU := Lib.hid hu
    have HT := Lib.hid (tg_two hb (by omega) h2)
    have HG := Lib.hid (tg_gok HT.out)
    obtain ⟨x, hx⟩ : ∃ x, worstI (tgL n bs ts) = x := ⟨_, rfl⟩
    have HX := Lib.hid hx
    have HE : Hid (winB n bs ts = decide (0 < x)) := Lib.hid (by rw [← hx]; exact win_two hb (by omega) h2)
    have HS := Lib.hid (wsearch_zero (winB n bs) ts l0)
    have hs1 : ((ts.length : Int) == (bs.length : Int)) = true := by simp; omega
    have hq3 := ((bidsB_iff _ _).1 hb).2.1
    clear hv hu hl hl1 hb h2 hx
    go_enter Try.func86, Try.ntmps86
    go_wp2_with fail
    refine (specTakerGain_any _ _ _ _ _ _ HV.out HU.out.rd).mono ?_
    rintro r w2 ⟨y, rfl, o2, b2⟩
    rw [tg_yes HT.out] at o2
    rw [HT.out]
    have HB := Lib.hid b2
    have HO := Lib.hid o2.rd
    clear o2 b2
    go_wp2_with fail
    refine (specWorstOf_any _ _ _ HO.out).mono ?_
    rintro e w' ⟨rfl, rfl⟩
    rw [HX.out, HG.out]
    rcases Bool.eq_false_or_eq_true (left == 0) with hz | hz
    · have h0 : left = 0 := by simpa using hz
      subst h0
      clear hz
      by_cases hx0 : 0 < x
      · go_wp2_with fail
        go_ret
        exact rows_ret (by rw [HS.out, HE.out, decide_eq_true hx0]; rfl) (HU.out.keep (SameAt.of_below HB.out)) HB.out
      · have hx0' : decide (0 < x) = false := decide_eq_false hx0
        go_wp2_with fail
        go_ret
        exact rows_ret (by rw [HS.out, HE.out, hx0']; rfl) (lit_own _ _ (Nat.le_trans hbase HB.out.size)) (HB.out.alloc HB.out.size _)
    · have hz' : ¬ left = 0 := by intro h; subst h; cases hz
      have HZ := Lib.hid hz
      go_wp2_with fail
      go_ret
      exact rows_ret (by rw [HS.out, HZ.out]; rfl) (lit_own _ _ (Nat.le_trans hbase HB.out.size)) (HB.out.alloc HB.out.size _)
  | succ k ih =>
    intro w base n v bs g cap ts left hv hb h2 hl hu l0 l6 hbase
    obtain ⟨A, c, rfl, hl1, hm1⟩ := hv.form
    have HV := Lib.hid hv
    have HU := Lib.hid hu
    have HS := Lib.hid (wsearch_succ (winB n bs) ts k l0)
    have hs1 : ((ts.length : Int) == (bs.length : Int)) = false := by simp; omega
    have hq3 := ((bidsB_iff _ _).1 hb).2.1
    have ht3 : ts.length ≤ 2 := by omega
    have HL := Lib.hid hl
    have HBK := Lib.hid hb
    have H2 := Lib.hid h2
    have IH := Lib.hid ih
    clear hv hu hl hl1 hb h2 ih
    go_enter Try.func86, Try.ntmps86
    go_wp2_with fail
    have hw0 : wrap64 0 = 0 := by unfold wrap64; omega
    have hw1 : wrap64 1 = 1 := by unfold wrap64; omega
    have hw2 : wrap64 2 = 2 := by unfold wrap64; omega
    have hw3 : wrap64 3 = 3 := by unfold wrap64; omega
    have hv1 : wrap64 (-1) = -1 := by unfold wrap64; omega
    have hv2 : wrap64 (-2) = -2 := by unfold wrap64; omega
    obtain ⟨i0, hi, hz0, hz1, hz2⟩ := info_parts Try_intinfo
    go_loopg [13] 6 (fun gk s wr => ∃ (d : Nat) (x : Int), gk = 6 - d ∧ d ≤ 5 ∧ s = .int .i64 x ∧ x = (d : Int) - 2 ∧ Hid (WSrchRel w n bs ts k left d wr))
    case atStart => exact ⟨0, -2, rfl, by omega, rfl, rfl, Lib.hid ⟨Below.refl _ _, rfl⟩⟩
    case round =>
      obtain ⟨d, x, hgk, hd, rfl, hx, HR⟩ := hrel
      obtain ⟨hBW, hov⟩ := HR.out
      have hsz := hBW.size
      have HBW := Lib.hid hBW
      have HOV := Lib.hid hov
      clear HR hBW hov
      rcases Nat.lt_or_ge d 5 with h5 | h5
      · obtain ⟨a, ha⟩ : ∃ a : Int, a = (x.natAbs : Int) := ⟨_, rfl⟩
        have HTD : Hid (tries.drop d = x :: tries.drop (d + 1)) := Lib.hid (by
          rw [hx]
          rcases (by omega : d = 0 ∨ d = 1 ∨ d = 2 ∨ d = 3 ∨ d = 4) with rfl | rfl | rfl | rfl | rfl <;> rfl)
        have HX2 : Hid (-2 ≤ x ∧ x ≤ 2) := Lib.hid (by omega)
        by_cases hle : a ≤ left
        · have HSUB : Hid (wsubL (winB n bs) ts k left x = wsearchL (winB n bs) (ts ++ [x]) k (left - a)) := Lib.hid (by rw [ha]; exact wsub_near (by omega))
          obtain ⟨res, hres⟩ : ∃ res, wsearchL (winB n bs) (ts ++ [x]) k (left - a) = res := ⟨_, rfl⟩
          have hrl : res.length ≤ 3 := by
            have h1 := wsearch_len (P := winB n bs) (ts := ts ++ [x]) (k := k) (left := left - a)
            rw [hres, List.length_append, List.length_singleton] at h1
            have h2 := HL.out
            omega
          have HRES := Lib.hid hres
          have h2' : Two2 (ts ++ [x]) := fun y hy => by
            rcases List.mem_append.1 hy with h | h
            · exact H2.out y h
            · obtain rfl := List.mem_singleton.1 h; exact HX2.out
          obtain ⟨us, hus⟩ : ∃ us, us = ts ++ [x] := ⟨_, rfl⟩
          have hul : us.length + k = bs.length ∧ 0 < us.length := by
            have h2 := HL.out
            rw [hus, List.length_append, List.length_singleton]
            omega
          rw [← hus] at h2'
          have HUL := Lib.hid hul
          have HUS := Lib.hid hus
          have H2' := Lib.hid h2'
          clear h2' hres hul hus
          have hown := Lib.hid (lit_own wr wr.heap.size (Nat.le_refl _))
          have hnews := Lib.hid (ird_news ((HU.out.keep (SameAt.of_below HBW.out)).rd.keep (SameAt.grow (w' := wr.alloc (.cells #[] 3)) rfl)))
          rcases (by omega : (d = 0 ∧ x = -2 ∧ a = 2) ∨ (d = 1 ∧ x = -1 ∧ a = 1) ∨ (d = 2 ∧ x = 0 ∧ a = 0) ∨ (d = 3 ∧ x = 1 ∧ a = 1) ∨ (d = 4 ∧ x = 2 ∧ a = 2)) with ⟨rfl, rfl, rfl⟩ | ⟨rfl, rfl, rfl⟩ | ⟨rfl, rfl, rfl⟩ | ⟨rfl, rfl, rfl⟩ | ⟨rfl, rfl, rfl⟩
          · clear hx ha
            go_wp2_with (at_builtin; refine wpList_append_own _ rfl (.tmp 55) (.tmp 56) 31 rfl wr.heap.size 3 i0 (.int .i64 0) 1 8 Try.underlying31 hi hz0 hz1 hz2 rfl (by decide) _ _ _ rfl hown.out ⟨g, 0, none⟩ ts.length cap (ts.map (Value.int .i64)) rfl ?c00 hnews.out (ints_one' ts) ?c03 ?c04 ?c05 ?_)
            case c00 => simp
            case c03 => unfold maxLen; simp; omega
            case c04 => simp; omega
            case c05 => simp
            intro v1 w1 hown1 hgrow1 _
            have hown1 : w1.ownsRow wr.heap.size 3 1 v1 ts.length (ts.map (Value.int .i64)) := by simpa using hown1
            have b1 : Below wr.heap.size wr w1 := below_app hgrow1 (fun k hk => by have h1 : wr.heap.size = k := Option.some.inj hk; omega)
            have hge1 := World.ownsRow.lt hown1
            have hs1' := b1.size
            have HB1 := Lib.hid b1
            have HGE := Lib.hid hge1
            have hown2 := Lib.hid (World.ownsRow.alloc (w := w1) hown1 (.cells #[.int .i64 (-2)] 3))
            clear hown hnews hown1 hgrow1 b1 hge1
            go_wp2_with (at_builtin; refine wpList_append_own _ rfl (.tmp 57) (.tmp 59) 31 rfl wr.heap.size 3 i0 (.int .i64 0) 1 8 Try.underlying31 hi hz0 hz1 hz2 rfl (by decide) _ _ _ rfl hown2.out ⟨w1.heap.size, 0, none⟩ 1 1 [.int .i64 (-2)] rfl rfl ?d01 one_int ?d03 ?d04 ?d05 ?_)
            case d01 => exact one_new w1 _ _
            case d03 => unfold maxLen; omega
            case d04 => omega
            case d05 => simp; omega
            intro v2 w2 hown3 hgrow2 _
            have o2 : IOwn w2 wr.heap.size v2 us := by rw [HUS.out]; unfold IOwn; simpa using hown3
            have b2 : Below wr.heap.size wr w2 := (HB1.out.alloc HB1.out.size _).grown hgrow2 (by simp; omega) (fun k hk => (HGE.out k hk).1)
            obtain ⟨g2, c2, rfl, hc2, hm2⟩ := o2.form HUL.out.2
            have hs2' := b2.size
            have HO2 := Lib.hid o2
            have HB2 := Lib.hid b2
            clear hown2 hown3 hgrow2 o2 b2 HB1 HGE
            go_wp2_with fail
            refine (IH.out w2 wr.heap.size n _ bs g2 c2 us _ ((HV.out.keep (SameAt.of_below HBW.out)).keep (SameAt.of_below HB2.out)) HBK.out H2'.out HUL.out.1 HO2.out (by omega) (by omega) hs2').mono ?_
            rintro r w3 ⟨v3, rfl, o3, b3⟩
            rw [HUS.out] at o3
            first
              | rw [HRES.out] at o3
              | (have h0 := HRES.out; rw [Int.sub_zero] at h0; rw [h0] at o3)
            obtain ⟨A3, c3, rfl, hl3, hm3, -⟩ := id o3.rd
            have HO3 := Lib.hid (o3.base (Nat.le_trans hbase hsz))
            have HB3 := Lib.hid (below_step HBW.out (below_step HB2.out b3 hs2') hsz)
            clear o3 b3 HO2 HB2
            by_cases hz : (res.length : Int) ≤ 0
            · have HE : Hid (wsubL (winB n bs) ts k left (-2) = []) := Lib.hid (by rw [HSUB.out, HRES.out]; exact List.eq_nil_of_length_eq_zero (by omega))
              go_wp2_with fail
              go_roundg (6 - (0 + 1))
              case measure => omega
              case rel => exact ⟨0 + 1, (-2) + 1, rfl, by omega, by simp, by omega, Lib.hid ⟨HB3.out, by rw [HOV.out, HTD.out, wover_skip HE.out]⟩⟩
            · have HE : Hid (woverL (winB n bs) ts k left ((-2) :: tries.drop (0 + 1)) = res) := Lib.hid (by
                rw [← HRES.out, ← HSUB.out]
                exact wover_stop (by rw [HSUB.out, HRES.out]; omega))
              go_wp2_with fail
              go_ret
              exact rows_ret (by rw [HS.out, HOV.out, HTD.out, HE.out]) HO3.out HB3.out
          · clear hx ha
            go_wp2_with (at_builtin; refine wpList_append_own _ rfl (.tmp 55) (.tmp 56) 31 rfl wr.heap.size 3 i0 (.int .i64 0) 1 8 Try.underlying31 hi hz0 hz1 hz2 rfl (by decide) _ _ _ rfl hown.out ⟨g, 0, none⟩ ts.length cap (ts.map (Value.int .i64)) rfl ?c10 hnews.out (ints_one' ts) ?c13 ?c14 ?c15 ?_)
            case c10 => simp
            case c13 => unfold maxLen; simp; omega
            case c14 => simp; omega
            case c15 => simp
            intro v1 w1 hown1 hgrow1 _
            have hown1 : w1.ownsRow wr.heap.size 3 1 v1 ts.length (ts.map (Value.int .i64)) := by simpa using hown1
            have b1 : Below wr.heap.size wr w1 := below_app hgrow1 (fun k hk => by have h1 : wr.heap.size = k := Option.some.inj hk; omega)
            have hge1 := World.ownsRow.lt hown1
            have hs1' := b1.size
            have HB1 := Lib.hid b1
            have HGE := Lib.hid hge1
            have hown2 := Lib.hid (World.ownsRow.alloc (w := w1) hown1 (.cells #[.int .i64 (-1)] 3))
            clear hown hnews hown1 hgrow1 b1 hge1
            go_wp2_with (at_builtin; refine wpList_append_own _ rfl (.tmp 57) (.tmp 59) 31 rfl wr.heap.size 3 i0 (.int .i64 0) 1 8 Try.underlying31 hi hz0 hz1 hz2 rfl (by decide) _ _ _ rfl hown2.out ⟨w1.heap.size, 0, none⟩ 1 1 [.int .i64 (-1)] rfl rfl ?d11 one_int ?d13 ?d14 ?d15 ?_)
            case d11 => exact one_new w1 _ _
            case d13 => unfold maxLen; omega
            case d14 => omega
            case d15 => simp; omega
            intro v2 w2 hown3 hgrow2 _
            have o2 : IOwn w2 wr.heap.size v2 us := by rw [HUS.out]; unfold IOwn; simpa using hown3
            have b2 : Below wr.heap.size wr w2 := (HB1.out.alloc HB1.out.size _).grown hgrow2 (by simp; omega) (fun k hk => (HGE.out k hk).1)
            obtain ⟨g2, c2, rfl, hc2, hm2⟩ := o2.form HUL.out.2
            have hs2' := b2.size
            have HO2 := Lib.hid o2
            have HB2 := Lib.hid b2
            clear hown2 hown3 hgrow2 o2 b2 HB1 HGE
            go_wp2_with fail
            refine (IH.out w2 wr.heap.size n _ bs g2 c2 us _ ((HV.out.keep (SameAt.of_below HBW.out)).keep (SameAt.of_below HB2.out)) HBK.out H2'.out HUL.out.1 HO2.out (by omega) (by omega) hs2').mono ?_
            rintro r w3 ⟨v3, rfl, o3, b3⟩
            rw [HUS.out] at o3
            first
              | rw [HRES.out] at o3
              | (have h0 := HRES.out; rw [Int.sub_zero] at h0; rw [h0] at o3)
            obtain ⟨A3, c3, rfl, hl3, hm3, -⟩ := id o3.rd
            have HO3 := Lib.hid (o3.base (Nat.le_trans hbase hsz))
            have HB3 := Lib.hid (below_step HBW.out (below_step HB2.out b3 hs2') hsz)
            clear o3 b3 HO2 HB2
            by_cases hz : (res.length : Int) ≤ 0
            · have HE : Hid (wsubL (winB n bs) ts k left (-1) = []) := Lib.hid (by rw [HSUB.out, HRES.out]; exact List.eq_nil_of_length_eq_zero (by omega))
              go_wp2_with fail
              go_roundg (6 - (1 + 1))
              case measure => omega
              case rel => exact ⟨1 + 1, (-1) + 1, rfl, by omega, by simp, by omega, Lib.hid ⟨HB3.out, by rw [HOV.out, HTD.out, wover_skip HE.out]⟩⟩
            · have HE : Hid (woverL (winB n bs) ts k left ((-1) :: tries.drop (1 + 1)) = res) := Lib.hid (by
                rw [← HRES.out, ← HSUB.out]
                exact wover_stop (by rw [HSUB.out, HRES.out]; omega))
              go_wp2_with fail
              go_ret
              exact rows_ret (by rw [HS.out, HOV.out, HTD.out, HE.out]) HO3.out HB3.out
          · clear hx ha
            go_wp2_with (at_builtin; refine wpList_append_own _ rfl (.tmp 55) (.tmp 56) 31 rfl wr.heap.size 3 i0 (.int .i64 0) 1 8 Try.underlying31 hi hz0 hz1 hz2 rfl (by decide) _ _ _ rfl hown.out ⟨g, 0, none⟩ ts.length cap (ts.map (Value.int .i64)) rfl ?c20 hnews.out (ints_one' ts) ?c23 ?c24 ?c25 ?_)
            case c20 => simp
            case c23 => unfold maxLen; simp; omega
            case c24 => simp; omega
            case c25 => simp
            intro v1 w1 hown1 hgrow1 _
            have hown1 : w1.ownsRow wr.heap.size 3 1 v1 ts.length (ts.map (Value.int .i64)) := by simpa using hown1
            have b1 : Below wr.heap.size wr w1 := below_app hgrow1 (fun k hk => by have h1 : wr.heap.size = k := Option.some.inj hk; omega)
            have hge1 := World.ownsRow.lt hown1
            have hs1' := b1.size
            have HB1 := Lib.hid b1
            have HGE := Lib.hid hge1
            have hown2 := Lib.hid (World.ownsRow.alloc (w := w1) hown1 (.cells #[.int .i64 0] 3))
            clear hown hnews hown1 hgrow1 b1 hge1
            go_wp2_with (at_builtin; refine wpList_append_own _ rfl (.tmp 57) (.tmp 59) 31 rfl wr.heap.size 3 i0 (.int .i64 0) 1 8 Try.underlying31 hi hz0 hz1 hz2 rfl (by decide) _ _ _ rfl hown2.out ⟨w1.heap.size, 0, none⟩ 1 1 [.int .i64 0] rfl rfl ?d21 one_int ?d23 ?d24 ?d25 ?_)
            case d21 => exact one_new w1 _ _
            case d23 => unfold maxLen; omega
            case d24 => omega
            case d25 => simp; omega
            intro v2 w2 hown3 hgrow2 _
            have o2 : IOwn w2 wr.heap.size v2 us := by rw [HUS.out]; unfold IOwn; simpa using hown3
            have b2 : Below wr.heap.size wr w2 := (HB1.out.alloc HB1.out.size _).grown hgrow2 (by simp; omega) (fun k hk => (HGE.out k hk).1)
            obtain ⟨g2, c2, rfl, hc2, hm2⟩ := o2.form HUL.out.2
            have hs2' := b2.size
            have HO2 := Lib.hid o2
            have HB2 := Lib.hid b2
            clear hown2 hown3 hgrow2 o2 b2 HB1 HGE
            go_wp2_with fail
            refine (IH.out w2 wr.heap.size n _ bs g2 c2 us _ ((HV.out.keep (SameAt.of_below HBW.out)).keep (SameAt.of_below HB2.out)) HBK.out H2'.out HUL.out.1 HO2.out (by omega) (by omega) hs2').mono ?_
            rintro r w3 ⟨v3, rfl, o3, b3⟩
            rw [HUS.out] at o3
            first
              | rw [HRES.out] at o3
              | (have h0 := HRES.out; rw [Int.sub_zero] at h0; rw [h0] at o3)
            obtain ⟨A3, c3, rfl, hl3, hm3, -⟩ := id o3.rd
            have HO3 := Lib.hid (o3.base (Nat.le_trans hbase hsz))
            have HB3 := Lib.hid (below_step HBW.out (below_step HB2.out b3 hs2') hsz)
            clear o3 b3 HO2 HB2
            by_cases hz : (res.length : Int) ≤ 0
            · have HE : Hid (wsubL (winB n bs) ts k left 0 = []) := Lib.hid (by rw [HSUB.out, HRES.out]; exact List.eq_nil_of_length_eq_zero (by omega))
              go_wp2_with fail
              go_roundg (6 - (2 + 1))
              case measure => omega
              case rel => exact ⟨2 + 1, 0 + 1, rfl, by omega, by simp, by omega, Lib.hid ⟨HB3.out, by rw [HOV.out, HTD.out, wover_skip HE.out]⟩⟩
            · have HE : Hid (woverL (winB n bs) ts k left (0 :: tries.drop (2 + 1)) = res) := Lib.hid (by
                rw [← HRES.out, ← HSUB.out]
                exact wover_stop (by rw [HSUB.out, HRES.out]; omega))
              go_wp2_with fail
              go_ret
              exact rows_ret (by rw [HS.out, HOV.out, HTD.out, HE.out]) HO3.out HB3.out
          · clear hx ha
            go_wp2_with (at_builtin; refine wpList_append_own _ rfl (.tmp 55) (.tmp 56) 31 rfl wr.heap.size 3 i0 (.int .i64 0) 1 8 Try.underlying31 hi hz0 hz1 hz2 rfl (by decide) _ _ _ rfl hown.out ⟨g, 0, none⟩ ts.length cap (ts.map (Value.int .i64)) rfl ?c30 hnews.out (ints_one' ts) ?c33 ?c34 ?c35 ?_)
            case c30 => simp
            case c33 => unfold maxLen; simp; omega
            case c34 => simp; omega
            case c35 => simp
            intro v1 w1 hown1 hgrow1 _
            have hown1 : w1.ownsRow wr.heap.size 3 1 v1 ts.length (ts.map (Value.int .i64)) := by simpa using hown1
            have b1 : Below wr.heap.size wr w1 := below_app hgrow1 (fun k hk => by have h1 : wr.heap.size = k := Option.some.inj hk; omega)
            have hge1 := World.ownsRow.lt hown1
            have hs1' := b1.size
            have HB1 := Lib.hid b1
            have HGE := Lib.hid hge1
            have hown2 := Lib.hid (World.ownsRow.alloc (w := w1) hown1 (.cells #[.int .i64 1] 3))
            clear hown hnews hown1 hgrow1 b1 hge1
            go_wp2_with (at_builtin; refine wpList_append_own _ rfl (.tmp 57) (.tmp 59) 31 rfl wr.heap.size 3 i0 (.int .i64 0) 1 8 Try.underlying31 hi hz0 hz1 hz2 rfl (by decide) _ _ _ rfl hown2.out ⟨w1.heap.size, 0, none⟩ 1 1 [.int .i64 1] rfl rfl ?d31 one_int ?d33 ?d34 ?d35 ?_)
            case d31 => exact one_new w1 _ _
            case d33 => unfold maxLen; omega
            case d34 => omega
            case d35 => simp; omega
            intro v2 w2 hown3 hgrow2 _
            have o2 : IOwn w2 wr.heap.size v2 us := by rw [HUS.out]; unfold IOwn; simpa using hown3
            have b2 : Below wr.heap.size wr w2 := (HB1.out.alloc HB1.out.size _).grown hgrow2 (by simp; omega) (fun k hk => (HGE.out k hk).1)
            obtain ⟨g2, c2, rfl, hc2, hm2⟩ := o2.form HUL.out.2
            have hs2' := b2.size
            have HO2 := Lib.hid o2
            have HB2 := Lib.hid b2
            clear hown2 hown3 hgrow2 o2 b2 HB1 HGE
            go_wp2_with fail
            refine (IH.out w2 wr.heap.size n _ bs g2 c2 us _ ((HV.out.keep (SameAt.of_below HBW.out)).keep (SameAt.of_below HB2.out)) HBK.out H2'.out HUL.out.1 HO2.out (by omega) (by omega) hs2').mono ?_
            rintro r w3 ⟨v3, rfl, o3, b3⟩
            rw [HUS.out] at o3
            first
              | rw [HRES.out] at o3
              | (have h0 := HRES.out; rw [Int.sub_zero] at h0; rw [h0] at o3)
            obtain ⟨A3, c3, rfl, hl3, hm3, -⟩ := id o3.rd
            have HO3 := Lib.hid (o3.base (Nat.le_trans hbase hsz))
            have HB3 := Lib.hid (below_step HBW.out (below_step HB2.out b3 hs2') hsz)
            clear o3 b3 HO2 HB2
            by_cases hz : (res.length : Int) ≤ 0
            · have HE : Hid (wsubL (winB n bs) ts k left 1 = []) := Lib.hid (by rw [HSUB.out, HRES.out]; exact List.eq_nil_of_length_eq_zero (by omega))
              go_wp2_with fail
              go_roundg (6 - (3 + 1))
              case measure => omega
              case rel => exact ⟨3 + 1, 1 + 1, rfl, by omega, by simp, by omega, Lib.hid ⟨HB3.out, by rw [HOV.out, HTD.out, wover_skip HE.out]⟩⟩
            · have HE : Hid (woverL (winB n bs) ts k left (1 :: tries.drop (3 + 1)) = res) := Lib.hid (by
                rw [← HRES.out, ← HSUB.out]
                exact wover_stop (by rw [HSUB.out, HRES.out]; omega))
              go_wp2_with fail
              go_ret
              exact rows_ret (by rw [HS.out, HOV.out, HTD.out, HE.out]) HO3.out HB3.out
          · clear hx ha
            go_wp2_with (at_builtin; refine wpList_append_own _ rfl (.tmp 55) (.tmp 56) 31 rfl wr.heap.size 3 i0 (.int .i64 0) 1 8 Try.underlying31 hi hz0 hz1 hz2 rfl (by decide) _ _ _ rfl hown.out ⟨g, 0, none⟩ ts.length cap (ts.map (Value.int .i64)) rfl ?c40 hnews.out (ints_one' ts) ?c43 ?c44 ?c45 ?_)
            case c40 => simp
            case c43 => unfold maxLen; simp; omega
            case c44 => simp; omega
            case c45 => simp
            intro v1 w1 hown1 hgrow1 _
            have hown1 : w1.ownsRow wr.heap.size 3 1 v1 ts.length (ts.map (Value.int .i64)) := by simpa using hown1
            have b1 : Below wr.heap.size wr w1 := below_app hgrow1 (fun k hk => by have h1 : wr.heap.size = k := Option.some.inj hk; omega)
            have hge1 := World.ownsRow.lt hown1
            have hs1' := b1.size
            have HB1 := Lib.hid b1
            have HGE := Lib.hid hge1
            have hown2 := Lib.hid (World.ownsRow.alloc (w := w1) hown1 (.cells #[.int .i64 2] 3))
            clear hown hnews hown1 hgrow1 b1 hge1
            go_wp2_with (at_builtin; refine wpList_append_own _ rfl (.tmp 57) (.tmp 59) 31 rfl wr.heap.size 3 i0 (.int .i64 0) 1 8 Try.underlying31 hi hz0 hz1 hz2 rfl (by decide) _ _ _ rfl hown2.out ⟨w1.heap.size, 0, none⟩ 1 1 [.int .i64 2] rfl rfl ?d41 one_int ?d43 ?d44 ?d45 ?_)
            case d41 => exact one_new w1 _ _
            case d43 => unfold maxLen; omega
            case d44 => omega
            case d45 => simp; omega
            intro v2 w2 hown3 hgrow2 _
            have o2 : IOwn w2 wr.heap.size v2 us := by rw [HUS.out]; unfold IOwn; simpa using hown3
            have b2 : Below wr.heap.size wr w2 := (HB1.out.alloc HB1.out.size _).grown hgrow2 (by simp; omega) (fun k hk => (HGE.out k hk).1)
            obtain ⟨g2, c2, rfl, hc2, hm2⟩ := o2.form HUL.out.2
            have hs2' := b2.size
            have HO2 := Lib.hid o2
            have HB2 := Lib.hid b2
            clear hown2 hown3 hgrow2 o2 b2 HB1 HGE
            go_wp2_with fail
            refine (IH.out w2 wr.heap.size n _ bs g2 c2 us _ ((HV.out.keep (SameAt.of_below HBW.out)).keep (SameAt.of_below HB2.out)) HBK.out H2'.out HUL.out.1 HO2.out (by omega) (by omega) hs2').mono ?_
            rintro r w3 ⟨v3, rfl, o3, b3⟩
            rw [HUS.out] at o3
            first
              | rw [HRES.out] at o3
              | (have h0 := HRES.out; rw [Int.sub_zero] at h0; rw [h0] at o3)
            obtain ⟨A3, c3, rfl, hl3, hm3, -⟩ := id o3.rd
            have HO3 := Lib.hid (o3.base (Nat.le_trans hbase hsz))
            have HB3 := Lib.hid (below_step HBW.out (below_step HB2.out b3 hs2') hsz)
            clear o3 b3 HO2 HB2
            by_cases hz : (res.length : Int) ≤ 0
            · have HE : Hid (wsubL (winB n bs) ts k left 2 = []) := Lib.hid (by rw [HSUB.out, HRES.out]; exact List.eq_nil_of_length_eq_zero (by omega))
              go_wp2_with fail
              go_roundg (6 - (4 + 1))
              case measure => omega
              case rel => exact ⟨4 + 1, 2 + 1, rfl, by omega, by simp, by omega, Lib.hid ⟨HB3.out, by rw [HOV.out, HTD.out, wover_skip HE.out]⟩⟩
            · have HE : Hid (woverL (winB n bs) ts k left (2 :: tries.drop (4 + 1)) = res) := Lib.hid (by
                rw [← HRES.out, ← HSUB.out]
                exact wover_stop (by rw [HSUB.out, HRES.out]; omega))
              go_wp2_with fail
              go_ret
              exact rows_ret (by rw [HS.out, HOV.out, HTD.out, HE.out]) HO3.out HB3.out
        · have HE : Hid (wsubL (winB n bs) ts k left x = []) := Lib.hid (wsub_far (by omega))
          rcases (by omega : (d = 0 ∧ x = -2 ∧ a = 2) ∨ (d = 1 ∧ x = -1 ∧ a = 1) ∨ (d = 2 ∧ x = 0 ∧ a = 0) ∨ (d = 3 ∧ x = 1 ∧ a = 1) ∨ (d = 4 ∧ x = 2 ∧ a = 2)) with ⟨rfl, rfl, rfl⟩ | ⟨rfl, rfl, rfl⟩ | ⟨rfl, rfl, rfl⟩ | ⟨rfl, rfl, rfl⟩ | ⟨rfl, rfl, rfl⟩
          · clear hx ha
            have hlt : left < 2 := by omega
            go_wp2_with fail
            go_roundg (6 - (0 + 1))
            case measure => omega
            case rel => exact ⟨0 + 1, (-2) + 1, rfl, by omega, by simp, by omega, Lib.hid ⟨HBW.out, by rw [HOV.out, HTD.out, wover_skip HE.out]⟩⟩
          · clear hx ha
            have hlt : left < 1 := by omega
            go_wp2_with fail
            go_roundg (6 - (1 + 1))
            case measure => omega
            case rel => exact ⟨1 + 1, (-1) + 1, rfl, by omega, by simp, by omega, Lib.hid ⟨HBW.out, by rw [HOV.out, HTD.out, wover_skip HE.out]⟩⟩
          · exact absurd l0 (by omega)
          · clear hx ha
            have hlt : left < 1 := by omega
            go_wp2_with fail
            go_roundg (6 - (3 + 1))
            case measure => omega
            case rel => exact ⟨3 + 1, 1 + 1, rfl, by omega, by simp, by omega, Lib.hid ⟨HBW.out, by rw [HOV.out, HTD.out, wover_skip HE.out]⟩⟩
          · clear hx ha
            have hlt : left < 2 := by omega
            go_wp2_with fail
            go_roundg (6 - (4 + 1))
            case measure => omega
            case rel => exact ⟨4 + 1, 2 + 1, rfl, by omega, by simp, by omega, Lib.hid ⟨HBW.out, by rw [HOV.out, HTD.out, wover_skip HE.out]⟩⟩
      · obtain rfl : d = 5 := by omega
        obtain rfl : x = 3 := by omega
        have HE : Hid (woverL (winB n bs) ts k left (tries.drop 5) = []) := Lib.hid rfl
        go_wp2_with fail
        go_ret
        exact rows_ret (by rw [HS.out, HOV.out, HE.out]) (lit_own _ _ (Nat.le_trans hbase hsz)) (HBW.out.alloc hsz _)

theorem win_hit {n : Int} {bs : List Bt} {sum : Nat} {res : List Int} (h1 : 1 ≤ sum) (h6 : sum ≤ 6) (hl : winning n bs = winFrom (winB n bs) bs.length sum (7 - sum)) (hr : wsearchL (winB n bs) [] bs.length (sum : Int) = res) (hp : 0 < res.length) : winOk n bs = true ∧ winR n bs = res := by
  have e := wsearch_in (P := winB n bs) (k := bs.length) h1
  rw [hr, if_pos hp] at e
  have h : winning n bs = some res := by rw [hl, show 7 - sum = (6 - sum) + 1 from by omega, win_step, e]
  rw [winOk, winR, h]
  exact ⟨rfl, rfl⟩

theorem win_miss {n : Int} {bs : List Bt} {sum : Nat} {res : List Int} (h1 : 1 ≤ sum) (h6 : sum ≤ 6) (hl : winning n bs = winFrom (winB n bs) bs.length sum (7 - sum)) (hr : wsearchL (winB n bs) [] bs.length (sum : Int) = res) (hp : ¬ 0 < res.length) : winning n bs = winFrom (winB n bs) bs.length (sum + 1) (7 - (sum + 1)) := by
  have e := wsearch_in (P := winB n bs) (k := bs.length) h1
  rw [hr, if_neg hp] at e
  rw [hl, show 7 - sum = (6 - sum) + 1 from by omega, win_step, e, show 7 - (sum + 1) = 6 - sum from by omega]

theorem win_end {n : Int} {bs : List Bt} (hl : winning n bs = winFrom (winB n bs) bs.length 7 (7 - 7)) : winOk n bs = false ∧ winR n bs = [] := by
  have h : winning n bs = none := hl
  rw [winOk, winR, h]
  exact ⟨rfl, rfl⟩

set_option maxHeartbeats 4000000 in
theorem specWinningStakes_any (w : World) (n : Int) (v : Value) (bs : List Bt) (hv : BRd w v bs) :
    Calls Try.prog 36 #[.int .i64 n, v] w (RowOk w.heap.size (winR n bs) (winOk n bs) w) := by
  have HV := Lib.hid hv
  clear hv
  rcases Bool.eq_false_or_eq_true (bidsB n bs) with h | h
  · have H := Lib.hid h
    have H0 := Lib.hid (win_yes h)
    have hq3 := ((bidsB_iff _ _).1 h).2.1
    go_enter Try.func36, Try.ntmps36
    clear h
    go_wp2_with fail
    go_loopg [6] 7 (fun gk s wr => ∃ (sum : Nat), gk = 8 - sum ∧ 1 ≤ sum ∧ sum ≤ 7 ∧ s = .int .i64 (sum : Int) ∧ Hid (Below w.heap.size w wr) ∧ Hid (winning n bs = winFrom (winB n bs) bs.length sum (7 - sum)))
    case atStart => exact ⟨1, rfl, by omega, by omega, rfl, Lib.hid (Below.refl _ _), H0⟩
    case round =>
      obtain ⟨sum, hgk, hs1, hs7, rfl, HB, HL⟩ := hrel
      clear H0
      have hsz := HB.out.size
      rcases Nat.lt_or_ge sum 7 with h7 | h7
      · obtain ⟨res, hres⟩ : ∃ res, wsearchL (winB n bs) [] bs.length (sum : Int) = res := ⟨_, rfl⟩
        have hrl : res.length ≤ 3 := by
          have h1 := wsearch_len (P := winB n bs) (ts := []) (k := bs.length) (left := (sum : Int))
          rw [hres, List.length_nil] at h1
          omega
        have HRES := Lib.hid hres
        clear hres
        go_wp2_with fail
        refine (specBidsOk_any _ _ _ _ (HV.out.keep (SameAt.of_below HB.out))).mono ?_
        rintro r w2 ⟨rfl, b2⟩
        rw [H.out]
        have hs2 := b2.size
        have HB2 := Lib.hid (below_step HB.out b2 hsz)
        clear b2 HB
        have hsz2 := HB2.out.size
        go_wp2_with fail
        refine (l13Search_any bs.length _ w2.heap.size n _ bs w2.heap.size 0 [] (sum : Int) (HV.out.keep (SameAt.of_below (HB2.out.alloc hsz2 _))) H.out two_nil (by simp) (lit_own w2 w2.heap.size (Nat.le_refl _)) (by omega) (by omega) (by simp)).mono ?_
        rintro r w3 ⟨v3, rfl, o3, b3⟩
        rw [HRES.out] at o3
        obtain ⟨A3, c3, rfl, hl3, hm3, -⟩ := id o3.rd
        have HO3 := Lib.hid (o3.base hsz2)
        have HB3 := Lib.hid (below_step (HB2.out.alloc hsz2 (.cells #[] 3)) b3 (by simp; omega))
        clear o3 b3 HB2
        by_cases hz : (res.length : Int) ≤ 0
        · have HM := Lib.hid (win_miss hs1 (by omega) HL.out HRES.out (by omega))
          go_wp2_with fail
          go_roundg (8 - (sum + 1))
          case measure => omega
          case rel => exact ⟨sum + 1, rfl, by omega, by omega, by go_num, HB3, HM⟩
        · have HM := Lib.hid (win_hit hs1 (by omega) HL.out HRES.out (by omega))
          go_wp2_with fail
          go_ret2
          exact rowOk_ret HM.out.1 HM.out.2 HO3.out HB3.out
      · obtain rfl : sum = 7 := by omega
        have HM := Lib.hid (win_end HL.out)
        go_wp2_with fail
        go_ret2
        exact rowOk_ret HM.out.1 HM.out.2 (lit_own _ _ hsz) (HB.out.alloc hsz _)
  · have HN := Lib.hid (win_no h)
    have H := Lib.hid h
    go_enter Try.func36, Try.ntmps36
    clear h
    go_wp2_with fail
    go_loopg [6] 1 (fun gk s wr => gk = 1 ∧ s = .int .i64 1 ∧ wr = w)
    case atStart => exact ⟨rfl, rfl, rfl⟩
    case round =>
      obtain ⟨hgk, rfl, rfl⟩ := hrel
      go_wp2_with fail
      refine (specBidsOk_any _ _ _ _ HV.out).mono ?_
      rintro r w2 ⟨rfl, b2⟩
      rw [H.out]
      have HB2 := Lib.hid b2
      clear b2
      go_wp2_with fail
      go_ret2
      exact rowOk_ret HN.out.2 HN.out.1 (lit_own _ _ HB2.out.size) (HB2.out.alloc HB2.out.size _)

end Go.Proofs.Ytodmgcbcacblbaa
