/- The walk of the law of FairOk. Conditions: rows of bytes that came in. -/
import Derived.Test.YtfjmlbcmidichaaLd0
namespace Go.Proofs.Ytfjmlbcmidichaa
open Go.RowKit
set_option linter.unusedVariables false

set_option maxRecDepth 100000 in
set_option maxHeartbeats 8000000 in
theorem FnFairOk_walk (a0 : Option Addr) (len0 cap0 : Nat) (z0 : List Int) (w : World) (w0 : IsRowC .u8 w a0 len0 cap0 z0) :
    Calls Try.prog 4 #[.slice a0 len0 cap0] w fun e w' => e = .returned (.bool true) ∧ Below w.heap.size w w' := by
  by_cases hlen : 1048576 < len0
  · clear w0
    go_enter Try.func4, Try.ntmps4
    go_wp2
    go_ret
    exact ⟨rfl, Below.refl _ _⟩
  · have hlen' : decide (1048576 < len0) = false := by simpa using hlen
    go_enter Try.func4, Try.ntmps4
    go_wp2_with fail
    refine (drawFairOk_any _ _ _ _ _ w0).mono ?_
    rintro e w1 ⟨n, vb, qs, rfl, ovb1, hl4, B1⟩
    clear hlen hlen' w0
    have z1 := B1.size
    have hvb : ∀ g, vb.ownBlock = some g → g < w1.heap.size := fun g hg => (ovb1.ge g hg).2
    obtain ⟨j0, hj, hy0, hy1, hy2⟩ := info_parts Try_quoteinfo
    rcases Bool.eq_false_or_eq_true (bokB n qs) with hb | hb
    · have HB := Lib.hid hb
      have HNIL := Lib.hid (fair_nil hb)
      by_cases hL0 : qs = []
      · subst hL0
        clear hb
        rcases qown_two ovb1 with rfl | ⟨gb, cb, rfl⟩
        · skip
          go_wp2_with fail
          refine (implFairOk_any w1 n _ [] (ovb1.rd qC_len)).mono ?_
          rintro e w2 ⟨rfl, b2⟩
          rw [HNIL.out]
          have z2 := b2.size
          have B2 := below_step B1 b2 (by omega)
          have ovb2 := ovb1.keep (SameAt.of_below b2)
          clear B1 b2 ovb1
          go_wp2_with fail
          refine (specFairOk_any w2 n _ [] (ovb2.rd qC_len)).mono ?_
          rintro e w3 ⟨rfl, b3⟩
          rw [HNIL.out]
          have z3 := b3.size
          have B3 := below_step B2 b3 (by omega)
          have ovb3 := ovb2.keep (SameAt.of_below b3)
          clear B2 b3 ovb2
          go_wp2_with fail
          refine (specBookOk_any w3 n _ [] (ovb3.rd qC_len)).mono ?_
          rintro e w4 ⟨rfl, b4⟩
          rw [HB.out]
          have z4 := b4.size
          have B4 := below_step B3 b4 (by omega)
          have ovb4 := ovb3.keep (SameAt.of_below b4)
          clear B3 b4 ovb3
          have hown := Lib.hid (litq_own w4)
          go_wp2_with (at_builtin; refine wpList_append_own_none rfl _ _ 23 rfl w4.heap.size 33 j0 2 Try.underlying23 hj _ _ _ rfl hown.out rfl ?_)
          refine (implFairOk_any _ n _ [] (litq_rd w4)).mono ?_
          rintro e w5 ⟨rfl, b5⟩
          rw [HNIL.out]
          have c5 : Below w4.heap.size w4 w5 := below_step ((Below.refl _ _).alloc (Nat.le_refl _) _) b5 (by simp)
          have z5 := c5.size
          have B5 := below_step B4 c5 (by omega)
          have ovb5 := ovb4.keep (SameAt.of_below c5)
          clear B4 b5 c5 ovb4
          go_wp2_with fail
          refine (implFairOk_any _ n _ [] (litq_rd w5)).mono ?_
          rintro e w6 ⟨rfl, b6⟩
          rw [HNIL.out]
          have c6 : Below w5.heap.size w5 w6 := below_step ((Below.refl _ _).alloc (Nat.le_refl _) _) b6 (by simp)
          have z6 := c6.size
          have B6 := below_step B5 c6 (by omega)
          have ovb6 := ovb5.keep (SameAt.of_below c6)
          clear B5 b6 c6 ovb5
          go_wp2_with fail
          go_ret
          exact ⟨ret_bool (by simp), B6⟩
        · skip
          go_wp2_with fail
          refine (implFairOk_any w1 n _ [] (ovb1.rd qC_len)).mono ?_
          rintro e w2 ⟨rfl, b2⟩
          rw [HNIL.out]
          have z2 := b2.size
          have B2 := below_step B1 b2 (by omega)
          have ovb2 := ovb1.keep (SameAt.of_below b2)
          clear B1 b2 ovb1
          go_wp2_with fail
          refine (specFairOk_any w2 n _ [] (ovb2.rd qC_len)).mono ?_
          rintro e w3 ⟨rfl, b3⟩
          rw [HNIL.out]
          have z3 := b3.size
          have B3 := below_step B2 b3 (by omega)
          have ovb3 := ovb2.keep (SameAt.of_below b3)
          clear B2 b3 ovb2
          go_wp2_with fail
          refine (specBookOk_any w3 n _ [] (ovb3.rd qC_len)).mono ?_
          rintro e w4 ⟨rfl, b4⟩
          rw [HB.out]
          have z4 := b4.size
          have B4 := below_step B3 b4 (by omega)
          have ovb4 := ovb3.keep (SameAt.of_below b4)
          clear B3 b4 ovb3
          have hown := Lib.hid (litq_own w4)
          go_wp2_with (at_builtin; refine wpList_append_own_at _ rfl _ _ 23 rfl w4.heap.size 33 j0 (.agg #[.int .i64 0, .int .i64 0]) 2 16 Try.underlying23 hj hy0 hy1 hy2 rfl (by decide) _ _ _ rfl hown.out ⟨gb, 0, none⟩ 0 cb [] rfl rfl (fun j u hu => by simp at hu) (fun u hu => by simp at hu) ?mc3 ?mc4 ?mc5 ?_)
          case mc3 => unfold maxLen; omega
          case mc4 => omega
          case mc5 => simp
          intro v' w5 hown' hgrow _ _
          obtain ⟨oc, bc⟩ := copy_of (w := w4) (qs := []) hown' hgrow rfl
          have zc := bc.size
          have B5 := below_step B4 bc (by omega)
          have ovb5 := ovb4.keep (SameAt.of_below bc)
          clear B4 bc hown' hgrow hown ovb4
          go_wp2_with fail
          refine (implFairOk_any _ n _ [] (oc.rd qC_len)).mono ?_
          rintro e w6 ⟨rfl, b6⟩
          rw [HNIL.out]
          have z6 := b6.size
          have B6 := below_step B5 b6 (by omega)
          have ovb6 := ovb5.keep (SameAt.of_below b6)
          clear B5 b6 oc ovb5
          go_wp2_with fail
          refine (implFairOk_any _ n _ [] (litq_rd w6)).mono ?_
          rintro e w7 ⟨rfl, b7⟩
          rw [HNIL.out]
          have c7 : Below w6.heap.size w6 w7 := below_step ((Below.refl _ _).alloc (Nat.le_refl _) _) b7 (by simp)
          have z7 := c7.size
          have B7 := below_step B6 c7 (by omega)
          have ovb7 := ovb6.keep (SameAt.of_below c7)
          clear B6 b7 c7 ovb6
          go_wp2_with fail
          go_ret
          exact ⟨ret_bool (by simp), B7⟩
      · have hpos' : 0 < qs.length := List.length_pos_iff.2 hL0
        have hpos := Lib.hid hpos'
        obtain ⟨gb, cb, rfl, hcb1, hcb2⟩ := qown_form ovb1 hpos'
        obtain ⟨⟨e, p⟩, hx0⟩ : ∃ q, qs[0]? = some q := ⟨_, List.getElem?_eq_getElem hpos'⟩
        have HX0 := Lib.hid hx0
        have hbn := ((bokB_iff _ _).1 hb).1
        have hn1 : 1 ≤ n := hbn.1
        have hn2 : n ≤ 4 := hbn.2
        obtain ⟨⟨r1, r2⟩, hr⟩ : ∃ r, otherR n (e, p) = r := ⟨_, rfl⟩
        have HOT := Lib.hid hr
        have hfo := fair_other hb hx0
        rw [hr] at hfo
        have HFL0 : Hid (fairB n qs = true → ∀ k, fairB n (qs.take k) = true) := Lib.hid (fun h k => fair_less hb h k)
        clear hx0 hbn hr
        by_cases hL1 : qs.length = 1
        · obtain rfl : qs = [(e, p)] := by
            obtain ⟨q, rfl⟩ := List.length_eq_one_iff.1 hL1
            obtain rfl := Option.some.inj HX0.out
            rfl
          have hcb1 : 1 ≤ cb := hcb1
          have hcb3 : (1 : Int) ≤ (cb : Int) := by omega
          change QOwn w1 _ (.slice (some ⟨gb, 0, none⟩) 1 cb) _ at ovb1
          clear hL0 hL1 hpos' HFL0
          obtain rfl | rfl | rfl | rfl : n = 1 ∨ n = 2 ∨ n = 3 ∨ n = 4 := by omega
          · clear hn1 hn2
            have hcs : (e = 0 ∧ p = 0) ∨ (e = 0 ∧ p ≠ 0) ∨ (e = 1 ∧ p = 6) ∨ (e = 1 ∧ p ≠ 6) ∨ (e ≠ 0 ∧ e ≠ 1) := by omega
            have hone := fair_one_1 hb
            clear hb
            rcases hcs with ⟨rfl, rfl⟩ | ⟨rfl, hp⟩ | ⟨rfl, rfl⟩ | ⟨rfl, hp⟩ | ⟨he0, het⟩
            · skip
              have HF : Hid (fairB 1 [(0, 0)] = true) := Lib.hid (by have h := hone; simpa using h)
              have HFO : Hid (fairB 1 ([(0, 0)].set 0 (r1, r2)) = true) := Lib.hid (hfo.trans HF.out)
              clear hone hfo
              go_wp2_with fail
              refine (implFairOk_any w1 1 _ [(0, 0)] (ovb1.rd qC_len)).mono ?_
              rintro e w2 ⟨rfl, b2⟩
              rw [HF.out]
              have z2 := b2.size
              have B2 := below_step B1 b2 (by omega)
              have ovb2 := ovb1.keep (SameAt.of_below b2)
              clear B1 b2 ovb1
              go_wp2_with fail
              refine (specFairOk_any w2 1 _ [(0, 0)] (ovb2.rd qC_len)).mono ?_
              rintro e w3 ⟨rfl, b3⟩
              rw [HF.out]
              have z3 := b3.size
              have B3 := below_step B2 b3 (by omega)
              have ovb3 := ovb2.keep (SameAt.of_below b3)
              clear B2 b3 ovb2
              go_wp2_with fail
              refine (specBookOk_any w3 1 _ [(0, 0)] (ovb3.rd qC_len)).mono ?_
              rintro e w4 ⟨rfl, b4⟩
              rw [HB.out]
              have z4 := b4.size
              have B4 := below_step B3 b4 (by omega)
              have ovb4 := ovb3.keep (SameAt.of_below b4)
              clear B3 b4 ovb3
              have hown := Lib.hid (litq_own w4)
              have hnews := Lib.hid (grd_news (((ovb4.rd qC_len)).keep (SameAt.grow (w' := w4.alloc (.cells #[] 33)) rfl)))
              go_wp2_with (at_builtin; refine wpList_append_own_at _ rfl _ _ 23 rfl w4.heap.size 33 j0 (.agg #[.int .i64 0, .int .i64 0]) 2 16 Try.underlying23 hj hy0 hy1 hy2 rfl (by decide) _ _ _ rfl hown.out ⟨gb, 0, none⟩ 1 cb ([(0, 0)].flatMap qC) rfl ?mc0 hnews.out (quotes_one [(0, 0)]) ?mc3 ?mc4 ?mc5 ?_)
              case mc0 => exact flat_len qC_len [(0, 0)]
              case mc3 => unfold maxLen; omega
              case mc4 => omega
              case mc5 => simp
              intro v' w5 hown' hgrow _ _
              obtain ⟨oc, bc⟩ := copy_of (w := w4) (qs := [(0, 0)]) hown' hgrow rfl
              obtain ⟨gc, cc, rfl, hcc1, hcc2⟩ := qown_form oc (by simp)
              have hcc1 : 1 ≤ cc := hcc1
              change QOwn w5 _ (.slice (some ⟨gc, 0, none⟩) 1 cc) _ at oc
              have hcc3 : (1 : Int) ≤ (cc : Int) := by omega
              have zc := bc.size
              have B5 := below_step B4 bc (by omega)
              have ovb5 := ovb4.keep (SameAt.of_below bc)
              clear B4 hown' hgrow hown hnews bc ovb4
              have hb0 : w5.cell? ⟨gb, 0, none⟩ = some (.int .i64 0) := by have := (QRd.cell (ovb5.rd qC_len) (k := 0) rfl).1; simpa using this
              have hb1 : w5.cell? ⟨gb, 1, none⟩ = some (.int .i64 0) := by have := (QRd.cell (ovb5.rd qC_len) (k := 0) rfl).2; simpa using this
              go_wp2_with fail
              go_region
              have d6 : Below w5.heap.size w5 (w5.alloc (.cells #[.int .i64 0, .int .i64 0] 33)).drew := ((Below.refl _ _).alloc (Nat.le_refl _) _).drew
              have z6 := d6.size
              have B6 := below_step B5 d6 (by omega)
              have ovb6 := ovb5.keep (SameAt.of_below d6)
              have ovc6 := oc.keep (SameAt.of_below d6)
              have hb2 := QRd.cell (ovb6.rd qC_len) (k := 0) rfl
              clear B5 d6 hb0 hb1 ovb5 oc
              generalize (w5.alloc (.cells #[.int .i64 0, .int .i64 0] 33)).drew = w6 at *
              obtain ⟨hb0, hb1⟩ := hb2
              rw [Nat.zero_mul, Nat.add_zero] at hb0 hb1
              go_wp2_with fail
              refine (implOtherQuote_any 1 (0, 0) _).mono ?_
              rintro e2 w7 ⟨rfl, b7⟩
              rw [HOT.out]
              unfold qV
              have z7 := b7.size
              have B7 := below_step B6 b7 (by omega)
              have ovb7 := ovb6.keep (SameAt.of_below b7)
              have ovc7 := ovc6.keep (SameAt.of_below b7)
              clear B6 b7 hb0 hb1 ovb6 ovc6
              obtain ⟨⟨u0, hu0⟩, hf0, ⟨u1, hu1⟩, hf1⟩ := first_cells ovc7 (by simp)
              obtain ⟨op, gp⟩ := put_first ovc7 (by simp) r1 r2
              have hgc := (ovc7.ge gc rfl).1
              have B8 : Below w.heap.size w ((w7.setCell ⟨gc, 0, none⟩ (.int .i64 r1)).setCell ⟨gc, 1, none⟩ (.int .i64 r2)) := B7.grown gp (by omega) (fun k hk => by have h1 : gc = k := Option.some.inj hk; omega)
              have ovb8 := ovb7.keep (SameAt.of_grown gp (by rcases hvq : (Value.slice (some ⟨gb, 0, none⟩) 1 cb).ownBlock with _ | g; exact .inl rfl; exact .inr (fun e => by have h1 := hvb g hvq; have h2 : g = gc := Option.some.inj e; omega)))
              clear B7 ovc7 ovb7 gp hgc
              go_wp2_with fail
              generalize (w7.setCell ⟨gc, 0, none⟩ (.int .i64 r1)).setCell ⟨gc, 1, none⟩ (.int .i64 r2) = w8 at *
              clear hu0 hf0 hu1 hf1
              have zz : w.heap.size ≤ w8.heap.size := B8.size
              refine (implFairOk_any w8 1 _ ([(0, 0)].set 0 (r1, r2)) (GOwn.rd qC_len op)).mono ?_
              rintro e2 w9 ⟨rfl, b9⟩
              rw [HFO.out]
              have z9 := b9.size
              have B9 := below_step B8 b9 (by omega)
              have ovb9 := ovb8.keep (SameAt.of_below b9)
              clear B8 b9 op ovb8
              go_wp2_with fail
              refine (implFairOk_any _ 1 _ [] (litq_rd w9)).mono ?_
              rintro e w10 ⟨rfl, b10⟩
              rw [HNIL.out]
              have c10 : Below w9.heap.size w9 w10 := below_step ((Below.refl _ _).alloc (Nat.le_refl _) _) b10 (by simp)
              have z10 := c10.size
              have B10 := below_step B9 c10 (by omega)
              have ovb10 := ovb9.keep (SameAt.of_below c10)
              clear B9 b10 c10 ovb9
              have hk2 : (0 : Int) ≤ (cb : Int) := by omega
              go_wp2_with fail
              refine (implFairOk_any w10 1 _ [] (GRd.take (k := 0) (ovb10.rd qC_len) (by omega))).mono ?_
              rintro e w11 ⟨rfl, b11⟩
              rw [HNIL.out]
              have z11 := b11.size
              have B11 := below_step B10 b11 (by omega)
              have ovb11 := ovb10.keep (SameAt.of_below b11)
              clear B10 b11 ovb10
              go_wp2_with fail
              go_ret
              exact ⟨ret_bool (by simp), B11⟩
            · have hp2 : (p == 0) = false := by rw [beq_eq_false_iff_ne]; exact hp
              have hp3 : (p != 0) = true := by rw [bne, hp2]; rfl
              have HF : Hid (fairB 1 [(0, p)] = false) := Lib.hid (by have h := hone; simpa [bne, hp2] using h)
              have HFO : Hid (fairB 1 ([(0, p)].set 0 (r1, r2)) = false) := Lib.hid (hfo.trans HF.out)
              clear hone hfo
              go_wp2_with fail
              refine (implFairOk_any w1 1 _ [(0, p)] (ovb1.rd qC_len)).mono ?_
              rintro e w2 ⟨rfl, b2⟩
              rw [HF.out]
              have z2 := b2.size
              have B2 := below_step B1 b2 (by omega)
              have ovb2 := ovb1.keep (SameAt.of_below b2)
              clear B1 b2 ovb1
              go_wp2_with fail
              refine (specFairOk_any w2 1 _ [(0, p)] (ovb2.rd qC_len)).mono ?_
              rintro e w3 ⟨rfl, b3⟩
              rw [HF.out]
              have z3 := b3.size
              have B3 := below_step B2 b3 (by omega)
              have ovb3 := ovb2.keep (SameAt.of_below b3)
              clear B2 b3 ovb2
              go_wp2_with fail
              refine (specBookOk_any w3 1 _ [(0, p)] (ovb3.rd qC_len)).mono ?_
              rintro e w4 ⟨rfl, b4⟩
              rw [HB.out]
              have z4 := b4.size
              have B4 := below_step B3 b4 (by omega)
              have ovb4 := ovb3.keep (SameAt.of_below b4)
              clear B3 b4 ovb3
              have hown := Lib.hid (litq_own w4)
              have hnews := Lib.hid (grd_news (((ovb4.rd qC_len)).keep (SameAt.grow (w' := w4.alloc (.cells #[] 33)) rfl)))
              go_wp2_with (at_builtin; refine wpList_append_own_at _ rfl _ _ 23 rfl w4.heap.size 33 j0 (.agg #[.int .i64 0, .int .i64 0]) 2 16 Try.underlying23 hj hy0 hy1 hy2 rfl (by decide) _ _ _ rfl hown.out ⟨gb, 0, none⟩ 1 cb ([(0, p)].flatMap qC) rfl ?mc0 hnews.out (quotes_one [(0, p)]) ?mc3 ?mc4 ?mc5 ?_)
              case mc0 => exact flat_len qC_len [(0, p)]
              case mc3 => unfold maxLen; omega
              case mc4 => omega
              case mc5 => simp
              intro v' w5 hown' hgrow _ _
              obtain ⟨oc, bc⟩ := copy_of (w := w4) (qs := [(0, p)]) hown' hgrow rfl
              obtain ⟨gc, cc, rfl, hcc1, hcc2⟩ := qown_form oc (by simp)
              have hcc1 : 1 ≤ cc := hcc1
              change QOwn w5 _ (.slice (some ⟨gc, 0, none⟩) 1 cc) _ at oc
              have hcc3 : (1 : Int) ≤ (cc : Int) := by omega
              have zc := bc.size
              have B5 := below_step B4 bc (by omega)
              have ovb5 := ovb4.keep (SameAt.of_below bc)
              clear B4 hown' hgrow hown hnews bc ovb4
              have hb0 : w5.cell? ⟨gb, 0, none⟩ = some (.int .i64 0) := by have := (QRd.cell (ovb5.rd qC_len) (k := 0) rfl).1; simpa using this
              have hb1 : w5.cell? ⟨gb, 1, none⟩ = some (.int .i64 p) := by have := (QRd.cell (ovb5.rd qC_len) (k := 0) rfl).2; simpa using this
              go_wp2_with fail
              go_region
              have d6 : Below w5.heap.size w5 (w5.alloc (.cells #[.int .i64 0, .int .i64 p] 33)).drew := ((Below.refl _ _).alloc (Nat.le_refl _) _).drew
              have z6 := d6.size
              have B6 := below_step B5 d6 (by omega)
              have ovb6 := ovb5.keep (SameAt.of_below d6)
              have ovc6 := oc.keep (SameAt.of_below d6)
              have hb2 := QRd.cell (ovb6.rd qC_len) (k := 0) rfl
              clear B5 d6 hb0 hb1 ovb5 oc
              generalize (w5.alloc (.cells #[.int .i64 0, .int .i64 p] 33)).drew = w6 at *
              obtain ⟨hb0, hb1⟩ := hb2
              rw [Nat.zero_mul, Nat.add_zero] at hb0 hb1
              go_wp2_with fail
              refine (implOtherQuote_any 1 (0, p) _).mono ?_
              rintro e2 w7 ⟨rfl, b7⟩
              rw [HOT.out]
              unfold qV
              have z7 := b7.size
              have B7 := below_step B6 b7 (by omega)
              have ovb7 := ovb6.keep (SameAt.of_below b7)
              have ovc7 := ovc6.keep (SameAt.of_below b7)
              clear B6 b7 hb0 hb1 ovb6 ovc6
              obtain ⟨⟨u0, hu0⟩, hf0, ⟨u1, hu1⟩, hf1⟩ := first_cells ovc7 (by simp)
              obtain ⟨op, gp⟩ := put_first ovc7 (by simp) r1 r2
              have hgc := (ovc7.ge gc rfl).1
              have B8 : Below w.heap.size w ((w7.setCell ⟨gc, 0, none⟩ (.int .i64 r1)).setCell ⟨gc, 1, none⟩ (.int .i64 r2)) := B7.grown gp (by omega) (fun k hk => by have h1 : gc = k := Option.some.inj hk; omega)
              have ovb8 := ovb7.keep (SameAt.of_grown gp (by rcases hvq : (Value.slice (some ⟨gb, 0, none⟩) 1 cb).ownBlock with _ | g; exact .inl rfl; exact .inr (fun e => by have h1 := hvb g hvq; have h2 : g = gc := Option.some.inj e; omega)))
              clear B7 ovc7 ovb7 gp hgc
              go_wp2_with fail
              generalize (w7.setCell ⟨gc, 0, none⟩ (.int .i64 r1)).setCell ⟨gc, 1, none⟩ (.int .i64 r2) = w8 at *
              clear hu0 hf0 hu1 hf1
              have zz : w.heap.size ≤ w8.heap.size := B8.size
              refine (implFairOk_any w8 1 _ ([(0, p)].set 0 (r1, r2)) (GOwn.rd qC_len op)).mono ?_
              rintro e2 w9 ⟨rfl, b9⟩
              rw [HFO.out]
              have z9 := b9.size
              have B9 := below_step B8 b9 (by omega)
              have ovb9 := ovb8.keep (SameAt.of_below b9)
              clear B8 b9 op ovb8
              go_wp2_with fail
              refine (implFairOk_any _ 1 _ [] (litq_rd w9)).mono ?_
              rintro e w10 ⟨rfl, b10⟩
              rw [HNIL.out]
              have c10 : Below w9.heap.size w9 w10 := below_step ((Below.refl _ _).alloc (Nat.le_refl _) _) b10 (by simp)
              have z10 := c10.size
              have B10 := below_step B9 c10 (by omega)
              have ovb10 := ovb9.keep (SameAt.of_below c10)
              clear B9 b10 c10 ovb9
              go_wp2_with fail
              go_ret
              exact ⟨ret_bool (by simp), B10⟩
            · skip
              have HF : Hid (fairB 1 [(1, 6)] = true) := Lib.hid (by have h := hone; simpa using h)
              have HFO : Hid (fairB 1 ([(1, 6)].set 0 (r1, r2)) = true) := Lib.hid (hfo.trans HF.out)
              clear hone hfo
              go_wp2_with fail
              refine (implFairOk_any w1 1 _ [(1, 6)] (ovb1.rd qC_len)).mono ?_
              rintro e w2 ⟨rfl, b2⟩
              rw [HF.out]
              have z2 := b2.size
              have B2 := below_step B1 b2 (by omega)
              have ovb2 := ovb1.keep (SameAt.of_below b2)
              clear B1 b2 ovb1
              go_wp2_with fail
              refine (specFairOk_any w2 1 _ [(1, 6)] (ovb2.rd qC_len)).mono ?_
              rintro e w3 ⟨rfl, b3⟩
              rw [HF.out]
              have z3 := b3.size
              have B3 := below_step B2 b3 (by omega)
              have ovb3 := ovb2.keep (SameAt.of_below b3)
              clear B2 b3 ovb2
              go_wp2_with fail
              refine (specBookOk_any w3 1 _ [(1, 6)] (ovb3.rd qC_len)).mono ?_
              rintro e w4 ⟨rfl, b4⟩
              rw [HB.out]
              have z4 := b4.size
              have B4 := below_step B3 b4 (by omega)
              have ovb4 := ovb3.keep (SameAt.of_below b4)
              clear B3 b4 ovb3
              have hown := Lib.hid (litq_own w4)
              have hnews := Lib.hid (grd_news (((ovb4.rd qC_len)).keep (SameAt.grow (w' := w4.alloc (.cells #[] 33)) rfl)))
              go_wp2_with (at_builtin; refine wpList_append_own_at _ rfl _ _ 23 rfl w4.heap.size 33 j0 (.agg #[.int .i64 0, .int .i64 0]) 2 16 Try.underlying23 hj hy0 hy1 hy2 rfl (by decide) _ _ _ rfl hown.out ⟨gb, 0, none⟩ 1 cb ([(1, 6)].flatMap qC) rfl ?mc0 hnews.out (quotes_one [(1, 6)]) ?mc3 ?mc4 ?mc5 ?_)
              case mc0 => exact flat_len qC_len [(1, 6)]
              case mc3 => unfold maxLen; omega
              case mc4 => omega
              case mc5 => simp
              intro v' w5 hown' hgrow _ _
              obtain ⟨oc, bc⟩ := copy_of (w := w4) (qs := [(1, 6)]) hown' hgrow rfl
              obtain ⟨gc, cc, rfl, hcc1, hcc2⟩ := qown_form oc (by simp)
              have hcc1 : 1 ≤ cc := hcc1
              change QOwn w5 _ (.slice (some ⟨gc, 0, none⟩) 1 cc) _ at oc
              have hcc3 : (1 : Int) ≤ (cc : Int) := by omega
              have zc := bc.size
              have B5 := below_step B4 bc (by omega)
              have ovb5 := ovb4.keep (SameAt.of_below bc)
              clear B4 hown' hgrow hown hnews bc ovb4
              have hb0 : w5.cell? ⟨gb, 0, none⟩ = some (.int .i64 1) := by have := (QRd.cell (ovb5.rd qC_len) (k := 0) rfl).1; simpa using this
              have hb1 : w5.cell? ⟨gb, 1, none⟩ = some (.int .i64 6) := by have := (QRd.cell (ovb5.rd qC_len) (k := 0) rfl).2; simpa using this
              go_wp2_with fail
              go_region
              have d6 : Below w5.heap.size w5 (w5.alloc (.cells #[.int .i64 1, .int .i64 6] 33)).drew := ((Below.refl _ _).alloc (Nat.le_refl _) _).drew
              have z6 := d6.size
              have B6 := below_step B5 d6 (by omega)
              have ovb6 := ovb5.keep (SameAt.of_below d6)
              have ovc6 := oc.keep (SameAt.of_below d6)
              have hb2 := QRd.cell (ovb6.rd qC_len) (k := 0) rfl
              clear B5 d6 hb0 hb1 ovb5 oc
              generalize (w5.alloc (.cells #[.int .i64 1, .int .i64 6] 33)).drew = w6 at *
              obtain ⟨hb0, hb1⟩ := hb2
              rw [Nat.zero_mul, Nat.add_zero] at hb0 hb1
              go_wp2_with fail
              refine (implOtherQuote_any 1 (1, 6) _).mono ?_
              rintro e2 w7 ⟨rfl, b7⟩
              rw [HOT.out]
              unfold qV
              have z7 := b7.size
              have B7 := below_step B6 b7 (by omega)
              have ovb7 := ovb6.keep (SameAt.of_below b7)
              have ovc7 := ovc6.keep (SameAt.of_below b7)
              clear B6 b7 hb0 hb1 ovb6 ovc6
              obtain ⟨⟨u0, hu0⟩, hf0, ⟨u1, hu1⟩, hf1⟩ := first_cells ovc7 (by simp)
              obtain ⟨op, gp⟩ := put_first ovc7 (by simp) r1 r2
              have hgc := (ovc7.ge gc rfl).1
              have B8 : Below w.heap.size w ((w7.setCell ⟨gc, 0, none⟩ (.int .i64 r1)).setCell ⟨gc, 1, none⟩ (.int .i64 r2)) := B7.grown gp (by omega) (fun k hk => by have h1 : gc = k := Option.some.inj hk; omega)
              have ovb8 := ovb7.keep (SameAt.of_grown gp (by rcases hvq : (Value.slice (some ⟨gb, 0, none⟩) 1 cb).ownBlock with _ | g; exact .inl rfl; exact .inr (fun e => by have h1 := hvb g hvq; have h2 : g = gc := Option.some.inj e; omega)))
              clear B7 ovc7 ovb7 gp hgc
              go_wp2_with fail
              generalize (w7.setCell ⟨gc, 0, none⟩ (.int .i64 r1)).setCell ⟨gc, 1, none⟩ (.int .i64 r2) = w8 at *
              clear hu0 hf0 hu1 hf1
              have zz : w.heap.size ≤ w8.heap.size := B8.size
              refine (implFairOk_any w8 1 _ ([(1, 6)].set 0 (r1, r2)) (GOwn.rd qC_len op)).mono ?_
              rintro e2 w9 ⟨rfl, b9⟩
              rw [HFO.out]
              have z9 := b9.size
              have B9 := below_step B8 b9 (by omega)
              have ovb9 := ovb8.keep (SameAt.of_below b9)
              clear B8 b9 op ovb8
              go_wp2_with fail
              refine (implFairOk_any _ 1 _ [] (litq_rd w9)).mono ?_
              rintro e w10 ⟨rfl, b10⟩
              rw [HNIL.out]
              have c10 : Below w9.heap.size w9 w10 := below_step ((Below.refl _ _).alloc (Nat.le_refl _) _) b10 (by simp)
              have z10 := c10.size
              have B10 := below_step B9 c10 (by omega)
              have ovb10 := ovb9.keep (SameAt.of_below c10)
              clear B9 b10 c10 ovb9
              have hk2 : (0 : Int) ≤ (cb : Int) := by omega
              go_wp2_with fail
              refine (implFairOk_any w10 1 _ [] (GRd.take (k := 0) (ovb10.rd qC_len) (by omega))).mono ?_
              rintro e w11 ⟨rfl, b11⟩
              rw [HNIL.out]
              have z11 := b11.size
              have B11 := below_step B10 b11 (by omega)
              have ovb11 := ovb10.keep (SameAt.of_below b11)
              clear B10 b11 ovb10
              go_wp2_with fail
              go_ret
              exact ⟨ret_bool (by simp), B11⟩
            · have hp2 : (p == 6) = false := by rw [beq_eq_false_iff_ne]; exact hp
              have hp3 : (p != 6) = true := by rw [bne, hp2]; rfl
              have HF : Hid (fairB 1 [(1, p)] = false) := Lib.hid (by have h := hone; simpa [bne, hp2] using h)
              have HFO : Hid (fairB 1 ([(1, p)].set 0 (r1, r2)) = false) := Lib.hid (hfo.trans HF.out)
              clear hone hfo
              go_wp2_with fail
              refine (implFairOk_any w1 1 _ [(1, p)] (ovb1.rd qC_len)).mono ?_
              rintro e w2 ⟨rfl, b2⟩
              rw [HF.out]
              have z2 := b2.size
              have B2 := below_step B1 b2 (by omega)
              have ovb2 := ovb1.keep (SameAt.of_below b2)
              clear B1 b2 ovb1
              go_wp2_with fail
              refine (specFairOk_any w2 1 _ [(1, p)] (ovb2.rd qC_len)).mono ?_
              rintro e w3 ⟨rfl, b3⟩
              rw [HF.out]
              have z3 := b3.size
              have B3 := below_step B2 b3 (by omega)
              have ovb3 := ovb2.keep (SameAt.of_below b3)
              clear B2 b3 ovb2
              go_wp2_with fail
              refine (specBookOk_any w3 1 _ [(1, p)] (ovb3.rd qC_len)).mono ?_
              rintro e w4 ⟨rfl, b4⟩
              rw [HB.out]
              have z4 := b4.size
              have B4 := below_step B3 b4 (by omega)
              have ovb4 := ovb3.keep (SameAt.of_below b4)
              clear B3 b4 ovb3
              have hown := Lib.hid (litq_own w4)
              have hnews := Lib.hid (grd_news (((ovb4.rd qC_len)).keep (SameAt.grow (w' := w4.alloc (.cells #[] 33)) rfl)))
              go_wp2_with (at_builtin; refine wpList_append_own_at _ rfl _ _ 23 rfl w4.heap.size 33 j0 (.agg #[.int .i64 0, .int .i64 0]) 2 16 Try.underlying23 hj hy0 hy1 hy2 rfl (by decide) _ _ _ rfl hown.out ⟨gb, 0, none⟩ 1 cb ([(1, p)].flatMap qC) rfl ?mc0 hnews.out (quotes_one [(1, p)]) ?mc3 ?mc4 ?mc5 ?_)
              case mc0 => exact flat_len qC_len [(1, p)]
              case mc3 => unfold maxLen; omega
              case mc4 => omega
              case mc5 => simp
              intro v' w5 hown' hgrow _ _
              obtain ⟨oc, bc⟩ := copy_of (w := w4) (qs := [(1, p)]) hown' hgrow rfl
              obtain ⟨gc, cc, rfl, hcc1, hcc2⟩ := qown_form oc (by simp)
              have hcc1 : 1 ≤ cc := hcc1
              change QOwn w5 _ (.slice (some ⟨gc, 0, none⟩) 1 cc) _ at oc
              have hcc3 : (1 : Int) ≤ (cc : Int) := by omega
              have zc := bc.size
              have B5 := below_step B4 bc (by omega)
              have ovb5 := ovb4.keep (SameAt.of_below bc)
              clear B4 hown' hgrow hown hnews bc ovb4
              have hb0 : w5.cell? ⟨gb, 0, none⟩ = some (.int .i64 1) := by have := (QRd.cell (ovb5.rd qC_len) (k := 0) rfl).1; simpa using this
              have hb1 : w5.cell? ⟨gb, 1, none⟩ = some (.int .i64 p) := by have := (QRd.cell (ovb5.rd qC_len) (k := 0) rfl).2; simpa using this
              go_wp2_with fail
              go_region
              have d6 : Below w5.heap.size w5 (w5.alloc (.cells #[.int .i64 1, .int .i64 p] 33)).drew := ((Below.refl _ _).alloc (Nat.le_refl _) _).drew
              have z6 := d6.size
              have B6 := below_step B5 d6 (by omega)
              have ovb6 := ovb5.keep (SameAt.of_below d6)
              have ovc6 := oc.keep (SameAt.of_below d6)
              have hb2 := QRd.cell (ovb6.rd qC_len) (k := 0) rfl
              clear B5 d6 hb0 hb1 ovb5 oc
              generalize (w5.alloc (.cells #[.int .i64 1, .int .i64 p] 33)).drew = w6 at *
              obtain ⟨hb0, hb1⟩ := hb2
              rw [Nat.zero_mul, Nat.add_zero] at hb0 hb1
              go_wp2_with fail
              refine (implOtherQuote_any 1 (1, p) _).mono ?_
              rintro e2 w7 ⟨rfl, b7⟩
              rw [HOT.out]
              unfold qV
              have z7 := b7.size
              have B7 := below_step B6 b7 (by omega)
              have ovb7 := ovb6.keep (SameAt.of_below b7)
              have ovc7 := ovc6.keep (SameAt.of_below b7)
              clear B6 b7 hb0 hb1 ovb6 ovc6
              obtain ⟨⟨u0, hu0⟩, hf0, ⟨u1, hu1⟩, hf1⟩ := first_cells ovc7 (by simp)
              obtain ⟨op, gp⟩ := put_first ovc7 (by simp) r1 r2
              have hgc := (ovc7.ge gc rfl).1
              have B8 : Below w.heap.size w ((w7.setCell ⟨gc, 0, none⟩ (.int .i64 r1)).setCell ⟨gc, 1, none⟩ (.int .i64 r2)) := B7.grown gp (by omega) (fun k hk => by have h1 : gc = k := Option.some.inj hk; omega)
              have ovb8 := ovb7.keep (SameAt.of_grown gp (by rcases hvq : (Value.slice (some ⟨gb, 0, none⟩) 1 cb).ownBlock with _ | g; exact .inl rfl; exact .inr (fun e => by have h1 := hvb g hvq; have h2 : g = gc := Option.some.inj e; omega)))
              clear B7 ovc7 ovb7 gp hgc
              go_wp2_with fail
              generalize (w7.setCell ⟨gc, 0, none⟩ (.int .i64 r1)).setCell ⟨gc, 1, none⟩ (.int .i64 r2) = w8 at *
              clear hu0 hf0 hu1 hf1
              have zz : w.heap.size ≤ w8.heap.size := B8.size
              refine (implFairOk_any w8 1 _ ([(1, p)].set 0 (r1, r2)) (GOwn.rd qC_len op)).mono ?_
              rintro e2 w9 ⟨rfl, b9⟩
              rw [HFO.out]
              have z9 := b9.size
              have B9 := below_step B8 b9 (by omega)
              have ovb9 := ovb8.keep (SameAt.of_below b9)
              clear B8 b9 op ovb8
              go_wp2_with fail
              refine (implFairOk_any _ 1 _ [] (litq_rd w9)).mono ?_
              rintro e w10 ⟨rfl, b10⟩
              rw [HNIL.out]
              have c10 : Below w9.heap.size w9 w10 := below_step ((Below.refl _ _).alloc (Nat.le_refl _) _) b10 (by simp)
              have z10 := c10.size
              have B10 := below_step B9 c10 (by omega)
              have ovb10 := ovb9.keep (SameAt.of_below c10)
              clear B9 b10 c10 ovb9
              go_wp2_with fail
              go_ret
              exact ⟨ret_bool (by simp), B10⟩
            · have he1 : (e == 0) = false := by rw [beq_eq_false_iff_ne]; exact he0
              have he2 : (e == 1) = false := by rw [beq_eq_false_iff_ne]; exact het
              have HF : Hid (fairB 1 [(e, p)] = true) := Lib.hid (by have h := hone; simpa [he1, he2] using h)
              have HFO : Hid (fairB 1 ([(e, p)].set 0 (r1, r2)) = true) := Lib.hid (hfo.trans HF.out)
              clear hone hfo
              go_wp2_with fail
              refine (implFairOk_any w1 1 _ [(e, p)] (ovb1.rd qC_len)).mono ?_
              rintro e w2 ⟨rfl, b2⟩
              rw [HF.out]
              have z2 := b2.size
              have B2 := below_step B1 b2 (by omega)
              have ovb2 := ovb1.keep (SameAt.of_below b2)
              clear B1 b2 ovb1
              go_wp2_with fail
              refine (specFairOk_any w2 1 _ [(e, p)] (ovb2.rd qC_len)).mono ?_
              rintro e w3 ⟨rfl, b3⟩
              rw [HF.out]
              have z3 := b3.size
              have B3 := below_step B2 b3 (by omega)
              have ovb3 := ovb2.keep (SameAt.of_below b3)
              clear B2 b3 ovb2
              go_wp2_with fail
              refine (specBookOk_any w3 1 _ [(e, p)] (ovb3.rd qC_len)).mono ?_
              rintro e w4 ⟨rfl, b4⟩
              rw [HB.out]
              have z4 := b4.size
              have B4 := below_step B3 b4 (by omega)
              have ovb4 := ovb3.keep (SameAt.of_below b4)
              clear B3 b4 ovb3
              have hown := Lib.hid (litq_own w4)
              have hnews := Lib.hid (grd_news (((ovb4.rd qC_len)).keep (SameAt.grow (w' := w4.alloc (.cells #[] 33)) rfl)))
              go_wp2_with (at_builtin; refine wpList_append_own_at _ rfl _ _ 23 rfl w4.heap.size 33 j0 (.agg #[.int .i64 0, .int .i64 0]) 2 16 Try.underlying23 hj hy0 hy1 hy2 rfl (by decide) _ _ _ rfl hown.out ⟨gb, 0, none⟩ 1 cb ([(e, p)].flatMap qC) rfl ?mc0 hnews.out (quotes_one [(e, p)]) ?mc3 ?mc4 ?mc5 ?_)
              case mc0 => exact flat_len qC_len [(e, p)]
              case mc3 => unfold maxLen; omega
              case mc4 => omega
              case mc5 => simp
              intro v' w5 hown' hgrow _ _
              obtain ⟨oc, bc⟩ := copy_of (w := w4) (qs := [(e, p)]) hown' hgrow rfl
              obtain ⟨gc, cc, rfl, hcc1, hcc2⟩ := qown_form oc (by simp)
              have hcc1 : 1 ≤ cc := hcc1
              change QOwn w5 _ (.slice (some ⟨gc, 0, none⟩) 1 cc) _ at oc
              have hcc3 : (1 : Int) ≤ (cc : Int) := by omega
              have zc := bc.size
              have B5 := below_step B4 bc (by omega)
              have ovb5 := ovb4.keep (SameAt.of_below bc)
              clear B4 hown' hgrow hown hnews bc ovb4
              have hb0 : w5.cell? ⟨gb, 0, none⟩ = some (.int .i64 e) := by have := (QRd.cell (ovb5.rd qC_len) (k := 0) rfl).1; simpa using this
              have hb1 : w5.cell? ⟨gb, 1, none⟩ = some (.int .i64 p) := by have := (QRd.cell (ovb5.rd qC_len) (k := 0) rfl).2; simpa using this
              go_wp2_with fail
              go_region
              have d6 : Below w5.heap.size w5 (w5.alloc (.cells #[.int .i64 e, .int .i64 p] 33)).drew := ((Below.refl _ _).alloc (Nat.le_refl _) _).drew
              have z6 := d6.size
              have B6 := below_step B5 d6 (by omega)
              have ovb6 := ovb5.keep (SameAt.of_below d6)
              have ovc6 := oc.keep (SameAt.of_below d6)
              have hb2 := QRd.cell (ovb6.rd qC_len) (k := 0) rfl
              clear B5 d6 hb0 hb1 ovb5 oc
              generalize (w5.alloc (.cells #[.int .i64 e, .int .i64 p] 33)).drew = w6 at *
              obtain ⟨hb0, hb1⟩ := hb2
              rw [Nat.zero_mul, Nat.add_zero] at hb0 hb1
              go_wp2_with fail
              refine (implOtherQuote_any 1 (e, p) _).mono ?_
              rintro e2 w7 ⟨rfl, b7⟩
              rw [HOT.out]
              unfold qV
              have z7 := b7.size
              have B7 := below_step B6 b7 (by omega)
              have ovb7 := ovb6.keep (SameAt.of_below b7)
              have ovc7 := ovc6.keep (SameAt.of_below b7)
              clear B6 b7 hb0 hb1 ovb6 ovc6
              obtain ⟨⟨u0, hu0⟩, hf0, ⟨u1, hu1⟩, hf1⟩ := first_cells ovc7 (by simp)
              obtain ⟨op, gp⟩ := put_first ovc7 (by simp) r1 r2
              have hgc := (ovc7.ge gc rfl).1
              have B8 : Below w.heap.size w ((w7.setCell ⟨gc, 0, none⟩ (.int .i64 r1)).setCell ⟨gc, 1, none⟩ (.int .i64 r2)) := B7.grown gp (by omega) (fun k hk => by have h1 : gc = k := Option.some.inj hk; omega)
              have ovb8 := ovb7.keep (SameAt.of_grown gp (by rcases hvq : (Value.slice (some ⟨gb, 0, none⟩) 1 cb).ownBlock with _ | g; exact .inl rfl; exact .inr (fun e => by have h1 := hvb g hvq; have h2 : g = gc := Option.some.inj e; omega)))
              clear B7 ovc7 ovb7 gp hgc
              go_wp2_with fail
              generalize (w7.setCell ⟨gc, 0, none⟩ (.int .i64 r1)).setCell ⟨gc, 1, none⟩ (.int .i64 r2) = w8 at *
              clear hu0 hf0 hu1 hf1
              have zz : w.heap.size ≤ w8.heap.size := B8.size
              refine (implFairOk_any w8 1 _ ([(e, p)].set 0 (r1, r2)) (GOwn.rd qC_len op)).mono ?_
              rintro e2 w9 ⟨rfl, b9⟩
              rw [HFO.out]
              have z9 := b9.size
              have B9 := below_step B8 b9 (by omega)
              have ovb9 := ovb8.keep (SameAt.of_below b9)
              clear B8 b9 op ovb8
              go_wp2_with fail
              refine (implFairOk_any _ 1 _ [] (litq_rd w9)).mono ?_
              rintro e w10 ⟨rfl, b10⟩
              rw [HNIL.out]
              have c10 : Below w9.heap.size w9 w10 := below_step ((Below.refl _ _).alloc (Nat.le_refl _) _) b10 (by simp)
              have z10 := c10.size
              have B10 := below_step B9 c10 (by omega)
              have ovb10 := ovb9.keep (SameAt.of_below c10)
              clear B9 b10 c10 ovb9
              have hk2 : (0 : Int) ≤ (cb : Int) := by omega
              go_wp2_with fail
              refine (implFairOk_any w10 1 _ [] (GRd.take (k := 0) (ovb10.rd qC_len) (by omega))).mono ?_
              rintro e w11 ⟨rfl, b11⟩
              rw [HNIL.out]
              have z11 := b11.size
              have B11 := below_step B10 b11 (by omega)
              have ovb11 := ovb10.keep (SameAt.of_below b11)
              clear B10 b11 ovb10
              go_wp2_with fail
              go_ret
              exact ⟨ret_bool (by simp), B11⟩
          · clear hn1 hn2
            have hcs : (e = 0 ∧ p = 0) ∨ (e = 0 ∧ p ≠ 0) ∨ (e = 3 ∧ p = 6) ∨ (e = 3 ∧ p ≠ 6) ∨ (e ≠ 0 ∧ e ≠ 3) := by omega
            have hone := fair_one_2 hb
            clear hb
            rcases hcs with ⟨rfl, rfl⟩ | ⟨rfl, hp⟩ | ⟨rfl, rfl⟩ | ⟨rfl, hp⟩ | ⟨he0, het⟩
            · skip
              have HF : Hid (fairB 2 [(0, 0)] = true) := Lib.hid (by have h := hone; simpa using h)
              have HFO : Hid (fairB 2 ([(0, 0)].set 0 (r1, r2)) = true) := Lib.hid (hfo.trans HF.out)
              clear hone hfo
              go_wp2_with fail
              refine (implFairOk_any w1 2 _ [(0, 0)] (ovb1.rd qC_len)).mono ?_
              rintro e w2 ⟨rfl, b2⟩
              rw [HF.out]
              have z2 := b2.size
              have B2 := below_step B1 b2 (by omega)
              have ovb2 := ovb1.keep (SameAt.of_below b2)
              clear B1 b2 ovb1
              go_wp2_with fail
              refine (specFairOk_any w2 2 _ [(0, 0)] (ovb2.rd qC_len)).mono ?_
              rintro e w3 ⟨rfl, b3⟩
              rw [HF.out]
              have z3 := b3.size
              have B3 := below_step B2 b3 (by omega)
              have ovb3 := ovb2.keep (SameAt.of_below b3)
              clear B2 b3 ovb2
              go_wp2_with fail
              refine (specBookOk_any w3 2 _ [(0, 0)] (ovb3.rd qC_len)).mono ?_
              rintro e w4 ⟨rfl, b4⟩
              rw [HB.out]
              have z4 := b4.size
              have B4 := below_step B3 b4 (by omega)
              have ovb4 := ovb3.keep (SameAt.of_below b4)
              clear B3 b4 ovb3
              have hown := Lib.hid (litq_own w4)
              have hnews := Lib.hid (grd_news (((ovb4.rd qC_len)).keep (SameAt.grow (w' := w4.alloc (.cells #[] 33)) rfl)))
              go_wp2_with (at_builtin; refine wpList_append_own_at _ rfl _ _ 23 rfl w4.heap.size 33 j0 (.agg #[.int .i64 0, .int .i64 0]) 2 16 Try.underlying23 hj hy0 hy1 hy2 rfl (by decide) _ _ _ rfl hown.out ⟨gb, 0, none⟩ 1 cb ([(0, 0)].flatMap qC) rfl ?mc0 hnews.out (quotes_one [(0, 0)]) ?mc3 ?mc4 ?mc5 ?_)
              case mc0 => exact flat_len qC_len [(0, 0)]
              case mc3 => unfold maxLen; omega
              case mc4 => omega
              case mc5 => simp
              intro v' w5 hown' hgrow _ _
              obtain ⟨oc, bc⟩ := copy_of (w := w4) (qs := [(0, 0)]) hown' hgrow rfl
              obtain ⟨gc, cc, rfl, hcc1, hcc2⟩ := qown_form oc (by simp)
              have hcc1 : 1 ≤ cc := hcc1
              change QOwn w5 _ (.slice (some ⟨gc, 0, none⟩) 1 cc) _ at oc
              have hcc3 : (1 : Int) ≤ (cc : Int) := by omega
              have zc := bc.size
              have B5 := below_step B4 bc (by omega)
              have ovb5 := ovb4.keep (SameAt.of_below bc)
              clear B4 hown' hgrow hown hnews bc ovb4
              have hb0 : w5.cell? ⟨gb, 0, none⟩ = some (.int .i64 0) := by have := (QRd.cell (ovb5.rd qC_len) (k := 0) rfl).1; simpa using this
              have hb1 : w5.cell? ⟨gb, 1, none⟩ = some (.int .i64 0) := by have := (QRd.cell (ovb5.rd qC_len) (k := 0) rfl).2; simpa using this
              go_wp2_with fail
              go_region
              have d6 : Below w5.heap.size w5 (w5.alloc (.cells #[.int .i64 0, .int .i64 0] 33)).drew := ((Below.refl _ _).alloc (Nat.le_refl _) _).drew
              have z6 := d6.size
              have B6 := below_step B5 d6 (by omega)
              have ovb6 := ovb5.keep (SameAt.of_below d6)
              have ovc6 := oc.keep (SameAt.of_below d6)
              have hb2 := QRd.cell (ovb6.rd qC_len) (k := 0) rfl
              clear B5 d6 hb0 hb1 ovb5 oc
              generalize (w5.alloc (.cells #[.int .i64 0, .int .i64 0] 33)).drew = w6 at *
              obtain ⟨hb0, hb1⟩ := hb2
              rw [Nat.zero_mul, Nat.add_zero] at hb0 hb1
              go_wp2_with fail
              refine (implOtherQuote_any 2 (0, 0) _).mono ?_
              rintro e2 w7 ⟨rfl, b7⟩
              rw [HOT.out]
              unfold qV
              have z7 := b7.size
              have B7 := below_step B6 b7 (by omega)
              have ovb7 := ovb6.keep (SameAt.of_below b7)
              have ovc7 := ovc6.keep (SameAt.of_below b7)
              clear B6 b7 hb0 hb1 ovb6 ovc6
              obtain ⟨⟨u0, hu0⟩, hf0, ⟨u1, hu1⟩, hf1⟩ := first_cells ovc7 (by simp)
              obtain ⟨op, gp⟩ := put_first ovc7 (by simp) r1 r2
              have hgc := (ovc7.ge gc rfl).1
              have B8 : Below w.heap.size w ((w7.setCell ⟨gc, 0, none⟩ (.int .i64 r1)).setCell ⟨gc, 1, none⟩ (.int .i64 r2)) := B7.grown gp (by omega) (fun k hk => by have h1 : gc = k := Option.some.inj hk; omega)
              have ovb8 := ovb7.keep (SameAt.of_grown gp (by rcases hvq : (Value.slice (some ⟨gb, 0, none⟩) 1 cb).ownBlock with _ | g; exact .inl rfl; exact .inr (fun e => by have h1 := hvb g hvq; have h2 : g = gc := Option.some.inj e; omega)))
              clear B7 ovc7 ovb7 gp hgc
              go_wp2_with fail
              generalize (w7.setCell ⟨gc, 0, none⟩ (.int .i64 r1)).setCell ⟨gc, 1, none⟩ (.int .i64 r2) = w8 at *
              clear hu0 hf0 hu1 hf1
              have zz : w.heap.size ≤ w8.heap.size := B8.size
              refine (implFairOk_any w8 2 _ ([(0, 0)].set 0 (r1, r2)) (GOwn.rd qC_len op)).mono ?_
              rintro e2 w9 ⟨rfl, b9⟩
              rw [HFO.out]
              have z9 := b9.size
              have B9 := below_step B8 b9 (by omega)
              have ovb9 := ovb8.keep (SameAt.of_below b9)
              clear B8 b9 op ovb8
              go_wp2_with fail
              refine (implFairOk_any _ 2 _ [] (litq_rd w9)).mono ?_
              rintro e w10 ⟨rfl, b10⟩
              rw [HNIL.out]
              have c10 : Below w9.heap.size w9 w10 := below_step ((Below.refl _ _).alloc (Nat.le_refl _) _) b10 (by simp)
              have z10 := c10.size
              have B10 := below_step B9 c10 (by omega)
              have ovb10 := ovb9.keep (SameAt.of_below c10)
              clear B9 b10 c10 ovb9
              have hk2 : (0 : Int) ≤ (cb : Int) := by omega
              go_wp2_with fail
              refine (implFairOk_any w10 2 _ [] (GRd.take (k := 0) (ovb10.rd qC_len) (by omega))).mono ?_
              rintro e w11 ⟨rfl, b11⟩
              rw [HNIL.out]
              have z11 := b11.size
              have B11 := below_step B10 b11 (by omega)
              have ovb11 := ovb10.keep (SameAt.of_below b11)
              clear B10 b11 ovb10
              go_wp2_with fail
              go_ret
              exact ⟨ret_bool (by simp), B11⟩
            · have hp2 : (p == 0) = false := by rw [beq_eq_false_iff_ne]; exact hp
              have hp3 : (p != 0) = true := by rw [bne, hp2]; rfl
              have HF : Hid (fairB 2 [(0, p)] = false) := Lib.hid (by have h := hone; simpa [bne, hp2] using h)
              have HFO : Hid (fairB 2 ([(0, p)].set 0 (r1, r2)) = false) := Lib.hid (hfo.trans HF.out)
              clear hone hfo
              go_wp2_with fail
              refine (implFairOk_any w1 2 _ [(0, p)] (ovb1.rd qC_len)).mono ?_
              rintro e w2 ⟨rfl, b2⟩
              rw [HF.out]
              have z2 := b2.size
              have B2 := below_step B1 b2 (by omega)
              have ovb2 := ovb1.keep (SameAt.of_below b2)
              clear B1 b2 ovb1
              go_wp2_with fail
              refine (specFairOk_any w2 2 _ [(0, p)] (ovb2.rd qC_len)).mono ?_
              rintro e w3 ⟨rfl, b3⟩
              rw [HF.out]
              have z3 := b3.size
              have B3 := below_step B2 b3 (by omega)
              have ovb3 := ovb2.keep (SameAt.of_below b3)
              clear B2 b3 ovb2
              go_wp2_with fail
              refine (specBookOk_any w3 2 _ [(0, p)] (ovb3.rd qC_len)).mono ?_
              rintro e w4 ⟨rfl, b4⟩
              rw [HB.out]
              have z4 := b4.size
              have B4 := below_step B3 b4 (by omega)
              have ovb4 := ovb3.keep (SameAt.of_below b4)
              clear B3 b4 ovb3
              have hown := Lib.hid (litq_own w4)
              have hnews := Lib.hid (grd_news (((ovb4.rd qC_len)).keep (SameAt.grow (w' := w4.alloc (.cells #[] 33)) rfl)))
              go_wp2_with (at_builtin; refine wpList_append_own_at _ rfl _ _ 23 rfl w4.heap.size 33 j0 (.agg #[.int .i64 0, .int .i64 0]) 2 16 Try.underlying23 hj hy0 hy1 hy2 rfl (by decide) _ _ _ rfl hown.out ⟨gb, 0, none⟩ 1 cb ([(0, p)].flatMap qC) rfl ?mc0 hnews.out (quotes_one [(0, p)]) ?mc3 ?mc4 ?mc5 ?_)
              case mc0 => exact flat_len qC_len [(0, p)]
              case mc3 => unfold maxLen; omega
              case mc4 => omega
              case mc5 => simp
              intro v' w5 hown' hgrow _ _
              obtain ⟨oc, bc⟩ := copy_of (w := w4) (qs := [(0, p)]) hown' hgrow rfl
              obtain ⟨gc, cc, rfl, hcc1, hcc2⟩ := qown_form oc (by simp)
              have hcc1 : 1 ≤ cc := hcc1
              change QOwn w5 _ (.slice (some ⟨gc, 0, none⟩) 1 cc) _ at oc
              have hcc3 : (1 : Int) ≤ (cc : Int) := by omega
              have zc := bc.size
              have B5 := below_step B4 bc (by omega)
              have ovb5 := ovb4.keep (SameAt.of_below bc)
              clear B4 hown' hgrow hown hnews bc ovb4
              have hb0 : w5.cell? ⟨gb, 0, none⟩ = some (.int .i64 0) := by have := (QRd.cell (ovb5.rd qC_len) (k := 0) rfl).1; simpa using this
              have hb1 : w5.cell? ⟨gb, 1, none⟩ = some (.int .i64 p) := by have := (QRd.cell (ovb5.rd qC_len) (k := 0) rfl).2; simpa using this
              go_wp2_with fail
              go_region
              have d6 : Below w5.heap.size w5 (w5.alloc (.cells #[.int .i64 0, .int .i64 p] 33)).drew := ((Below.refl _ _).alloc (Nat.le_refl _) _).drew
              have z6 := d6.size
              have B6 := below_step B5 d6 (by omega)
              have ovb6 := ovb5.keep (SameAt.of_below d6)
              have ovc6 := oc.keep (SameAt.of_below d6)
              have hb2 := QRd.cell (ovb6.rd qC_len) (k := 0) rfl
              clear B5 d6 hb0 hb1 ovb5 oc
              generalize (w5.alloc (.cells #[.int .i64 0, .int .i64 p] 33)).drew = w6 at *
              obtain ⟨hb0, hb1⟩ := hb2
              rw [Nat.zero_mul, Nat.add_zero] at hb0 hb1
              go_wp2_with fail
              refine (implOtherQuote_any 2 (0, p) _).mono ?_
              rintro e2 w7 ⟨rfl, b7⟩
              rw [HOT.out]
              unfold qV
              have z7 := b7.size
              have B7 := below_step B6 b7 (by omega)
              have ovb7 := ovb6.keep (SameAt.of_below b7)
              have ovc7 := ovc6.keep (SameAt.of_below b7)
              clear B6 b7 hb0 hb1 ovb6 ovc6
              obtain ⟨⟨u0, hu0⟩, hf0, ⟨u1, hu1⟩, hf1⟩ := first_cells ovc7 (by simp)
              obtain ⟨op, gp⟩ := put_first ovc7 (by simp) r1 r2
              have hgc := (ovc7.ge gc rfl).1
              have B8 : Below w.heap.size w ((w7.setCell ⟨gc, 0, none⟩ (.int .i64 r1)).setCell ⟨gc, 1, none⟩ (.int .i64 r2)) := B7.grown gp (by omega) (fun k hk => by have h1 : gc = k := Option.some.inj hk; omega)
              have ovb8 := ovb7.keep (SameAt.of_grown gp (by rcases hvq : (Value.slice (some ⟨gb, 0, none⟩) 1 cb).ownBlock with _ | g; exact .inl rfl; exact .inr (fun e => by have h1 := hvb g hvq; have h2 : g = gc := Option.some.inj e; omega)))
              clear B7 ovc7 ovb7 gp hgc
              go_wp2_with fail
              generalize (w7.setCell ⟨gc, 0, none⟩ (.int .i64 r1)).setCell ⟨gc, 1, none⟩ (.int .i64 r2) = w8 at *
              clear hu0 hf0 hu1 hf1
              have zz : w.heap.size ≤ w8.heap.size := B8.size
              refine (implFairOk_any w8 2 _ ([(0, p)].set 0 (r1, r2)) (GOwn.rd qC_len op)).mono ?_
              rintro e2 w9 ⟨rfl, b9⟩
              rw [HFO.out]
              have z9 := b9.size
              have B9 := below_step B8 b9 (by omega)
              have ovb9 := ovb8.keep (SameAt.of_below b9)
              clear B8 b9 op ovb8
              go_wp2_with fail
              refine (implFairOk_any _ 2 _ [] (litq_rd w9)).mono ?_
              rintro e w10 ⟨rfl, b10⟩
              rw [HNIL.out]
              have c10 : Below w9.heap.size w9 w10 := below_step ((Below.refl _ _).alloc (Nat.le_refl _) _) b10 (by simp)
              have z10 := c10.size
              have B10 := below_step B9 c10 (by omega)
              have ovb10 := ovb9.keep (SameAt.of_below c10)
              clear B9 b10 c10 ovb9
              go_wp2_with fail
              go_ret
              exact ⟨ret_bool (by simp), B10⟩
            · skip
              have HF : Hid (fairB 2 [(3, 6)] = true) := Lib.hid (by have h := hone; simpa using h)
              have HFO : Hid (fairB 2 ([(3, 6)].set 0 (r1, r2)) = true) := Lib.hid (hfo.trans HF.out)
              clear hone hfo
              go_wp2_with fail
              refine (implFairOk_any w1 2 _ [(3, 6)] (ovb1.rd qC_len)).mono ?_
              rintro e w2 ⟨rfl, b2⟩
              rw [HF.out]
              have z2 := b2.size
              have B2 := below_step B1 b2 (by omega)
              have ovb2 := ovb1.keep (SameAt.of_below b2)
              clear B1 b2 ovb1
              go_wp2_with fail
              refine (specFairOk_any w2 2 _ [(3, 6)] (ovb2.rd qC_len)).mono ?_
              rintro e w3 ⟨rfl, b3⟩
              rw [HF.out]
              have z3 := b3.size
              have B3 := below_step B2 b3 (by omega)
              have ovb3 := ovb2.keep (SameAt.of_below b3)
              clear B2 b3 ovb2
              go_wp2_with fail
              refine (specBookOk_any w3 2 _ [(3, 6)] (ovb3.rd qC_len)).mono ?_
              rintro e w4 ⟨rfl, b4⟩
              rw [HB.out]
              have z4 := b4.size
              have B4 := below_step B3 b4 (by omega)
              have ovb4 := ovb3.keep (SameAt.of_below b4)
              clear B3 b4 ovb3
              have hown := Lib.hid (litq_own w4)
              have hnews := Lib.hid (grd_news (((ovb4.rd qC_len)).keep (SameAt.grow (w' := w4.alloc (.cells #[] 33)) rfl)))
              go_wp2_with (at_builtin; refine wpList_append_own_at _ rfl _ _ 23 rfl w4.heap.size 33 j0 (.agg #[.int .i64 0, .int .i64 0]) 2 16 Try.underlying23 hj hy0 hy1 hy2 rfl (by decide) _ _ _ rfl hown.out ⟨gb, 0, none⟩ 1 cb ([(3, 6)].flatMap qC) rfl ?mc0 hnews.out (quotes_one [(3, 6)]) ?mc3 ?mc4 ?mc5 ?_)
              case mc0 => exact flat_len qC_len [(3, 6)]
              case mc3 => unfold maxLen; omega
              case mc4 => omega
              case mc5 => simp
              intro v' w5 hown' hgrow _ _
              obtain ⟨oc, bc⟩ := copy_of (w := w4) (qs := [(3, 6)]) hown' hgrow rfl
              obtain ⟨gc, cc, rfl, hcc1, hcc2⟩ := qown_form oc (by simp)
              have hcc1 : 1 ≤ cc := hcc1
              change QOwn w5 _ (.slice (some ⟨gc, 0, none⟩) 1 cc) _ at oc
              have hcc3 : (1 : Int) ≤ (cc : Int) := by omega
              have zc := bc.size
              have B5 := below_step B4 bc (by omega)
              have ovb5 := ovb4.keep (SameAt.of_below bc)
              clear B4 hown' hgrow hown hnews bc ovb4
              have hb0 : w5.cell? ⟨gb, 0, none⟩ = some (.int .i64 3) := by have := (QRd.cell (ovb5.rd qC_len) (k := 0) rfl).1; simpa using this
              have hb1 : w5.cell? ⟨gb, 1, none⟩ = some (.int .i64 6) := by have := (QRd.cell (ovb5.rd qC_len) (k := 0) rfl).2; simpa using this
              go_wp2_with fail
              go_region
              have d6 : Below w5.heap.size w5 (w5.alloc (.cells #[.int .i64 3, .int .i64 6] 33)).drew := ((Below.refl _ _).alloc (Nat.le_refl _) _).drew
              have z6 := d6.size
              have B6 := below_step B5 d6 (by omega)
              have ovb6 := ovb5.keep (SameAt.of_below d6)
              have ovc6 := oc.keep (SameAt.of_below d6)
              have hb2 := QRd.cell (ovb6.rd qC_len) (k := 0) rfl
              clear B5 d6 hb0 hb1 ovb5 oc
              generalize (w5.alloc (.cells #[.int .i64 3, .int .i64 6] 33)).drew = w6 at *
              obtain ⟨hb0, hb1⟩ := hb2
              rw [Nat.zero_mul, Nat.add_zero] at hb0 hb1
              go_wp2_with fail
              refine (implOtherQuote_any 2 (3, 6) _).mono ?_
              rintro e2 w7 ⟨rfl, b7⟩
              rw [HOT.out]
              unfold qV
              have z7 := b7.size
              have B7 := below_step B6 b7 (by omega)
              have ovb7 := ovb6.keep (SameAt.of_below b7)
              have ovc7 := ovc6.keep (SameAt.of_below b7)
              clear B6 b7 hb0 hb1 ovb6 ovc6
              obtain ⟨⟨u0, hu0⟩, hf0, ⟨u1, hu1⟩, hf1⟩ := first_cells ovc7 (by simp)
              obtain ⟨op, gp⟩ := put_first ovc7 (by simp) r1 r2
              have hgc := (ovc7.ge gc rfl).1
              have B8 : Below w.heap.size w ((w7.setCell ⟨gc, 0, none⟩ (.int .i64 r1)).setCell ⟨gc, 1, none⟩ (.int .i64 r2)) := B7.grown gp (by omega) (fun k hk => by have h1 : gc = k := Option.some.inj hk; omega)
              have ovb8 := ovb7.keep (SameAt.of_grown gp (by rcases hvq : (Value.slice (some ⟨gb, 0, none⟩) 1 cb).ownBlock with _ | g; exact .inl rfl; exact .inr (fun e => by have h1 := hvb g hvq; have h2 : g = gc := Option.some.inj e; omega)))
              clear B7 ovc7 ovb7 gp hgc
              go_wp2_with fail
              generalize (w7.setCell ⟨gc, 0, none⟩ (.int .i64 r1)).setCell ⟨gc, 1, none⟩ (.int .i64 r2) = w8 at *
              clear hu0 hf0 hu1 hf1
              have zz : w.heap.size ≤ w8.heap.size := B8.size
              refine (implFairOk_any w8 2 _ ([(3, 6)].set 0 (r1, r2)) (GOwn.rd qC_len op)).mono ?_
              rintro e2 w9 ⟨rfl, b9⟩
              rw [HFO.out]
              have z9 := b9.size
              have B9 := below_step B8 b9 (by omega)
              have ovb9 := ovb8.keep (SameAt.of_below b9)
              clear B8 b9 op ovb8
              go_wp2_with fail
              refine (implFairOk_any _ 2 _ [] (litq_rd w9)).mono ?_
              rintro e w10 ⟨rfl, b10⟩
              rw [HNIL.out]
              have c10 : Below w9.heap.size w9 w10 := below_step ((Below.refl _ _).alloc (Nat.le_refl _) _) b10 (by simp)
              have z10 := c10.size
              have B10 := below_step B9 c10 (by omega)
              have ovb10 := ovb9.keep (SameAt.of_below c10)
              clear B9 b10 c10 ovb9
              have hk2 : (0 : Int) ≤ (cb : Int) := by omega
              go_wp2_with fail
              refine (implFairOk_any w10 2 _ [] (GRd.take (k := 0) (ovb10.rd qC_len) (by omega))).mono ?_
              rintro e w11 ⟨rfl, b11⟩
              rw [HNIL.out]
              have z11 := b11.size
              have B11 := below_step B10 b11 (by omega)
              have ovb11 := ovb10.keep (SameAt.of_below b11)
              clear B10 b11 ovb10
              go_wp2_with fail
              go_ret
              exact ⟨ret_bool (by simp), B11⟩
            · have hp2 : (p == 6) = false := by rw [beq_eq_false_iff_ne]; exact hp
              have hp3 : (p != 6) = true := by rw [bne, hp2]; rfl
              have HF : Hid (fairB 2 [(3, p)] = false) := Lib.hid (by have h := hone; simpa [bne, hp2] using h)
              have HFO : Hid (fairB 2 ([(3, p)].set 0 (r1, r2)) = false) := Lib.hid (hfo.trans HF.out)
              clear hone hfo
              go_wp2_with fail
              refine (implFairOk_any w1 2 _ [(3, p)] (ovb1.rd qC_len)).mono ?_
              rintro e w2 ⟨rfl, b2⟩
              rw [HF.out]
              have z2 := b2.size
              have B2 := below_step B1 b2 (by omega)
              have ovb2 := ovb1.keep (SameAt.of_below b2)
              clear B1 b2 ovb1
              go_wp2_with fail
              refine (specFairOk_any w2 2 _ [(3, p)] (ovb2.rd qC_len)).mono ?_
              rintro e w3 ⟨rfl, b3⟩
              rw [HF.out]
              have z3 := b3.size
              have B3 := below_step B2 b3 (by omega)
              have ovb3 := ovb2.keep (SameAt.of_below b3)
              clear B2 b3 ovb2
              go_wp2_with fail
              refine (specBookOk_any w3 2 _ [(3, p)] (ovb3.rd qC_len)).mono ?_
              rintro e w4 ⟨rfl, b4⟩
              rw [HB.out]
              have z4 := b4.size
              have B4 := below_step B3 b4 (by omega)
              have ovb4 := ovb3.keep (SameAt.of_below b4)
              clear B3 b4 ovb3
              have hown := Lib.hid (litq_own w4)
              have hnews := Lib.hid (grd_news (((ovb4.rd qC_len)).keep (SameAt.grow (w' := w4.alloc (.cells #[] 33)) rfl)))
              go_wp2_with (at_builtin; refine wpList_append_own_at _ rfl _ _ 23 rfl w4.heap.size 33 j0 (.agg #[.int .i64 0, .int .i64 0]) 2 16 Try.underlying23 hj hy0 hy1 hy2 rfl (by decide) _ _ _ rfl hown.out ⟨gb, 0, none⟩ 1 cb ([(3, p)].flatMap qC) rfl ?mc0 hnews.out (quotes_one [(3, p)]) ?mc3 ?mc4 ?mc5 ?_)
              case mc0 => exact flat_len qC_len [(3, p)]
              case mc3 => unfold maxLen; omega
              case mc4 => omega
              case mc5 => simp
              intro v' w5 hown' hgrow _ _
              obtain ⟨oc, bc⟩ := copy_of (w := w4) (qs := [(3, p)]) hown' hgrow rfl
              obtain ⟨gc, cc, rfl, hcc1, hcc2⟩ := qown_form oc (by simp)
              have hcc1 : 1 ≤ cc := hcc1
              change QOwn w5 _ (.slice (some ⟨gc, 0, none⟩) 1 cc) _ at oc
              have hcc3 : (1 : Int) ≤ (cc : Int) := by omega
              have zc := bc.size
              have B5 := below_step B4 bc (by omega)
              have ovb5 := ovb4.keep (SameAt.of_below bc)
              clear B4 hown' hgrow hown hnews bc ovb4
              have hb0 : w5.cell? ⟨gb, 0, none⟩ = some (.int .i64 3) := by have := (QRd.cell (ovb5.rd qC_len) (k := 0) rfl).1; simpa using this
              have hb1 : w5.cell? ⟨gb, 1, none⟩ = some (.int .i64 p) := by have := (QRd.cell (ovb5.rd qC_len) (k := 0) rfl).2; simpa using this
              go_wp2_with fail
              go_region
              have d6 : Below w5.heap.size w5 (w5.alloc (.cells #[.int .i64 3, .int .i64 p] 33)).drew := ((Below.refl _ _).alloc (Nat.le_refl _) _).drew
              have z6 := d6.size
              have B6 := below_step B5 d6 (by omega)
              have ovb6 := ovb5.keep (SameAt.of_below d6)
              have ovc6 := oc.keep (SameAt.of_below d6)
              have hb2 := QRd.cell (ovb6.rd qC_len) (k := 0) rfl
              clear B5 d6 hb0 hb1 ovb5 oc
              generalize (w5.alloc (.cells #[.int .i64 3, .int .i64 p] 33)).drew = w6 at *
              obtain ⟨hb0, hb1⟩ := hb2
              rw [Nat.zero_mul, Nat.add_zero] at hb0 hb1
              go_wp2_with fail
              refine (implOtherQuote_any 2 (3, p) _).mono ?_
              rintro e2 w7 ⟨rfl, b7⟩
              rw [HOT.out]
              unfold qV
              have z7 := b7.size
              have B7 := below_step B6 b7 (by omega)
              have ovb7 := ovb6.keep (SameAt.of_below b7)
              have ovc7 := ovc6.keep (SameAt.of_below b7)
              clear B6 b7 hb0 hb1 ovb6 ovc6
              obtain ⟨⟨u0, hu0⟩, hf0, ⟨u1, hu1⟩, hf1⟩ := first_cells ovc7 (by simp)
              obtain ⟨op, gp⟩ := put_first ovc7 (by simp) r1 r2
              have hgc := (ovc7.ge gc rfl).1
              have B8 : Below w.heap.size w ((w7.setCell ⟨gc, 0, none⟩ (.int .i64 r1)).setCell ⟨gc, 1, none⟩ (.int .i64 r2)) := B7.grown gp (by omega) (fun k hk => by have h1 : gc = k := Option.some.inj hk; omega)
              have ovb8 := ovb7.keep (SameAt.of_grown gp (by rcases hvq : (Value.slice (some ⟨gb, 0, none⟩) 1 cb).ownBlock with _ | g; exact .inl rfl; exact .inr (fun e => by have h1 := hvb g hvq; have h2 : g = gc := Option.some.inj e; omega)))
              clear B7 ovc7 ovb7 gp hgc
              go_wp2_with fail
              generalize (w7.setCell ⟨gc, 0, none⟩ (.int .i64 r1)).setCell ⟨gc, 1, none⟩ (.int .i64 r2) = w8 at *
              clear hu0 hf0 hu1 hf1
              have zz : w.heap.size ≤ w8.heap.size := B8.size
              refine (implFairOk_any w8 2 _ ([(3, p)].set 0 (r1, r2)) (GOwn.rd qC_len op)).mono ?_
              rintro e2 w9 ⟨rfl, b9⟩
              rw [HFO.out]
              have z9 := b9.size
              have B9 := below_step B8 b9 (by omega)
              have ovb9 := ovb8.keep (SameAt.of_below b9)
              clear B8 b9 op ovb8
              go_wp2_with fail
              refine (implFairOk_any _ 2 _ [] (litq_rd w9)).mono ?_
              rintro e w10 ⟨rfl, b10⟩
              rw [HNIL.out]
              have c10 : Below w9.heap.size w9 w10 := below_step ((Below.refl _ _).alloc (Nat.le_refl _) _) b10 (by simp)
              have z10 := c10.size
              have B10 := below_step B9 c10 (by omega)
              have ovb10 := ovb9.keep (SameAt.of_below c10)
              clear B9 b10 c10 ovb9
              go_wp2_with fail
              go_ret
              exact ⟨ret_bool (by simp), B10⟩
            · have he1 : (e == 0) = false := by rw [beq_eq_false_iff_ne]; exact he0
              have he2 : (e == 3) = false := by rw [beq_eq_false_iff_ne]; exact het
              have HF : Hid (fairB 2 [(e, p)] = true) := Lib.hid (by have h := hone; simpa [he1, he2] using h)
              have HFO : Hid (fairB 2 ([(e, p)].set 0 (r1, r2)) = true) := Lib.hid (hfo.trans HF.out)
              clear hone hfo
              go_wp2_with fail
              refine (implFairOk_any w1 2 _ [(e, p)] (ovb1.rd qC_len)).mono ?_
              rintro e w2 ⟨rfl, b2⟩
              rw [HF.out]
              have z2 := b2.size
              have B2 := below_step B1 b2 (by omega)
              have ovb2 := ovb1.keep (SameAt.of_below b2)
              clear B1 b2 ovb1
              go_wp2_with fail
              refine (specFairOk_any w2 2 _ [(e, p)] (ovb2.rd qC_len)).mono ?_
              rintro e w3 ⟨rfl, b3⟩
              rw [HF.out]
              have z3 := b3.size
              have B3 := below_step B2 b3 (by omega)
              have ovb3 := ovb2.keep (SameAt.of_below b3)
              clear B2 b3 ovb2
              go_wp2_with fail
              refine (specBookOk_any w3 2 _ [(e, p)] (ovb3.rd qC_len)).mono ?_
              rintro e w4 ⟨rfl, b4⟩
              rw [HB.out]
              have z4 := b4.size
              have B4 := below_step B3 b4 (by omega)
              have ovb4 := ovb3.keep (SameAt.of_below b4)
              clear B3 b4 ovb3
              have hown := Lib.hid (litq_own w4)
              have hnews := Lib.hid (grd_news (((ovb4.rd qC_len)).keep (SameAt.grow (w' := w4.alloc (.cells #[] 33)) rfl)))
              go_wp2_with (at_builtin; refine wpList_append_own_at _ rfl _ _ 23 rfl w4.heap.size 33 j0 (.agg #[.int .i64 0, .int .i64 0]) 2 16 Try.underlying23 hj hy0 hy1 hy2 rfl (by decide) _ _ _ rfl hown.out ⟨gb, 0, none⟩ 1 cb ([(e, p)].flatMap qC) rfl ?mc0 hnews.out (quotes_one [(e, p)]) ?mc3 ?mc4 ?mc5 ?_)
              case mc0 => exact flat_len qC_len [(e, p)]
              case mc3 => unfold maxLen; omega
              case mc4 => omega
              case mc5 => simp
              intro v' w5 hown' hgrow _ _
              obtain ⟨oc, bc⟩ := copy_of (w := w4) (qs := [(e, p)]) hown' hgrow rfl
              obtain ⟨gc, cc, rfl, hcc1, hcc2⟩ := qown_form oc (by simp)
              have hcc1 : 1 ≤ cc := hcc1
              change QOwn w5 _ (.slice (some ⟨gc, 0, none⟩) 1 cc) _ at oc
              have hcc3 : (1 : Int) ≤ (cc : Int) := by omega
              have zc := bc.size
              have B5 := below_step B4 bc (by omega)
              have ovb5 := ovb4.keep (SameAt.of_below bc)
              clear B4 hown' hgrow hown hnews bc ovb4
              have hb0 : w5.cell? ⟨gb, 0, none⟩ = some (.int .i64 e) := by have := (QRd.cell (ovb5.rd qC_len) (k := 0) rfl).1; simpa using this
              have hb1 : w5.cell? ⟨gb, 1, none⟩ = some (.int .i64 p) := by have := (QRd.cell (ovb5.rd qC_len) (k := 0) rfl).2; simpa using this
              go_wp2_with fail
              go_region
              have d6 : Below w5.heap.size w5 (w5.alloc (.cells #[.int .i64 e, .int .i64 p] 33)).drew := ((Below.refl _ _).alloc (Nat.le_refl _) _).drew
              have z6 := d6.size
              have B6 := below_step B5 d6 (by omega)
              have ovb6 := ovb5.keep (SameAt.of_below d6)
              have ovc6 := oc.keep (SameAt.of_below d6)
              have hb2 := QRd.cell (ovb6.rd qC_len) (k := 0) rfl
              clear B5 d6 hb0 hb1 ovb5 oc
              generalize (w5.alloc (.cells #[.int .i64 e, .int .i64 p] 33)).drew = w6 at *
              obtain ⟨hb0, hb1⟩ := hb2
              rw [Nat.zero_mul, Nat.add_zero] at hb0 hb1
              go_wp2_with fail
              refine (implOtherQuote_any 2 (e, p) _).mono ?_
              rintro e2 w7 ⟨rfl, b7⟩
              rw [HOT.out]
              unfold qV
              have z7 := b7.size
              have B7 := below_step B6 b7 (by omega)
              have ovb7 := ovb6.keep (SameAt.of_below b7)
              have ovc7 := ovc6.keep (SameAt.of_below b7)
              clear B6 b7 hb0 hb1 ovb6 ovc6
              obtain ⟨⟨u0, hu0⟩, hf0, ⟨u1, hu1⟩, hf1⟩ := first_cells ovc7 (by simp)
              obtain ⟨op, gp⟩ := put_first ovc7 (by simp) r1 r2
              have hgc := (ovc7.ge gc rfl).1
              have B8 : Below w.heap.size w ((w7.setCell ⟨gc, 0, none⟩ (.int .i64 r1)).setCell ⟨gc, 1, none⟩ (.int .i64 r2)) := B7.grown gp (by omega) (fun k hk => by have h1 : gc = k := Option.some.inj hk; omega)
              have ovb8 := ovb7.keep (SameAt.of_grown gp (by rcases hvq : (Value.slice (some ⟨gb, 0, none⟩) 1 cb).ownBlock with _ | g; exact .inl rfl; exact .inr (fun e => by have h1 := hvb g hvq; have h2 : g = gc := Option.some.inj e; omega)))
              clear B7 ovc7 ovb7 gp hgc
              go_wp2_with fail
              generalize (w7.setCell ⟨gc, 0, none⟩ (.int .i64 r1)).setCell ⟨gc, 1, none⟩ (.int .i64 r2) = w8 at *
              clear hu0 hf0 hu1 hf1
              have zz : w.heap.size ≤ w8.heap.size := B8.size
              refine (implFairOk_any w8 2 _ ([(e, p)].set 0 (r1, r2)) (GOwn.rd qC_len op)).mono ?_
              rintro e2 w9 ⟨rfl, b9⟩
              rw [HFO.out]
              have z9 := b9.size
              have B9 := below_step B8 b9 (by omega)
              have ovb9 := ovb8.keep (SameAt.of_below b9)
              clear B8 b9 op ovb8
              go_wp2_with fail
              refine (implFairOk_any _ 2 _ [] (litq_rd w9)).mono ?_
              rintro e w10 ⟨rfl, b10⟩
              rw [HNIL.out]
              have c10 : Below w9.heap.size w9 w10 := below_step ((Below.refl _ _).alloc (Nat.le_refl _) _) b10 (by simp)
              have z10 := c10.size
              have B10 := below_step B9 c10 (by omega)
              have ovb10 := ovb9.keep (SameAt.of_below c10)
              clear B9 b10 c10 ovb9
              have hk2 : (0 : Int) ≤ (cb : Int) := by omega
              go_wp2_with fail
              refine (implFairOk_any w10 2 _ [] (GRd.take (k := 0) (ovb10.rd qC_len) (by omega))).mono ?_
              rintro e w11 ⟨rfl, b11⟩
              rw [HNIL.out]
              have z11 := b11.size
              have B11 := below_step B10 b11 (by omega)
              have ovb11 := ovb10.keep (SameAt.of_below b11)
              clear B10 b11 ovb10
              go_wp2_with fail
              go_ret
              exact ⟨ret_bool (by simp), B11⟩
          · clear hn1 hn2
            have hcs : (e = 0 ∧ p = 0) ∨ (e = 0 ∧ p ≠ 0) ∨ (e = 7 ∧ p = 6) ∨ (e = 7 ∧ p ≠ 6) ∨ (e ≠ 0 ∧ e ≠ 7) := by omega
            have hone := fair_one_3 hb
            clear hb
            rcases hcs with ⟨rfl, rfl⟩ | ⟨rfl, hp⟩ | ⟨rfl, rfl⟩ | ⟨rfl, hp⟩ | ⟨he0, het⟩
            · skip
              have HF : Hid (fairB 3 [(0, 0)] = true) := Lib.hid (by have h := hone; simpa using h)
              have HFO : Hid (fairB 3 ([(0, 0)].set 0 (r1, r2)) = true) := Lib.hid (hfo.trans HF.out)
              clear hone hfo
              go_wp2_with fail
              refine (implFairOk_any w1 3 _ [(0, 0)] (ovb1.rd qC_len)).mono ?_
              rintro e w2 ⟨rfl, b2⟩
              rw [HF.out]
              have z2 := b2.size
              have B2 := below_step B1 b2 (by omega)
              have ovb2 := ovb1.keep (SameAt.of_below b2)
              clear B1 b2 ovb1
              go_wp2_with fail
              refine (specFairOk_any w2 3 _ [(0, 0)] (ovb2.rd qC_len)).mono ?_
              rintro e w3 ⟨rfl, b3⟩
              rw [HF.out]
              have z3 := b3.size
              have B3 := below_step B2 b3 (by omega)
              have ovb3 := ovb2.keep (SameAt.of_below b3)
              clear B2 b3 ovb2
              go_wp2_with fail
              refine (specBookOk_any w3 3 _ [(0, 0)] (ovb3.rd qC_len)).mono ?_
              rintro e w4 ⟨rfl, b4⟩
              rw [HB.out]
              have z4 := b4.size
              have B4 := below_step B3 b4 (by omega)
              have ovb4 := ovb3.keep (SameAt.of_below b4)
              clear B3 b4 ovb3
              have hown := Lib.hid (litq_own w4)
              have hnews := Lib.hid (grd_news (((ovb4.rd qC_len)).keep (SameAt.grow (w' := w4.alloc (.cells #[] 33)) rfl)))
              go_wp2_with (at_builtin; refine wpList_append_own_at _ rfl _ _ 23 rfl w4.heap.size 33 j0 (.agg #[.int .i64 0, .int .i64 0]) 2 16 Try.underlying23 hj hy0 hy1 hy2 rfl (by decide) _ _ _ rfl hown.out ⟨gb, 0, none⟩ 1 cb ([(0, 0)].flatMap qC) rfl ?mc0 hnews.out (quotes_one [(0, 0)]) ?mc3 ?mc4 ?mc5 ?_)
              case mc0 => exact flat_len qC_len [(0, 0)]
              case mc3 => unfold maxLen; omega
              case mc4 => omega
              case mc5 => simp
              intro v' w5 hown' hgrow _ _
              obtain ⟨oc, bc⟩ := copy_of (w := w4) (qs := [(0, 0)]) hown' hgrow rfl
              obtain ⟨gc, cc, rfl, hcc1, hcc2⟩ := qown_form oc (by simp)
              have hcc1 : 1 ≤ cc := hcc1
              change QOwn w5 _ (.slice (some ⟨gc, 0, none⟩) 1 cc) _ at oc
              have hcc3 : (1 : Int) ≤ (cc : Int) := by omega
              have zc := bc.size
              have B5 := below_step B4 bc (by omega)
              have ovb5 := ovb4.keep (SameAt.of_below bc)
              clear B4 hown' hgrow hown hnews bc ovb4
              have hb0 : w5.cell? ⟨gb, 0, none⟩ = some (.int .i64 0) := by have := (QRd.cell (ovb5.rd qC_len) (k := 0) rfl).1; simpa using this
              have hb1 : w5.cell? ⟨gb, 1, none⟩ = some (.int .i64 0) := by have := (QRd.cell (ovb5.rd qC_len) (k := 0) rfl).2; simpa using this
              go_wp2_with fail
              go_region
              have d6 : Below w5.heap.size w5 (w5.alloc (.cells #[.int .i64 0, .int .i64 0] 33)).drew := ((Below.refl _ _).alloc (Nat.le_refl _) _).drew
              have z6 := d6.size
              have B6 := below_step B5 d6 (by omega)
              have ovb6 := ovb5.keep (SameAt.of_below d6)
              have ovc6 := oc.keep (SameAt.of_below d6)
              have hb2 := QRd.cell (ovb6.rd qC_len) (k := 0) rfl
              clear B5 d6 hb0 hb1 ovb5 oc
              generalize (w5.alloc (.cells #[.int .i64 0, .int .i64 0] 33)).drew = w6 at *
              obtain ⟨hb0, hb1⟩ := hb2
              rw [Nat.zero_mul, Nat.add_zero] at hb0 hb1
              go_wp2_with fail
              refine (implOtherQuote_any 3 (0, 0) _).mono ?_
              rintro e2 w7 ⟨rfl, b7⟩
              rw [HOT.out]
              unfold qV
              have z7 := b7.size
              have B7 := below_step B6 b7 (by omega)
              have ovb7 := ovb6.keep (SameAt.of_below b7)
              have ovc7 := ovc6.keep (SameAt.of_below b7)
              clear B6 b7 hb0 hb1 ovb6 ovc6
              obtain ⟨⟨u0, hu0⟩, hf0, ⟨u1, hu1⟩, hf1⟩ := first_cells ovc7 (by simp)
              obtain ⟨op, gp⟩ := put_first ovc7 (by simp) r1 r2
              have hgc := (ovc7.ge gc rfl).1
              have B8 : Below w.heap.size w ((w7.setCell ⟨gc, 0, none⟩ (.int .i64 r1)).setCell ⟨gc, 1, none⟩ (.int .i64 r2)) := B7.grown gp (by omega) (fun k hk => by have h1 : gc = k := Option.some.inj hk; omega)
              have ovb8 := ovb7.keep (SameAt.of_grown gp (by rcases hvq : (Value.slice (some ⟨gb, 0, none⟩) 1 cb).ownBlock with _ | g; exact .inl rfl; exact .inr (fun e => by have h1 := hvb g hvq; have h2 : g = gc := Option.some.inj e; omega)))
              clear B7 ovc7 ovb7 gp hgc
              go_wp2_with fail
              generalize (w7.setCell ⟨gc, 0, none⟩ (.int .i64 r1)).setCell ⟨gc, 1, none⟩ (.int .i64 r2) = w8 at *
              clear hu0 hf0 hu1 hf1
              have zz : w.heap.size ≤ w8.heap.size := B8.size
              refine (implFairOk_any w8 3 _ ([(0, 0)].set 0 (r1, r2)) (GOwn.rd qC_len op)).mono ?_
              rintro e2 w9 ⟨rfl, b9⟩
              rw [HFO.out]
              have z9 := b9.size
              have B9 := below_step B8 b9 (by omega)
              have ovb9 := ovb8.keep (SameAt.of_below b9)
              clear B8 b9 op ovb8
              go_wp2_with fail
              refine (implFairOk_any _ 3 _ [] (litq_rd w9)).mono ?_
              rintro e w10 ⟨rfl, b10⟩
              rw [HNIL.out]
              have c10 : Below w9.heap.size w9 w10 := below_step ((Below.refl _ _).alloc (Nat.le_refl _) _) b10 (by simp)
              have z10 := c10.size
              have B10 := below_step B9 c10 (by omega)
              have ovb10 := ovb9.keep (SameAt.of_below c10)
              clear B9 b10 c10 ovb9
              have hk2 : (0 : Int) ≤ (cb : Int) := by omega
              go_wp2_with fail
              refine (implFairOk_any w10 3 _ [] (GRd.take (k := 0) (ovb10.rd qC_len) (by omega))).mono ?_
              rintro e w11 ⟨rfl, b11⟩
              rw [HNIL.out]
              have z11 := b11.size
              have B11 := below_step B10 b11 (by omega)
              have ovb11 := ovb10.keep (SameAt.of_below b11)
              clear B10 b11 ovb10
              go_wp2_with fail
              go_ret
              exact ⟨ret_bool (by simp), B11⟩
            · have hp2 : (p == 0) = false := by rw [beq_eq_false_iff_ne]; exact hp
              have hp3 : (p != 0) = true := by rw [bne, hp2]; rfl
              have HF : Hid (fairB 3 [(0, p)] = false) := Lib.hid (by have h := hone; simpa [bne, hp2] using h)
              have HFO : Hid (fairB 3 ([(0, p)].set 0 (r1, r2)) = false) := Lib.hid (hfo.trans HF.out)
              clear hone hfo
              go_wp2_with fail
              refine (implFairOk_any w1 3 _ [(0, p)] (ovb1.rd qC_len)).mono ?_
              rintro e w2 ⟨rfl, b2⟩
              rw [HF.out]
              have z2 := b2.size
              have B2 := below_step B1 b2 (by omega)
              have ovb2 := ovb1.keep (SameAt.of_below b2)
              clear B1 b2 ovb1
              go_wp2_with fail
              refine (specFairOk_any w2 3 _ [(0, p)] (ovb2.rd qC_len)).mono ?_
              rintro e w3 ⟨rfl, b3⟩
              rw [HF.out]
              have z3 := b3.size
              have B3 := below_step B2 b3 (by omega)
              have ovb3 := ovb2.keep (SameAt.of_below b3)
              clear B2 b3 ovb2
              go_wp2_with fail
              refine (specBookOk_any w3 3 _ [(0, p)] (ovb3.rd qC_len)).mono ?_
              rintro e w4 ⟨rfl, b4⟩
              rw [HB.out]
              have z4 := b4.size
              have B4 := below_step B3 b4 (by omega)
              have ovb4 := ovb3.keep (SameAt.of_below b4)
              clear B3 b4 ovb3
              have hown := Lib.hid (litq_own w4)
              have hnews := Lib.hid (grd_news (((ovb4.rd qC_len)).keep (SameAt.grow (w' := w4.alloc (.cells #[] 33)) rfl)))
              go_wp2_with (at_builtin; refine wpList_append_own_at _ rfl _ _ 23 rfl w4.heap.size 33 j0 (.agg #[.int .i64 0, .int .i64 0]) 2 16 Try.underlying23 hj hy0 hy1 hy2 rfl (by decide) _ _ _ rfl hown.out ⟨gb, 0, none⟩ 1 cb ([(0, p)].flatMap qC) rfl ?mc0 hnews.out (quotes_one [(0, p)]) ?mc3 ?mc4 ?mc5 ?_)
              case mc0 => exact flat_len qC_len [(0, p)]
              case mc3 => unfold maxLen; omega
              case mc4 => omega
              case mc5 => simp
              intro v' w5 hown' hgrow _ _
              obtain ⟨oc, bc⟩ := copy_of (w := w4) (qs := [(0, p)]) hown' hgrow rfl
              obtain ⟨gc, cc, rfl, hcc1, hcc2⟩ := qown_form oc (by simp)
              have hcc1 : 1 ≤ cc := hcc1
              change QOwn w5 _ (.slice (some ⟨gc, 0, none⟩) 1 cc) _ at oc
              have hcc3 : (1 : Int) ≤ (cc : Int) := by omega
              have zc := bc.size
              have B5 := below_step B4 bc (by omega)
              have ovb5 := ovb4.keep (SameAt.of_below bc)
              clear B4 hown' hgrow hown hnews bc ovb4
              have hb0 : w5.cell? ⟨gb, 0, none⟩ = some (.int .i64 0) := by have := (QRd.cell (ovb5.rd qC_len) (k := 0) rfl).1; simpa using this
              have hb1 : w5.cell? ⟨gb, 1, none⟩ = some (.int .i64 p) := by have := (QRd.cell (ovb5.rd qC_len) (k := 0) rfl).2; simpa using this
              go_wp2_with fail
              go_region
              have d6 : Below w5.heap.size w5 (w5.alloc (.cells #[.int .i64 0, .int .i64 p] 33)).drew := ((Below.refl _ _).alloc (Nat.le_refl _) _).drew
              have z6 := d6.size
              have B6 := below_step B5 d6 (by omega)
              have ovb6 := ovb5.keep (SameAt.of_below d6)
              have ovc6 := oc.keep (SameAt.of_below d6)
              have hb2 := QRd.cell (ovb6.rd qC_len) (k := 0) rfl
              clear B5 d6 hb0 hb1 ovb5 oc
              generalize (w5.alloc (.cells #[.int .i64 0, .int .i64 p] 33)).drew = w6 at *
              obtain ⟨hb0, hb1⟩ := hb2
              rw [Nat.zero_mul, Nat.add_zero] at hb0 hb1
              go_wp2_with fail
              refine (implOtherQuote_any 3 (0, p) _).mono ?_
              rintro e2 w7 ⟨rfl, b7⟩
              rw [HOT.out]
              unfold qV
              have z7 := b7.size
              have B7 := below_step B6 b7 (by omega)
              have ovb7 := ovb6.keep (SameAt.of_below b7)
              have ovc7 := ovc6.keep (SameAt.of_below b7)
              clear B6 b7 hb0 hb1 ovb6 ovc6
              obtain ⟨⟨u0, hu0⟩, hf0, ⟨u1, hu1⟩, hf1⟩ := first_cells ovc7 (by simp)
              obtain ⟨op, gp⟩ := put_first ovc7 (by simp) r1 r2
              have hgc := (ovc7.ge gc rfl).1
              have B8 : Below w.heap.size w ((w7.setCell ⟨gc, 0, none⟩ (.int .i64 r1)).setCell ⟨gc, 1, none⟩ (.int .i64 r2)) := B7.grown gp (by omega) (fun k hk => by have h1 : gc = k := Option.some.inj hk; omega)
              have ovb8 := ovb7.keep (SameAt.of_grown gp (by rcases hvq : (Value.slice (some ⟨gb, 0, none⟩) 1 cb).ownBlock with _ | g; exact .inl rfl; exact .inr (fun e => by have h1 := hvb g hvq; have h2 : g = gc := Option.some.inj e; omega)))
              clear B7 ovc7 ovb7 gp hgc
              go_wp2_with fail
              generalize (w7.setCell ⟨gc, 0, none⟩ (.int .i64 r1)).setCell ⟨gc, 1, none⟩ (.int .i64 r2) = w8 at *
              clear hu0 hf0 hu1 hf1
              have zz : w.heap.size ≤ w8.heap.size := B8.size
              refine (implFairOk_any w8 3 _ ([(0, p)].set 0 (r1, r2)) (GOwn.rd qC_len op)).mono ?_
              rintro e2 w9 ⟨rfl, b9⟩
              rw [HFO.out]
              have z9 := b9.size
              have B9 := below_step B8 b9 (by omega)
              have ovb9 := ovb8.keep (SameAt.of_below b9)
              clear B8 b9 op ovb8
              go_wp2_with fail
              refine (implFairOk_any _ 3 _ [] (litq_rd w9)).mono ?_
              rintro e w10 ⟨rfl, b10⟩
              rw [HNIL.out]
              have c10 : Below w9.heap.size w9 w10 := below_step ((Below.refl _ _).alloc (Nat.le_refl _) _) b10 (by simp)
              have z10 := c10.size
              have B10 := below_step B9 c10 (by omega)
              have ovb10 := ovb9.keep (SameAt.of_below c10)
              clear B9 b10 c10 ovb9
              go_wp2_with fail
              go_ret
              exact ⟨ret_bool (by simp), B10⟩
            · skip
              have HF : Hid (fairB 3 [(7, 6)] = true) := Lib.hid (by have h := hone; simpa using h)
              have HFO : Hid (fairB 3 ([(7, 6)].set 0 (r1, r2)) = true) := Lib.hid (hfo.trans HF.out)
              clear hone hfo
              go_wp2_with fail
              refine (implFairOk_any w1 3 _ [(7, 6)] (ovb1.rd qC_len)).mono ?_
              rintro e w2 ⟨rfl, b2⟩
              rw [HF.out]
              have z2 := b2.size
              have B2 := below_step B1 b2 (by omega)
              have ovb2 := ovb1.keep (SameAt.of_below b2)
              clear B1 b2 ovb1
              go_wp2_with fail
              refine (specFairOk_any w2 3 _ [(7, 6)] (ovb2.rd qC_len)).mono ?_
              rintro e w3 ⟨rfl, b3⟩
              rw [HF.out]
              have z3 := b3.size
              have B3 := below_step B2 b3 (by omega)
              have ovb3 := ovb2.keep (SameAt.of_below b3)
              clear B2 b3 ovb2
              go_wp2_with fail
              refine (specBookOk_any w3 3 _ [(7, 6)] (ovb3.rd qC_len)).mono ?_
              rintro e w4 ⟨rfl, b4⟩
              rw [HB.out]
              have z4 := b4.size
              have B4 := below_step B3 b4 (by omega)
              have ovb4 := ovb3.keep (SameAt.of_below b4)
              clear B3 b4 ovb3
              have hown := Lib.hid (litq_own w4)
              have hnews := Lib.hid (grd_news (((ovb4.rd qC_len)).keep (SameAt.grow (w' := w4.alloc (.cells #[] 33)) rfl)))
              go_wp2_with (at_builtin; refine wpList_append_own_at _ rfl _ _ 23 rfl w4.heap.size 33 j0 (.agg #[.int .i64 0, .int .i64 0]) 2 16 Try.underlying23 hj hy0 hy1 hy2 rfl (by decide) _ _ _ rfl hown.out ⟨gb, 0, none⟩ 1 cb ([(7, 6)].flatMap qC) rfl ?mc0 hnews.out (quotes_one [(7, 6)]) ?mc3 ?mc4 ?mc5 ?_)
              case mc0 => exact flat_len qC_len [(7, 6)]
              case mc3 => unfold maxLen; omega
              case mc4 => omega
              case mc5 => simp
              intro v' w5 hown' hgrow _ _
              obtain ⟨oc, bc⟩ := copy_of (w := w4) (qs := [(7, 6)]) hown' hgrow rfl
              obtain ⟨gc, cc, rfl, hcc1, hcc2⟩ := qown_form oc (by simp)
              have hcc1 : 1 ≤ cc := hcc1
              change QOwn w5 _ (.slice (some ⟨gc, 0, none⟩) 1 cc) _ at oc
              have hcc3 : (1 : Int) ≤ (cc : Int) := by omega
              have zc := bc.size
              have B5 := below_step B4 bc (by omega)
              have ovb5 := ovb4.keep (SameAt.of_below bc)
              clear B4 hown' hgrow hown hnews bc ovb4
              have hb0 : w5.cell? ⟨gb, 0, none⟩ = some (.int .i64 7) := by have := (QRd.cell (ovb5.rd qC_len) (k := 0) rfl).1; simpa using this
              have hb1 : w5.cell? ⟨gb, 1, none⟩ = some (.int .i64 6) := by have := (QRd.cell (ovb5.rd qC_len) (k := 0) rfl).2; simpa using this
              go_wp2_with fail
              go_region
              have d6 : Below w5.heap.size w5 (w5.alloc (.cells #[.int .i64 7, .int .i64 6] 33)).drew := ((Below.refl _ _).alloc (Nat.le_refl _) _).drew
              have z6 := d6.size
              have B6 := below_step B5 d6 (by omega)
              have ovb6 := ovb5.keep (SameAt.of_below d6)
              have ovc6 := oc.keep (SameAt.of_below d6)
              have hb2 := QRd.cell (ovb6.rd qC_len) (k := 0) rfl
              clear B5 d6 hb0 hb1 ovb5 oc
              generalize (w5.alloc (.cells #[.int .i64 7, .int .i64 6] 33)).drew = w6 at *
              obtain ⟨hb0, hb1⟩ := hb2
              rw [Nat.zero_mul, Nat.add_zero] at hb0 hb1
              go_wp2_with fail
              refine (implOtherQuote_any 3 (7, 6) _).mono ?_
              rintro e2 w7 ⟨rfl, b7⟩
              rw [HOT.out]
              unfold qV
              have z7 := b7.size
              have B7 := below_step B6 b7 (by omega)
              have ovb7 := ovb6.keep (SameAt.of_below b7)
              have ovc7 := ovc6.keep (SameAt.of_below b7)
              clear B6 b7 hb0 hb1 ovb6 ovc6
              obtain ⟨⟨u0, hu0⟩, hf0, ⟨u1, hu1⟩, hf1⟩ := first_cells ovc7 (by simp)
              obtain ⟨op, gp⟩ := put_first ovc7 (by simp) r1 r2
              have hgc := (ovc7.ge gc rfl).1
              have B8 : Below w.heap.size w ((w7.setCell ⟨gc, 0, none⟩ (.int .i64 r1)).setCell ⟨gc, 1, none⟩ (.int .i64 r2)) := B7.grown gp (by omega) (fun k hk => by have h1 : gc = k := Option.some.inj hk; omega)
              have ovb8 := ovb7.keep (SameAt.of_grown gp (by rcases hvq : (Value.slice (some ⟨gb, 0, none⟩) 1 cb).ownBlock with _ | g; exact .inl rfl; exact .inr (fun e => by have h1 := hvb g hvq; have h2 : g = gc := Option.some.inj e; omega)))
              clear B7 ovc7 ovb7 gp hgc
              go_wp2_with fail
              generalize (w7.setCell ⟨gc, 0, none⟩ (.int .i64 r1)).setCell ⟨gc, 1, none⟩ (.int .i64 r2) = w8 at *
              clear hu0 hf0 hu1 hf1
              have zz : w.heap.size ≤ w8.heap.size := B8.size
              refine (implFairOk_any w8 3 _ ([(7, 6)].set 0 (r1, r2)) (GOwn.rd qC_len op)).mono ?_
              rintro e2 w9 ⟨rfl, b9⟩
              rw [HFO.out]
              have z9 := b9.size
              have B9 := below_step B8 b9 (by omega)
              have ovb9 := ovb8.keep (SameAt.of_below b9)
              clear B8 b9 op ovb8
              go_wp2_with fail
              refine (implFairOk_any _ 3 _ [] (litq_rd w9)).mono ?_
              rintro e w10 ⟨rfl, b10⟩
              rw [HNIL.out]
              have c10 : Below w9.heap.size w9 w10 := below_step ((Below.refl _ _).alloc (Nat.le_refl _) _) b10 (by simp)
              have z10 := c10.size
              have B10 := below_step B9 c10 (by omega)
              have ovb10 := ovb9.keep (SameAt.of_below c10)
              clear B9 b10 c10 ovb9
              have hk2 : (0 : Int) ≤ (cb : Int) := by omega
              go_wp2_with fail
              refine (implFairOk_any w10 3 _ [] (GRd.take (k := 0) (ovb10.rd qC_len) (by omega))).mono ?_
              rintro e w11 ⟨rfl, b11⟩
              rw [HNIL.out]
              have z11 := b11.size
              have B11 := below_step B10 b11 (by omega)
              have ovb11 := ovb10.keep (SameAt.of_below b11)
              clear B10 b11 ovb10
              go_wp2_with fail
              go_ret
              exact ⟨ret_bool (by simp), B11⟩
            · have hp2 : (p == 6) = false := by rw [beq_eq_false_iff_ne]; exact hp
              have hp3 : (p != 6) = true := by rw [bne, hp2]; rfl
              have HF : Hid (fairB 3 [(7, p)] = false) := Lib.hid (by have h := hone; simpa [bne, hp2] using h)
              have HFO : Hid (fairB 3 ([(7, p)].set 0 (r1, r2)) = false) := Lib.hid (hfo.trans HF.out)
              clear hone hfo
              go_wp2_with fail
              refine (implFairOk_any w1 3 _ [(7, p)] (ovb1.rd qC_len)).mono ?_
              rintro e w2 ⟨rfl, b2⟩
              rw [HF.out]
              have z2 := b2.size
              have B2 := below_step B1 b2 (by omega)
              have ovb2 := ovb1.keep (SameAt.of_below b2)
              clear B1 b2 ovb1
              go_wp2_with fail
              refine (specFairOk_any w2 3 _ [(7, p)] (ovb2.rd qC_len)).mono ?_
              rintro e w3 ⟨rfl, b3⟩
              rw [HF.out]
              have z3 := b3.size
              have B3 := below_step B2 b3 (by omega)
              have ovb3 := ovb2.keep (SameAt.of_below b3)
              clear B2 b3 ovb2
              go_wp2_with fail
              refine (specBookOk_any w3 3 _ [(7, p)] (ovb3.rd qC_len)).mono ?_
              rintro e w4 ⟨rfl, b4⟩
              rw [HB.out]
              have z4 := b4.size
              have B4 := below_step B3 b4 (by omega)
              have ovb4 := ovb3.keep (SameAt.of_below b4)
              clear B3 b4 ovb3
              have hown := Lib.hid (litq_own w4)
              have hnews := Lib.hid (grd_news (((ovb4.rd qC_len)).keep (SameAt.grow (w' := w4.alloc (.cells #[] 33)) rfl)))
              go_wp2_with (at_builtin; refine wpList_append_own_at _ rfl _ _ 23 rfl w4.heap.size 33 j0 (.agg #[.int .i64 0, .int .i64 0]) 2 16 Try.underlying23 hj hy0 hy1 hy2 rfl (by decide) _ _ _ rfl hown.out ⟨gb, 0, none⟩ 1 cb ([(7, p)].flatMap qC) rfl ?mc0 hnews.out (quotes_one [(7, p)]) ?mc3 ?mc4 ?mc5 ?_)
              case mc0 => exact flat_len qC_len [(7, p)]
              case mc3 => unfold maxLen; omega
              case mc4 => omega
              case mc5 => simp
              intro v' w5 hown' hgrow _ _
              obtain ⟨oc, bc⟩ := copy_of (w := w4) (qs := [(7, p)]) hown' hgrow rfl
              obtain ⟨gc, cc, rfl, hcc1, hcc2⟩ := qown_form oc (by simp)
              have hcc1 : 1 ≤ cc := hcc1
              change QOwn w5 _ (.slice (some ⟨gc, 0, none⟩) 1 cc) _ at oc
              have hcc3 : (1 : Int) ≤ (cc : Int) := by omega
              have zc := bc.size
              have B5 := below_step B4 bc (by omega)
              have ovb5 := ovb4.keep (SameAt.of_below bc)
              clear B4 hown' hgrow hown hnews bc ovb4
              have hb0 : w5.cell? ⟨gb, 0, none⟩ = some (.int .i64 7) := by have := (QRd.cell (ovb5.rd qC_len) (k := 0) rfl).1; simpa using this
              have hb1 : w5.cell? ⟨gb, 1, none⟩ = some (.int .i64 p) := by have := (QRd.cell (ovb5.rd qC_len) (k := 0) rfl).2; simpa using this
              go_wp2_with fail
              go_region
              have d6 : Below w5.heap.size w5 (w5.alloc (.cells #[.int .i64 7, .int .i64 p] 33)).drew := ((Below.refl _ _).alloc (Nat.le_refl _) _).drew
              have z6 := d6.size
              have B6 := below_step B5 d6 (by omega)
              have ovb6 := ovb5.keep (SameAt.of_below d6)
              have ovc6 := oc.keep (SameAt.of_below d6)
              have hb2 := QRd.cell (ovb6.rd qC_len) (k := 0) rfl
              clear B5 d6 hb0 hb1 ovb5 oc
              generalize (w5.alloc (.cells #[.int .i64 7, .int .i64 p] 33)).drew = w6 at *
              obtain ⟨hb0, hb1⟩ := hb2
              rw [Nat.zero_mul, Nat.add_zero] at hb0 hb1
              go_wp2_with fail
              refine (implOtherQuote_any 3 (7, p) _).mono ?_
              rintro e2 w7 ⟨rfl, b7⟩
              rw [HOT.out]
              unfold qV
              have z7 := b7.size
              have B7 := below_step B6 b7 (by omega)
              have ovb7 := ovb6.keep (SameAt.of_below b7)
              have ovc7 := ovc6.keep (SameAt.of_below b7)
              clear B6 b7 hb0 hb1 ovb6 ovc6
              obtain ⟨⟨u0, hu0⟩, hf0, ⟨u1, hu1⟩, hf1⟩ := first_cells ovc7 (by simp)
              obtain ⟨op, gp⟩ := put_first ovc7 (by simp) r1 r2
              have hgc := (ovc7.ge gc rfl).1
              have B8 : Below w.heap.size w ((w7.setCell ⟨gc, 0, none⟩ (.int .i64 r1)).setCell ⟨gc, 1, none⟩ (.int .i64 r2)) := B7.grown gp (by omega) (fun k hk => by have h1 : gc = k := Option.some.inj hk; omega)
              have ovb8 := ovb7.keep (SameAt.of_grown gp (by rcases hvq : (Value.slice (some ⟨gb, 0, none⟩) 1 cb).ownBlock with _ | g; exact .inl rfl; exact .inr (fun e => by have h1 := hvb g hvq; have h2 : g = gc := Option.some.inj e; omega)))
              clear B7 ovc7 ovb7 gp hgc
              go_wp2_with fail
              generalize (w7.setCell ⟨gc, 0, none⟩ (.int .i64 r1)).setCell ⟨gc, 1, none⟩ (.int .i64 r2) = w8 at *
              clear hu0 hf0 hu1 hf1
              have zz : w.heap.size ≤ w8.heap.size := B8.size
              refine (implFairOk_any w8 3 _ ([(7, p)].set 0 (r1, r2)) (GOwn.rd qC_len op)).mono ?_
              rintro e2 w9 ⟨rfl, b9⟩
              rw [HFO.out]
              have z9 := b9.size
              have B9 := below_step B8 b9 (by omega)
              have ovb9 := ovb8.keep (SameAt.of_below b9)
              clear B8 b9 op ovb8
              go_wp2_with fail
              refine (implFairOk_any _ 3 _ [] (litq_rd w9)).mono ?_
              rintro e w10 ⟨rfl, b10⟩
              rw [HNIL.out]
              have c10 : Below w9.heap.size w9 w10 := below_step ((Below.refl _ _).alloc (Nat.le_refl _) _) b10 (by simp)
              have z10 := c10.size
              have B10 := below_step B9 c10 (by omega)
              have ovb10 := ovb9.keep (SameAt.of_below c10)
              clear B9 b10 c10 ovb9
              go_wp2_with fail
              go_ret
              exact ⟨ret_bool (by simp), B10⟩
            · have he1 : (e == 0) = false := by rw [beq_eq_false_iff_ne]; exact he0
              have he2 : (e == 7) = false := by rw [beq_eq_false_iff_ne]; exact het
              have HF : Hid (fairB 3 [(e, p)] = true) := Lib.hid (by have h := hone; simpa [he1, he2] using h)
              have HFO : Hid (fairB 3 ([(e, p)].set 0 (r1, r2)) = true) := Lib.hid (hfo.trans HF.out)
              clear hone hfo
              go_wp2_with fail
              refine (implFairOk_any w1 3 _ [(e, p)] (ovb1.rd qC_len)).mono ?_
              rintro e w2 ⟨rfl, b2⟩
              rw [HF.out]
              have z2 := b2.size
              have B2 := below_step B1 b2 (by omega)
              have ovb2 := ovb1.keep (SameAt.of_below b2)
              clear B1 b2 ovb1
              go_wp2_with fail
              refine (specFairOk_any w2 3 _ [(e, p)] (ovb2.rd qC_len)).mono ?_
              rintro e w3 ⟨rfl, b3⟩
              rw [HF.out]
              have z3 := b3.size
              have B3 := below_step B2 b3 (by omega)
              have ovb3 := ovb2.keep (SameAt.of_below b3)
              clear B2 b3 ovb2
              go_wp2_with fail
              refine (specBookOk_any w3 3 _ [(e, p)] (ovb3.rd qC_len)).mono ?_
              rintro e w4 ⟨rfl, b4⟩
              rw [HB.out]
              have z4 := b4.size
              have B4 := below_step B3 b4 (by omega)
              have ovb4 := ovb3.keep (SameAt.of_below b4)
              clear B3 b4 ovb3
              have hown := Lib.hid (litq_own w4)
              have hnews := Lib.hid (grd_news (((ovb4.rd qC_len)).keep (SameAt.grow (w' := w4.alloc (.cells #[] 33)) rfl)))
              go_wp2_with (at_builtin; refine wpList_append_own_at _ rfl _ _ 23 rfl w4.heap.size 33 j0 (.agg #[.int .i64 0, .int .i64 0]) 2 16 Try.underlying23 hj hy0 hy1 hy2 rfl (by decide) _ _ _ rfl hown.out ⟨gb, 0, none⟩ 1 cb ([(e, p)].flatMap qC) rfl ?mc0 hnews.out (quotes_one [(e, p)]) ?mc3 ?mc4 ?mc5 ?_)
              case mc0 => exact flat_len qC_len [(e, p)]
              case mc3 => unfold maxLen; omega
              case mc4 => omega
              case mc5 => simp
              intro v' w5 hown' hgrow _ _
              obtain ⟨oc, bc⟩ := copy_of (w := w4) (qs := [(e, p)]) hown' hgrow rfl
              obtain ⟨gc, cc, rfl, hcc1, hcc2⟩ := qown_form oc (by simp)
              have hcc1 : 1 ≤ cc := hcc1
              change QOwn w5 _ (.slice (some ⟨gc, 0, none⟩) 1 cc) _ at oc
              have hcc3 : (1 : Int) ≤ (cc : Int) := by omega
              have zc := bc.size
              have B5 := below_step B4 bc (by omega)
              have ovb5 := ovb4.keep (SameAt.of_below bc)
              clear B4 hown' hgrow hown hnews bc ovb4
              have hb0 : w5.cell? ⟨gb, 0, none⟩ = some (.int .i64 e) := by have := (QRd.cell (ovb5.rd qC_len) (k := 0) rfl).1; simpa using this
              have hb1 : w5.cell? ⟨gb, 1, none⟩ = some (.int .i64 p) := by have := (QRd.cell (ovb5.rd qC_len) (k := 0) rfl).2; simpa using this
              go_wp2_with fail
              go_region
              have d6 : Below w5.heap.size w5 (w5.alloc (.cells #[.int .i64 e, .int .i64 p] 33)).drew := ((Below.refl _ _).alloc (Nat.le_refl _) _).drew
              have z6 := d6.size
              have B6 := below_step B5 d6 (by omega)
              have ovb6 := ovb5.keep (SameAt.of_below d6)
              have ovc6 := oc.keep (SameAt.of_below d6)
              have hb2 := QRd.cell (ovb6.rd qC_len) (k := 0) rfl
              clear B5 d6 hb0 hb1 ovb5 oc
              generalize (w5.alloc (.cells #[.int .i64 e, .int .i64 p] 33)).drew = w6 at *
              obtain ⟨hb0, hb1⟩ := hb2
              rw [Nat.zero_mul, Nat.add_zero] at hb0 hb1
              go_wp2_with fail
              refine (implOtherQuote_any 3 (e, p) _).mono ?_
              rintro e2 w7 ⟨rfl, b7⟩
              rw [HOT.out]
              unfold qV
              have z7 := b7.size
              have B7 := below_step B6 b7 (by omega)
              have ovb7 := ovb6.keep (SameAt.of_below b7)
              have ovc7 := ovc6.keep (SameAt.of_below b7)
              clear B6 b7 hb0 hb1 ovb6 ovc6
              obtain ⟨⟨u0, hu0⟩, hf0, ⟨u1, hu1⟩, hf1⟩ := first_cells ovc7 (by simp)
              obtain ⟨op, gp⟩ := put_first ovc7 (by simp) r1 r2
              have hgc := (ovc7.ge gc rfl).1
              have B8 : Below w.heap.size w ((w7.setCell ⟨gc, 0, none⟩ (.int .i64 r1)).setCell ⟨gc, 1, none⟩ (.int .i64 r2)) := B7.grown gp (by omega) (fun k hk => by have h1 : gc = k := Option.some.inj hk; omega)
              have ovb8 := ovb7.keep (SameAt.of_grown gp (by rcases hvq : (Value.slice (some ⟨gb, 0, none⟩) 1 cb).ownBlock with _ | g; exact .inl rfl; exact .inr (fun e => by have h1 := hvb g hvq; have h2 : g = gc := Option.some.inj e; omega)))
              clear B7 ovc7 ovb7 gp hgc
              go_wp2_with fail
              generalize (w7.setCell ⟨gc, 0, none⟩ (.int .i64 r1)).setCell ⟨gc, 1, none⟩ (.int .i64 r2) = w8 at *
              clear hu0 hf0 hu1 hf1
              have zz : w.heap.size ≤ w8.heap.size := B8.size
              refine (implFairOk_any w8 3 _ ([(e, p)].set 0 (r1, r2)) (GOwn.rd qC_len op)).mono ?_
              rintro e2 w9 ⟨rfl, b9⟩
              rw [HFO.out]
              have z9 := b9.size
              have B9 := below_step B8 b9 (by omega)
              have ovb9 := ovb8.keep (SameAt.of_below b9)
              clear B8 b9 op ovb8
              go_wp2_with fail
              refine (implFairOk_any _ 3 _ [] (litq_rd w9)).mono ?_
              rintro e w10 ⟨rfl, b10⟩
              rw [HNIL.out]
              have c10 : Below w9.heap.size w9 w10 := below_step ((Below.refl _ _).alloc (Nat.le_refl _) _) b10 (by simp)
              have z10 := c10.size
              have B10 := below_step B9 c10 (by omega)
              have ovb10 := ovb9.keep (SameAt.of_below c10)
              clear B9 b10 c10 ovb9
              have hk2 : (0 : Int) ≤ (cb : Int) := by omega
              go_wp2_with fail
              refine (implFairOk_any w10 3 _ [] (GRd.take (k := 0) (ovb10.rd qC_len) (by omega))).mono ?_
              rintro e w11 ⟨rfl, b11⟩
              rw [HNIL.out]
              have z11 := b11.size
              have B11 := below_step B10 b11 (by omega)
              have ovb11 := ovb10.keep (SameAt.of_below b11)
              clear B10 b11 ovb10
              go_wp2_with fail
              go_ret
              exact ⟨ret_bool (by simp), B11⟩
          · clear hn1 hn2
            have hcs : (e = 0 ∧ p = 0) ∨ (e = 0 ∧ p ≠ 0) ∨ (e = 15 ∧ p = 6) ∨ (e = 15 ∧ p ≠ 6) ∨ (e ≠ 0 ∧ e ≠ 15) := by omega
            have hone := fair_one_4 hb
            clear hb
            rcases hcs with ⟨rfl, rfl⟩ | ⟨rfl, hp⟩ | ⟨rfl, rfl⟩ | ⟨rfl, hp⟩ | ⟨he0, het⟩
            · skip
              have HF : Hid (fairB 4 [(0, 0)] = true) := Lib.hid (by have h := hone; simpa using h)
              have HFO : Hid (fairB 4 ([(0, 0)].set 0 (r1, r2)) = true) := Lib.hid (hfo.trans HF.out)
              clear hone hfo
              go_wp2_with fail
              refine (implFairOk_any w1 4 _ [(0, 0)] (ovb1.rd qC_len)).mono ?_
              rintro e w2 ⟨rfl, b2⟩
              rw [HF.out]
              have z2 := b2.size
              have B2 := below_step B1 b2 (by omega)
              have ovb2 := ovb1.keep (SameAt.of_below b2)
              clear B1 b2 ovb1
              go_wp2_with fail
              refine (specFairOk_any w2 4 _ [(0, 0)] (ovb2.rd qC_len)).mono ?_
              rintro e w3 ⟨rfl, b3⟩
              rw [HF.out]
              have z3 := b3.size
              have B3 := below_step B2 b3 (by omega)
              have ovb3 := ovb2.keep (SameAt.of_below b3)
              clear B2 b3 ovb2
              go_wp2_with fail
              refine (specBookOk_any w3 4 _ [(0, 0)] (ovb3.rd qC_len)).mono ?_
              rintro e w4 ⟨rfl, b4⟩
              rw [HB.out]
              have z4 := b4.size
              have B4 := below_step B3 b4 (by omega)
              have ovb4 := ovb3.keep (SameAt.of_below b4)
              clear B3 b4 ovb3
              have hown := Lib.hid (litq_own w4)
              have hnews := Lib.hid (grd_news (((ovb4.rd qC_len)).keep (SameAt.grow (w' := w4.alloc (.cells #[] 33)) rfl)))
              go_wp2_with (at_builtin; refine wpList_append_own_at _ rfl _ _ 23 rfl w4.heap.size 33 j0 (.agg #[.int .i64 0, .int .i64 0]) 2 16 Try.underlying23 hj hy0 hy1 hy2 rfl (by decide) _ _ _ rfl hown.out ⟨gb, 0, none⟩ 1 cb ([(0, 0)].flatMap qC) rfl ?mc0 hnews.out (quotes_one [(0, 0)]) ?mc3 ?mc4 ?mc5 ?_)
              case mc0 => exact flat_len qC_len [(0, 0)]
              case mc3 => unfold maxLen; omega
              case mc4 => omega
              case mc5 => simp
              intro v' w5 hown' hgrow _ _
              obtain ⟨oc, bc⟩ := copy_of (w := w4) (qs := [(0, 0)]) hown' hgrow rfl
              obtain ⟨gc, cc, rfl, hcc1, hcc2⟩ := qown_form oc (by simp)
              have hcc1 : 1 ≤ cc := hcc1
              change QOwn w5 _ (.slice (some ⟨gc, 0, none⟩) 1 cc) _ at oc
              have hcc3 : (1 : Int) ≤ (cc : Int) := by omega
              have zc := bc.size
              have B5 := below_step B4 bc (by omega)
              have ovb5 := ovb4.keep (SameAt.of_below bc)
              clear B4 hown' hgrow hown hnews bc ovb4
              have hb0 : w5.cell? ⟨gb, 0, none⟩ = some (.int .i64 0) := by have := (QRd.cell (ovb5.rd qC_len) (k := 0) rfl).1; simpa using this
              have hb1 : w5.cell? ⟨gb, 1, none⟩ = some (.int .i64 0) := by have := (QRd.cell (ovb5.rd qC_len) (k := 0) rfl).2; simpa using this
              go_wp2_with fail
              go_region
              have d6 : Below w5.heap.size w5 (w5.alloc (.cells #[.int .i64 0, .int .i64 0] 33)).drew := ((Below.refl _ _).alloc (Nat.le_refl _) _).drew
              have z6 := d6.size
              have B6 := below_step B5 d6 (by omega)
              have ovb6 := ovb5.keep (SameAt.of_below d6)
              have ovc6 := oc.keep (SameAt.of_below d6)
              have hb2 := QRd.cell (ovb6.rd qC_len) (k := 0) rfl
              clear B5 d6 hb0 hb1 ovb5 oc
              generalize (w5.alloc (.cells #[.int .i64 0, .int .i64 0] 33)).drew = w6 at *
              obtain ⟨hb0, hb1⟩ := hb2
              rw [Nat.zero_mul, Nat.add_zero] at hb0 hb1
              go_wp2_with fail
              refine (implOtherQuote_any 4 (0, 0) _).mono ?_
              rintro e2 w7 ⟨rfl, b7⟩
              rw [HOT.out]
              unfold qV
              have z7 := b7.size
              have B7 := below_step B6 b7 (by omega)
              have ovb7 := ovb6.keep (SameAt.of_below b7)
              have ovc7 := ovc6.keep (SameAt.of_below b7)
              clear B6 b7 hb0 hb1 ovb6 ovc6
              obtain ⟨⟨u0, hu0⟩, hf0, ⟨u1, hu1⟩, hf1⟩ := first_cells ovc7 (by simp)
              obtain ⟨op, gp⟩ := put_first ovc7 (by simp) r1 r2
              have hgc := (ovc7.ge gc rfl).1
              have B8 : Below w.heap.size w ((w7.setCell ⟨gc, 0, none⟩ (.int .i64 r1)).setCell ⟨gc, 1, none⟩ (.int .i64 r2)) := B7.grown gp (by omega) (fun k hk => by have h1 : gc = k := Option.some.inj hk; omega)
              have ovb8 := ovb7.keep (SameAt.of_grown gp (by rcases hvq : (Value.slice (some ⟨gb, 0, none⟩) 1 cb).ownBlock with _ | g; exact .inl rfl; exact .inr (fun e => by have h1 := hvb g hvq; have h2 : g = gc := Option.some.inj e; omega)))
              clear B7 ovc7 ovb7 gp hgc
              go_wp2_with fail
              generalize (w7.setCell ⟨gc, 0, none⟩ (.int .i64 r1)).setCell ⟨gc, 1, none⟩ (.int .i64 r2) = w8 at *
              clear hu0 hf0 hu1 hf1
              have zz : w.heap.size ≤ w8.heap.size := B8.size
              refine (implFairOk_any w8 4 _ ([(0, 0)].set 0 (r1, r2)) (GOwn.rd qC_len op)).mono ?_
              rintro e2 w9 ⟨rfl, b9⟩
              rw [HFO.out]
              have z9 := b9.size
              have B9 := below_step B8 b9 (by omega)
              have ovb9 := ovb8.keep (SameAt.of_below b9)
              clear B8 b9 op ovb8
              go_wp2_with fail
              refine (implFairOk_any _ 4 _ [] (litq_rd w9)).mono ?_
              rintro e w10 ⟨rfl, b10⟩
              rw [HNIL.out]
              have c10 : Below w9.heap.size w9 w10 := below_step ((Below.refl _ _).alloc (Nat.le_refl _) _) b10 (by simp)
              have z10 := c10.size
              have B10 := below_step B9 c10 (by omega)
              have ovb10 := ovb9.keep (SameAt.of_below c10)
              clear B9 b10 c10 ovb9
              have hk2 : (0 : Int) ≤ (cb : Int) := by omega
              go_wp2_with fail
              refine (implFairOk_any w10 4 _ [] (GRd.take (k := 0) (ovb10.rd qC_len) (by omega))).mono ?_
              rintro e w11 ⟨rfl, b11⟩
              rw [HNIL.out]
              have z11 := b11.size
              have B11 := below_step B10 b11 (by omega)
              have ovb11 := ovb10.keep (SameAt.of_below b11)
              clear B10 b11 ovb10
              go_wp2_with fail
              go_ret
              exact ⟨ret_bool (by simp), B11⟩
            · have hp2 : (p == 0) = false := by rw [beq_eq_false_iff_ne]; exact hp
              have hp3 : (p != 0) = true := by rw [bne, hp2]; rfl
              have HF : Hid (fairB 4 [(0, p)] = false) := Lib.hid (by have h := hone; simpa [bne, hp2] using h)
              have HFO : Hid (fairB 4 ([(0, p)].set 0 (r1, r2)) = false) := Lib.hid (hfo.trans HF.out)
              clear hone hfo
              go_wp2_with fail
              refine (implFairOk_any w1 4 _ [(0, p)] (ovb1.rd qC_len)).mono ?_
              rintro e w2 ⟨rfl, b2⟩
              rw [HF.out]
              have z2 := b2.size
              have B2 := below_step B1 b2 (by omega)
              have ovb2 := ovb1.keep (SameAt.of_below b2)
              clear B1 b2 ovb1
              go_wp2_with fail
              refine (specFairOk_any w2 4 _ [(0, p)] (ovb2.rd qC_len)).mono ?_
              rintro e w3 ⟨rfl, b3⟩
              rw [HF.out]
              have z3 := b3.size
              have B3 := below_step B2 b3 (by omega)
              have ovb3 := ovb2.keep (SameAt.of_below b3)
              clear B2 b3 ovb2
              go_wp2_with fail
              refine (specBookOk_any w3 4 _ [(0, p)] (ovb3.rd qC_len)).mono ?_
              rintro e w4 ⟨rfl, b4⟩
              rw [HB.out]
              have z4 := b4.size
              have B4 := below_step B3 b4 (by omega)
              have ovb4 := ovb3.keep (SameAt.of_below b4)
              clear B3 b4 ovb3
              have hown := Lib.hid (litq_own w4)
              have hnews := Lib.hid (grd_news (((ovb4.rd qC_len)).keep (SameAt.grow (w' := w4.alloc (.cells #[] 33)) rfl)))
              go_wp2_with (at_builtin; refine wpList_append_own_at _ rfl _ _ 23 rfl w4.heap.size 33 j0 (.agg #[.int .i64 0, .int .i64 0]) 2 16 Try.underlying23 hj hy0 hy1 hy2 rfl (by decide) _ _ _ rfl hown.out ⟨gb, 0, none⟩ 1 cb ([(0, p)].flatMap qC) rfl ?mc0 hnews.out (quotes_one [(0, p)]) ?mc3 ?mc4 ?mc5 ?_)
              case mc0 => exact flat_len qC_len [(0, p)]
              case mc3 => unfold maxLen; omega
              case mc4 => omega
              case mc5 => simp
              intro v' w5 hown' hgrow _ _
              obtain ⟨oc, bc⟩ := copy_of (w := w4) (qs := [(0, p)]) hown' hgrow rfl
              obtain ⟨gc, cc, rfl, hcc1, hcc2⟩ := qown_form oc (by simp)
              have hcc1 : 1 ≤ cc := hcc1
              change QOwn w5 _ (.slice (some ⟨gc, 0, none⟩) 1 cc) _ at oc
              have hcc3 : (1 : Int) ≤ (cc : Int) := by omega
              have zc := bc.size
              have B5 := below_step B4 bc (by omega)
              have ovb5 := ovb4.keep (SameAt.of_below bc)
              clear B4 hown' hgrow hown hnews bc ovb4
              have hb0 : w5.cell? ⟨gb, 0, none⟩ = some (.int .i64 0) := by have := (QRd.cell (ovb5.rd qC_len) (k := 0) rfl).1; simpa using this
              have hb1 : w5.cell? ⟨gb, 1, none⟩ = some (.int .i64 p) := by have := (QRd.cell (ovb5.rd qC_len) (k := 0) rfl).2; simpa using this
              go_wp2_with fail
              go_region
              have d6 : Below w5.heap.size w5 (w5.alloc (.cells #[.int .i64 0, .int .i64 p] 33)).drew := ((Below.refl _ _).alloc (Nat.le_refl _) _).drew
              have z6 := d6.size
              have B6 := below_step B5 d6 (by omega)
              have ovb6 := ovb5.keep (SameAt.of_below d6)
              have ovc6 := oc.keep (SameAt.of_below d6)
              have hb2 := QRd.cell (ovb6.rd qC_len) (k := 0) rfl
              clear B5 d6 hb0 hb1 ovb5 oc
              generalize (w5.alloc (.cells #[.int .i64 0, .int .i64 p] 33)).drew = w6 at *
              obtain ⟨hb0, hb1⟩ := hb2
              rw [Nat.zero_mul, Nat.add_zero] at hb0 hb1
              go_wp2_with fail
              refine (implOtherQuote_any 4 (0, p) _).mono ?_
              rintro e2 w7 ⟨rfl, b7⟩
              rw [HOT.out]
              unfold qV
              have z7 := b7.size
              have B7 := below_step B6 b7 (by omega)
              have ovb7 := ovb6.keep (SameAt.of_below b7)
              have ovc7 := ovc6.keep (SameAt.of_below b7)
              clear B6 b7 hb0 hb1 ovb6 ovc6
              obtain ⟨⟨u0, hu0⟩, hf0, ⟨u1, hu1⟩, hf1⟩ := first_cells ovc7 (by simp)
              obtain ⟨op, gp⟩ := put_first ovc7 (by simp) r1 r2
              have hgc := (ovc7.ge gc rfl).1
              have B8 : Below w.heap.size w ((w7.setCell ⟨gc, 0, none⟩ (.int .i64 r1)).setCell ⟨gc, 1, none⟩ (.int .i64 r2)) := B7.grown gp (by omega) (fun k hk => by have h1 : gc = k := Option.some.inj hk; omega)
              have ovb8 := ovb7.keep (SameAt.of_grown gp (by rcases hvq : (Value.slice (some ⟨gb, 0, none⟩) 1 cb).ownBlock with _ | g; exact .inl rfl; exact .inr (fun e => by have h1 := hvb g hvq; have h2 : g = gc := Option.some.inj e; omega)))
              clear B7 ovc7 ovb7 gp hgc
              go_wp2_with fail
              generalize (w7.setCell ⟨gc, 0, none⟩ (.int .i64 r1)).setCell ⟨gc, 1, none⟩ (.int .i64 r2) = w8 at *
              clear hu0 hf0 hu1 hf1
              have zz : w.heap.size ≤ w8.heap.size := B8.size
              refine (implFairOk_any w8 4 _ ([(0, p)].set 0 (r1, r2)) (GOwn.rd qC_len op)).mono ?_
              rintro e2 w9 ⟨rfl, b9⟩
              rw [HFO.out]
              have z9 := b9.size
              have B9 := below_step B8 b9 (by omega)
              have ovb9 := ovb8.keep (SameAt.of_below b9)
              clear B8 b9 op ovb8
              go_wp2_with fail
              refine (implFairOk_any _ 4 _ [] (litq_rd w9)).mono ?_
              rintro e w10 ⟨rfl, b10⟩
              rw [HNIL.out]
              have c10 : Below w9.heap.size w9 w10 := below_step ((Below.refl _ _).alloc (Nat.le_refl _) _) b10 (by simp)
              have z10 := c10.size
              have B10 := below_step B9 c10 (by omega)
              have ovb10 := ovb9.keep (SameAt.of_below c10)
              clear B9 b10 c10 ovb9
              go_wp2_with fail
              go_ret
              exact ⟨ret_bool (by simp), B10⟩
            · skip
              have HF : Hid (fairB 4 [(15, 6)] = true) := Lib.hid (by have h := hone; simpa using h)
              have HFO : Hid (fairB 4 ([(15, 6)].set 0 (r1, r2)) = true) := Lib.hid (hfo.trans HF.out)
              clear hone hfo
              go_wp2_with fail
              refine (implFairOk_any w1 4 _ [(15, 6)] (ovb1.rd qC_len)).mono ?_
              rintro e w2 ⟨rfl, b2⟩
              rw [HF.out]
              have z2 := b2.size
              have B2 := below_step B1 b2 (by omega)
              have ovb2 := ovb1.keep (SameAt.of_below b2)
              clear B1 b2 ovb1
              go_wp2_with fail
              refine (specFairOk_any w2 4 _ [(15, 6)] (ovb2.rd qC_len)).mono ?_
              rintro e w3 ⟨rfl, b3⟩
              rw [HF.out]
              have z3 := b3.size
              have B3 := below_step B2 b3 (by omega)
              have ovb3 := ovb2.keep (SameAt.of_below b3)
              clear B2 b3 ovb2
              go_wp2_with fail
              refine (specBookOk_any w3 4 _ [(15, 6)] (ovb3.rd qC_len)).mono ?_
              rintro e w4 ⟨rfl, b4⟩
              rw [HB.out]
              have z4 := b4.size
              have B4 := below_step B3 b4 (by omega)
              have ovb4 := ovb3.keep (SameAt.of_below b4)
              clear B3 b4 ovb3
              have hown := Lib.hid (litq_own w4)
              have hnews := Lib.hid (grd_news (((ovb4.rd qC_len)).keep (SameAt.grow (w' := w4.alloc (.cells #[] 33)) rfl)))
              go_wp2_with (at_builtin; refine wpList_append_own_at _ rfl _ _ 23 rfl w4.heap.size 33 j0 (.agg #[.int .i64 0, .int .i64 0]) 2 16 Try.underlying23 hj hy0 hy1 hy2 rfl (by decide) _ _ _ rfl hown.out ⟨gb, 0, none⟩ 1 cb ([(15, 6)].flatMap qC) rfl ?mc0 hnews.out (quotes_one [(15, 6)]) ?mc3 ?mc4 ?mc5 ?_)
              case mc0 => exact flat_len qC_len [(15, 6)]
              case mc3 => unfold maxLen; omega
              case mc4 => omega
              case mc5 => simp
              intro v' w5 hown' hgrow _ _
              obtain ⟨oc, bc⟩ := copy_of (w := w4) (qs := [(15, 6)]) hown' hgrow rfl
              obtain ⟨gc, cc, rfl, hcc1, hcc2⟩ := qown_form oc (by simp)
              have hcc1 : 1 ≤ cc := hcc1
              change QOwn w5 _ (.slice (some ⟨gc, 0, none⟩) 1 cc) _ at oc
              have hcc3 : (1 : Int) ≤ (cc : Int) := by omega
              have zc := bc.size
              have B5 := below_step B4 bc (by omega)
              have ovb5 := ovb4.keep (SameAt.of_below bc)
              clear B4 hown' hgrow hown hnews bc ovb4
              have hb0 : w5.cell? ⟨gb, 0, none⟩ = some (.int .i64 15) := by have := (QRd.cell (ovb5.rd qC_len) (k := 0) rfl).1; simpa using this
              have hb1 : w5.cell? ⟨gb, 1, none⟩ = some (.int .i64 6) := by have := (QRd.cell (ovb5.rd qC_len) (k := 0) rfl).2; simpa using this
              go_wp2_with fail
              go_region
              have d6 : Below w5.heap.size w5 (w5.alloc (.cells #[.int .i64 15, .int .i64 6] 33)).drew := ((Below.refl _ _).alloc (Nat.le_refl _) _).drew
              have z6 := d6.size
              have B6 := below_step B5 d6 (by omega)
              have ovb6 := ovb5.keep (SameAt.of_below d6)
              have ovc6 := oc.keep (SameAt.of_below d6)
              have hb2 := QRd.cell (ovb6.rd qC_len) (k := 0) rfl
              clear B5 d6 hb0 hb1 ovb5 oc
              generalize (w5.alloc (.cells #[.int .i64 15, .int .i64 6] 33)).drew = w6 at *
              obtain ⟨hb0, hb1⟩ := hb2
              rw [Nat.zero_mul, Nat.add_zero] at hb0 hb1
              go_wp2_with fail
              refine (implOtherQuote_any 4 (15, 6) _).mono ?_
              rintro e2 w7 ⟨rfl, b7⟩
              rw [HOT.out]
              unfold qV
              have z7 := b7.size
              have B7 := below_step B6 b7 (by omega)
              have ovb7 := ovb6.keep (SameAt.of_below b7)
              have ovc7 := ovc6.keep (SameAt.of_below b7)
              clear B6 b7 hb0 hb1 ovb6 ovc6
              obtain ⟨⟨u0, hu0⟩, hf0, ⟨u1, hu1⟩, hf1⟩ := first_cells ovc7 (by simp)
              obtain ⟨op, gp⟩ := put_first ovc7 (by simp) r1 r2
              have hgc := (ovc7.ge gc rfl).1
              have B8 : Below w.heap.size w ((w7.setCell ⟨gc, 0, none⟩ (.int .i64 r1)).setCell ⟨gc, 1, none⟩ (.int .i64 r2)) := B7.grown gp (by omega) (fun k hk => by have h1 : gc = k := Option.some.inj hk; omega)
              have ovb8 := ovb7.keep (SameAt.of_grown gp (by rcases hvq : (Value.slice (some ⟨gb, 0, none⟩) 1 cb).ownBlock with _ | g; exact .inl rfl; exact .inr (fun e => by have h1 := hvb g hvq; have h2 : g = gc := Option.some.inj e; omega)))
              clear B7 ovc7 ovb7 gp hgc
              go_wp2_with fail
              generalize (w7.setCell ⟨gc, 0, none⟩ (.int .i64 r1)).setCell ⟨gc, 1, none⟩ (.int .i64 r2) = w8 at *
              clear hu0 hf0 hu1 hf1
              have zz : w.heap.size ≤ w8.heap.size := B8.size
              refine (implFairOk_any w8 4 _ ([(15, 6)].set 0 (r1, r2)) (GOwn.rd qC_len op)).mono ?_
              rintro e2 w9 ⟨rfl, b9⟩
              rw [HFO.out]
              have z9 := b9.size
              have B9 := below_step B8 b9 (by omega)
              have ovb9 := ovb8.keep (SameAt.of_below b9)
              clear B8 b9 op ovb8
              go_wp2_with fail
              refine (implFairOk_any _ 4 _ [] (litq_rd w9)).mono ?_
              rintro e w10 ⟨rfl, b10⟩
              rw [HNIL.out]
              have c10 : Below w9.heap.size w9 w10 := below_step ((Below.refl _ _).alloc (Nat.le_refl _) _) b10 (by simp)
              have z10 := c10.size
              have B10 := below_step B9 c10 (by omega)
              have ovb10 := ovb9.keep (SameAt.of_below c10)
              clear B9 b10 c10 ovb9
              have hk2 : (0 : Int) ≤ (cb : Int) := by omega
              go_wp2_with fail
              refine (implFairOk_any w10 4 _ [] (GRd.take (k := 0) (ovb10.rd qC_len) (by omega))).mono ?_
              rintro e w11 ⟨rfl, b11⟩
              rw [HNIL.out]
              have z11 := b11.size
              have B11 := below_step B10 b11 (by omega)
              have ovb11 := ovb10.keep (SameAt.of_below b11)
              clear B10 b11 ovb10
              go_wp2_with fail
              go_ret
              exact ⟨ret_bool (by simp), B11⟩
            · have hp2 : (p == 6) = false := by rw [beq_eq_false_iff_ne]; exact hp
              have hp3 : (p != 6) = true := by rw [bne, hp2]; rfl
              have HF : Hid (fairB 4 [(15, p)] = false) := Lib.hid (by have h := hone; simpa [bne, hp2] using h)
              have HFO : Hid (fairB 4 ([(15, p)].set 0 (r1, r2)) = false) := Lib.hid (hfo.trans HF.out)
              clear hone hfo
              go_wp2_with fail
              refine (implFairOk_any w1 4 _ [(15, p)] (ovb1.rd qC_len)).mono ?_
              rintro e w2 ⟨rfl, b2⟩
              rw [HF.out]
              have z2 := b2.size
              have B2 := below_step B1 b2 (by omega)
              have ovb2 := ovb1.keep (SameAt.of_below b2)
              clear B1 b2 ovb1
              go_wp2_with fail
              refine (specFairOk_any w2 4 _ [(15, p)] (ovb2.rd qC_len)).mono ?_
              rintro e w3 ⟨rfl, b3⟩
              rw [HF.out]
              have z3 := b3.size
              have B3 := below_step B2 b3 (by omega)
              have ovb3 := ovb2.keep (SameAt.of_below b3)
              clear B2 b3 ovb2
              go_wp2_with fail
              refine (specBookOk_any w3 4 _ [(15, p)] (ovb3.rd qC_len)).mono ?_
              rintro e w4 ⟨rfl, b4⟩
              rw [HB.out]
              have z4 := b4.size
              have B4 := below_step B3 b4 (by omega)
              have ovb4 := ovb3.keep (SameAt.of_below b4)
              clear B3 b4 ovb3
              have hown := Lib.hid (litq_own w4)
              have hnews := Lib.hid (grd_news (((ovb4.rd qC_len)).keep (SameAt.grow (w' := w4.alloc (.cells #[] 33)) rfl)))
              go_wp2_with (at_builtin; refine wpList_append_own_at _ rfl _ _ 23 rfl w4.heap.size 33 j0 (.agg #[.int .i64 0, .int .i64 0]) 2 16 Try.underlying23 hj hy0 hy1 hy2 rfl (by decide) _ _ _ rfl hown.out ⟨gb, 0, none⟩ 1 cb ([(15, p)].flatMap qC) rfl ?mc0 hnews.out (quotes_one [(15, p)]) ?mc3 ?mc4 ?mc5 ?_)
              case mc0 => exact flat_len qC_len [(15, p)]
              case mc3 => unfold maxLen; omega
              case mc4 => omega
              case mc5 => simp
              intro v' w5 hown' hgrow _ _
              obtain ⟨oc, bc⟩ := copy_of (w := w4) (qs := [(15, p)]) hown' hgrow rfl
              obtain ⟨gc, cc, rfl, hcc1, hcc2⟩ := qown_form oc (by simp)
              have hcc1 : 1 ≤ cc := hcc1
              change QOwn w5 _ (.slice (some ⟨gc, 0, none⟩) 1 cc) _ at oc
              have hcc3 : (1 : Int) ≤ (cc : Int) := by omega
              have zc := bc.size
              have B5 := below_step B4 bc (by omega)
              have ovb5 := ovb4.keep (SameAt.of_below bc)
              clear B4 hown' hgrow hown hnews bc ovb4
              have hb0 : w5.cell? ⟨gb, 0, none⟩ = some (.int .i64 15) := by have := (QRd.cell (ovb5.rd qC_len) (k := 0) rfl).1; simpa using this
              have hb1 : w5.cell? ⟨gb, 1, none⟩ = some (.int .i64 p) := by have := (QRd.cell (ovb5.rd qC_len) (k := 0) rfl).2; simpa using this
              go_wp2_with fail
              go_region
              have d6 : Below w5.heap.size w5 (w5.alloc (.cells #[.int .i64 15, .int .i64 p] 33)).drew := ((Below.refl _ _).alloc (Nat.le_refl _) _).drew
              have z6 := d6.size
              have B6 := below_step B5 d6 (by omega)
              have ovb6 := ovb5.keep (SameAt.of_below d6)
              have ovc6 := oc.keep (SameAt.of_below d6)
              have hb2 := QRd.cell (ovb6.rd qC_len) (k := 0) rfl
              clear B5 d6 hb0 hb1 ovb5 oc
              generalize (w5.alloc (.cells #[.int .i64 15, .int .i64 p] 33)).drew = w6 at *
              obtain ⟨hb0, hb1⟩ := hb2
              rw [Nat.zero_mul, Nat.add_zero] at hb0 hb1
              go_wp2_with fail
              refine (implOtherQuote_any 4 (15, p) _).mono ?_
              rintro e2 w7 ⟨rfl, b7⟩
              rw [HOT.out]
              unfold qV
              have z7 := b7.size
              have B7 := below_step B6 b7 (by omega)
              have ovb7 := ovb6.keep (SameAt.of_below b7)
              have ovc7 := ovc6.keep (SameAt.of_below b7)
              clear B6 b7 hb0 hb1 ovb6 ovc6
              obtain ⟨⟨u0, hu0⟩, hf0, ⟨u1, hu1⟩, hf1⟩ := first_cells ovc7 (by simp)
              obtain ⟨op, gp⟩ := put_first ovc7 (by simp) r1 r2
              have hgc := (ovc7.ge gc rfl).1
              have B8 : Below w.heap.size w ((w7.setCell ⟨gc, 0, none⟩ (.int .i64 r1)).setCell ⟨gc, 1, none⟩ (.int .i64 r2)) := B7.grown gp (by omega) (fun k hk => by have h1 : gc = k := Option.some.inj hk; omega)
              have ovb8 := ovb7.keep (SameAt.of_grown gp (by rcases hvq : (Value.slice (some ⟨gb, 0, none⟩) 1 cb).ownBlock with _ | g; exact .inl rfl; exact .inr (fun e => by have h1 := hvb g hvq; have h2 : g = gc := Option.some.inj e; omega)))
              clear B7 ovc7 ovb7 gp hgc
              go_wp2_with fail
              generalize (w7.setCell ⟨gc, 0, none⟩ (.int .i64 r1)).setCell ⟨gc, 1, none⟩ (.int .i64 r2) = w8 at *
              clear hu0 hf0 hu1 hf1
              have zz : w.heap.size ≤ w8.heap.size := B8.size
              refine (implFairOk_any w8 4 _ ([(15, p)].set 0 (r1, r2)) (GOwn.rd qC_len op)).mono ?_
              rintro e2 w9 ⟨rfl, b9⟩
              rw [HFO.out]
              have z9 := b9.size
              have B9 := below_step B8 b9 (by omega)
              have ovb9 := ovb8.keep (SameAt.of_below b9)
              clear B8 b9 op ovb8
              go_wp2_with fail
              refine (implFairOk_any _ 4 _ [] (litq_rd w9)).mono ?_
              rintro e w10 ⟨rfl, b10⟩
              rw [HNIL.out]
              have c10 : Below w9.heap.size w9 w10 := below_step ((Below.refl _ _).alloc (Nat.le_refl _) _) b10 (by simp)
              have z10 := c10.size
              have B10 := below_step B9 c10 (by omega)
              have ovb10 := ovb9.keep (SameAt.of_below c10)
              clear B9 b10 c10 ovb9
              go_wp2_with fail
              go_ret
              exact ⟨ret_bool (by simp), B10⟩
            · have he1 : (e == 0) = false := by rw [beq_eq_false_iff_ne]; exact he0
              have he2 : (e == 15) = false := by rw [beq_eq_false_iff_ne]; exact het
              have HF : Hid (fairB 4 [(e, p)] = true) := Lib.hid (by have h := hone; simpa [he1, he2] using h)
              have HFO : Hid (fairB 4 ([(e, p)].set 0 (r1, r2)) = true) := Lib.hid (hfo.trans HF.out)
              clear hone hfo
              go_wp2_with fail
              refine (implFairOk_any w1 4 _ [(e, p)] (ovb1.rd qC_len)).mono ?_
              rintro e w2 ⟨rfl, b2⟩
              rw [HF.out]
              have z2 := b2.size
              have B2 := below_step B1 b2 (by omega)
              have ovb2 := ovb1.keep (SameAt.of_below b2)
              clear B1 b2 ovb1
              go_wp2_with fail
              refine (specFairOk_any w2 4 _ [(e, p)] (ovb2.rd qC_len)).mono ?_
              rintro e w3 ⟨rfl, b3⟩
              rw [HF.out]
              have z3 := b3.size
              have B3 := below_step B2 b3 (by omega)
              have ovb3 := ovb2.keep (SameAt.of_below b3)
              clear B2 b3 ovb2
              go_wp2_with fail
              refine (specBookOk_any w3 4 _ [(e, p)] (ovb3.rd qC_len)).mono ?_
              rintro e w4 ⟨rfl, b4⟩
              rw [HB.out]
              have z4 := b4.size
              have B4 := below_step B3 b4 (by omega)
              have ovb4 := ovb3.keep (SameAt.of_below b4)
              clear B3 b4 ovb3
              have hown := Lib.hid (litq_own w4)
              have hnews := Lib.hid (grd_news (((ovb4.rd qC_len)).keep (SameAt.grow (w' := w4.alloc (.cells #[] 33)) rfl)))
              go_wp2_with (at_builtin; refine wpList_append_own_at _ rfl _ _ 23 rfl w4.heap.size 33 j0 (.agg #[.int .i64 0, .int .i64 0]) 2 16 Try.underlying23 hj hy0 hy1 hy2 rfl (by decide) _ _ _ rfl hown.out ⟨gb, 0, none⟩ 1 cb ([(e, p)].flatMap qC) rfl ?mc0 hnews.out (quotes_one [(e, p)]) ?mc3 ?mc4 ?mc5 ?_)
              case mc0 => exact flat_len qC_len [(e, p)]
              case mc3 => unfold maxLen; omega
              case mc4 => omega
              case mc5 => simp
              intro v' w5 hown' hgrow _ _
              obtain ⟨oc, bc⟩ := copy_of (w := w4) (qs := [(e, p)]) hown' hgrow rfl
              obtain ⟨gc, cc, rfl, hcc1, hcc2⟩ := qown_form oc (by simp)
              have hcc1 : 1 ≤ cc := hcc1
              change QOwn w5 _ (.slice (some ⟨gc, 0, none⟩) 1 cc) _ at oc
              have hcc3 : (1 : Int) ≤ (cc : Int) := by omega
              have zc := bc.size
              have B5 := below_step B4 bc (by omega)
              have ovb5 := ovb4.keep (SameAt.of_below bc)
              clear B4 hown' hgrow hown hnews bc ovb4
              have hb0 : w5.cell? ⟨gb, 0, none⟩ = some (.int .i64 e) := by have := (QRd.cell (ovb5.rd qC_len) (k := 0) rfl).1; simpa using this
              have hb1 : w5.cell? ⟨gb, 1, none⟩ = some (.int .i64 p) := by have := (QRd.cell (ovb5.rd qC_len) (k := 0) rfl).2; simpa using this
              go_wp2_with fail
              go_region
              have d6 : Below w5.heap.size w5 (w5.alloc (.cells #[.int .i64 e, .int .i64 p] 33)).drew := ((Below.refl _ _).alloc (Nat.le_refl _) _).drew
              have z6 := d6.size
              have B6 := below_step B5 d6 (by omega)
              have ovb6 := ovb5.keep (SameAt.of_below d6)
              have ovc6 := oc.keep (SameAt.of_below d6)
              have hb2 := QRd.cell (ovb6.rd qC_len) (k := 0) rfl
              clear B5 d6 hb0 hb1 ovb5 oc
              generalize (w5.alloc (.cells #[.int .i64 e, .int .i64 p] 33)).drew = w6 at *
              obtain ⟨hb0, hb1⟩ := hb2
              rw [Nat.zero_mul, Nat.add_zero] at hb0 hb1
              go_wp2_with fail
              refine (implOtherQuote_any 4 (e, p) _).mono ?_
              rintro e2 w7 ⟨rfl, b7⟩
              rw [HOT.out]
              unfold qV
              have z7 := b7.size
              have B7 := below_step B6 b7 (by omega)
              have ovb7 := ovb6.keep (SameAt.of_below b7)
              have ovc7 := ovc6.keep (SameAt.of_below b7)
              clear B6 b7 hb0 hb1 ovb6 ovc6
              obtain ⟨⟨u0, hu0⟩, hf0, ⟨u1, hu1⟩, hf1⟩ := first_cells ovc7 (by simp)
              obtain ⟨op, gp⟩ := put_first ovc7 (by simp) r1 r2
              have hgc := (ovc7.ge gc rfl).1
              have B8 : Below w.heap.size w ((w7.setCell ⟨gc, 0, none⟩ (.int .i64 r1)).setCell ⟨gc, 1, none⟩ (.int .i64 r2)) := B7.grown gp (by omega) (fun k hk => by have h1 : gc = k := Option.some.inj hk; omega)
              have ovb8 := ovb7.keep (SameAt.of_grown gp (by rcases hvq : (Value.slice (some ⟨gb, 0, none⟩) 1 cb).ownBlock with _ | g; exact .inl rfl; exact .inr (fun e => by have h1 := hvb g hvq; have h2 : g = gc := Option.some.inj e; omega)))
              clear B7 ovc7 ovb7 gp hgc
              go_wp2_with fail
              generalize (w7.setCell ⟨gc, 0, none⟩ (.int .i64 r1)).setCell ⟨gc, 1, none⟩ (.int .i64 r2) = w8 at *
              clear hu0 hf0 hu1 hf1
              have zz : w.heap.size ≤ w8.heap.size := B8.size
              refine (implFairOk_any w8 4 _ ([(e, p)].set 0 (r1, r2)) (GOwn.rd qC_len op)).mono ?_
              rintro e2 w9 ⟨rfl, b9⟩
              rw [HFO.out]
              have z9 := b9.size
              have B9 := below_step B8 b9 (by omega)
              have ovb9 := ovb8.keep (SameAt.of_below b9)
              clear B8 b9 op ovb8
              go_wp2_with fail
              refine (implFairOk_any _ 4 _ [] (litq_rd w9)).mono ?_
              rintro e w10 ⟨rfl, b10⟩
              rw [HNIL.out]
              have c10 : Below w9.heap.size w9 w10 := below_step ((Below.refl _ _).alloc (Nat.le_refl _) _) b10 (by simp)
              have z10 := c10.size
              have B10 := below_step B9 c10 (by omega)
              have ovb10 := ovb9.keep (SameAt.of_below c10)
              clear B9 b10 c10 ovb9
              have hk2 : (0 : Int) ≤ (cb : Int) := by omega
              go_wp2_with fail
              refine (implFairOk_any w10 4 _ [] (GRd.take (k := 0) (ovb10.rd qC_len) (by omega))).mono ?_
              rintro e w11 ⟨rfl, b11⟩
              rw [HNIL.out]
              have z11 := b11.size
              have B11 := below_step B10 b11 (by omega)
              have ovb11 := ovb10.keep (SameAt.of_below b11)
              clear B10 b11 ovb10
              go_wp2_with fail
              go_ret
              exact ⟨ret_bool (by simp), B11⟩
        · have hL2 : ((qs.length : Int) == 1) = false := by rw [beq_eq_false_iff_ne]; omega
          have hL3 : (2 : Int) ≤ (qs.length : Int) := by omega
          have hL5 : ((qs.length : Int) == 0) = false := by rw [beq_eq_false_iff_ne]; omega
          have hcb3 : (qs.length : Int) ≤ (cb : Int) := by omega
          have hl4' : (qs.length : Int) ≤ 4 := by omega
          clear hL0 hL1 hpos' hb hn1 hn2
          obtain ⟨f, hf⟩ : ∃ f, fairB n qs = f := ⟨_, rfl⟩
          rw [hf] at hfo HFL0
          have HFO := Lib.hid hfo
          have HF := Lib.hid hf
          clear hfo hf
          cases f
          · clear HFL0
            go_wp2_with fail
            refine (implFairOk_any w1 n _ qs (ovb1.rd qC_len)).mono ?_
            rintro e w2 ⟨rfl, b2⟩
            rw [HF.out]
            have z2 := b2.size
            have B2 := below_step B1 b2 (by omega)
            have ovb2 := ovb1.keep (SameAt.of_below b2)
            clear B1 b2 ovb1
            go_wp2_with fail
            refine (specFairOk_any w2 n _ qs (ovb2.rd qC_len)).mono ?_
            rintro e w3 ⟨rfl, b3⟩
            rw [HF.out]
            have z3 := b3.size
            have B3 := below_step B2 b3 (by omega)
            have ovb3 := ovb2.keep (SameAt.of_below b3)
            clear B2 b3 ovb2
            go_wp2_with fail
            refine (specBookOk_any w3 n _ qs (ovb3.rd qC_len)).mono ?_
            rintro e w4 ⟨rfl, b4⟩
            rw [HB.out]
            have z4 := b4.size
            have B4 := below_step B3 b4 (by omega)
            have ovb4 := ovb3.keep (SameAt.of_below b4)
            clear B3 b4 ovb3
            have hown := Lib.hid (litq_own w4)
            have hnews := Lib.hid (grd_news (((ovb4.rd qC_len)).keep (SameAt.grow (w' := w4.alloc (.cells #[] 33)) rfl)))
            go_wp2_with (at_builtin; refine wpList_append_own_at _ rfl _ _ 23 rfl w4.heap.size 33 j0 (.agg #[.int .i64 0, .int .i64 0]) 2 16 Try.underlying23 hj hy0 hy1 hy2 rfl (by decide) _ _ _ rfl hown.out ⟨gb, 0, none⟩ qs.length cb (qs.flatMap qC) rfl ?mc0 hnews.out (quotes_one qs) ?mc3 ?mc4 ?mc5 ?_)
            case mc0 => exact flat_len qC_len qs
            case mc3 => unfold maxLen; omega
            case mc4 => omega
            case mc5 => simp
            intro v' w5 hown' hgrow _ _
            obtain ⟨oc, bc⟩ := copy_of (w := w4) (qs := qs) hown' hgrow rfl
            obtain ⟨gc, cc, rfl, hcc1, hcc2⟩ := qown_form oc hpos.out
            have hcc3 : (qs.length : Int) ≤ (cc : Int) := by omega
            have zc := bc.size
            have B5 := below_step B4 bc (by omega)
            have ovb5 := ovb4.keep (SameAt.of_below bc)
            clear B4 hown' hgrow hown hnews bc ovb4
            obtain ⟨hb0, hb1⟩ := QRd.cell (ovb5.rd qC_len) HX0.out
            rw [Nat.zero_mul, Nat.add_zero] at hb0 hb1
            go_wp2_with fail
            refine (implOtherQuote_any n (e, p) _).mono ?_
            rintro e2 w6 ⟨rfl, b6⟩
            rw [HOT.out]
            unfold qV
            have z6 := b6.size
            have B6 := below_step B5 b6 (by omega)
            have ovb6 := ovb5.keep (SameAt.of_below b6)
            have ovc6 := oc.keep (SameAt.of_below b6)
            clear B5 b6 hb0 hb1 ovb5 oc
            obtain ⟨⟨u0, hu0⟩, hf0, ⟨u1, hu1⟩, hf1⟩ := first_cells ovc6 hpos.out
            obtain ⟨op, gp⟩ := put_first ovc6 hpos.out r1 r2
            have hgc := (ovc6.ge gc rfl).1
            have B7 : Below w.heap.size w ((w6.setCell ⟨gc, 0, none⟩ (.int .i64 r1)).setCell ⟨gc, 1, none⟩ (.int .i64 r2)) := B6.grown gp (by omega) (fun k hk => by have h1 : gc = k := Option.some.inj hk; omega)
            have ovb7 := ovb6.keep (SameAt.of_grown gp (by rcases hvq : (Value.slice (some ⟨gb, 0, none⟩) qs.length cb).ownBlock with _ | g; exact .inl rfl; exact .inr (fun e => by have h1 := hvb g hvq; have h2 : g = gc := Option.some.inj e; omega)))
            clear B6 ovc6 ovb6 gp hgc
            go_wp2_with fail
            generalize (w6.setCell ⟨gc, 0, none⟩ (.int .i64 r1)).setCell ⟨gc, 1, none⟩ (.int .i64 r2) = w7 at *
            clear hu0 hf0 hu1 hf1
            have zz : w.heap.size ≤ w7.heap.size := B7.size
            refine (implFairOk_any w7 n _ (qs.set 0 (r1, r2)) (GOwn.rd qC_len op)).mono ?_
            rintro e2 w8 ⟨rfl, b8⟩
            rw [HFO.out]
            have z8 := b8.size
            have B8 := below_step B7 b8 (by omega)
            have ovb8 := ovb7.keep (SameAt.of_below b8)
            clear B7 b8 op ovb7
            go_wp2_with fail
            refine (implFairOk_any _ n _ [] (litq_rd w8)).mono ?_
            rintro e w9 ⟨rfl, b9⟩
            rw [HNIL.out]
            have c9 : Below w8.heap.size w8 w9 := below_step ((Below.refl _ _).alloc (Nat.le_refl _) _) b9 (by simp)
            have z9 := c9.size
            have B9 := below_step B8 c9 (by omega)
            have ovb9 := ovb8.keep (SameAt.of_below c9)
            clear B8 b9 c9 ovb8
            go_wp2_with fail
            go_ret
            exact ⟨ret_bool (by simp), B9⟩
          · have HFL : Hid (∀ k, fairB n (qs.take k) = true) := Lib.hid (HFL0.out rfl)
            clear HFL0
            go_wp2_with fail
            refine (implFairOk_any w1 n _ qs (ovb1.rd qC_len)).mono ?_
            rintro e w2 ⟨rfl, b2⟩
            rw [HF.out]
            have z2 := b2.size
            have B2 := below_step B1 b2 (by omega)
            have ovb2 := ovb1.keep (SameAt.of_below b2)
            clear B1 b2 ovb1
            go_wp2_with fail
            refine (specFairOk_any w2 n _ qs (ovb2.rd qC_len)).mono ?_
            rintro e w3 ⟨rfl, b3⟩
            rw [HF.out]
            have z3 := b3.size
            have B3 := below_step B2 b3 (by omega)
            have ovb3 := ovb2.keep (SameAt.of_below b3)
            clear B2 b3 ovb2
            go_wp2_with fail
            refine (specBookOk_any w3 n _ qs (ovb3.rd qC_len)).mono ?_
            rintro e w4 ⟨rfl, b4⟩
            rw [HB.out]
            have z4 := b4.size
            have B4 := below_step B3 b4 (by omega)
            have ovb4 := ovb3.keep (SameAt.of_below b4)
            clear B3 b4 ovb3
            have hown := Lib.hid (litq_own w4)
            have hnews := Lib.hid (grd_news (((ovb4.rd qC_len)).keep (SameAt.grow (w' := w4.alloc (.cells #[] 33)) rfl)))
            go_wp2_with (at_builtin; refine wpList_append_own_at _ rfl _ _ 23 rfl w4.heap.size 33 j0 (.agg #[.int .i64 0, .int .i64 0]) 2 16 Try.underlying23 hj hy0 hy1 hy2 rfl (by decide) _ _ _ rfl hown.out ⟨gb, 0, none⟩ qs.length cb (qs.flatMap qC) rfl ?mc0 hnews.out (quotes_one qs) ?mc3 ?mc4 ?mc5 ?_)
            case mc0 => exact flat_len qC_len qs
            case mc3 => unfold maxLen; omega
            case mc4 => omega
            case mc5 => simp
            intro v' w5 hown' hgrow _ _
            obtain ⟨oc, bc⟩ := copy_of (w := w4) (qs := qs) hown' hgrow rfl
            obtain ⟨gc, cc, rfl, hcc1, hcc2⟩ := qown_form oc hpos.out
            have hcc3 : (qs.length : Int) ≤ (cc : Int) := by omega
            have zc := bc.size
            have B5 := below_step B4 bc (by omega)
            have ovb5 := ovb4.keep (SameAt.of_below bc)
            clear B4 hown' hgrow hown hnews bc ovb4
            obtain ⟨hb0, hb1⟩ := QRd.cell (ovb5.rd qC_len) HX0.out
            rw [Nat.zero_mul, Nat.add_zero] at hb0 hb1
            go_wp2_with fail
            refine (implOtherQuote_any n (e, p) _).mono ?_
            rintro e2 w6 ⟨rfl, b6⟩
            rw [HOT.out]
            unfold qV
            have z6 := b6.size
            have B6 := below_step B5 b6 (by omega)
            have ovb6 := ovb5.keep (SameAt.of_below b6)
            have ovc6 := oc.keep (SameAt.of_below b6)
            clear B5 b6 hb0 hb1 ovb5 oc
            obtain ⟨⟨u0, hu0⟩, hf0, ⟨u1, hu1⟩, hf1⟩ := first_cells ovc6 hpos.out
            obtain ⟨op, gp⟩ := put_first ovc6 hpos.out r1 r2
            have hgc := (ovc6.ge gc rfl).1
            have B7 : Below w.heap.size w ((w6.setCell ⟨gc, 0, none⟩ (.int .i64 r1)).setCell ⟨gc, 1, none⟩ (.int .i64 r2)) := B6.grown gp (by omega) (fun k hk => by have h1 : gc = k := Option.some.inj hk; omega)
            have ovb7 := ovb6.keep (SameAt.of_grown gp (by rcases hvq : (Value.slice (some ⟨gb, 0, none⟩) qs.length cb).ownBlock with _ | g; exact .inl rfl; exact .inr (fun e => by have h1 := hvb g hvq; have h2 : g = gc := Option.some.inj e; omega)))
            clear B6 ovc6 ovb6 gp hgc
            go_wp2_with fail
            generalize (w6.setCell ⟨gc, 0, none⟩ (.int .i64 r1)).setCell ⟨gc, 1, none⟩ (.int .i64 r2) = w7 at *
            clear hu0 hf0 hu1 hf1
            have zz : w.heap.size ≤ w7.heap.size := B7.size
            refine (implFairOk_any w7 n _ (qs.set 0 (r1, r2)) (GOwn.rd qC_len op)).mono ?_
            rintro e2 w8 ⟨rfl, b8⟩
            rw [HFO.out]
            have z8 := b8.size
            have B8 := below_step B7 b8 (by omega)
            have ovb8 := ovb7.keep (SameAt.of_below b8)
            clear B7 b8 op ovb7
            go_wp2_with fail
            refine (implFairOk_any _ n _ [] (litq_rd w8)).mono ?_
            rintro e w9 ⟨rfl, b9⟩
            rw [HNIL.out]
            have c9 : Below w8.heap.size w8 w9 := below_step ((Below.refl _ _).alloc (Nat.le_refl _) _) b9 (by simp)
            have z9 := c9.size
            have B9 := below_step B8 c9 (by omega)
            have ovb9 := ovb8.keep (SameAt.of_below c9)
            clear B8 b9 c9 ovb8
            obtain ⟨k, hk⟩ : ∃ k, qs.length = k + 1 := ⟨qs.length - 1, by have := hpos.out; omega⟩
            have HK := Lib.hid hk
            have hk1 : (qs.length : Int) - 1 = (k : Int) := by omega
            have hk2 : (k : Int) ≤ (cb : Int) := by omega
            clear hk
            go_wp2_with fail
            refine (implFairOk_any w9 n _ (qs.take k) (GRd.take (ovb9.rd qC_len) (by have := HK.out; omega))).mono ?_
            rintro e w10 ⟨rfl, b10⟩
            rw [HFL.out]
            have z10 := b10.size
            have B10 := below_step B9 b10 (by omega)
            have ovb10 := ovb9.keep (SameAt.of_below b10)
            clear B9 b10 ovb9
            go_wp2_with fail
            go_ret
            exact ⟨ret_bool (by simp), B10⟩
    · have HB := Lib.hid hb
      have HF := Lib.hid (fair_no hb)
      clear hb hj hy0 hy1 hy2
      go_wp2_with fail
      refine (implFairOk_any w1 n vb qs (ovb1.rd qC_len)).mono ?_
      rintro e w2 ⟨rfl, b2⟩
      rw [HF.out]
      have z2 := b2.size
      have B2 := below_step B1 b2 (by omega)
      have ovb2 := ovb1.keep (SameAt.of_below b2)
      clear B1 b2 ovb1
      go_wp2_with fail
      refine (specFairOk_any w2 n vb qs (ovb2.rd qC_len)).mono ?_
      rintro e w3 ⟨rfl, b3⟩
      rw [HF.out]
      have z3 := b3.size
      have B3 := below_step B2 b3 (by omega)
      have ovb3 := ovb2.keep (SameAt.of_below b3)
      clear B2 b3 ovb2
      go_wp2_with fail
      refine (specBookOk_any w3 n vb qs (ovb3.rd qC_len)).mono ?_
      rintro e w4 ⟨rfl, b4⟩
      rw [HB.out]
      have z4 := b4.size
      have B4 := below_step B3 b4 (by omega)
      have ovb4 := ovb3.keep (SameAt.of_below b4)
      clear B3 b4 ovb3
      go_wp2_with fail
      refine (alive_any _).mono ?_
      rintro e w' ⟨rfl, rfl⟩
      go_wp2_with fail
      go_ret
      exact ⟨rfl, B4⟩

end Go.Proofs.Ytfjmlbcmidichaa
