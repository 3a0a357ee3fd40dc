/- What is drawn of weights and evidence. Conditions: a row of bytes, or a reader. (gen_hf.py) -/
import Derived.Test.YtbjmhbkpeglpkaaFf
import Derived.Test.YtbjmhbkpeglpkaaRh
import Derived.Test.YtbjmhbkpeglpkaaGf
namespace Go.Proofs.Ytbjmhbkpeglpkaa
open Go.RowKit
set_option linter.unusedVariables false

theorem Bnd.snoc {B : Int} {xs : List Int} (h : Bnd B xs) {y : Int} (hy : 0 ≤ y ∧ y ≤ B) : Bnd B (xs ++ [y]) := fun x hx => by
  rcases List.mem_append.1 hx with h1 | h1
  · exact h x h1
  · rw [List.mem_singleton] at h1; subst h1; exact hy

theorem Bnd.nil12 (B : Int) : Bnd B [] := fun x hx => by cases hx

theorem GamRel.made {w wr w' : World} {R P : Nat} {p v : Value} {xs ys : List Int} (h : GamRel w R P p xs wr) (ho : IOwn w' w.heap.size v ys) (hg : wr.grownBy w' none) : GamRel w R P v ys w' :=
  ⟨h.1.grown hg (fun g hg' => by cases hg'), ho, grow_far h.2.2.1 hg (fun g hg' => by cases hg'), h.2.2.2⟩

/-- weights that were drawn: they need not be any -/
def WgtP (w : World) (R P : Nat) (e : Ending) (w' : World) : Prop := ∃ v xs, e = .returned v ∧ GamRel w R P v xs w' ∧ xs.length ≤ 4 ∧ Bnd 1000001 xs

set_option maxRecDepth 100000 in
set_option maxHeartbeats 8000000 in
theorem l20Weights_any (w : World) (R P : Nat) (n m : Int) (hP : P ≤ 1000) (h : Rd w R P) (h1 : 1 ≤ n) (h2 : n ≤ 4) (m1 : 1 ≤ m) (m2 : m ≤ 1000) :
    Calls Try.prog 52 #[.pointer (some ⟨R, 0, none⟩), .int .i64 n, .int .i64 m] w (WgtP w R (P + 16)) := by
  obtain ⟨i0, hi, hz0, hz1, hz2⟩ := info_parts Try_intinfo
  obtain ⟨nw, rfl⟩ : ∃ k : Nat, n = (k : Int) := ⟨n.toNat, by omega⟩
  have hn4 : nw ≤ 4 := by omega
  have hn1 : 1 ≤ nw := by omega
  have H0 : Hid (GamRel w R P (.slice (some ⟨w.heap.size, 0, none⟩) 0 0) [] (w.alloc (.cells #[] 3))) := Lib.hid (GamRel.start h)
  clear h h1 h2
  go_enter Try.func52, Try.ntmps52
  go_wp2_with fail
  go_loopw [7, 8] (fun p c wr => ∃ (k Q : Nat) (xs : List Int), c = .int .i64 (k : Int) ∧ k ≤ nw ∧ Q ≤ P + 3 * k ∧ Hid (xs.length = k) ∧ Hid (Bnd 1000001 xs) ∧ Hid (GamRel w R Q p xs wr)) (fun _ c _ => nw - (intOf c).toNat)
  case atStart => exact ⟨0, P, [], rfl, Nat.zero_le _, by omega, Lib.hid rfl, Lib.hid (Bnd.nil12 _), H0⟩
  case round =>
    obtain ⟨k, Q, xs, rfl, hk, hQ, HL, HA, HR⟩ := hrel
    clear H0
    by_cases hlt : k < nw
    · have hlt' : (k : Int) < (nw : Int) := by omega
      go_wp2_with fail
      refine (pick_any _ R Q _ (by omega) HR.out.1).mono ?_
      rintro e w4 ⟨a1, rfl, ⟨pa1, qa1, -⟩, k1⟩
      have qa1 := qa1 (by decide)
      have H4 := Lib.hid (HR.out.picked k1)
      clear k1
      go_wp2_with fail
      refine (pick_any _ R (Q + 1) _ (by omega) H4.out.1).mono ?_
      rintro e w5 ⟨a2, rfl, ⟨pa2, qa2, -⟩, k1⟩
      have qa2 := qa2 (by decide)
      have H5 := Lib.hid (H4.out.picked k1)
      clear k1
      go_wp2_with fail
      refine (pick_any _ R (Q + 2) _ (by omega) H5.out.1).mono ?_
      rintro e w6 ⟨a3, rfl, ⟨pa3, qa3, -⟩, k1⟩
      have qa3 := qa3 (by decide)
      have H6 := Lib.hid (H5.out.picked k1)
      clear k1
      obtain ⟨c, hc, c0⟩ : ∃ c, a2 / 8 = c ∧ (c = 0 ∨ c = 1) := ⟨_, rfl, by omega⟩
      have hmb : 0 ≤ a2 / 8 * a3 ∧ a2 / 8 * a3 ≤ 88 := by rw [hc]; rcases c0 with rfl | rfl <;> omega
      obtain ⟨d, hd⟩ : ∃ d, a2 / 8 * a3 = d := ⟨_, rfl⟩
      have hq1 : a2.tdiv 8 = a2 / 8 := Int.tdiv_eq_ediv_of_nonneg pa2
      have hw1 : wrap64 (a2 / 8) = a2 / 8 := by clear hd hmb; exact IntWalk.wrap64_in _ (by omega)
      have hw2 : IntKind.i64.wrap (a2 / 8 * a3) = d := by rw [hd]; exact IntWalk.i64_in _ (by clear hw1 hq1; omega)
      have hw3 : IntKind.i64.wrap (a1 + d) = a1 + d := IntWalk.i64_in _ (by clear hw1 hq1 hw2; omega)
      have HA2 := Lib.hid (HA.out.snoc (y := a1 + d) (by clear hw1 hw2 hw3 hq1; omega))
      clear hd hmb hc c0
      have hown0 := H6.out.2.1
      unfold IOwn at hown0
      have hown := Lib.hid (World.ownsRow.alloc (w := w6) hown0 (.cells #[.int .i64 (a1 + d)] 3))
      have hsz := H6.out.2.2.1.size
      have hlen : xs.length ≤ 24 := by have := HL.out; omega
      clear hown0
      go_wp2_with (at_builtin; refine wpList_append_own _ rfl _ _ 23 rfl w.heap.size 3 i0 (.int .i64 0) 1 8 Try.underlying23 hi hz0 hz1 hz2 rfl (by decide) _ _ _ rfl hown.out ⟨w6.heap.size, 0, none⟩ 1 1 [.int .i64 (a1 + d)] rfl rfl ?c1 one_int ?c3 ?c4 ?c5 ?_)
      case c1 => exact one_new w6 _ _
      case c3 => unfold maxLen; omega
      case c4 => omega
      case c5 => simp; omega
      intro v' w' hown' hgrow _
      have HL2 := Lib.hid (H6.out.append (show IOwn w' w.heap.size v' (xs ++ [a1 + d]) from by simpa [IOwn] using hown') (grown_after (w := w6) ((Below.refl _ w6).alloc (Nat.le_refl _) _) hgrow))
      clear hown' hgrow hown hlen
      clear hw1 hw2 hw3 hq1
      go_wp2_with fail
      go_roundw
      case rel => exact ⟨k + 1, Q + 3, xs ++ [a1 + d], by go_num, by omega, by omega, Lib.hid (by have := HL.out; simp; omega), HA2, HL2⟩
      case measure => simp [intOf]; omega
    · obtain rfl : k = nw := by omega
      have hlt' : decide ((k : Int) < (k : Int)) = false := by simp
      go_wp2_with fail
      refine (odd_any _ R Q _ m1 (by omega) (by omega) HR.out.1).mono ?_
      rintro e w5 ⟨b, rfl, k1⟩
      have H5 := Lib.hid (HR.out.picked k1)
      clear k1 HR
      cases b
      · go_wp2_with fail
        go_ret
        exact ⟨_, _, rfl, H5.out.mono (by omega), by have := HL.out; omega, HA.out⟩
      · go_wp2_with fail
        refine (pick_any _ R (Q + 1) _ (by omega) H5.out.1).mono ?_
        rintro e w6 ⟨v3, rfl, ⟨p5, p6, -⟩, k1⟩
        have p6 := p6 (by decide)
        have H6 := Lib.hid (H5.out.picked k1)
        clear k1 H5
        obtain rfl | rfl | rfl : v3 = 0 ∨ v3 = 1 ∨ v3 = 2 := by omega
        · have hsz := H6.out.2.2.1.size
          go_wp2_with (at_make; refine wpList_make_full _ rfl _ _ 23 rfl w.heap.size 3 i0 (.int .i64 0) 1 Try.underlying23 hi hz0 hz1 .i64 .i64 _ _ k rfl rfl rfl rfl ?b2 ?b3 hsz ?_)
          case b2 => rw [hz2]; omega
          case b3 => unfold maxLen; omega
          intro w7 hown0 hgrow0
          have H7 := Lib.hid (H6.out.made (ys := List.replicate k 0) (v := .slice (some ⟨w6.heap.size, 0, none⟩) k k) (by unfold IOwn; simpa [toList_madeCells_one, Value.cells] using hown0) hgrow0)
          clear hown0 hgrow0
          go_wp2_with fail
          go_ret
          exact ⟨_, _, rfl, H7.out.mono (by omega), by simp; omega, fun x hx => by have := List.eq_of_mem_replicate hx; omega⟩
        · have H7 := Lib.hid H6.out.anew
          go_wp2_with fail
          go_ret
          exact ⟨_, _, rfl, H7.out.mono (by omega), by simp, Bnd.nil12 _⟩
        · obtain ⟨g, cap, rfl, hc1, hc2⟩ := H6.out.form (by have := HL.out; omega)
          have hll := HL.out
          have H6' : Hid (GamRel w R (Q + 2) (.slice (some ⟨g, 0, none⟩) k cap) xs w6) := Lib.hid (by have := H6.out; rwa [hll] at this)
          have hfz := H6'.out.frozen 0
          obtain ⟨x, hx⟩ : ∃ x, xs[0]? = some x := ⟨_, List.getElem?_eq_getElem (by omega)⟩
          have hcell := H6'.out.cell hx
          have H9 := Lib.hid (H6'.out.store (k := 0) (x := 1000001) hll)
          have hk0 : (0 : Int) < (k : Int) := by omega
          simp only [hll]
          clear hx H6 hll
          go_wp2_with fail
          go_ret
          exact ⟨_, _, rfl, H9.out.mono (by omega), by have := HL.out; simp; omega, HA.out.set_ 0 (by decide)⟩

/-- evidence that was drawn: it need not be any -/
def EviP (w : World) (R P : Nat) (e : Ending) (w' : World) : Prop := ∃ v xs, e = .returned v ∧ GamRel w R P v xs w' ∧ xs.length ≤ 5 ∧ Bnd 9 xs

set_option maxRecDepth 100000 in
set_option maxHeartbeats 8000000 in
theorem l20Evidence_any (w : World) (R P : Nat) (n : Int) (hP : P ≤ 1000) (h : Rd w R P) (h1 : 1 ≤ n) (h2 : n ≤ 4) :
    Calls Try.prog 62 #[.pointer (some ⟨R, 0, none⟩), .int .i64 n] w (EviP w R (P + 16)) := by
  obtain ⟨i0, hi, hz0, hz1, hz2⟩ := info_parts Try_intinfo
  have H0 : Hid (GamRel w R P (.slice (some ⟨w.heap.size, 0, none⟩) 0 0) [] (w.alloc (.cells #[] 3))) := Lib.hid (GamRel.start h)
  clear h
  go_enter Try.func62, Try.ntmps62
  go_wp2_with fail
  go_loopw [5, 6] (fun p c wr => ∃ (k Q : Nat) (xs : List Int), c = .int .i64 (k : Int) ∧ k ≤ 5 ∧ Q ≤ P + 3 * k ∧ Hid (xs.length = k) ∧ Hid (Bnd 9 xs) ∧ Hid (GamRel w R Q p xs wr)) (fun _ c _ => 5 - (intOf c).toNat)
  case atStart => exact ⟨0, P, [], rfl, Nat.zero_le _, by omega, Lib.hid rfl, Lib.hid (Bnd.nil12 _), H0⟩
  case round =>
    obtain ⟨k, Q, xs, rfl, hk, hQ, HL, HA, HR⟩ := hrel
    clear H0
    go_wp2_with fail
    refine (pick_any _ R Q _ (by omega) HR.out.1).mono ?_
    rintro e w4 ⟨a1, rfl, ⟨pa1, qa1, -⟩, k1⟩
    have qa1 := qa1 (by decide)
    have H4 := Lib.hid (HR.out.picked k1)
    clear k1
    by_cases hlt : (k : Int) < n + a1 / 59
    · have hk5 : k + 1 ≤ 5 := by omega
      go_wp2_with fail
      refine (pick_any _ R (Q + 1) _ (by omega) H4.out.1).mono ?_
      rintro e w5 ⟨a2, rfl, ⟨pa2, qa2, -⟩, k1⟩
      have qa2 := qa2 (by decide)
      have H5 := Lib.hid (H4.out.picked k1)
      clear k1
      go_wp2_with fail
      refine (pick_any _ R (Q + 2) _ (by omega) H5.out.1).mono ?_
      rintro e w6 ⟨a3, rfl, ⟨pa3, qa3, -⟩, k1⟩
      have qa3 := qa3 (by decide)
      have H6 := Lib.hid (H5.out.picked k1)
      clear k1
      have HA2 := Lib.hid (HA.out.snoc (y := a2 + a3 / 8 * 5) (by omega))
      have hown0 := H6.out.2.1
      unfold IOwn at hown0
      have hown := Lib.hid (World.ownsRow.alloc (w := w6) hown0 (.cells #[.int .i64 (a2 + a3 / 8 * 5)] 3))
      have hsz := H6.out.2.2.1.size
      have hlen : xs.length ≤ 24 := by have := HL.out; omega
      clear hown0
      go_wp2_with (at_builtin; refine wpList_append_own _ rfl _ _ 23 rfl w.heap.size 3 i0 (.int .i64 0) 1 8 Try.underlying23 hi hz0 hz1 hz2 rfl (by decide) _ _ _ rfl hown.out ⟨w6.heap.size, 0, none⟩ 1 1 [.int .i64 (a2 + a3 / 8 * 5)] rfl rfl ?c1 one_int ?c3 ?c4 ?c5 ?_)
      case c1 => exact one_new w6 _ _
      case c3 => unfold maxLen; omega
      case c4 => omega
      case c5 => simp; omega
      intro v' w' hown' hgrow _
      have HL2 := Lib.hid (H6.out.append (show IOwn w' w.heap.size v' (xs ++ [a2 + a3 / 8 * 5]) from by simpa [IOwn] using hown') (grown_after (w := w6) ((Below.refl _ w6).alloc (Nat.le_refl _) _) hgrow))
      clear hown' hgrow hown hlen
      go_wp2_with fail
      go_roundw
      case rel => exact ⟨k + 1, Q + 3, xs ++ [a2 + a3 / 8 * 5], by go_num, hk5, by omega, Lib.hid (by have := HL.out; simp; omega), HA2, HL2⟩
      case measure => simp [intOf]; omega
    · have hd : decide ((k : Int) < n + a1 / 59) = false := decide_eq_false hlt
      go_wp2_with fail
      go_ret
      exact ⟨_, _, rfl, H4.out.mono (by omega), by have := HL.out; omega, HA.out⟩

/-- a row that need be no weights -/
def DrawWgt (w : World) (e : Ending) (w' : World) : Prop := ∃ v xs, e = .returned v ∧ IOwn w' w.heap.size v xs ∧ xs.length ≤ 4 ∧ Bnd 6000006 xs ∧ Below w.heap.size w w'

set_option maxRecDepth 100000 in
set_option maxHeartbeats 8000000 in
theorem drawWeightsOk_any (w : World) (a : Option Addr) (len cap : Nat) (zs : List Int) (h : IsRowC .u8 w a len cap zs) :
    Calls Try.prog 16 #[.slice a len cap] w (DrawWgt w) := by
  go_enter Try.func16, Try.ntmps16
  go_wp2_with fail
  refine (open_at _ w.heap.size a len cap zs rfl h).mono ?_
  rintro e w1 ⟨rfl, d1, b1, s1⟩
  have B1 := Lib.hid b1
  have HLT : Hid (w.heap.size < w1.heap.size) := Lib.hid d1.2.2
  go_wp2_with fail
  refine (pick_any _ w.heap.size 0 _ (by decide) d1.1).mono ?_
  rintro e w2 ⟨v1, rfl, ⟨p1, p2, -⟩, k1⟩
  have p2 := p2 (by decide)
  have D2 := Lib.hid (d1.picked k1)
  clear d1 b1 h k1
  go_wp2_with fail
  refine (l20Weights_any _ w.heap.size 1 _ _ (by decide) D2.out.1 (by omega) (by omega) (by decide) (by decide)).mono ?_
  rintro e w3 ⟨v, xs, rfl, h3, hl, hb⟩
  have H3 := Lib.hid h3
  have HBN := Lib.hid hb
  clear h3 hb
  have B2 : Below w.heap.size w w2 := below_dr B1.out D2.out (Nat.le_refl _)
  have B5 := Lib.hid (B2.grown H3.out.2.2.1 B2.size (fun g hg => by injection hg with hg; omega))
  have O5 := Lib.hid (H3.out.2.1.base (base' := w.heap.size) B2.size)
  clear B2
  go_wp2_with fail
  go_ret
  exact ⟨_, _, rfl, O5.out, hl, HBN.out.mono (by decide), B5.out⟩

/-- the row from k on is as it was, and none is great -/
def Upto12 (B C : Int) (ys : List Int) (k : Nat) : Prop := ∀ (j : Nat) (y : Int), ys[j]? = some y → 0 ≤ y ∧ y ≤ C ∧ (k ≤ j → y ≤ B)

theorem Upto12.start {B C : Int} {xs : List Int} (h : Bnd B xs) (hBC : B ≤ C) : Upto12 B C xs 0 := fun j y hy => by have := h.at_ hy; omega

theorem Upto12.set_ {B C : Int} {ys : List Int} {k : Nat} (h : Upto12 B C ys k) {y : Int} (hy : 0 ≤ y ∧ y ≤ C) : Upto12 B C (ys.set k y) (k + 1) := fun j z hz => by
  rw [List.getElem?_set] at hz
  split at hz
  · next hj =>
    split at hz
    · obtain rfl := Option.some.inj hz
      exact ⟨hy.1, hy.2, fun hk => by omega⟩
    · cases hz
  · have := h j z hz
    exact ⟨this.1, this.2.1, fun hk => this.2.2 (by omega)⟩

theorem Upto12.bnd {B C : Int} {ys : List Int} {k : Nat} (h : Upto12 B C ys k) : Bnd C ys := fun y hy => by
  obtain ⟨j, hj⟩ := List.mem_iff_getElem?.1 hy
  have := h j y hj
  omega

set_option maxRecDepth 100000 in
set_option maxHeartbeats 8000000 in
theorem drawReducedWeights_any (w : World) (a : Option Addr) (len cap : Nat) (zs : List Int) (h : IsRowC .u8 w a len cap zs) :
    Calls Try.prog 20 #[.slice a len cap] w (DrawWgt w) := by
  go_enter Try.func20, Try.ntmps20
  go_wp2_with fail
  refine (open_at _ w.heap.size a len cap zs rfl h).mono ?_
  rintro e w1 ⟨rfl, d1, b1, s1⟩
  have B1 := Lib.hid b1
  have HLT : Hid (w.heap.size < w1.heap.size) := Lib.hid d1.2.2
  go_wp2_with fail
  refine (pick_any _ w.heap.size 0 _ (by decide) d1.1).mono ?_
  rintro e w2 ⟨v1, rfl, ⟨p1, p2, -⟩, k1⟩
  have p2 := p2 (by decide)
  have D2 := Lib.hid (d1.picked k1)
  clear d1 b1 h k1
  go_wp2_with fail
  refine (l20Weights_any _ w.heap.size 1 _ _ (by decide) D2.out.1 (by omega) (by omega) (by decide) (by decide)).mono ?_
  rintro e w3 ⟨v, xs, rfl, h3, hl, hb⟩
  have H3 := Lib.hid h3
  have HBN := Lib.hid hb
  clear h3 hb
  go_wp2_with fail
  refine (pick_any _ w.heap.size 17 _ (by decide) H3.out.1).mono ?_
  rintro e w4 ⟨v2, rfl, ⟨p3, p4, -⟩, k1⟩
  have p4 := p4 (by decide)
  have H4 := Lib.hid (H3.out.picked k1)
  clear k1 H3
  by_cases hz : v2 = 0
  · subst hz
    rcases Nat.eq_zero_or_pos xs.length with h0 | h0
    · obtain rfl : xs = [] := List.eq_nil_of_length_eq_zero h0
      obtain ⟨A0, c0, rfl, -, -, -⟩ := id H4.out.2.1.rd
      have H7 := H4
      have HB7 : Hid (Bnd 6000006 []) := Lib.hid (Bnd.nil12 _)
      have HL7 : Hid (([] : List Int).length ≤ 4) := Lib.hid (by simp)
      have HLB := HBN
      clear H4 h0
      simp only [List.length_nil] at H7
      go_wp2_with fail
      refine wp_loop_rounds 1 ?_
      rw [rounds_succ]
      have B2 : Below w.heap.size w w2 := below_dr B1.out D2.out (Nat.le_refl _)
      have B5 := Lib.hid (B2.grown H7.out.2.2.1 B2.size (fun g hg => by injection hg with hg; omega))
      have O5 := Lib.hid (H7.out.2.1.base (base' := w.heap.size) B2.size)
      clear B2
      go_wp2_with fail
      go_ret
      exact ⟨_, _, rfl, O5.out, HL7.out, HB7.out, B5.out⟩
    · obtain ⟨g, cap, rfl, hc1, hc2⟩ := H4.out.form h0
      obtain ⟨L, hL⟩ : ∃ L, xs.length = L := ⟨_, rfl⟩
      have HLX := Lib.hid hL
      have hl4 : L ≤ 4 := by omega
      have H6 : Hid (GamRel w2 w.heap.size 18 (.slice (some ⟨g, 0, none⟩) L cap) xs w4) := Lib.hid (by have := H4.out; rwa [hL] at this)
      have HU0 : Hid (Upto12 1000001 6000006 xs 0) := Lib.hid (Upto12.start HBN.out (by decide))
      rw [hL] at hc1 ⊢
      clear H4 hL h0 hl
      go_wp2_with fail
      go_loopw [5] (fun c wr => ∃ (k : Nat) (ys : List Int), c = .int .i64 (k : Int) ∧ k ≤ L ∧ Hid (ys.length = L) ∧ Hid (Upto12 1000001 6000006 ys k) ∧ Hid (GamRel w2 w.heap.size 18 (.slice (some ⟨g, 0, none⟩) L cap) ys wr)) (fun c _ => L - (intOf c).toNat)
      case atStart => exact ⟨0, xs, rfl, Nat.zero_le _, HLX, HU0, H6⟩
      case round =>
        obtain ⟨k, ys, rfl, hk, HLY, HU, HG⟩ := hrel
        clear H6 HU0 HLX HBN
        by_cases hlt : k < L
        · have hlt' : (k : Int) < (L : Int) := by omega
          obtain ⟨x, hx⟩ : ∃ x, ys[k]? = some x := ⟨_, List.getElem?_eq_getElem (by have := HLY.out; omega)⟩
          have hcell := HG.out.cell hx
          have hfz := HG.out.frozen k
          obtain ⟨x0, -, x2⟩ := HU.out k x hx
          have x2 := x2 (Nat.le_refl _)
          clear hx
          have hw : IntKind.i64.wrap (x * 6) = x * 6 := IntWalk.i64_in _ (by omega)
          have HU2 := Lib.hid (HU.out.set_ (y := x * 6) (by clear hw; omega))
          have HL2 : Hid ((ys.set k (x * 6)).length = L) := Lib.hid (by rw [List.length_set]; exact HLY.out)
          have HG2 := Lib.hid (HG.out.store (k := k) (x := x * 6) HLY.out)
          clear HG HU HLY
          go_wp2_with fail
          go_roundw
          case rel => exact ⟨k + 1, _, by go_num, by omega, HL2, HU2, HG2⟩
          case measure => simp [intOf]; omega
        · obtain rfl : k = L := by omega
          have hlt' : decide ((k : Int) < (k : Int)) = false := by simp
          have H7 := HG
          have HB7 := Lib.hid HU.out.bnd
          have HL7 : Hid (ys.length ≤ 4) := Lib.hid (by have := HLY.out; omega)
          clear HG HU HLY
          have B2 : Below w.heap.size w w2 := below_dr B1.out D2.out (Nat.le_refl _)
          have B5 := Lib.hid (B2.grown H7.out.2.2.1 B2.size (fun g hg => by injection hg with hg; omega))
          have O5 := Lib.hid (H7.out.2.1.base (base' := w.heap.size) B2.size)
          clear B2
          go_wp2_with fail
          go_ret
          exact ⟨_, _, rfl, O5.out, HL7.out, HB7.out, B5.out⟩
  · have hz' : (v2 == 0) = false := by simpa using hz
    have H7 := H4
    have HB7 : Hid (Bnd 6000006 xs) := Lib.hid (HBN.out.mono (by decide))
    have HL7 := Lib.hid hl
    have B2 : Below w.heap.size w w2 := below_dr B1.out D2.out (Nat.le_refl _)
    have B5 := Lib.hid (B2.grown H7.out.2.2.1 B2.size (fun g hg => by injection hg with hg; omega))
    have O5 := Lib.hid (H7.out.2.1.base (base' := w.heap.size) B2.size)
    clear B2
    go_wp2_with fail
    go_ret
    exact ⟨_, _, rfl, O5.out, HL7.out, HB7.out, B5.out⟩

/-- a number of worlds, and a row -/
def DrawNumE (w : World) (e : Ending) (w' : World) : Prop := ∃ (n : Int) (v : Value) (xs : List Int), e = .returned (.tuple #[.int .i64 n, v]) ∧ 1 ≤ n ∧ n ≤ 5 ∧ IOwn w' w.heap.size v xs ∧ xs.length ≤ 5 ∧ Below w.heap.size w w'

set_option maxRecDepth 100000 in
set_option maxHeartbeats 8000000 in
theorem drawEvidenceOk_any (w : World) (a : Option Addr) (len cap : Nat) (zs : List Int) (h : IsRowC .u8 w a len cap zs) :
    Calls Try.prog 25 #[.slice a len cap] w (DrawNumE w) := by
  go_enter Try.func25, Try.ntmps25
  go_wp2_with fail
  refine (open_at _ w.heap.size a len cap zs rfl h).mono ?_
  rintro e w1 ⟨rfl, d1, b1, s1⟩
  have B1 := Lib.hid b1
  have HLT : Hid (w.heap.size < w1.heap.size) := Lib.hid d1.2.2
  go_wp2_with fail
  refine (pick_any _ w.heap.size 0 _ (by decide) d1.1).mono ?_
  rintro e w2 ⟨v1, rfl, ⟨p1, p2, -⟩, k1⟩
  have p2 := p2 (by decide)
  have D2 := Lib.hid (d1.picked k1)
  clear d1 b1 h k1
  go_wp2_with fail
  refine (l20Evidence_any _ w.heap.size 1 _ (by decide) D2.out.1 (by omega) (by omega)).mono ?_
  rintro e w3 ⟨v, xs, rfl, h3, hl, hb⟩
  have H3 := Lib.hid h3
  clear h3 hb
  go_wp2_with fail
  refine (odd_any _ w.heap.size 17 _ (by decide) (by decide) (by decide) H3.out.1).mono ?_
  rintro e w4 ⟨b, rfl, k1⟩
  have H4 := Lib.hid (H3.out.picked k1)
  clear k1 H3
  cases b
  · skip
    go_wp2_with fail
    refine (pick_any _ w.heap.size 18 _ (by decide) H4.out.1).mono ?_
    rintro e w8 ⟨v8, rfl, ⟨p8, q8, -⟩, k1⟩
    have q8 := q8 (by decide)
    have H8 := Lib.hid (H4.out.picked k1)
    clear k1
    have B2 : Below w.heap.size w w2 := below_dr B1.out D2.out (Nat.le_refl _)
    have B5 := Lib.hid (B2.grown H8.out.2.2.1 B2.size (fun g hg => by injection hg with hg; omega))
    have O5 := Lib.hid (H8.out.2.1.base (base' := w.heap.size) B2.size)
    clear B2
    go_wp2_with fail
    go_ret2
    exact ⟨_, _, _, rfl, by omega, by omega, O5.out, hl, B5.out⟩
  · rcases Nat.eq_zero_or_pos xs.length with h0 | h0
    · obtain rfl : xs = [] := List.eq_nil_of_length_eq_zero h0
      obtain ⟨A0, c0, rfl, -, -, -⟩ := id H4.out.2.1.rd
      clear h0
      simp only [List.length_nil] at H4 ⊢
      go_wp2_with fail
      refine (pick_any _ w.heap.size 18 _ (by decide) H4.out.1).mono ?_
      rintro e w8 ⟨v8, rfl, ⟨p8, q8, -⟩, k1⟩
      have q8 := q8 (by decide)
      have H8 := Lib.hid (H4.out.picked k1)
      clear k1
      have B2 : Below w.heap.size w w2 := below_dr B1.out D2.out (Nat.le_refl _)
      have B5 := Lib.hid (B2.grown H8.out.2.2.1 B2.size (fun g hg => by injection hg with hg; omega))
      have O5 := Lib.hid (H8.out.2.1.base (base' := w.heap.size) B2.size)
      clear B2
      go_wp2_with fail
      go_ret2
      exact ⟨_, _, _, rfl, by omega, by omega, O5.out, by simp, B5.out⟩
    · obtain ⟨g, cap, rfl, hc1, hc2⟩ := H4.out.form h0
      obtain ⟨L, hL⟩ : ∃ L, xs.length = L := ⟨_, rfl⟩
      have HLX := Lib.hid hL
      have hL0 : (0 : Int) < (L : Int) := by omega
      have hl5 : L ≤ 5 := by omega
      have H5 : Hid (GamRel w2 w.heap.size 18 (.slice (some ⟨g, 0, none⟩) L cap) xs w4) := Lib.hid (by have := H4.out; rwa [hL] at this)
      have KB := Lib.hid (blk_alloc w4 #[.int .i64 (-1), .int .i64 10] 3)
      have H5a := Lib.hid (H5.out.alloc (.cells #[.int .i64 (-1), .int .i64 10] 3))
      have HNE : Hid (w4.heap.size ≠ w.heap.size) := Lib.hid (by have := H5.out.2.2.1.size; have := H5.out.2.2.2; omega)
      obtain ⟨x, hx⟩ : ∃ x, xs[0]? = some x := ⟨_, List.getElem?_eq_getElem h0⟩
      have HX := Lib.hid hx
      simp only [hL]
      clear H4 hL h0 hl hx
      go_wp2_with fail
      refine (pick_any _ w.heap.size 18 _ (by decide) H5a.out.1).mono ?_
      rintro e w6 ⟨v6, rfl, ⟨p6, q6, -⟩, k1⟩
      have q6 := q6 (by decide)
      have H6' := Lib.hid (H5a.out.picked k1)
      have hfz := H6'.out.frozen 0
      have hcell := H6'.out.cell HX.out
      clear H5a H5
      obtain rfl | rfl : v6 = 0 ∨ v6 = 1 := by omega
      · skip
        have H7 := Lib.hid (H6'.out.store (k := 0) (x := -1) HLX.out)
        have hs0 : w6.cell? ⟨w4.heap.size, 0, none⟩ = some (.int .i64 (-1)) := (KB.out.picked k1 HNE.out).cell 0
        clear k1 KB HNE
        go_wp2_with fail
        refine (pick_any _ w.heap.size 19 _ (by decide) H7.out.1).mono ?_
        rintro e w8 ⟨v8, rfl, ⟨p8, q8, -⟩, k1⟩
        have q8 := q8 (by decide)
        have H8 := Lib.hid (H7.out.picked k1)
        clear k1
        have B2 : Below w.heap.size w w2 := below_dr B1.out D2.out (Nat.le_refl _)
        have B5 := Lib.hid (B2.grown H8.out.2.2.1 B2.size (fun g hg => by injection hg with hg; omega))
        have O5 := Lib.hid (H8.out.2.1.base (base' := w.heap.size) B2.size)
        clear B2
        go_wp2_with fail
        go_ret2
        exact ⟨_, _, _, rfl, by omega, by omega, O5.out, by have := HLX.out; simp; omega, B5.out⟩
      · skip
        have H7 := Lib.hid (H6'.out.store (k := 0) (x := 10) HLX.out)
        have hs0 : w6.cell? ⟨w4.heap.size, 1, none⟩ = some (.int .i64 (10)) := (KB.out.picked k1 HNE.out).cell 1
        clear k1 KB HNE
        go_wp2_with fail
        refine (pick_any _ w.heap.size 19 _ (by decide) H7.out.1).mono ?_
        rintro e w8 ⟨v8, rfl, ⟨p8, q8, -⟩, k1⟩
        have q8 := q8 (by decide)
        have H8 := Lib.hid (H7.out.picked k1)
        clear k1
        have B2 : Below w.heap.size w w2 := below_dr B1.out D2.out (Nat.le_refl _)
        have B5 := Lib.hid (B2.grown H8.out.2.2.1 B2.size (fun g hg => by injection hg with hg; omega))
        have O5 := Lib.hid (H8.out.2.1.base (base' := w.heap.size) B2.size)
        clear B2
        go_wp2_with fail
        go_ret2
        exact ⟨_, _, _, rfl, by omega, by omega, O5.out, by have := HLX.out; simp; omega, B5.out⟩

/-- a row that need be no weights, and a row that need be no evidence -/
def DrawTwoW (w : World) (e : Ending) (w' : World) : Prop := ∃ (v u : Value) (xs ys : List Int), e = .returned (.tuple #[v, u]) ∧ IOwn w' w.heap.size v xs ∧ IOwn w' w.heap.size u ys ∧ xs.length ≤ 4 ∧ ys.length ≤ 5 ∧ Below w.heap.size w w'

set_option maxRecDepth 100000 in
set_option maxHeartbeats 8000000 in
theorem drawLearnedFrom_any (w : World) (a : Option Addr) (len cap : Nat) (zs : List Int) (h : IsRowC .u8 w a len cap zs) :
    Calls Try.prog 28 #[.slice a len cap] w (DrawTwoW w) := by
  go_enter Try.func28, Try.ntmps28
  go_wp2_with fail
  refine (open_at _ w.heap.size a len cap zs rfl h).mono ?_
  rintro e w1 ⟨rfl, d1, b1, s1⟩
  have B1 := Lib.hid b1
  have HLT : Hid (w.heap.size < w1.heap.size) := Lib.hid d1.2.2
  go_wp2_with fail
  refine (pick_any _ w.heap.size 0 _ (by decide) d1.1).mono ?_
  rintro e w2 ⟨v1, rfl, ⟨p1, p2, -⟩, k1⟩
  have p2 := p2 (by decide)
  have D2 := Lib.hid (d1.picked k1)
  clear d1 b1 h k1
  go_wp2_with fail
  refine (l20Weights_any _ w.heap.size 1 _ _ (by decide) D2.out.1 (by omega) (by omega) (by decide) (by decide)).mono ?_
  rintro e w3 ⟨v, xs, rfl, h3, hl, hb⟩
  have H3 := Lib.hid h3
  have HBN := Lib.hid hb
  clear h3 hb
  go_wp2_with fail
  refine (odd_any _ w.heap.size 17 _ (by decide) (by decide) (by decide) H3.out.1).mono ?_
  rintro e w4 ⟨b, rfl, k1⟩
  have H4 := Lib.hid (H3.out.picked k1)
  clear k1 H3
  cases b
  · have H7 := H4
    have HL7 := Lib.hid hl
    go_wp2_with fail
    refine (l20Evidence_any _ w.heap.size 18 _ (by decide) H7.out.1 (by omega) (by omega)).mono ?_
    rintro e w8 ⟨u, zs8, rfl, h8, hl8, -⟩
    have B2 : Below w.heap.size w w2 := below_dr B1.out D2.out (Nat.le_refl _)
    have B3 := B2.grown H7.out.2.2.1 B2.size (fun g hg => by injection hg with hg; omega)
    have B4 := Lib.hid (B3.grown h8.2.2.1 B3.size (fun g hg => by injection hg with hg; omega))
    have s2 : w1.heap.size ≤ w2.heap.size := D2.out.size
    have O3 := Lib.hid ((far_grownI h8.2.2.1 H7.out.2.1 (by have := HLT.out; omega)).base (base' := w.heap.size) B2.size)
    have O4 := Lib.hid (h8.2.1.base (base' := w.heap.size) B3.size)
    clear B2 B3 h8 s2
    go_wp2_with fail
    go_ret2
    exact ⟨_, _, _, _, rfl, O3.out, O4.out, HL7.out, hl8, B4.out⟩
  · skip
    rcases Nat.eq_zero_or_pos xs.length with h0 | h0
    · obtain rfl : xs = [] := List.eq_nil_of_length_eq_zero h0
      obtain ⟨A0, c0, rfl, -, -, -⟩ := id H4.out.2.1.rd
      have H7 := H4
      have HB7 : Hid (Bnd 1000001 []) := Lib.hid (Bnd.nil12 _)
      have HL7 : Hid (([] : List Int).length ≤ 4) := Lib.hid (by simp)
      have HLB := HBN
      clear H4 h0
      simp only [List.length_nil] at H7
      go_wp2_with fail
      refine wp_loop_rounds 1 ?_
      rw [rounds_succ]
      go_wp2_with fail
      refine (l20Evidence_any _ w.heap.size 18 _ (by decide) H7.out.1 (by omega) (by omega)).mono ?_
      rintro e w8 ⟨u, zs8, rfl, h8, hl8, -⟩
      have B2 : Below w.heap.size w w2 := below_dr B1.out D2.out (Nat.le_refl _)
      have B3 := B2.grown H7.out.2.2.1 B2.size (fun g hg => by injection hg with hg; omega)
      have B4 := Lib.hid (B3.grown h8.2.2.1 B3.size (fun g hg => by injection hg with hg; omega))
      have s2 : w1.heap.size ≤ w2.heap.size := D2.out.size
      have O3 := Lib.hid ((far_grownI h8.2.2.1 H7.out.2.1 (by have := HLT.out; omega)).base (base' := w.heap.size) B2.size)
      have O4 := Lib.hid (h8.2.1.base (base' := w.heap.size) B3.size)
      clear B2 B3 h8 s2
      go_wp2_with fail
      go_ret2
      exact ⟨_, _, _, _, rfl, O3.out, O4.out, HL7.out, hl8, B4.out⟩
    · obtain ⟨g, cap, rfl, hc1, hc2⟩ := H4.out.form h0
      obtain ⟨L, hL⟩ : ∃ L, xs.length = L := ⟨_, rfl⟩
      have HLX := Lib.hid hL
      have hl4 : L ≤ 4 := by omega
      have H6 : Hid (GamRel w2 w.heap.size 18 (.slice (some ⟨g, 0, none⟩) L cap) xs w4) := Lib.hid (by have := H4.out; rwa [hL] at this)
      have HU0 : Hid (Upto12 1000001 1000001 xs 0) := Lib.hid (Upto12.start HBN.out (by decide))
      rw [hL] at hc1 ⊢
      clear H4 hL h0 hl
      go_wp2_with fail
      go_loopw [7] (fun c wr => ∃ (k : Nat) (ys : List Int), c = .int .i64 (k : Int) ∧ k ≤ L ∧ Hid (ys.length = L) ∧ Hid (Upto12 1000001 1000001 ys k) ∧ Hid (GamRel w2 w.heap.size 18 (.slice (some ⟨g, 0, none⟩) L cap) ys wr)) (fun c _ => L - (intOf c).toNat)
      case atStart => exact ⟨0, xs, rfl, Nat.zero_le _, HLX, HU0, H6⟩
      case round =>
        obtain ⟨k, ys, rfl, hk, HLY, HU, HG⟩ := hrel
        clear H6 HU0 HLX HBN
        by_cases hlt : k < L
        · have hlt' : (k : Int) < (L : Int) := by omega
          obtain ⟨x, hx⟩ : ∃ x, ys[k]? = some x := ⟨_, List.getElem?_eq_getElem (by have := HLY.out; omega)⟩
          have hcell := HG.out.cell hx
          have hfz := HG.out.frozen k
          obtain ⟨x0, -, x2⟩ := HU.out k x hx
          have x2 := x2 (Nat.le_refl _)
          clear hx
          have hw : IntKind.i64.wrap (x * 9000) = x * 9000 := IntWalk.i64_in _ (by omega)
          by_cases hmn : 999999 < x * 9000
          · have HU2 := Lib.hid (HU.out.set_ (y := 999999) (by decide))
            have HL2 : Hid ((ys.set k (999999)).length = L) := Lib.hid (by rw [List.length_set]; exact HLY.out)
            have HG2 := Lib.hid (HG.out.store (k := k) (x := 999999) HLY.out)
            clear HG HU HLY
            go_wp2_with fail
            go_roundw
            case rel => exact ⟨k + 1, _, by go_num, by omega, HL2, HU2, HG2⟩
            case measure => simp [intOf]; omega
          · have hmn' : x * 9000 ≤ 999999 := by clear hw; omega
            have HU2 := Lib.hid (HU.out.set_ (y := x * 9000) (by clear hw; omega))
            have HL2 : Hid ((ys.set k (x * 9000)).length = L) := Lib.hid (by rw [List.length_set]; exact HLY.out)
            have HG2 := Lib.hid (HG.out.store (k := k) (x := x * 9000) HLY.out)
            clear HG HU HLY
            go_wp2_with fail
            go_roundw
            case rel => exact ⟨k + 1, _, by go_num, by omega, HL2, HU2, HG2⟩
            case measure => simp [intOf]; omega
        · obtain rfl : k = L := by omega
          have hlt' : decide ((k : Int) < (k : Int)) = false := by simp
          have H7 := HG
          have HB7 := Lib.hid HU.out.bnd
          have HL7 : Hid (ys.length ≤ 4) := Lib.hid (by have := HLY.out; omega)
          clear HG HU HLY
          go_wp2_with fail
          refine (l20Evidence_any _ w.heap.size 18 _ (by decide) H7.out.1 (by omega) (by omega)).mono ?_
          rintro e w8 ⟨u, zs8, rfl, h8, hl8, -⟩
          have B2 : Below w.heap.size w w2 := below_dr B1.out D2.out (Nat.le_refl _)
          have B3 := B2.grown H7.out.2.2.1 B2.size (fun g hg => by injection hg with hg; omega)
          have B4 := Lib.hid (B3.grown h8.2.2.1 B3.size (fun g hg => by injection hg with hg; omega))
          have s2 : w1.heap.size ≤ w2.heap.size := D2.out.size
          have O3 := Lib.hid ((far_grownI h8.2.2.1 H7.out.2.1 (by have := HLT.out; omega)).base (base' := w.heap.size) B2.size)
          have O4 := Lib.hid (h8.2.1.base (base' := w.heap.size) B3.size)
          clear B2 B3 h8 s2
          go_wp2_with fail
          go_ret2
          exact ⟨_, _, _, _, rfl, O3.out, O4.out, HL7.out, hl8, B4.out⟩

/-- a row that need be no weights, and rows of evidence -/
def DrawWRows (w : World) (e : Ending) (w' : World) : Prop := ∃ (v u : Value) (xs : List Int) (rs : List (List Int)), e = .returned (.tuple #[v, u]) ∧ IRd w' v xs ∧ SRd w' u rs ∧ xs.length ≤ 4 ∧ rs.length ≤ 6 ∧ Below w.heap.size w w'

theorem RepRel.start12 {w : World} {R Q : Nat} (h : Rd w R Q) : RepRel w R Q (.slice none 0 0) [] (.slice (some ⟨w.heap.size, 0, none⟩) 0 0) [] (w.alloc (.cells #[] 23)) := by
  refine ⟨h.keep (by simp) (fun b hb => Below.heap_alloc w _ b hb), nil_own _ _, ⟨[], World.ownsRow_lit w #[] 0 (Nat.le_refl _) (by unfold maxLen; omega) rfl, RIn.nil _ _⟩, World.grownBy_alloc _ _ _, h.lt⟩

set_option maxRecDepth 100000 in
set_option maxHeartbeats 8000000 in
theorem drawLearnedAll_any (w : World) (a : Option Addr) (len cap : Nat) (zs : List Int) (h : IsRowC .u8 w a len cap zs) :
    Calls Try.prog 31 #[.slice a len cap] w (DrawWRows w) := by
  go_enter Try.func31, Try.ntmps31
  go_wp2_with fail
  refine (open_at _ w.heap.size a len cap zs rfl h).mono ?_
  rintro e w1 ⟨rfl, d1, b1, s1⟩
  have B1 := Lib.hid b1
  have HLT : Hid (w.heap.size < w1.heap.size) := Lib.hid d1.2.2
  go_wp2_with fail
  refine (pick_any _ w.heap.size 0 _ (by decide) d1.1).mono ?_
  rintro e w2 ⟨v1, rfl, ⟨p1, p2, -⟩, k1⟩
  have p2 := p2 (by decide)
  have D2 := Lib.hid (d1.picked k1)
  clear d1 b1 h k1
  have H3 := Lib.hid (RepRel.start12 D2.out.1)
  go_wp2_with fail
  generalize w2.alloc (.cells #[] 23) = w3 at H3 ⊢
  refine (pick_any _ w.heap.size 1 _ (by decide) H3.out.1).mono ?_
  rintro e w4 ⟨v2, rfl, ⟨p3, p4, -⟩, k1⟩
  have p4 := p4 (by decide)
  have H4 := Lib.hid (H3.out.picked k1)
  clear k1 H3
  go_wp2_with fail
  refine (pick_any _ w.heap.size 2 _ (by decide) H4.out.1).mono ?_
  rintro e w5 ⟨v3, rfl, ⟨p5, p6, -⟩, k1⟩
  have p6 := p6 (by decide)
  have H5 := Lib.hid (H4.out.picked k1)
  clear k1 H4
  obtain ⟨j0, hj0, hj6⟩ : ∃ j : Nat, v2 + v3 / 59 * 2 = (j : Int) ∧ j ≤ 6 := ⟨(v2 + v3 / 59 * 2).toNat, by omega, by omega⟩
  go_wp2_with fail
  go_loopw [6, 7] (fun p c wr => ∃ (j Q : Nat) (rs : List (List Int)), c = .int .i64 (j : Int) ∧ j ≤ 6 ∧ Q + 16 * j ≤ 110 ∧ Hid (rs.length + j ≤ 6) ∧ Hid (RepRel w2 w.heap.size Q (.slice none 0 0) [] p rs wr)) (fun _ c _ => (intOf c).toNat)
  case atStart => exact ⟨j0, 3, [], by first | rfl | rw [hj0], hj6, by omega, Lib.hid (by simp; omega), H5⟩
  case round =>
    obtain ⟨j, Q, rs, rfl, hj, hQ, HL, HR⟩ := hrel
    clear H5 hj0
    by_cases hlt : 0 < j
    · have hlt' : (0 : Int) < (j : Int) := by omega
      obtain ⟨i, rfl⟩ : ∃ i, j = i + 1 := ⟨j - 1, by omega⟩
      have hwi : IntKind.i64.wrap (((i + 1 : Nat) : Int) - 1) = (i : Int) := by rw [IntWalk.i64_in _ (by omega)]; omega
      have HWI := Lib.hid hwi
      clear hwi
      go_wp2_with fail
      refine (l20Evidence_any _ w.heap.size Q _ (by omega) HR.out.1 (by omega) (by omega)).mono ?_
      rintro e w6 ⟨u, xs, rfl, h6, hl, -⟩
      obtain ⟨A2, c2, rfl, -, -, -⟩ := id h6.2.1.rd
      obtain ⟨h7, hu⟩ := HR.out.drawn h6
      have H7 := Lib.hid h7
      have HU := Lib.hid hu
      obtain ⟨us, hvo, hin⟩ := h7.2.2.1
      have HVO := Lib.hid hvo
      have HIN := Lib.hid hin
      have hsz := h7.2.2.2.1.size
      have hlus : us.length ≤ 1000000 := by have := hin.1; have := HL.out; omega
      clear h6 h7 hu hvo hin hl
      go_wp2_with (at_builtin; refine wp_app_rows rfl _ _ rfl _ w2.heap.size _ us A2 xs.length c2 (by rfl) HVO.out (by rfl) hlus hsz ?_)
      intro v' w' hown' hgrow
      have H8 := Lib.hid (H7.out.append HVO.out HIN.out HU.out hown' hgrow)
      have hwi := HWI.out
      clear hown' hgrow
      go_wp2_with fail
      clear hwi
      go_roundw
      case rel => exact ⟨i, Q + 16, rs ++ [xs], rfl, by omega, by omega, Lib.hid (by have := HL.out; simp; omega), H8⟩
      case measure => simp [intOf]
    · obtain rfl : j = 0 := by omega
      go_wp2_with fail
      refine (l20Weights_any _ w.heap.size Q _ _ (by omega) HR.out.1 (by omega) (by omega) (by decide) (by decide)).mono ?_
      rintro e w6 ⟨v, xs, rfl, h6, hl, -⟩
      obtain ⟨h7, hu⟩ := HR.out.drawn h6
      obtain ⟨-, -, ⟨us, hvo, hin⟩, hgr, -⟩ := h7
      have HSR := Lib.hid (srd_of hvo hin)
      have HXR := Lib.hid hu.rd
      have B2 : Below w.heap.size w w2 := below_dr B1.out D2.out (Nat.le_refl _)
      have B5 := Lib.hid (B2.grown hgr B2.size (fun g hg => by injection hg with hg; omega))
      clear B2 h6 hu hvo hin hgr
      go_wp2_with fail
      go_ret2
      exact ⟨_, _, _, _, rfl, HXR.out, HSR.out, hl, by have := HL.out; omega, B5.out⟩

/-- a row that need be no weights, and an event that need be none -/
def DrawWEv (w : World) (e : Ending) (w' : World) : Prop := ∃ (v : Value) (xs : List Int) (x : Int), e = .returned (.tuple #[v, .int .i64 x]) ∧ IOwn w' w.heap.size v xs ∧ xs.length ≤ 4 ∧ Below w.heap.size w w'

set_option maxRecDepth 100000 in
set_option maxHeartbeats 8000000 in
theorem drawBelievedOf_any (w : World) (a : Option Addr) (len cap : Nat) (zs : List Int) (h : IsRowC .u8 w a len cap zs) :
    Calls Try.prog 34 #[.slice a len cap] w (DrawWEv w) := by
  go_enter Try.func34, Try.ntmps34
  go_wp2_with fail
  refine (open_at _ w.heap.size a len cap zs rfl h).mono ?_
  rintro e w1 ⟨rfl, d1, b1, s1⟩
  have B1 := Lib.hid b1
  have HLT : Hid (w.heap.size < w1.heap.size) := Lib.hid d1.2.2
  go_wp2_with fail
  refine (pick_any _ w.heap.size 0 _ (by decide) d1.1).mono ?_
  rintro e w2 ⟨v1, rfl, ⟨p1, p2, -⟩, k1⟩
  have p2 := p2 (by decide)
  have D2 := Lib.hid (d1.picked k1)
  clear d1 b1 h k1
  obtain rfl | rfl | rfl | rfl : v1 = 0 ∨ v1 = 1 ∨ v1 = 2 ∨ v1 = 3 := by omega
  all_goals
    clear p1 p2
    have HA := Lib.hid D2.out.drew
    go_wp2_with fail
    refine wp_region_held_drew (S := fun _ => True) (by kernel_rfl) trivial (fun hHeld => ?_)
    refine take_in (i := 0) (v := ?_) rfl (by kernel_rfl) (fun _ _ _ h => h) rfl ?_ hHeld ?_
    rotate_left
    · intro w' hSw; go_simp; all_goals with_reducible rfl
    try simp only [Act.put, List.setIfInBounds_toArray, List.set_cons_zero, List.set_cons_succ]
    refine take_in (i := 1) (v := ?_) rfl (by kernel_rfl) (fun _ _ _ h => h) rfl ?_ hHeld ?_
    rotate_left
    · intro w' hSw; go_simp; all_goals with_reducible rfl
    try simp only [Act.put, List.setIfInBounds_toArray, List.set_cons_zero, List.set_cons_succ]
    refine take_in (i := 3) (v := ?_) rfl (by kernel_rfl) (fun _ _ _ h => h) rfl ?_ hHeld ?_
    rotate_left
    · intro w' hSw; go_simp; all_goals with_reducible rfl
    try simp only [Act.put, List.setIfInBounds_toArray, List.set_cons_zero, List.set_cons_succ]
    refine take_in (i := 4) (v := ?_) rfl (by kernel_rfl) (fun _ _ _ h => h) rfl ?_ hHeld ?_
    rotate_left
    · intro w' hSw; go_simp; all_goals with_reducible rfl
    try simp only [Act.put, List.setIfInBounds_toArray, List.set_cons_zero, List.set_cons_succ]
    refine take_in (i := 5) (v := ?_) rfl (by kernel_rfl) (fun _ _ _ h => h) rfl ?_ hHeld ?_
    rotate_left
    · intro w' hSw; go_simp; all_goals with_reducible rfl
    try simp only [Act.put, List.setIfInBounds_toArray, List.set_cons_zero, List.set_cons_succ]
    refine take_in (i := 7) (v := ?_) rfl (by kernel_rfl) (fun _ _ _ h => h) rfl ?_ hHeld ?_
    rotate_left
    · intro w' hSw; go_simp; all_goals with_reducible rfl
    try simp only [Act.put, List.setIfInBounds_toArray, List.set_cons_zero, List.set_cons_succ]
    refine ready_one (i := 2) rfl (by kernel_rfl) (fun K hK => ?_)
    go_simp
    go_at_call 52
    refine (l20Weights_any _ w.heap.size 1 _ _ (by decide) HA.out.1 (by decide) (by decide) (by decide) (by decide)).mono ?_
    rintro e w3 ⟨v, xs, rfl, h3, hl, -⟩
    have H3 := Lib.hid h3
    clear h3
    refine hK.out _ w3 trivial (fun hHeld => ?_)
    clear hK K
    try simp only [Act.put, List.setIfInBounds_toArray, List.set_cons_zero, List.set_cons_succ]
    refine ready_one (i := 6) rfl (by kernel_rfl) (fun K hK => ?_)
    go_simp
    go_at_call 53
    refine (pick_any _ w.heap.size 17 _ (by decide) H3.out.1).mono ?_
    rintro e w4 ⟨v2, rfl, ⟨p3, p4, -⟩, k1⟩
    have p4 := p4 (by decide)
    have H4 := Lib.hid (H3.out.picked k1)
    clear k1
    refine hK.out _ w4 trivial (fun hHeld => ?_)
    clear hK K
    try simp only [Act.put, List.setIfInBounds_toArray, List.set_cons_zero, List.set_cons_succ]
    refine ready_one (i := 8) rfl (by kernel_rfl) (fun K hK => ?_)
    go_simp
    go_at_call 53
    refine (pick_any _ w.heap.size 18 _ (by decide) H4.out.1).mono ?_
    rintro e w5 ⟨v3, rfl, ⟨p5, p6, -⟩, k1⟩
    have p6 := p6 (by decide)
    have H5 := Lib.hid (H4.out.picked k1)
    clear k1
    refine hK.out _ w5 trivial (fun hHeld => ?_)
    clear hK K
    try simp only [Act.put, List.setIfInBounds_toArray, List.set_cons_zero, List.set_cons_succ]
    refine take_in (i := 9) (v := ?_) rfl (by kernel_rfl) (fun _ _ _ h => h) rfl ?_ hHeld ?_
    rotate_left
    · intro w' hSw; go_simp; all_goals with_reducible rfl
    try simp only [Act.put, List.setIfInBounds_toArray, List.set_cons_zero, List.set_cons_succ]
    refine take_in (i := 10) (v := ?_) rfl (by kernel_rfl) (fun _ _ _ h => h) rfl ?_ hHeld ?_
    rotate_left
    · intro w' hSw; go_simp; all_goals with_reducible rfl
    try simp only [Act.put, List.setIfInBounds_toArray, List.set_cons_zero, List.set_cons_succ]
    refine take_in (i := 11) (v := ?_) rfl (by kernel_rfl) (fun _ _ _ h => h) rfl ?_ hHeld ?_
    rotate_left
    · intro w' hSw; go_simp; all_goals with_reducible rfl
    try simp only [Act.put, List.setIfInBounds_toArray, List.set_cons_zero, List.set_cons_succ]
    refine take_in (i := 12) (v := ?_) rfl (by kernel_rfl) (fun _ _ _ h => h) rfl ?_ hHeld ?_
    rotate_left
    · intro w' hSw; go_simp; all_goals with_reducible rfl
    try simp only [Act.put, List.setIfInBounds_toArray, List.set_cons_zero, List.set_cons_succ]
    refine take_in (i := 13) (v := ?_) rfl (by kernel_rfl) (fun _ _ _ h => h) rfl ?_ hHeld ?_
    rotate_left
    · intro w' hSw; go_simp; all_goals with_reducible rfl
    try simp only [Act.put, List.setIfInBounds_toArray, List.set_cons_zero, List.set_cons_succ]
    refine wpAnyH_done (by kernel_rfl) ?_ _
    have B2 : Below w.heap.size w w2.drew := (below_dr B1.out D2.out (Nat.le_refl _)).drew
    have B5 := Lib.hid (B2.grown H5.out.2.2.1 B2.size (fun g hg => by injection hg with hg; omega))
    have O5 := Lib.hid (H5.out.2.1.base (base' := w.heap.size) B2.size)
    clear B2 H3 H4
    go_wp2_with fail
    go_ret2
    exact ⟨_, _, _, rfl, O5.out, hl, B5.out⟩

end Go.Proofs.Ytbjmhbkpeglpkaa
