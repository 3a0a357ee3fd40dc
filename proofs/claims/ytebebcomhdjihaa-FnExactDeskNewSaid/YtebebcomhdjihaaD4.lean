/- Contracts, facts and walks that the laws of this seat lean on, laid together by a program of ours (mkmerge.py) out of: Qf Ki Ab Ad Ag Ah Nc. Conditions: stated at each. -/
import Derived.Deep.SlicePairs
import Derived.Lib.SmallJoins
import Derived.Test.YtebebcomhdjihaaD3
namespace Go.Proofs.Ytebebcomhdjihaa
open Go.RowKit
set_option linter.unusedVariables false

theorem stakes_no1 {ss : List Int} {n : Nat} (h : ss.length ≠ n) : (decide (ss.length = n) && ss.all stB) = false := by rw [decide_eq_false h]; rfl

theorem alls_take {ss : List Int} {k : Nat} {x : Int} (hx : ss[k]? = some x) (h : stB x = true) (ih : ∀ y ∈ ss.take k, stB y = true) : ∀ y ∈ ss.take (k + 1), stB y = true := by
  rw [List.take_add_one, hx]
  intro y hy
  rcases List.mem_append.1 hy with h1 | h1
  · exact ih y h1
  · simp at h1; subst h1; exact h

theorem alls_no {ss : List Int} {k : Nat} {x : Int} (hx : ss[k]? = some x) (h : stB x = false) : ss.all stB = false := by
  rw [← Bool.not_eq_true, List.all_eq_true]
  intro h2
  have := h2 x (List.mem_of_getElem? hx)
  rw [h] at this; cases this

set_option maxHeartbeats 1000000 in
theorem stakesOk_any (w : World) (v u : Value) (qs : List Qt) (ss : List Int) (hv : QRd w v qs) (hu : IRd w u ss) :
    Calls Try.prog 37 #[v, u] w fun r w' => r = .returned (.bool (decide (ss.length = qs.length) && ss.all stB)) ∧ w = w' := by
  obtain ⟨A, c, rfl, hl, hm⟩ := hv.form
  obtain ⟨A', c', rfl, hl', hm', -⟩ := id hu
  have HU := Lib.hid hu
  clear hu hv
  by_cases h : ss.length = qs.length
  · have H := Lib.hid h
    have h' : ((ss.length : Int) == (qs.length : Int)) = true := by simp; omega
    have h'' : ((ss.length : Int) != (qs.length : Int)) = false := by simp; omega
    clear h
    go_enter Try.func37, Try.ntmps37
    go_wp2_with fail
    clear h' h''
    go_loop [14] (fun i => ∃ k : Nat, i = .int .i64 k ∧ k ≤ ss.length ∧ Hid (∀ y ∈ ss.take k, stB y = true)) (fun i => ss.length - (intOf i).toNat)
    case atStart => exact ⟨0, rfl, Nat.zero_le _, Lib.hid (by simp)⟩
    case round =>
      obtain ⟨k, rfl, hk, HA⟩ := hrel
      by_cases hlt : k < ss.length
      · obtain ⟨b, off, x, rfl, -, hx, hcx⟩ := HU.out.at_ hlt
        have HX := Lib.hid hx
        clear hx
        rcases Bool.eq_false_or_eq_true (stB x) with hs | hs
        · have HS := Lib.hid hs
          go_wp2_with fail
          refine (stakeOk_any x _).mono ?_
          rintro r w' ⟨rfl, rfl⟩
          rw [hs]
          go_wp2_with fail
          go_round
          case rel => exact ⟨k + 1, by go_num, by omega, Lib.hid (alls_take HX.out HS.out HA.out)⟩
          case measure => simp [intOf]; omega
        · have HS := Lib.hid hs
          go_wp2_with fail
          refine (stakeOk_any x _).mono ?_
          rintro r w' ⟨rfl, rfl⟩
          rw [hs]
          go_wp2_with fail
          go_ret
          exact ⟨ret_bool (by rw [alls_no HX.out HS.out]; simp), rfl⟩
      · go_wp2_with fail
        go_ret
        exact ⟨ret_bool (by rw [decide_eq_true H.out, List.all_eq_true.2 (by have := HA.out; rwa [List.take_of_length_le (by omega)] at this)]; rfl), rfl⟩
  · have H := Lib.hid h
    have h' : ((ss.length : Int) == (qs.length : Int)) = false := by simp; omega
    have h'' : ((ss.length : Int) != (qs.length : Int)) = true := by simp; omega
    clear h
    go_enter Try.func37, Try.ntmps37
    go_wp2_with fail
    go_ret
    exact ⟨ret_bool (stakes_no1 H.out).symm, rfl⟩

set_option maxHeartbeats 400000 in
theorem toQuote_any (q : Qt) (W : World) :
    Calls Try.prog 68 #[qV q] W fun r W' => r = .returned (qV q) ∧ Below W.heap.size W W' := by
  obtain ⟨e, p⟩ := q
  unfold qV
  go_enter Try.func68, Try.ntmps68
  go_wp2
  go_returns
  exact ⟨rfl, by go_grown⟩

theorem qeq_false1 {a b c d : Int} (h : (a != c) = true) : decide ((a, b) = (c, d)) = false := by
  rw [decide_eq_false_iff_not]
  intro e
  injection e with e1 e2
  simp [e1] at h

theorem qeq_false2 {a b c d : Int} (h : (b != d) = true) : decide ((a, b) = (c, d)) = false := by
  rw [decide_eq_false_iff_not]
  intro e
  injection e with e1 e2
  simp [e2] at h

set_option maxHeartbeats 400000 in
theorem eqQuote_any (q r : Qt) (W : World) :
    Calls Try.prog 69 #[qV q, qV r] W fun e W' => e = .returned (.bool (decide (q = r))) ∧ W' = (W.alloc (qBlk q)).alloc (qBlk r) := by
  obtain ⟨a, b⟩ := q
  obtain ⟨c, d⟩ := r
  unfold qV qBlk
  by_cases h1 : a = c
  · subst h1
    by_cases h2 : b = d
    · subst h2
      go_enter Try.func69, Try.ntmps69
      go_wp2
      go_ret
      exact ⟨ret_bool (by simp), rfl⟩
    · have h3 : (b != d) = true := by simpa using h2
      go_enter Try.func69, Try.ntmps69
      go_wp2
      go_ret
      exact ⟨ret_bool (qeq_false2 h3).symm, rfl⟩
  · have h3 : (a != c) = true := by simpa using h1
    go_enter Try.func69, Try.ntmps69
    go_wp2
    go_ret
    exact ⟨ret_bool (qeq_false1 h3).symm, rfl⟩

end Go.Proofs.Ytebebcomhdjihaa

namespace Go.Proofs.Ytebebcomhdjihaa
open Go.RowKit
set_option linter.unusedVariables false

theorem Try_quoteinfo : (Try.prog.info? 64).map (fun i => (i.zero, i.size, i.bytes)) = some (some (.agg #[.int .i64 0, .int .i64 0]), 2, 16) := by kernel_rfl

def NewQs (qs : List Qt) (w : World) (e : Ending) (w' : World) : Prop := ∃ v, e = .returned v ∧ QOwn w' w.heap.size v qs ∧ Below w.heap.size w w'

abbrev QFill (w : World) (qs : List Qt) (k : Nat) (wr : World) : Prop := GFill 64 2 qC ((0, 0) : Qt) w qs k wr

set_option maxHeartbeats 1000000 in
theorem toQuoteS_any (w : World) (v : Value) (qs : List Qt) (hv : QRd w v qs) (hn : qs.length ≤ 1048576) :
    Calls Try.prog 44 #[v] w (NewQs qs w) := by
  obtain ⟨A, c, rfl, hl, hm⟩ := hv.form
  have HV := Lib.hid hv
  clear hv
  obtain ⟨i0, hi, hz0, hz1, hz2⟩ := info_parts Try_quoteinfo
  go_enter Try.func44, Try.ntmps44
  go_wp2_with (at_make; refine wpList_make_full _ rfl _ _ 23 rfl w.heap.size 64 i0 (.agg #[.int .i64 0, .int .i64 0]) 2 Try.underlying23 hi hz0 hz1 .i64 .i64 _ _ qs.length rfl rfl rfl rfl ?b2 ?b3 (Nat.le_refl _) ?_)
  case b2 => first | omega | (rw [hz2]; omega)
  case b3 => unfold maxLen; omega
  intro w0 hown0 hgrow0
  have H0 : Hid (QFill w qs 0 w0) := Lib.hid (GFill.start qC_len (by decide) (0, 0) hown0 rfl rfl hgrow0)
  clear hown0 hgrow0 hi hz0 hz1 hz2
  go_wp2_with fail
  go_loopw [4] (fun i wr => ∃ k : Nat, i = .int .i64 k ∧ k ≤ qs.length ∧ Hid (QFill w qs k wr)) (fun i _ => qs.length - (intOf i).toNat)
  case atStart => exact ⟨0, rfl, Nat.zero_le _, H0⟩
  case round =>
    obtain ⟨k, rfl, hk, H⟩ := hrel
    clear H0
    by_cases hlt : k < qs.length
    · obtain ⟨b, off, q, rfl, -, hx, hc0, hc1⟩ := QRd.at_ (HV.out.keep (SameAt.of_below H.out.2)) hlt
      have HX := Lib.hid hx
      clear hx
      go_wp2_with fail
      refine (toQuote_any q _).mono ?_
      rintro r w2 ⟨rfl, b2⟩
      unfold qV
      have H2 := Lib.hid (H.out.keep b2)
      clear b2 hc0 hc1 H
      obtain ⟨hf0, o0, ho0⟩ := H2.out.old qC_len hlt (j := 0) (by decide)
      obtain ⟨hf1, o1, ho1⟩ := H2.out.old qC_len hlt (j := 1) (by decide)
      rw [Nat.add_zero] at hf0 ho0
      go_wp2_with fail
      go_roundw
      case rel => exact ⟨k + 1, by go_num, by omega, (show Hid _ from H2.out.step2 qC_len HX.out rfl)⟩
      case measure => simp [intOf]; omega
    · go_wp2_with fail
      go_ret
      obtain ⟨h1, h2⟩ := H.out.all (by omega)
      exact ⟨_, rfl, h1, h2⟩

def qagree (xs ys : List Qt) (k : Nat) : Prop := ∀ i, i < k → xs[i]? = ys[i]?

theorem qagree_all {xs ys : List Qt} (hl : xs.length = ys.length) (h : qagree xs ys xs.length) : xs = ys := by
  apply List.ext_getElem?
  intro i
  by_cases hi : i < xs.length
  · exact h i hi
  · rw [List.getElem?_eq_none (by omega), List.getElem?_eq_none (by omega)]

theorem qagree_succ {xs ys : List Qt} {k : Nat} (h : qagree xs ys k) (hk : xs[k]? = ys[k]?) : qagree xs ys (k + 1) := by
  intro i hi
  rcases Nat.lt_succ_iff_lt_or_eq.1 hi with h1 | h1
  · exact h i h1
  · subst h1; exact hk

def QEqPost (xs ys : List Qt) (w : World) (e : Ending) (w' : World) : Prop := e = .returned (.bool (decide (xs = ys))) ∧ Below w.heap.size w w'

set_option maxHeartbeats 2000000 in
theorem eqQuoteS_any (w : World) (v u : Value) (xs ys : List Qt) (hv : QRd w v xs) (hu : QRd w u ys) :
    Calls Try.prog 46 #[v, u] w (QEqPost xs ys w) := by
  obtain ⟨A, c, rfl, hl, hm⟩ := hv.form
  obtain ⟨A', c', rfl, hl', hm'⟩ := hu.form
  have HV := Lib.hid hv
  have HU := Lib.hid hu
  clear hv hu
  by_cases hlen : xs.length = ys.length
  · have h1 : ((xs.length : Int) == (ys.length : Int)) = true := by simp; omega
    have h2 : ((xs.length : Int) != (ys.length : Int)) = false := by simp; omega
    have HL := Lib.hid hlen
    clear hlen
    go_enter Try.func46, Try.ntmps46
    go_wp2
    clear h1 h2
    go_loopw [5] (fun i wr => ∃ k : Nat, i = .int .i64 k ∧ k ≤ xs.length ∧ Hid (qagree xs ys k) ∧ Hid (Below w.heap.size w wr)) (fun i _ => xs.length - (intOf i).toNat)
    case atStart => exact ⟨0, rfl, Nat.zero_le _, Lib.hid (fun i hi => absurd hi (Nat.not_lt_zero _)), Lib.hid (Below.refl _ _)⟩
    case round =>
      obtain ⟨k, rfl, hk, HA, HB⟩ := hrel
      by_cases hlt : k < xs.length
      · obtain ⟨b, off, x, rfl, -, hx, hx0, hx1⟩ := QRd.at_ (HV.out.keep (SameAt.of_below HB.out)) hlt
        obtain ⟨b', off', y, rfl, -, hy, hy0, hy1⟩ := QRd.at_ (HU.out.keep (SameAt.of_below HB.out)) (k := k) (by have := HL.out; omega)
        have hlt' : k < ys.length := by have := HL.out; omega
        have HX := Lib.hid hx
        have HY := Lib.hid hy
        clear hx hy
        rcases Bool.eq_false_or_eq_true (decide (x = y)) with hxy | hxy
        · have HXY : Hid (x = y) := Lib.hid (by simpa using hxy)
          go_wp2_with fail
          go_region_with (go_at_call 69; refine (eqQuote_any x y _).mono ?_; rintro r w2 ⟨rfl, rfl⟩; rw [hxy]; unfold qBlk)
          all_goals
            go_wp2_with fail
            go_roundw
            case rel => exact ⟨k + 1, by go_num, by omega, Lib.hid (qagree_succ HA.out (HX.out.trans (HXY.out ▸ HY.out.symm))), Lib.hid (below_step HB.out (by go_grown) HB.out.size)⟩
            case measure => simp [intOf]; omega
        · have HXY : Hid (x ≠ y) := Lib.hid (by simpa using hxy)
          go_wp2_with fail
          go_region_with (go_at_call 69; refine (eqQuote_any x y _).mono ?_; rintro r w2 ⟨rfl, rfl⟩; rw [hxy]; unfold qBlk)
          all_goals
            go_wp2_with fail
            go_ret
            exact ⟨ret_bool (by symm; simp only [decide_eq_false_iff_not]; intro e; subst e; exact HXY.out (Option.some.inj (HX.out.symm.trans HY.out))), below_step HB.out (by go_grown) HB.out.size⟩
      · go_wp2_with fail
        go_ret
        exact ⟨ret_bool (by symm; simp only [decide_eq_true_eq]; exact qagree_all HL.out (by have := HA.out; rwa [show k = xs.length from by omega] at this)), HB.out⟩
  · have h1 : ((xs.length : Int) == (ys.length : Int)) = false := by simp; omega
    have h2 : ((xs.length : Int) != (ys.length : Int)) = true := by simp; omega
    have HL := Lib.hid hlen
    clear hlen
    go_enter Try.func46, Try.ntmps46
    go_wp2
    go_ret
    exact ⟨ret_bool (by symm; simp only [decide_eq_false_iff_not]; intro e; exact HL.out (by rw [e])), Below.refl _ _⟩

def qUp (q : Int) (xs : List Qt) (k : Nat) : List Qt := (List.range k).map (fun i : Nat => (q + 2 * (i : Int), q + 2 * (i : Int) + 1)) ++ xs.drop k

theorem qUp_len (q : Int) (xs : List Qt) {k : Nat} (hk : k ≤ xs.length) : (qUp q xs k).length = xs.length := by simp [qUp]; omega

theorem qUp_set (q : Int) (xs : List Qt) {k : Nat} (hk : k < xs.length) : (qUp q xs k).set k (q + 2 * (k : Int), q + 2 * (k : Int) + 1) = qUp q xs (k + 1) := by
  unfold qUp
  rw [List.set_append_right _ _ (by simp), List.length_map, List.length_range, Nat.sub_self, List.drop_eq_getElem_cons hk, List.set_cons_zero, List.range_succ, List.map_append, List.append_assoc]
  rfl

theorem qUp_zero (q : Int) (xs : List Qt) : qUp q xs 0 = xs := by simp [qUp]

def QMarkRel (w : World) (base : Nat) (q : Int) (v : Value) (xs : List Qt) (k : Nat) (wr : World) : Prop :=
  QOwn wr base v (qUp q xs k) ∧ w.grownBy wr v.ownBlock ∧ wr.heap.size = w.heap.size

theorem QMarkRel.step {w wr : World} {base g cap n : Nat} {q : Int} {xs : List Qt} {k : Nat} (h : QMarkRel w base q (.slice (some ⟨g, 0, none⟩) n cap) xs k wr) (hn : xs.length = n) (hk : k < n) :
    QMarkRel w base q (.slice (some ⟨g, 0, none⟩) n cap) xs (k + 1) ((wr.setCell ⟨g, k * 2, none⟩ (.int .i64 (q + 2 * (k : Int)))).setCell ⟨g, k * 2 + 1, none⟩ (.int .i64 (q + 2 * (k : Int) + 1))) := by
  subst hn
  obtain ⟨h1, h2, h5⟩ := h
  have hl := qUp_len q xs (Nat.le_of_lt hk)
  rw [← hl] at h1
  obtain ⟨h3, h4⟩ := GOwn.set2 (cp := cap) (x := (q + 2 * (k : Int), q + 2 * (k : Int) + 1)) qC_len h1 (by rw [hl]; exact hk) rfl
  rw [qUp_set q xs hk, hl] at h3
  exact ⟨h3, ⟨h4.os.trans h2.os, h4.tape.trans h2.tape, h4.output.trans h2.output, Nat.le_trans h2.size h4.size, fun i hi hne => (h4.block i (by omega) hne).trans (h2.block i hi hne)⟩, by simpa using h5⟩

end Go.Proofs.Ytebebcomhdjihaa

namespace Go.Proofs.Ytebebcomhdjihaa
open Go.RowKit
set_option linter.unusedVariables false

def dcL (a : Dd) : List Value := [.int .i64 a.1, .int .i64 a.2.1, .int .i64 a.2.2.1, .string a.2.2.2]

def DdRd (w : World) (v : Value) (ds : List Dd) : Prop := GRd 4 dcL w v ds

theorem DdRd.at_ {w : World} {A : Option Addr} {n cp : Nat} {ds : List Dd} (h : DdRd w (.slice A n cp) ds) {k : Nat} (hk : k < n) :
    ∃ b off a, A = some ⟨b, off, none⟩ ∧ b < w.heap.size ∧ ds[k]? = some a ∧ w.cell? ⟨b, off + k * 4, none⟩ = some (.int .i64 a.1) ∧ w.cell? ⟨b, off + k * 4 + 1, none⟩ = some (.int .i64 a.2.1) ∧ w.cell? ⟨b, off + k * 4 + 2, none⟩ = some (.int .i64 a.2.2.1) ∧ w.cell? ⟨b, off + k * 4 + 3, none⟩ = some (.string a.2.2.2) := by
  obtain ⟨b, off, a, hA, hb, hx, hc⟩ := GRd.at_ h hk
  exact ⟨b, off, a, hA, hb, hx, hc 0 _ rfl, hc 1 _ rfl, hc 2 _ rfl, hc 3 _ rfl⟩

end Go.Proofs.Ytebebcomhdjihaa

namespace Go.Proofs.Ytebebcomhdjihaa
open Go.RowKit Go.Deep Go.ChangeShapes Go.WideShapes Go.Joins
set_option linter.unusedVariables false

theorem list2 {α : Type} {l : List α} (h : l.length = 2) : ∃ a b, l = [a, b] := by
  match l, h with
  | [a, b], _ => exact ⟨a, b, rfl⟩

theorem grd_mk {α : Type} {c : Nat} {enc : α → List Value} (hc : 0 < c) (he : ∀ x, (enc x).length = c) {W : World} {a : Addr} {len m : Nat} (hl : len ≤ m) (hm : m ≤ 9223372036854775807) (q : Nat → α)
    (h : ∀ i, i < len → ∀ j u, (enc (q i))[j]? = some u → W.cell? (a.add (i * c + j)) = some u) : GRd c enc W (.slice (some a) len m) ((List.range len).map q) := by
  refine ⟨some a, m, by simp, by simpa using hl, hm, fun h0 => ?_⟩
  have hlen : 0 < len := by simpa using h0
  obtain ⟨b, off, spot⟩ := a
  obtain ⟨u0, hu0⟩ : ∃ u, (enc (q 0))[0]? = some u := ⟨_, List.getElem?_eq_getElem (by rw [he]; exact hc)⟩
  have hc0 := h 0 hlen 0 u0 hu0
  have hspot : spot = none := by simpa [Addr.add] using World.cell?_spot hc0
  subst hspot
  have hlt := World.block_lt_of_cell? W _ hc0
  rw [addr_add] at hlt
  refine ⟨b, off, rfl, hlt, fun i p hj j u hu => ?_⟩
  have hil : i < len := by
    rcases Nat.lt_or_ge i len with h1 | h1
    · exact h1
    · rw [List.getElem?_eq_none (by simpa using h1)] at hj; cases hj
  have hqe : p = q i := by
    rw [List.getElem?_map, List.getElem?_range hil] at hj
    exact (Option.some.inj hj).symm
  subst hqe
  have h2 := h i hil j u hu
  rw [addr_add] at h2
  rwa [Nat.add_assoc]

section
variable {H : Type} {enc : TypeId × Value → H} {W : World} {fuel : Nat}

theorem sane_trod {t e : TypeId} (ht : Try.prog.underlying t = some (.slice e)) {v : Value} {x : DataW H × List MemPlace} (h : DataW.trod enc Try.prog W 0 (fun _ => true) true fuel t [v] = some x) : Sane v := by
  rcases DataW.trod_slice ht h with ⟨hc, -⟩ | ⟨a, len, cap, -, -, -, -, hc, -⟩
  · exact .inl (by simpa using hc)
  · exact .inr ⟨a, len, cap, by simpa using hc⟩

theorem ird15_of_trod {v : Value} {x : DataW H × List MemPlace} (hf : DataW.trod enc Try.prog W 0 (fun _ => true) true fuel 24 [v] = some x) : ∃ zs, IRd W v zs := by
  rcases open_ints Try.underlying24 Try.underlying3 (by kernel_rfl) hf with ⟨hcs, -⟩ | ⟨a, l, c, zs, hcs, -, hl, hm, hz, -, hcell, hwz⟩
  · obtain rfl : v = .slice none 0 0 := by simpa using hcs
    exact ⟨[], none, 0, rfl, by simp, by omega, fun h => by simp at h⟩
  · obtain rfl : v = .slice (some a) l c := by simpa using hcs
    exact ird_of_row (.inr ⟨a, rfl, hl, hm, by simpa using hz, hcell, hwz⟩)

set_option maxRecDepth 100000 in
theorem qrd15_of_trod {v : Value} {x : DataW H × List MemPlace} (hf : DataW.trod enc Try.prog W 0 (fun _ => true) true fuel 40 [v] = some x) : ∃ qs, QRd W v qs := by
  rcases open_slice Try.underlying40 hf with ⟨h, -⟩ | ⟨a', len', cap', m, n, D, Pl, hcs, hb, hl, hm, hmm, -, hi⟩
  · obtain rfl : v = .slice none 0 0 := by simpa using h
    exact ⟨[], GRd.nil _ _ _⟩
  · obtain rfl : v = .slice (some a') len' cap' := by simpa using hcs
    have hmc : m = cap' := by rw [hmm]; simp
    subst hmc
    rw [maxLen_is] at hm
    have ce : Try.prog.cellsOf 89 = 2 := by kernel_rfl
    have c1 : Try.prog.cellsOf 3 = 1 := by kernel_rfl
    rw [ce] at hi
    have each : ∀ i, i < m → ∃ q : Qt, ∀ j u, (qC q)[j]? = some u → W.cell? (a'.add (i * 2 + j)) = some u := by
      intro i him
      obtain ⟨cs', h1, h2⟩ := hi i him
      obtain ⟨_, hlen, hcell⟩ := World.cells?_some h1
      obtain ⟨y0, y1, n', -, -, g0, g1⟩ := trod_struct2 Try.underlying89 h2
      obtain ⟨v0, v1, rfl⟩ := list2 hlen
      simp [c1] at g0 g1
      obtain ⟨n0, e0, -, -⟩ := DataW.trod_int Try.underlying3 g0
      obtain ⟨n1, e1, -, -⟩ := DataW.trod_int Try.underlying3 g1
      obtain rfl : v0 = .int .i64 n0 := by simpa using e0
      obtain rfl : v1 = .int .i64 n1 := by simpa using e1
      have k0 := hcell 0 (by omega)
      have k1 := hcell 1 (by omega)
      rw [add_add] at k0 k1
      refine ⟨(n0, n1), fun j u hu => ?_⟩
      match j, hu with
      | 0, hu => rw [k0]; simpa [qC] using hu
      | 1, hu => rw [k1]; simpa [qC] using hu
      | j + 2, hu => simp [qC] at hu
    obtain ⟨q, hq⟩ := choose_lt each
    exact ⟨_, grd_mk (by decide) qC_len hl hm q (fun i hi => hq i (by omega))⟩

theorem place_of {v u : Value} {x y : DataW H × List MemPlace} {n m : Nat} (h0 : DataW.trod enc Try.prog W 0 (fun _ => true) true n 40 [v] = some x) (h1 : DataW.trod enc Try.prog W 0 (fun _ => true) true m 24 [u] = some y) : ∃ p, PlRd (fun _ => True) W v u p := by
  obtain ⟨qs, hq⟩ := qrd15_of_trod h0
  obtain ⟨ss, hs⟩ := ird15_of_trod h1
  exact ⟨(qs, ss), ⟨hq, sane_trod Try.underlying40 h0, fun _ _ => trivial⟩, hs, sane_trod Try.underlying24 h1, fun _ _ => trivial⟩

set_option maxRecDepth 100000 in
theorem open_place {r : Reach} {b0 : Nat} {v : Value} {d : DataW H} {p : List MemPlace} (hv : Value.okWide Try.prog W r b0 42 v) (h : DataW.Trod enc Try.prog W 0 (fun _ => true) true 42 v d p) :
    ∃ x y pl, v = .agg #[x, y] ∧ PlRd (fun _ => True) W x y pl := by
  obtain ⟨cs, rfl, hsz⟩ := okWide_struct Try.underlying42 hv
  have hC : Try.prog.cellsOf 42 = 2 := by kernel_rfl
  obtain ⟨c0, c1, rfl⟩ := array2 (hsz.trans hC)
  obtain ⟨fuel, hf⟩ := h
  obtain ⟨y0, y1, n, -, -, h0, h1⟩ := trod_struct2 Try.underlying42 hf
  have e3 : Try.prog.cellsOf 40 = 1 := by kernel_rfl
  have e4 : Try.prog.cellsOf 24 = 1 := by kernel_rfl
  simp [Value.cells, e3, e4] at h0 h1
  obtain ⟨pl, hp⟩ := place_of h0 h1
  exact ⟨c0, c1, pl, rfl, hp⟩

end

end Go.Proofs.Ytebebcomhdjihaa

namespace Go.Proofs.Ytebebcomhdjihaa
open Go.RowKit
set_option linter.unusedVariables false

def tP (p : Pl) : Nat := p.1.length + p.2.length

def totS (ps : List Pl) : Nat := (ps.map tP).sum

def SzP (c : Nat) (L : Int) (w : World) (e : Ending) (w' : World) : Prop := ∃ r : Int, e = .returned (.int .i64 r) ∧ Below w.heap.size w w' ∧ (r < 0 ∨ (0 ≤ r ∧ r + (c : Int) = L))

theorem tot_mem {ps : List Pl} {p : Pl} (h : p ∈ ps) : tP p ≤ totS ps := by
  unfold totS
  induction ps with
  | nil => cases h
  | cons q ps ih =>
    rw [List.map_cons, List.sum_cons]
    rcases List.mem_cons.1 h with rfl | h
    · omega
    · have := ih h; omega

set_option maxHeartbeats 1000000 in
theorem szQ_sz (w : World) (A : Option Addr) (n c : Nat) (L : Int) (h0 : 0 ≤ L) (h1 : L ≤ 1048576) (hn : n ≤ 9223372036854775807) :
    Calls Try.prog 42 #[.slice A n c, .int .i64 L] w fun e w' => ∃ r : Int, e = .returned (.int .i64 r) ∧ w = w' ∧ (r < 0 ∨ (0 ≤ r ∧ r + (n : Int) = L)) := by
  obtain ⟨r, hr⟩ : ∃ r, L - (n : Int) = r := ⟨_, rfl⟩
  have hw : IntKind.i64.wrap (L - (n : Int)) = r := by rw [IntWalk.i64_in _ (by omega)]; exact hr
  by_cases hlt : r < 0
  · have HR := Lib.hid hr
    clear hr
    go_enter Try.func42, Try.ntmps42
    go_wp2_with fail
    go_ret
    exact ⟨-1, rfl, rfl, .inl (by decide)⟩
  · have hge : 0 ≤ r := by omega
    have hF : Hid (r + (n : Int) = L) := Lib.hid (by omega)
    clear hr hlt
    go_enter Try.func42, Try.ntmps42
    go_wp2_with fail
    go_ret
    exact ⟨r, rfl, rfl, .inr ⟨hge, hF.out⟩⟩

set_option maxHeartbeats 1000000 in
theorem szI_sz (w : World) (A : Option Addr) (n c : Nat) (L : Int) (h0 : 0 ≤ L) (h1 : L ≤ 1048576) (hn : n ≤ 9223372036854775807) :
    Calls Try.prog 43 #[.slice A n c, .int .i64 L] w fun e w' => ∃ r : Int, e = .returned (.int .i64 r) ∧ w = w' ∧ (r < 0 ∨ (0 ≤ r ∧ r + (n : Int) = L)) := by
  obtain ⟨r, hr⟩ : ∃ r, L - (n : Int) = r := ⟨_, rfl⟩
  have hw : IntKind.i64.wrap (L - (n : Int)) = r := by rw [IntWalk.i64_in _ (by omega)]; exact hr
  by_cases hlt : r < 0
  · have HR := Lib.hid hr
    clear hr
    go_enter Try.func43, Try.ntmps43
    go_wp2_with fail
    go_ret
    exact ⟨-1, rfl, rfl, .inl (by decide)⟩
  · have hge : 0 ≤ r := by omega
    have hF : Hid (r + (n : Int) = L) := Lib.hid (by omega)
    clear hr hlt
    go_enter Try.func43, Try.ntmps43
    go_wp2_with fail
    go_ret
    exact ⟨r, rfl, rfl, .inr ⟨hge, hF.out⟩⟩

def SmPl (p : Pl) : Prop := tP p ≤ 1048576

theorem SmPl.two {p : Pl} (h : SmPl p) : p.1.length ≤ 1048576 ∧ p.2.length ≤ 1048576 := by unfold SmPl tP at h; omega

set_option maxHeartbeats 2000000 in
theorem szPlace_any {S : Nat → Prop} (w : World) (v u : Value) (p : Pl) (L : Int) (h0 : 0 ≤ L) (h1 : L ≤ 1048576) (h : PlRd S w v u p) :
    Calls Try.prog 22 #[.agg #[v, u], .int .i64 L] w (SzP (tP p) L w) := by
  obtain ⟨A, c, rfl, hl, hm⟩ := h.1.1.form
  obtain ⟨A', c', rfl, hl', hm', -⟩ := id h.2.1
  obtain ⟨W, eW⟩ : ∃ X, w.alloc (.cells #[.slice A p.1.length c, .slice A' p.2.length c'] 42) = X := ⟨_, rfl⟩
  have f1 : Blk W (w.heap.size) 42 #[.slice A p.1.length c, .slice A' p.2.length c'] := by
    rw [← eW]
    have h0 := heap_alloc_new w (.cells #[.slice A p.1.length c, .slice A' p.2.length c'] 42)
    exact h0
  have bW : Below w.heap.size w W := by rw [← eW]; exact (Below.refl _ _).alloc (by skip; omega) _
  have nW : W.heap.size = w.heap.size + 1 := by rw [← eW]; simp
  have c0 := f1.cell 0
  have c1 := f1.cell 1
  have HB := Lib.hid bW
  have HW := Lib.hid eW
  have hm2 : p.1.length ≤ 9223372036854775807 := by omega
  have hm3 : p.2.length ≤ 9223372036854775807 := by omega
  clear f1 bW eW nW h
  go_enter Try.func22, Try.ntmps22
  go_upto_region 1 with fail
  rw [HW.out]
  go_wp2_with fail
  refine (szQ_sz W _ _ _ L h0 h1 hm2).mono ?_
  rintro e w' ⟨r, rfl, rfl, hr⟩
  rcases hr with hr | ⟨hr0, hq⟩
  · go_wp2_with fail
    go_ret
    exact ⟨-1, rfl, HB.out, .inl (by decide)⟩
  · have hrL : r ≤ 1048576 := by omega
    have HQ := Lib.hid hq
    clear hq
    go_wp2_with fail
    refine (szI_sz W _ _ _ r hr0 hrL hm3).mono ?_
    rintro e w' ⟨r2, rfl, rfl, hs⟩
    rcases hs with hs | ⟨hs0, hq⟩
    · go_wp2_with fail
      go_ret
      exact ⟨-1, rfl, HB.out, .inl (by decide)⟩
    · have HQ2 := Lib.hid hq
      clear hq
      go_wp2_with fail
      go_ret
      exact ⟨r2, rfl, HB.out, .inr ⟨hs0, by have h1 := HQ.out; have h2 := HQ2.out; unfold tP; omega⟩⟩

def SmDk (d : Dk) : Prop := tP d.1 + (d.2.length + totS d.2) ≤ 1048576

theorem SmDk.parts {d : Dk} (h : SmDk d) : SmPl d.1 ∧ d.2.length ≤ 1048576 ∧ ∀ p ∈ d.2, SmPl p := by
  unfold SmDk at h
  refine ⟨by unfold SmPl; omega, by omega, fun p hp => ?_⟩
  have := tot_mem hp
  unfold SmPl; omega

set_option maxRecDepth 100000 in
set_option maxHeartbeats 4000000 in
theorem toPlace_any {S : Nat → Prop} (w : World) (v u : Value) (p : Pl) (h : PlRd S w v u p) (hs : SmPl p) :
    Calls Try.prog 23 #[.agg #[v, u]] w (PlNew p w) := by
  obtain ⟨W, eW⟩ : ∃ X, ((w.alloc (.cells #[v, u] 42)).alloc (.cells #[.slice none 0 0, .slice none 0 0] 26)).alloc (.cells #[.slice none 0 0, .slice none 0 0] 26) = X := ⟨_, rfl⟩
  have f1 : Blk W (w.heap.size) 42 #[v, u] := by
    rw [← eW]
    have h0 := heap_alloc_new w (.cells #[v, u] 42)
    exact Blk.alloc (Blk.alloc (h0) _) _
  have f2 : Blk W (w.heap.size + 1) 26 #[.slice none 0 0, .slice none 0 0] := by
    rw [← eW]
    have h0 := heap_alloc_new (w.alloc (.cells #[v, u] 42)) (.cells #[.slice none 0 0, .slice none 0 0] 26)
    rw [World.size_alloc] at h0
    exact Blk.alloc (h0) _
  have f3 : Blk W (w.heap.size + 1 + 1) 26 #[.slice none 0 0, .slice none 0 0] := by
    rw [← eW]
    have h0 := heap_alloc_new ((w.alloc (.cells #[v, u] 42)).alloc (.cells #[.slice none 0 0, .slice none 0 0] 26)) (.cells #[.slice none 0 0, .slice none 0 0] 26)
    rw [World.size_alloc, World.size_alloc] at h0
    exact h0
  have bW : Below w.heap.size w W := by rw [← eW]; exact (((Below.refl _ _).alloc (by skip; omega) _).alloc (by rw [World.size_alloc]; omega) _).alloc (by rw [World.size_alloc, World.size_alloc]; omega) _
  have nW : W.heap.size = w.heap.size + 3 := by rw [← eW]; simp
  have HB := Lib.hid bW
  have HW := Lib.hid eW
  have HR1 : Hid (∀ X, Below w.heap.size w X → QRd X v p.1) := Lib.hid (fun X hb => h.1.1.keep (SameAt.of_below hb))
  have HR2 : Hid (∀ X, Below w.heap.size w X → IRd X u p.2) := Lib.hid (fun X hb => h.2.1.keep (SameAt.of_below hb))
  have F1 := Lib.hid f1
  have F2 := Lib.hid f2
  have F3 := Lib.hid f3
  have c0 := f1.cell 0
  have hq1 := hs.two.1
  have hq2 := hs.two.2
  clear h f1 f2 f3 bW eW hs
  go_enter Try.func23, Try.ntmps23
  go_upto_region 2 with fail
  rw [HW.out]
  go_wp2_with fail
  refine (toQuoteS_any W v p.1 (HR1.out W HB.out) (by omega)).mono ?_
  rintro e w1 ⟨v1, rfl, o1, b1⟩
  obtain ⟨A1, c1, rfl, -, -⟩ := (o1.rd qC_len).form
  have z1 := b1.size
  have G1 := Lib.hid (F1.out.below15 b1)
  have G2 := Lib.hid (F2.out.below15 b1)
  have g3 := F3.out.below15 b1
  have HB1 := Lib.hid (below_step HB.out b1 HB.out.size)
  have d0 := g3.cell 0
  have e0 := g3.frozen 0
  obtain ⟨X, hX⟩ : ∃ X, w1.setCell ⟨w.heap.size + 1 + 1, 0, none⟩ (.slice A1 p.1.length c1) = X := ⟨_, rfl⟩
  have gX : w1.grownBy X (some (w.heap.size + 1 + 1)) := by rw [← hX]; exact set1_grown _ _ _ _
  have zX := gX.size
  have G3 : Hid (Blk X (w.heap.size + 1 + 1) 26 #[.slice A1 p.1.length c1, .slice none 0 0]) := Lib.hid (by rw [← hX]; exact g3.set_ 0 _)
  have O1 := Lib.hid (o1.off gX (.inr (fun e => by have := (o1.ge _ e).1; omega)))
  have K1 := Lib.hid (G1.out.off gX (fun e => by have := Option.some.inj e; omega))
  have K2 := Lib.hid (G2.out.off gX (fun e => by have := Option.some.inj e; omega))
  have BX : Hid (Below w.heap.size w X) := Lib.hid (HB1.out.grown gX HB1.out.size (fun g hg => by have e := Option.some.inj hg; omega))
  have HX := Lib.hid hX
  clear g3 gX hX b1 o1 F1 F2 F3 c0
  have c1' := K1.out.cell 1
  go_upto_region 3 with fail
  rw [HX.out]
  clear d0 e0
  go_wp2_with fail
  refine (toIntS_any X u p.2 (HR2.out X BX.out) (by omega)).mono ?_
  rintro e w2 ⟨v5, rfl, o5, b5⟩
  obtain ⟨A5, c5, rfl, -, -, -⟩ := id o5.rd
  have z5 := b5.size
  have g3 := G3.out.below15 b5
  have g2 := K2.out.below15 b5
  have O2 := Lib.hid (O1.out.below b5)
  have HB2 := Lib.hid (below_step BX.out b5 BX.out.size)
  have d0 := g3.cell 1
  have e0 := g3.frozen 1
  obtain ⟨Y, hY⟩ : ∃ Y, w2.setCell ⟨w.heap.size + 1 + 1, 1, none⟩ (.slice A5 p.2.length c5) = Y := ⟨_, rfl⟩
  have gY : w2.grownBy Y (some (w.heap.size + 1 + 1)) := by rw [← hY]; exact set1_grown _ _ _ _
  have zY := gY.size
  have H3 : Blk Y (w.heap.size + 1 + 1) 26 #[.slice A1 p.1.length c1, .slice A5 p.2.length c5] := by rw [← hY]; exact g3.set_ 1 _
  have l1 : ∀ g, (Value.slice A1 p.1.length c1).ownBlock = some g → W.heap.size ≤ g ∧ g < w1.heap.size := fun g hg => ⟨(O1.out.ge g hg).1, by
    have h9 := (O1.out.ge g hg).2
    rw [← HX.out] at h9
    simpa using h9⟩
  have l5 : ∀ g, (Value.slice A5 p.2.length c5).ownBlock = some g → X.heap.size ≤ g := fun g hg => (o5.ge g hg).1
  have q1 := Lib.hid (O2.out.off gY (.inr (fun e => by have := (l1 _ e).1; omega)))
  have q5 := Lib.hid ((iown_g.1 o5).off gY (.inr (fun e => by have := l5 _ e; omega)))
  have FR := g2.off gY (fun e => by have := Option.some.inj e; omega)
  have HBY : Hid (Below w.heap.size w Y) := Lib.hid (HB2.out.grown gY HB2.out.size (fun g hg => by have e := Option.some.inj hg; omega))
  have HY := Lib.hid hY
  have ND : Hid (∀ g, (Value.slice A1 p.1.length c1).ownBlock = some g → (Value.slice A5 p.2.length c5).ownBlock ≠ some g) := Lib.hid (fun g hg e => by have := (l1 g hg).2; have := l5 g e; omega)
  clear g3 g2 gY hY b5 o5 c1' O1 O2
  go_upto_region 4 with fail
  rw [HY.out]
  clear d0 e0
  have m0 := H3.cell 0
  have m1 := H3.cell 1
  have z0 : Y.cell? ⟨w.heap.size + 1, 0, none⟩ = some (.slice none 0 0) := FR.cell 0
  have z1 : Y.cell? ⟨w.heap.size + 1, 1, none⟩ = some (.slice none 0 0) := FR.cell 1
  have y0 := FR.frozen 0
  have y1 := FR.frozen 1
  have gw : Y.grownBy ((Y.setCell ⟨w.heap.size + 1, 0, none⟩ (.slice A1 p.1.length c1)).setCell ⟨w.heap.size + 1, 1, none⟩ (.slice A5 p.2.length c5)) (some (w.heap.size + 1)) := grow3 (set1_grown _ _ _ _) (set1_grown _ _ _ _)
  have zsz : Y.heap.size ≤ ((Y.setCell ⟨w.heap.size + 1, 0, none⟩ (.slice A1 p.1.length c1)).setCell ⟨w.heap.size + 1, 1, none⟩ (.slice A5 p.2.length c5)).heap.size := gw.size
  have FZ : Blk ((Y.setCell ⟨w.heap.size + 1, 0, none⟩ (.slice A1 p.1.length c1)).setCell ⟨w.heap.size + 1, 1, none⟩ (.slice A5 p.2.length c5)) (w.heap.size + 1) 26 #[(.slice A1 p.1.length c1), (.slice A5 p.2.length c5)] := ((FR.set_ 0 _).set_ 1 _)
  have RES : Hid ((QOwn ((Y.setCell ⟨w.heap.size + 1, 0, none⟩ (.slice A1 p.1.length c1)).setCell ⟨w.heap.size + 1, 1, none⟩ (.slice A5 p.2.length c5)) w.heap.size (.slice A1 p.1.length c1) p.1 ∧ IOwn ((Y.setCell ⟨w.heap.size + 1, 0, none⟩ (.slice A1 p.1.length c1)).setCell ⟨w.heap.size + 1, 1, none⟩ (.slice A5 p.2.length c5)) w.heap.size (.slice A5 p.2.length c5) p.2) ∧ Below w.heap.size w ((Y.setCell ⟨w.heap.size + 1, 0, none⟩ (.slice A1 p.1.length c1)).setCell ⟨w.heap.size + 1, 1, none⟩ (.slice A5 p.2.length c5))) := Lib.hid (⟨⟨(q1.out.off gw (.inr (fun e => by have := (q1.out.ge _ e).1; omega))).base (by omega), iown_g.2 ((q5.out.off gw (.inr (fun e => by have := (q5.out.ge _ e).1; omega))).base (by omega))⟩, HBY.out.grown gw HBY.out.size (fun g hg => by have e := Option.some.inj hg; omega)⟩)
  clear gw
  go_wp2_with fail
  clear m0 m1
  clear z0 y0 z1 y1
  generalize ((Y.setCell ⟨w.heap.size + 1, 0, none⟩ (.slice A1 p.1.length c1)).setCell ⟨w.heap.size + 1, 1, none⟩ (.slice A5 p.2.length c5)) = Z at *
  have d0 : Z.cell? ⟨w.heap.size + 1, 0, none⟩ = some (.slice A1 p.1.length c1) := FZ.cell 0
  have d1 : Z.cell? ⟨w.heap.size + 1, 1, none⟩ = some (.slice A5 p.2.length c5) := FZ.cell 1
  refine bodyPost_ret (v := .agg #[.slice A1 p.1.length c1, .slice A5 p.2.length c5]) (by simp [results, Try.results23, go_sem, d0, d1]) rfl ?_
  exact ⟨_, _, rfl, RES.out.1.1, RES.out.1.2, ND.out, RES.out.2⟩

theorem cellB {w w' : World} {b o : Nat} {x : Value} (hb : Below w.heap.size w w') (hl : b < w.heap.size) (h : w.cell? ⟨b, o, none⟩ = some x) : w'.cell? ⟨b, o, none⟩ = some x := by rw [World.cell?_of_block (hb.block b hl)]; exact h

set_option maxHeartbeats 2000000 in
theorem eqPlace_any {S T : Nat → Prop} (w : World) (v u v' u' : Value) (p q : Pl) (h : PlRd S w v u p) (k : PlRd T w v' u' q) :
    Calls Try.prog 24 #[.agg #[v, u], .agg #[v', u']] w (BoolPost (decide (p = q)) w) := by
  obtain ⟨W, eW⟩ : ∃ X, (w.alloc (.cells #[v, u] 26)).alloc (.cells #[v', u'] 26) = X := ⟨_, rfl⟩
  have f1 : Blk W (w.heap.size) 26 #[v, u] := by
    rw [← eW]
    have h0 := heap_alloc_new w (.cells #[v, u] 26)
    exact Blk.alloc (h0) _
  have f2 : Blk W (w.heap.size + 1) 26 #[v', u'] := by
    rw [← eW]
    have h0 := heap_alloc_new (w.alloc (.cells #[v, u] 26)) (.cells #[v', u'] 26)
    rw [World.size_alloc] at h0
    exact h0
  have bW : Below w.heap.size w W := by rw [← eW]; exact ((Below.refl _ _).alloc (by skip; omega) _).alloc (by rw [World.size_alloc]; omega) _
  have nW : W.heap.size = w.heap.size + 2 := by rw [← eW]; simp
  have HB := Lib.hid bW
  have HW := Lib.hid eW
  have hp := h.below bW
  have hq := k.below bW
  have c0 := f1.cell 0
  have c2 := f2.cell 0
  have F1 := Lib.hid f1
  have F2 := Lib.hid f2
  have HP := Lib.hid hp
  have HQ := Lib.hid hq
  obtain ⟨t, ht⟩ : ∃ t, decide (p.1 = q.1) = t := ⟨_, rfl⟩
  have HT := Lib.hid ht
  clear f1 f2 bW eW nW h k hp hq ht
  go_enter Try.func24, Try.ntmps24
  go_upto_region 1 with fail
  rw [HW.out]
  go_wp2_with fail
  refine (eqQuoteS_any W v v' p.1 q.1 HP.out.1.1 HQ.out.1.1).mono ?_
  rintro e w2 ⟨rfl, b2⟩
  rw [HT.out]
  have HB2 := Lib.hid (below_step HB.out b2 HB.out.size)
  have HP2 := Lib.hid (HP.out.below b2)
  have HQ2 := Lib.hid (HQ.out.below b2)
  have G1 := F1.out.below15 b2
  have G2 := F2.out.below15 b2
  have c1 := G1.cell 1
  have c3 := G2.cell 1
  clear b2 c0 c2 G1 G2
  cases t
  · have HF : Hid (decide (p = q) = false) := Lib.hid (decide_eq_false (fun e => of_decide_eq_false HT.out (by rw [e])))
    go_wp2_with fail
    go_ret
    exact ⟨ret_bool HF.out.symm, HB2.out⟩
  · obtain ⟨t2, ht2⟩ : ∃ t, decide (p.2 = q.2) = t := ⟨_, rfl⟩
    have HT2 := Lib.hid ht2
    clear ht2
    have HF : Hid (decide (p = q) = t2) := Lib.hid (by
      rw [← HT2.out]
      exact decide_eq_decide.2 ⟨fun e => by rw [e], fun e => Prod.ext (of_decide_eq_true HT.out) e⟩)
    go_wp2_with fail
    refine (eqIntS_any w2 u u' p.2 q.2 HP2.out.2.1 HQ2.out.2.1).mono ?_
    rintro e w3 ⟨n3, rfl, rfl⟩
    rw [HT2.out]
    have HB3 := Lib.hid (below_drewN HB2.out n3)
    clear c1 c3
    cases t2
    · go_wp2_with fail
      go_ret
      exact ⟨ret_bool HF.out.symm, HB3.out⟩
    · go_wp2_with fail
      go_ret
      exact ⟨ret_bool HF.out.symm, HB3.out⟩

theorem pls_no {ps qs : List Pl} {k : Nat} {p q : Pl} (hp : ps[k]? = some p) (hq : qs[k]? = some q) (h : ¬ (p = q)) : decide (ps = qs) = false := decide_eq_false (fun e => h (by rw [e, hq] at hp; exact (Option.some.inj hp).symm))

set_option maxRecDepth 100000 in
set_option maxHeartbeats 8000000 in
theorem eqPlaceS_any {S T : Nat → Prop} (w : World) (v u : Value) (ps qs : List Pl) (h : PsRd S w v ps) (k : PsRd T w u qs) :
    Calls Try.prog 50 #[v, u] w (BoolPost (decide (ps = qs)) w) := by
  obtain ⟨A, c, rfl, hl, hm⟩ := h.form
  obtain ⟨A', c', rfl, hl', hm'⟩ := k.form
  obtain ⟨n, hn⟩ : ∃ n, n = ps.length := ⟨_, rfl⟩
  obtain ⟨m, hm2⟩ : ∃ m, m = qs.length := ⟨_, rfl⟩
  rw [← hn] at h hl ⊢
  rw [← hm2] at k hl' ⊢
  have HP : Hid (∀ wr, Below w.heap.size w wr → PsRd S wr (.slice A n c) ps) := Lib.hid (fun wr hb => h.below hb)
  have HQ : Hid (∀ wr, Below w.heap.size w wr → PsRd T wr (.slice A' m c') qs) := Lib.hid (fun wr hb => k.below hb)
  have HN := Lib.hid (And.intro hn hm2)
  clear h k hn hm2
  by_cases hnm : n = m
  · subst hnm
    go_enter Try.func50, Try.ntmps50
    go_wp2_with fail
    go_loopw [5] (fun i wr => ∃ k : Nat, i = .int .i64 (k : Int) ∧ k ≤ n ∧ Hid (ps.take k = qs.take k ∧ Below w.heap.size w wr)) (fun i _ => n - (intOf i).toNat)
    case atStart => exact ⟨0, rfl, Nat.zero_le _, Lib.hid ⟨rfl, Below.refl _ _⟩⟩
    case round =>
      obtain ⟨k, rfl, hk, HR⟩ := hrel
      by_cases hlt : k < n
      · have hlt' : (k : Int) < (n : Int) := by omega
        have hk0 : (0 : Int) ≤ (k : Int) := by omega
        obtain ⟨b, off, pv, pu, p, rfl, hbb, hp, d0, d1, hpl⟩ := (HP.out wr HR.out.2).at_ hlt
        obtain ⟨b', off', qv, qu, q, rfl, hbb', hq, d2, d3, hql⟩ := (HQ.out wr HR.out.2).at_ hlt
        have HC : Hid (∀ w', Below wr.heap.size wr w' → (w'.cell? ⟨b, off + k * 2, none⟩ = some pv ∧ w'.cell? ⟨b, off + k * 2 + 1, none⟩ = some pu) ∧ w'.cell? ⟨b', off' + k * 2, none⟩ = some qv ∧ w'.cell? ⟨b', off' + k * 2 + 1, none⟩ = some qu) := Lib.hid (fun w' hb => ⟨⟨cellB hb hbb d0, cellB hb hbb d1⟩, cellB hb hbb' d2, cellB hb hbb' d3⟩)
        have HPP := Lib.hid (And.intro hp hq)
        have HPL := Lib.hid (hpl.below (w' := wr.drew) (Below.refl _ _).drew)
        have HQL := Lib.hid (hql.below (w' := wr.drew) (Below.refl _ _).drew)
        have s0 : Below wr.heap.size wr wr.drew := (Below.refl _ _).drew
        obtain ⟨t, ht⟩ : ∃ t, decide (p = q) = t := ⟨_, rfl⟩
        have HT := Lib.hid ht
        clear hp hq hpl hql hbb hbb' d0 d1 d2 d3 ht
        go_upto_region 6 with fail
        refine wp_region_held_drew (S := fun w' => Below wr.heap.size wr w') (by kernel_rfl) s0 (fun hHeld => ?_)
        generalize wr.drew = X0 at *
        refine take_in (i := 0) (v := ?_) rfl (by kernel_rfl) (fun _ _ _ h => h) rfl ?_ hHeld ?_
        rotate_left
        · intro w' hSw; obtain ⟨⟨q0, q1⟩, q2, q3⟩ := HC.out w' hSw; go_simp; all_goals with_reducible rfl
        try simp only [Act.put, List.setIfInBounds_toArray, List.set_cons_zero, List.set_cons_succ]
        refine take_in (i := 1) (v := ?_) rfl (by kernel_rfl) (fun _ _ _ h => h) rfl ?_ hHeld ?_
        rotate_left
        · intro w' hSw; obtain ⟨⟨q0, q1⟩, q2, q3⟩ := HC.out w' hSw; go_simp; all_goals with_reducible rfl
        try simp only [Act.put, List.setIfInBounds_toArray, List.set_cons_zero, List.set_cons_succ]
        refine take_in (i := 2) (v := ?_) rfl (by kernel_rfl) (fun _ _ _ h => h) rfl ?_ hHeld ?_
        rotate_left
        · intro w' hSw; obtain ⟨⟨q0, q1⟩, q2, q3⟩ := HC.out w' hSw; go_simp; all_goals with_reducible rfl
        try simp only [Act.put, List.setIfInBounds_toArray, List.set_cons_zero, List.set_cons_succ]
        refine take_in (i := 3) (v := ?_) rfl (by kernel_rfl) (fun _ _ _ h => h) rfl ?_ hHeld ?_
        rotate_left
        · intro w' hSw; obtain ⟨⟨q0, q1⟩, q2, q3⟩ := HC.out w' hSw; go_simp; all_goals with_reducible rfl
        try simp only [Act.put, List.setIfInBounds_toArray, List.set_cons_zero, List.set_cons_succ]
        refine take_in (i := 4) (v := ?_) rfl (by kernel_rfl) (fun _ _ _ h => h) rfl ?_ hHeld ?_
        rotate_left
        · intro w' hSw; obtain ⟨⟨q0, q1⟩, q2, q3⟩ := HC.out w' hSw; go_simp; all_goals with_reducible rfl
        try simp only [Act.put, List.setIfInBounds_toArray, List.set_cons_zero, List.set_cons_succ]
        refine take_in (i := 5) (v := ?_) rfl (by kernel_rfl) (fun _ _ _ h => h) rfl ?_ hHeld ?_
        rotate_left
        · intro w' hSw; obtain ⟨⟨q0, q1⟩, q2, q3⟩ := HC.out w' hSw; go_simp; all_goals with_reducible rfl
        try simp only [Act.put, List.setIfInBounds_toArray, List.set_cons_zero, List.set_cons_succ]
        refine take_in (i := 6) (v := ?_) rfl (by kernel_rfl) (fun _ _ _ h => h) rfl ?_ hHeld ?_
        rotate_left
        · intro w' hSw; obtain ⟨⟨q0, q1⟩, q2, q3⟩ := HC.out w' hSw; go_simp; all_goals with_reducible rfl
        try simp only [Act.put, List.setIfInBounds_toArray, List.set_cons_zero, List.set_cons_succ]
        refine take_in (i := 7) (v := ?_) rfl (by kernel_rfl) (fun _ _ _ h => h) rfl ?_ hHeld ?_
        rotate_left
        · intro w' hSw; obtain ⟨⟨q0, q1⟩, q2, q3⟩ := HC.out w' hSw; go_simp; all_goals with_reducible rfl
        try simp only [Act.put, List.setIfInBounds_toArray, List.set_cons_zero, List.set_cons_succ]
        refine ready_one (i := 8) rfl (by kernel_rfl) (fun K hK => ?_)
        go_simp
        go_at_call 24
        refine (eqPlace_any X0 pv pu qv qu p q HPL.out HQL.out).mono ?_
        rintro ee X1 ⟨rfl, b1⟩
        rw [HT.out]
        have s1 := below_step s0 b1 s0.size
        refine hK.out _ _ s1 (fun hHeld => ?_)
        clear hK K b1 s0
        try simp only [Act.put, List.setIfInBounds_toArray, List.set_cons_zero, List.set_cons_succ]
        cases t
        · refine take_in (i := 9) (v := ?_) rfl (by kernel_rfl) (fun _ _ _ h => h) rfl ?_ hHeld ?_
          rotate_left
          · intro w' hSw; go_simp; all_goals with_reducible rfl
          try simp only [Act.put, List.setIfInBounds_toArray, List.set_cons_zero, List.set_cons_succ]
          have HF : Hid (decide (ps = qs) = false) := Lib.hid (pls_no HPP.out.1 HPP.out.2 (of_decide_eq_false HT.out))
          have HZ := Lib.hid (below_step HR.out.2 s1 HR.out.2.size)
          clear s1
          refine wpAnyH_done (by kernel_rfl) ?_ _
          go_wp2_with fail
          go_ret
          exact ⟨ret_bool HF.out.symm, HZ.out⟩
        · refine take_in (i := 9) (v := ?_) rfl (by kernel_rfl) (fun _ _ _ h => h) rfl ?_ hHeld ?_
          rotate_left
          · intro w' hSw; go_simp; all_goals with_reducible rfl
          try simp only [Act.put, List.setIfInBounds_toArray, List.set_cons_zero, List.set_cons_succ]
          have HZ : Hid (ps.take (k + 1) = qs.take (k + 1) ∧ Below w.heap.size w X1) := Lib.hid ⟨by rw [List.take_add_one, List.take_add_one, HR.out.1, HPP.out.1, HPP.out.2, of_decide_eq_true HT.out], below_step HR.out.2 s1 HR.out.2.size⟩
          clear s1
          refine wpAnyH_done (by kernel_rfl) ?_ _
          go_wp2_with fail
          go_roundw
          case rel => exact ⟨k + 1, by go_num, by omega, HZ⟩
          case measure => simp [intOf]; omega
      · obtain rfl : k = n := by omega
        have hlt' : decide ((k : Int) < (k : Int)) = false := by simp
        have HF : Hid (decide (ps = qs) = true) := Lib.hid (decide_eq_true (by
          have h1 := HR.out.1
          obtain ⟨e1, e2⟩ := HN.out
          rw [List.take_of_length_le (by omega), List.take_of_length_le (by omega)] at h1
          exact h1))
        go_wp2_with fail
        go_ret
        exact ⟨ret_bool HF.out.symm, HR.out.2⟩
  · have hnm' : ((n : Int) != (m : Int)) = true := by rw [bne_iff_ne]; omega
    have HF : Hid (decide (ps = qs) = false) := Lib.hid (decide_eq_false (fun e => hnm (by obtain ⟨e1, e2⟩ := HN.out; rw [e1, e2, e])))
    clear hnm
    go_enter Try.func50, Try.ntmps50
    go_wp2_with fail
    go_ret
    exact ⟨ret_bool HF.out.symm, Below.refl _ _⟩

set_option maxHeartbeats 2000000 in
theorem eqDesk_any {S T : Nat → Prop} (w : World) (v u r v' u' r' : Value) (d x : Dk) (h : DkRd S w v u r d) (k : DkRd T w v' u' r' x) :
    Calls Try.prog 27 #[.agg #[v, u, r], .agg #[v', u', r']] w (BoolPost (decide (d = x)) w) := by
  obtain ⟨W, eW⟩ : ∃ X, (w.alloc (.cells #[v, u, r] 29)).alloc (.cells #[v', u', r'] 29) = X := ⟨_, rfl⟩
  have f1 : Blk W (w.heap.size) 29 #[v, u, r] := by
    rw [← eW]
    have h0 := heap_alloc_new w (.cells #[v, u, r] 29)
    exact Blk.alloc (h0) _
  have f2 : Blk W (w.heap.size + 1) 29 #[v', u', r'] := by
    rw [← eW]
    have h0 := heap_alloc_new (w.alloc (.cells #[v, u, r] 29)) (.cells #[v', u', r'] 29)
    rw [World.size_alloc] at h0
    exact h0
  have bW : Below w.heap.size w W := by rw [← eW]; exact ((Below.refl _ _).alloc (by skip; omega) _).alloc (by rw [World.size_alloc]; omega) _
  have nW : W.heap.size = w.heap.size + 2 := by rw [← eW]; simp
  have HB := Lib.hid bW
  have HW := Lib.hid eW
  have hp := h.below bW
  have hq := k.below bW
  have c0 := f1.cell 0
  have c1 := f1.cell 1
  have c2 := f2.cell 0
  have c3 := f2.cell 1
  have F1 := Lib.hid f1
  have F2 := Lib.hid f2
  have HP := Lib.hid hp
  have HQ := Lib.hid hq
  obtain ⟨t, ht⟩ : ∃ t, decide (d.1 = x.1) = t := ⟨_, rfl⟩
  have HT := Lib.hid ht
  clear f1 f2 bW eW nW h k hp hq ht
  go_enter Try.func27, Try.ntmps27
  go_upto_region 1 with fail
  rw [HW.out]
  go_wp2_with fail
  refine (eqPlace_any W v u v' u' d.1 x.1 HP.out.1 HQ.out.1).mono ?_
  rintro e w2 ⟨rfl, b2⟩
  rw [HT.out]
  have HB2 := Lib.hid (below_step HB.out b2 HB.out.size)
  have HP2 := Lib.hid (HP.out.below b2)
  have HQ2 := Lib.hid (HQ.out.below b2)
  have G1 := F1.out.below15 b2
  have G2 := F2.out.below15 b2
  clear c0 c1 c2 c3 b2
  have c0 := G1.cell 2
  have c1 := G2.cell 2
  clear G1 G2
  cases t
  · have HF : Hid (decide (d = x) = false) := Lib.hid (decide_eq_false (fun e => of_decide_eq_false HT.out (by rw [e])))
    go_wp2_with fail
    go_ret
    exact ⟨ret_bool HF.out.symm, HB2.out⟩
  · obtain ⟨t2, ht2⟩ : ∃ t, decide (d.2 = x.2) = t := ⟨_, rfl⟩
    have HT2 := Lib.hid ht2
    clear ht2
    have HF : Hid (decide (d = x) = t2) := Lib.hid (by
      rw [← HT2.out]
      exact decide_eq_decide.2 ⟨fun e => by rw [e], fun e => Prod.ext (of_decide_eq_true HT.out) e⟩)
    go_wp2_with fail
    refine (eqPlaceS_any w2 r r' d.2 x.2 HP2.out.2 HQ2.out.2).mono ?_
    rintro e w3 ⟨rfl, b3⟩
    rw [HT2.out]
    have HB3 := Lib.hid (below_step HB2.out b3 HB2.out.size)
    clear c0 c1 b3
    cases t2
    · go_wp2_with fail
      go_ret
      exact ⟨ret_bool HF.out.symm, HB3.out⟩
    · go_wp2_with fail
      go_ret
      exact ⟨ret_bool HF.out.symm, HB3.out⟩

end Go.Proofs.Ytebebcomhdjihaa

namespace Go.Proofs.Ytebebcomhdjihaa
open Go.RowKit
set_option linter.unusedVariables false

structure GrB (bl : Nat → Prop) (w w' : World) : Prop where
  os : w'.os = w.os
  tape : w'.tape = w.tape
  output : w'.output = w.output
  size : w.heap.size ≤ w'.heap.size
  block : ∀ k, k < w.heap.size → ¬ bl k → w'.heap[k]? = w.heap[k]?

theorem GrB.of_grown {w w' : World} {r : Option Nat} (h : w.grownBy w' r) : GrB (fun g => r = some g) w w' := ⟨h.os, h.tape, h.output, h.size, fun k hk hn => h.block k hk (fun e => hn e.symm)⟩

theorem GrB.of_below {w w' : World} (h : Below w.heap.size w w') : GrB (fun _ => False) w w' := ⟨h.os, h.tape, h.output, h.size, fun k hk _ => h.block k hk⟩

theorem GrB.mono {bl bl' : Nat → Prop} {w w' : World} (h : GrB bl w w') (hm : ∀ g, bl g → bl' g) : GrB bl' w w' := ⟨h.os, h.tape, h.output, h.size, fun k hk hn => h.block k hk (fun hb => hn (hm k hb))⟩

theorem GrB.trans {bl : Nat → Prop} {w w1 w2 : World} (h : GrB bl w w1) (k : GrB bl w1 w2) : GrB bl w w2 :=
  ⟨k.os.trans h.os, k.tape.trans h.tape, k.output.trans h.output, Nat.le_trans h.size k.size, fun g hg hn => (k.block g (Nat.lt_of_lt_of_le hg h.size) hn).trans (h.block g hg hn)⟩

theorem GrB.same {bl : Nat → Prop} {w w' : World} {v : Value} (h : GrB bl w w') (hv : ∀ g, v.ownBlock = some g → ¬ bl g) : SameAt w w' v := ⟨h.size, fun g hg hl => h.block g hl (hv g hg)⟩

theorem GrB.below {bl : Nat → Prop} {B : Nat} {w w' : World} (h : GrB bl w w') (hb : ∀ g, bl g → B ≤ g) (hB : B ≤ w.heap.size) : Below B w w' := ⟨h.os, h.tape, h.output, h.size, fun k hk => h.block k (by omega) (fun hh => by have := hb k hh; omega)⟩

def InV (vs : List Value) (g : Nat) : Prop := ∃ v ∈ vs, v.ownBlock = some g

theorem InV.not {vs : List Value} {x : Value} (h : ∀ v ∈ vs, Ap v x) : ∀ g, x.ownBlock = some g → ¬ InV vs g := fun g hg ⟨v, hv, e⟩ => h v hv g e hg

def mP (q : Int) (p : Pl) : Pl := (qUp q p.1 p.1.length, upFrom (q + 2 * p.1.length) p.2.length)

def cP (p : Pl) : Nat := 2 * p.1.length + p.2.length

theorem PlN.touch {bl : Nat → Prop} {w w' : World} {base : Nat} {v u : Value} {p : Pl} (h : PlN w base v u p) (hg : GrB bl w w') (hv : ∀ g, v.ownBlock = some g → ¬ bl g) (hu : ∀ g, u.ownBlock = some g → ¬ bl g) : PlN w' base v u p := ⟨h.1.keep (hg.same hv), h.2.keep (hg.same hu)⟩

set_option maxHeartbeats 2000000 in
theorem markQuoteS_tells (w : World) (base : Nat) (q : Int) (v : Value) (xs : List Qt) (hv : QOwn w base v xs) (hn : xs.length ≤ 1048576) (hq0 : 0 ≤ q) (hq : q ≤ 1000000000) :
    Calls Try.prog 51 #[v, .int .i64 q] w fun e w' => e = .returned (.int .i64 (q + 2 * xs.length)) ∧ QOwn w' base v (qUp q xs xs.length) ∧ w.grownBy w' v.ownBlock := by
  have H0 : Hid (QMarkRel w base q v xs 0 w) := Lib.hid ⟨by rw [qUp_zero]; exact hv, World.grownBy.refl _ _, rfl⟩
  rcases hv.2 with ⟨rfl, h0⟩ | ⟨g, cap, cur, rfl, -, -, hcap, hcm, -, -⟩
  · have hx : xs = [] := List.eq_nil_of_length_eq_zero h0
    subst hx
    clear hv h0
    go_enter Try.func51, Try.ntmps51
    go_wp2_with fail
    refine wp_loop_rounds 1 ?_
    rw [rounds_succ]
    go_wp2_with fail
    go_ret
    exact ⟨ret_int (by simp), GOwn.nil _ _ _ _ _, World.grownBy.refl _ _⟩
  · clear hv
    rw [maxLen_is] at hcm
    go_enter Try.func51, Try.ntmps51
    go_wp2_with fail
    go_loopw [1, 5] (fun c i wr => ∃ k : Nat, i = .int .i64 k ∧ c = .int .i64 (q + 2 * (k : Int)) ∧ k ≤ xs.length ∧ Hid (QMarkRel w base q (.slice (some ⟨g, 0, none⟩) xs.length cap) xs k wr)) (fun _ i _ => xs.length - (intOf i).toNat)
    case atStart => exact ⟨0, rfl, by simp, Nat.zero_le _, H0⟩
    case round =>
      obtain ⟨k, rfl, rfl, hk, H⟩ := hrel
      clear H0
      by_cases hlt : k < xs.length
      · obtain ⟨hf0, o0, ho0⟩ := H.out.1.old qC_len (qUp_len q xs hk) hlt (j := 0) (by decide)
        obtain ⟨hf1, o1, ho1⟩ := H.out.1.old qC_len (qUp_len q xs hk) hlt (j := 1) (by decide)
        rw [Nat.add_zero] at hf0 ho0
        go_wp2_with fail
        go_roundw
        case rel => exact ⟨k + 1, by go_num, by go_num, by omega, (show Hid _ from H.out.step rfl hlt)⟩
        case measure => simp [intOf]; omega
      · obtain rfl : k = xs.length := by omega
        go_wp2_with fail
        go_ret
        obtain ⟨h1, h2, h3⟩ := H.out
        exact ⟨rfl, h1, h2⟩

def MkPl (base : Nat) (q : Int) (v u : Value) (p : Pl) (w : World) (e : Ending) (w' : World) : Prop := e = .returned (.int .i64 (q + (cP p : Nat))) ∧ PlN w' base v u (mP q p) ∧ GrB (InV [v, u]) w w'

set_option maxHeartbeats 2000000 in
theorem markPlace_any (w : World) (base : Nat) (q : Int) (v u : Value) (p : Pl) (h : PlN w base v u p) (ha : Ap v u) (hs : SmPl p) (hq0 : 0 ≤ q) (hq : q ≤ 100000000) :
    Calls Try.prog 28 #[.agg #[v, u], .int .i64 q] w (MkPl base q v u p w) := by
  obtain ⟨W, eW⟩ : ∃ X, w.alloc (.cells #[v, u] 26) = X := ⟨_, rfl⟩
  have f1 : Blk W (w.heap.size) 26 #[v, u] := by
    rw [← eW]
    have h0 := heap_alloc_new w (.cells #[v, u] 26)
    exact h0
  have bW : Below w.heap.size w W := by rw [← eW]; exact (Below.refl _ _).alloc (by skip; omega) _
  have nW : W.heap.size = w.heap.size + 1 := by rw [← eW]; simp
  have hP := h.below bW
  have F1 := Lib.hid f1
  have hv0 := Lib.hid h.ge
  have c0 := f1.cell 0
  have HP := Lib.hid hP
  have HB := Lib.hid bW
  have HW := Lib.hid eW
  have HA := Lib.hid ha
  have hn1 := hs.two.1
  have hn2 := hs.two.2
  clear f1 bW eW h hP ha hs
  go_enter Try.func28, Try.ntmps28
  go_upto_region 1 with fail
  rw [HW.out]
  go_wp2_with fail
  refine (markQuoteS_tells W base q v p.1 HP.out.1 hn1 hq0 (by omega)).mono ?_
  rintro e w1 ⟨rfl, o1, g1⟩
  have z1 := g1.size
  have HQ := Lib.hid o1
  have HI : Hid (IOwn w1 base u p.2) := Lib.hid (HP.out.2.keep (SameAt.of_grown g1 (by
    rcases hc : u.ownBlock with _ | g
    · exact .inl rfl
    · exact .inr (fun e => HA.out g e.symm hc))))
  have G1 : Hid (GrB (InV [v, u]) w w1) := Lib.hid (((GrB.of_below HB.out).mono (fun _ hf => hf.elim)).trans ((GrB.of_grown g1).mono (fun g hg => ⟨v, by simp, hg⟩)))
  have F2 : Blk w1 w.heap.size 26 #[v, u] := F1.out.off g1 (fun e => by have := (hv0.out.1 _ e).2; omega)
  have c1 := F2.cell 1
  obtain ⟨r, hr⟩ : ∃ r, q + 2 * (p.1.length : Int) = r := ⟨_, rfl⟩
  rw [hr]
  have HR := Lib.hid hr
  have hr0 : 0 ≤ r := by omega
  have hr1 : r ≤ 1000000000 := by omega
  clear o1 g1 c0 hr F2
  go_wp2_with fail
  refine (markIntS_any w1 base r u p.2 HI.out hn2 hr0 hr1).mono ?_
  rintro e w2 ⟨rfl, o2, g2, z2⟩
  have HQ2 : Hid (QOwn w2 base v (qUp q p.1 p.1.length)) := Lib.hid (HQ.out.keep (SameAt.of_grown g2 (by
    rcases hc : v.ownBlock with _ | g
    · exact .inl rfl
    · exact .inr (fun e => HA.out g hc e.symm))))
  have HI2 : Hid (IOwn w2 base u (upFrom (q + 2 * p.1.length) p.2.length)) := Lib.hid (by rw [HR.out]; exact o2)
  have G2 : Hid (GrB (InV [v, u]) w w2) := Lib.hid (G1.out.trans ((GrB.of_grown g2).mono (fun g hg => ⟨u, by simp, hg⟩)))
  obtain ⟨s, hs⟩ : ∃ s, r + (p.2.length : Int) = s := ⟨_, rfl⟩
  rw [hs]
  have HS : Hid (s = q + (cP p : Nat)) := Lib.hid (by have := HR.out; unfold cP; omega)
  clear o2 g2 z2 c1 hs
  go_wp2_with fail
  go_ret
  exact ⟨ret_int HS.out, ⟨HQ2.out, HI2.out⟩, G2.out⟩

def mPs (q : Int) : List Pl → List Pl
  | [] => []
  | p :: ps => mP q p :: mPs (q + (cP p : Nat)) ps

def cPs (ps : List Pl) : Nat := (ps.map cP).sum

theorem mPs_len (q : Int) (ps : List Pl) : (mPs q ps).length = ps.length := by
  induction ps generalizing q with
  | nil => rfl
  | cons p ps ih => simp only [mPs, List.length_cons, ih]

theorem mPs_app (q : Int) (xs ys : List Pl) : mPs q (xs ++ ys) = mPs q xs ++ mPs (q + (cPs xs : Nat)) ys := by
  induction xs generalizing q with
  | nil => simp [mPs, cPs]
  | cons p xs ih =>
    simp only [List.cons_append, mPs, ih]
    rw [show q + (cP p : Nat) + (cPs xs : Nat) = q + ((cPs (p :: xs) : Nat) : Int) by simp [cPs]; omega]

theorem cPs_take {ps : List Pl} {k : Nat} {p : Pl} (h : ps[k]? = some p) : cPs (ps.take (k + 1)) = cPs (ps.take k) + cP p := by
  unfold cPs
  rw [List.take_add_one, h, List.map_append, List.sum_append]; simp

theorem cPs_le (ps : List Pl) : cPs ps ≤ 2 * totS ps := by
  unfold cPs totS
  induction ps with
  | nil => simp
  | cons p ps ih =>
    have h1 : cP p ≤ 2 * tP p := by unfold cP tP; omega
    simp only [List.map_cons, List.sum_cons]
    omega

theorem tot_le (ps : List Pl) (k : Nat) : totS (ps.take k) ≤ totS ps := by
  have h := List.take_append_drop k ps
  have h2 : totS ps = totS (ps.take k) + totS (ps.drop k) := by
    conv => lhs; rw [← h]
    unfold totS; rw [List.map_append, List.sum_append]
  omega

def upPs (q : Int) (ps : List Pl) (k : Nat) : List Pl := mPs q (ps.take k) ++ ps.drop k

theorem upPs_at (q : Int) {ps : List Pl} {k : Nat} (hk : k < ps.length) : (upPs q ps k)[k]? = ps[k]? := by
  unfold upPs
  rw [List.getElem?_append_right (by rw [mPs_len, List.length_take]; omega), mPs_len, List.length_take, Nat.min_eq_left (by omega), Nat.sub_self, List.getElem?_drop, Nat.add_zero]

theorem upPs_set (q : Int) {ps : List Pl} {k : Nat} {p : Pl} (hp : ps[k]? = some p) : (upPs q ps k).set k (mP (q + (cPs (ps.take k) : Nat)) p) = upPs q ps (k + 1) := by
  have hk : k < ps.length := (List.getElem?_eq_some_iff.1 hp).1
  unfold upPs
  have h1 : ps.take (k + 1) = ps.take k ++ [p] := by rw [List.take_add_one, hp]; rfl
  rw [h1, mPs_app]
  have hl : (mPs q (ps.take k)).length = k := by rw [mPs_len, List.length_take]; omega
  rw [List.set_append_right _ _ (by omega), hl, Nat.sub_self, List.append_assoc]
  congr 1
  have h2 : ps.drop k = p :: ps.drop (k + 1) := by rw [List.drop_eq_getElem_cons hk]; congr 1; rw [List.getElem?_eq_getElem hk] at hp; exact Option.some.inj hp
  rw [h2, List.set_cons_zero]; rfl

theorem ap_pair {us : List (Value × Value)} (h : (us.flatMap pC).Pairwise Ap) {i j : Nat} {x y : Value × Value} (hx : us[i]? = some x) (hy : us[j]? = some y) (hij : i ≠ j) : ∀ a ∈ pC x, ∀ b ∈ pC y, Ap a b := by
  rw [List.pairwise_flatMap] at h
  have h2 := List.pairwise_iff_getElem.1 h.2
  obtain ⟨hi, e1⟩ := List.getElem?_eq_some_iff.1 hx
  obtain ⟨hj, e2⟩ := List.getElem?_eq_some_iff.1 hy
  intro a ha b hb
  rcases Nat.lt_or_ge i j with hl | hl
  · exact h2 i j hi hj hl a (by rw [e1]; exact ha) b (by rw [e2]; exact hb)
  · exact (h2 j i hj hi (by omega) b (by rw [e2]; exact hb) a (by rw [e1]; exact ha)).symm

theorem ap_own {us : List (Value × Value)} (h : (us.flatMap pC).Pairwise Ap) {i : Nat} {x : Value × Value} (hx : us[i]? = some x) : Ap x.1 x.2 := by
  rw [List.pairwise_flatMap] at h
  have := h.1 x (List.mem_of_getElem? hx)
  simp only [pC, List.pairwise_cons] at this
  exact this.1 _ (by simp)

theorem PsN.touch {bl : Nat → Prop} {w w' : World} {base : Nat} {r : Value} {us : List (Value × Value)} {ps : List Pl} (h : PsN w base r us ps) (hg : GrB bl w w') (hr : ∀ g, r.ownBlock = some g → ¬ bl g) (hu : ∀ x ∈ us.flatMap pC, ∀ g, x.ownBlock = some g → ¬ bl g) : PsN w' base r us ps :=
  ⟨h.1, h.2.1.keep (hg.same hr), fun k x p hx hp => (h.2.2 k x p hx hp).touch hg (hu x.1 (List.mem_flatMap.2 ⟨x, List.mem_of_getElem? hx, by simp [pC]⟩)) (hu x.2 (List.mem_flatMap.2 ⟨x, List.mem_of_getElem? hx, by simp [pC]⟩))⟩

theorem PsN.mark {w w' : World} {base : Nat} {r v u : Value} {us : List (Value × Value)} {ps : List Pl} {k : Nat} {p' : Pl} (h : PsN w base r us ps) (hap : (r :: us.flatMap pC).Pairwise Ap) (hx : us[k]? = some (v, u)) (hg : GrB (InV [v, u]) w w') (hn : PlN w' base v u p') : PsN w' base r us (ps.set k p') := by
  obtain ⟨hr, hus⟩ := List.pairwise_cons.1 hap
  have hmv : v ∈ us.flatMap pC := List.mem_flatMap.2 ⟨(v, u), List.mem_of_getElem? hx, by simp [pC]⟩
  have hmu : u ∈ us.flatMap pC := List.mem_flatMap.2 ⟨(v, u), List.mem_of_getElem? hx, by simp [pC]⟩
  have hk : k < ps.length := by have := (List.getElem?_eq_some_iff.1 hx).1; have := h.1; omega
  refine ⟨by rw [List.length_set]; exact h.1, h.2.1.keep (hg.same (InV.not (fun y hy => ?_))), fun j x p hj hp => ?_⟩
  · simp only [List.mem_cons, List.not_mem_nil, or_false] at hy
    rcases hy with rfl | rfl
    · exact (hr _ hmv).symm
    · exact (hr _ hmu).symm
  · by_cases e : k = j
    · subst e
      rw [hx] at hj
      obtain rfl := Option.some.inj hj
      rw [List.getElem?_set_self hk] at hp
      obtain rfl := Option.some.inj hp
      exact hn
    · rw [List.getElem?_set_ne e] at hp
      have h3 := ap_pair hus hx hj e
      exact (h.2.2 j x p hj hp).touch hg (InV.not (fun y hy => h3 y (by simpa [pC] using hy) x.1 (by simp [pC]))) (InV.not (fun y hy => h3 y (by simpa [pC] using hy) x.2 (by simp [pC])))

theorem PsN.cells {w : World} {base n c : Nat} {A : Option Addr} {us : List (Value × Value)} {ps : List Pl} (h : PsN w base (.slice A n c) us ps) {k : Nat} (hk : k < n) : ∃ b off v u, A = some ⟨b, off, none⟩ ∧ b < w.heap.size ∧ us[k]? = some (v, u) ∧ w.cell? ⟨b, off + k * 2, none⟩ = some v ∧ w.cell? ⟨b, off + k * 2 + 1, none⟩ = some u := by
  obtain ⟨b, off, x, hA, hb, hx, hc⟩ := (h.2.1.rd pC_len).at_ hk
  exact ⟨b, off, x.1, x.2, hA, hb, hx, (by have := hc 0 x.1 rfl; rwa [Nat.add_zero] at this), hc 1 x.2 rfl⟩

def MkPs (base : Nat) (q : Int) (r : Value) (us : List (Value × Value)) (ps : List Pl) (w : World) (e : Ending) (w' : World) : Prop := e = .returned (.int .i64 (q + (cPs ps : Nat))) ∧ PsN w' base r us (mPs q ps) ∧ GrB (InV (us.flatMap pC)) w w'

set_option maxRecDepth 100000 in
set_option maxHeartbeats 4000000 in
theorem markPlaceS_any (w : World) (base : Nat) (q : Int) (r : Value) (us : List (Value × Value)) (ps : List Pl) (h : PsN w base r us ps) (hap : (r :: us.flatMap pC).Pairwise Ap) (hl : ps.length ≤ 1048576) (hs : totS ps ≤ 1048576) (hq0 : 0 ≤ q) (hq : q ≤ 10000000) :
    Calls Try.prog 53 #[r, .int .i64 q] w (MkPs base q r us ps w) := by
  obtain ⟨A, c, rfl, hc, hm⟩ := (h.2.1.rd pC_len).form
  obtain ⟨n, hn⟩ : ∃ n, n = us.length := ⟨_, rfl⟩
  rw [← hn] at h hap hc ⊢
  have HN : Hid (n = us.length ∧ n = ps.length) := Lib.hid ⟨hn, hn.trans h.1⟩
  have HAP := Lib.hid hap
  have HTS := Lib.hid hs
  have H0 : Hid (PsN w base (.slice A n c) us (upPs q ps 0) ∧ GrB (InV (us.flatMap pC)) w w) := Lib.hid ⟨by unfold upPs; rw [List.take_zero, List.drop_zero]; exact h, ⟨rfl, rfl, rfl, Nat.le_refl _, fun _ _ _ => rfl⟩⟩
  clear h hap hn hs
  go_enter Try.func53, Try.ntmps53
  go_wp2_with fail
  go_loopw [1, 5] (fun l i wr => ∃ (k : Nat) (s : Int), l = .int .i64 s ∧ i = .int .i64 (k : Int) ∧ k ≤ n ∧ (0 ≤ s ∧ s ≤ 100000000) ∧ Hid (s = q + (cPs (ps.take k) : Nat)) ∧ Hid (PsN wr base (.slice A n c) us (upPs q ps k) ∧ GrB (InV (us.flatMap pC)) w wr)) (fun _ i _ => n - (intOf i).toNat)
  case atStart => exact ⟨0, q, rfl, rfl, Nat.zero_le _, ⟨hq0, by omega⟩, Lib.hid (by simp [cPs]), H0⟩
  case round =>
    obtain ⟨k, s, rfl, rfl, hk, ⟨hs0, hs1⟩, HS, H⟩ := hrel
    clear H0
    by_cases hlt : k < n
    · have hlt' : (k : Int) < (n : Int) := by omega
      have hk0 : (0 : Int) ≤ (k : Int) := by omega
      obtain ⟨b, off, v, u, rfl, hbb, hu, d0, d1⟩ := H.out.1.cells hlt
      have hkp : k < ps.length := by have := HN.out.2; omega
      obtain ⟨p, hp⟩ : ∃ p, ps[k]? = some p := ⟨_, List.getElem?_eq_getElem hkp⟩
      have HP := Lib.hid hp
      have hpl : PlN wr base v u p := H.out.1.2.2 k (v, u) p hu (by rw [upPs_at q hkp]; exact hp)
      have hus := (List.pairwise_cons.1 HAP.out).2
      have hav : Ap v u := ap_own hus hu
      have hrv : Ap (.slice (some ⟨b, off, none⟩) n c) v := (List.pairwise_cons.1 HAP.out).1 v (List.mem_flatMap.2 ⟨(v, u), List.mem_of_getElem? hu, by simp [pC]⟩)
      have hcp : cP p + cPs (ps.take k) ≤ 2097152 := by
        have h1 := cPs_take hp
        have h2 := cPs_le (ps.take (k + 1))
        have h3 := tot_le ps (k + 1)
        have h4 := HTS.out
        omega
      have hsp : p.1.length ≤ 1048576 ∧ p.2.length ≤ 1048576 := by
        have h1 := tot_mem (List.mem_of_getElem? hp)
        have h2 := HTS.out
        unfold tP at h1
        omega
      have HPL := Lib.hid hpl
      have HAV := Lib.hid hav
      have HU := Lib.hid hu
      have hr1 : ∃ s1, s + 2 * (p.1.length : Int) = s1 := ⟨_, rfl⟩
      obtain ⟨s1, hs1e⟩ := hr1
      have hs1a : 0 ≤ s1 := by omega
      have hs1b : s1 ≤ 1000000000 := by omega
      obtain ⟨s2, hs2e⟩ : ∃ s2, s1 + (p.2.length : Int) = s2 := ⟨_, rfl⟩
      have HS2 : Hid (s2 = q + (cPs (ps.take (k + 1)) : Nat)) := Lib.hid (by have h1 := HS.out; rw [cPs_take hp]; unfold cP; omega)
      have hs2a : 0 ≤ s2 := by omega
      have hs2b : s2 ≤ 100000000 := by
        have h1 := HS2.out
        have h2 := cPs_take hp
        omega
      have HE := Lib.hid (And.intro hs1e hs2e)
      have hq1 := hsp.1
      have hq2 := hsp.2
      have HRV := Lib.hid hrv
      clear hu hpl hus hav hcp hsp hs1e hs2e hrv hp
      go_wp2_with fail
      refine (markQuoteS_tells wr base s v p.1 HPL.out.1 hq1 hs0 (by omega)).mono ?_
      rintro e w1 ⟨rfl, o1, g1⟩
      rw [HE.out.1]
      have HQ := Lib.hid o1
      have HI : Hid (IOwn w1 base u p.2) := Lib.hid (HPL.out.2.keep (SameAt.of_grown g1 (by
        rcases hc : u.ownBlock with _ | g
        · exact .inl rfl
        · exact .inr (fun e => HAV.out g e.symm hc))))
      have G1 : Hid (GrB (InV [v, u]) wr w1) := Lib.hid ((GrB.of_grown g1).mono (fun g hg => ⟨v, by simp, hg⟩))
      have e1 : w1.cell? ⟨b, off + k * 2 + 1, none⟩ = some u := by rw [World.cell?_of_block (g1.block b hbb (fun e => HRV.out b rfl e.symm))]; exact d1
      clear o1 g1 d0 d1
      go_wp2_with fail
      refine (markIntS_any w1 base s1 u p.2 HI.out hq2 hs1a hs1b).mono ?_
      rintro e w2 ⟨rfl, o2, g2, z2⟩
      rw [HE.out.2]
      have HQ2 : Hid (QOwn w2 base v (qUp s p.1 p.1.length)) := Lib.hid (HQ.out.keep (SameAt.of_grown g2 (by
        rcases hc : v.ownBlock with _ | g
        · exact .inl rfl
        · exact .inr (fun e => HAV.out g hc e.symm))))
      have HN2 : Hid (PlN w2 base v u (mP (q + (cPs (ps.take k) : Nat)) p)) := Lib.hid (by
        rw [← HS.out]
        refine ⟨HQ2.out, ?_⟩
        show IOwn w2 base u (upFrom (s + 2 * p.1.length) p.2.length)
        rw [HE.out.1]; exact o2)
      have G2 : GrB (InV [v, u]) wr w2 := G1.out.trans ((GrB.of_grown g2).mono (fun g hg => ⟨u, by simp, hg⟩))
      have HH : Hid (PsN w2 base (.slice (some ⟨b, off, none⟩) n c) us (upPs q ps (k + 1)) ∧ GrB (InV (us.flatMap pC)) w w2) := Lib.hid ⟨by
        have h1 := H.out.1.mark HAP.out HU.out G2 HN2.out
        rwa [upPs_set q HP.out] at h1, H.out.2.trans (G2.mono (fun g ⟨y, hy, e⟩ => ⟨y, List.mem_flatMap.2 ⟨(v, u), List.mem_of_getElem? HU.out, by simpa [pC] using hy⟩, e⟩))⟩
      clear o2 g2 z2 e1 G2
      go_wp2_with fail
      go_roundw
      case rel => exact ⟨k + 1, s2, by go_num, by go_num, by omega, ⟨hs2a, hs2b⟩, HS2, HH⟩
      case measure => simp [intOf]; omega
    · obtain rfl : k = n := by omega
      have hlt' : decide ((k : Int) < (k : Int)) = false := by simp
      have HF : Hid (s = q + (cPs ps : Nat) ∧ upPs q ps k = mPs q ps) := Lib.hid (by
        have h1 := HS.out
        have h2 := HN.out.2
        rw [List.take_of_length_le (by omega)] at h1
        refine ⟨h1, ?_⟩
        unfold upPs
        rw [List.take_of_length_le (by omega), List.drop_of_length_le (by omega), List.append_nil])
      go_wp2_with fail
      go_ret
      exact ⟨ret_int HF.out.1, by rw [← HF.out.2]; exact H.out.1, H.out.2⟩

end Go.Proofs.Ytebebcomhdjihaa

namespace Go.Proofs.Ytebebcomhdjihaa
open Go.RowKit
set_option linter.unusedVariables false

theorem qUp_at (q : Int) (xs : List Qt) {i : Nat} (hi : i < xs.length) : (qUp q xs xs.length)[i]? = some (q + 2 * (i : Int), q + 2 * (i : Int) + 1) := by
  unfold qUp
  rw [List.drop_length, List.append_nil, List.getElem?_map, List.getElem?_range hi]; rfl

set_option maxHeartbeats 2000000 in
theorem heldQuoteS_any (w : World) (q : Int) (v : Value) (xs : List Qt) (hv : QRd w v (qUp q xs xs.length)) (hn : xs.length ≤ 1048576) (hq0 : 0 ≤ q) (hq : q ≤ 1000000000) :
    Calls Try.prog 70 #[v, .int .i64 q] w (fun e w' => e = .returned (.int .i64 (q + 2 * xs.length)) ∧ w = w') := by
  obtain ⟨A, c, rfl, hl, hm⟩ := hv.form
  rw [qUp_len q xs (Nat.le_refl _)] at hv hl ⊢
  have HV := Lib.hid hv
  clear hv
  go_enter Try.func70, Try.ntmps70
  go_wp2_with fail
  go_loop [1, 5] (fun c i => ∃ k : Nat, i = .int .i64 k ∧ c = .int .i64 (q + 2 * (k : Int)) ∧ k ≤ xs.length) (fun _ i => xs.length - (intOf i).toNat)
  case atStart => exact ⟨0, rfl, by simp, Nat.zero_le _⟩
  case round =>
    obtain ⟨k, rfl, rfl, hk⟩ := hrel
    by_cases hlt : k < xs.length
    · obtain ⟨b, off, x, rfl, -, hx, hc0, hc1⟩ := QRd.at_ HV.out hlt
      rw [qUp_at q xs hlt] at hx
      obtain rfl := Option.some.inj hx
      clear hx
      go_wp2_with fail
      go_round
      case rel => exact ⟨k + 1, by go_num, by go_num, by omega⟩
      case measure => simp [intOf]; omega
    · obtain rfl : k = xs.length := by omega
      go_wp2_with fail
      go_ret
      exact ⟨rfl, rfl⟩

set_option maxHeartbeats 2000000 in
theorem heldPlace_any {S : Nat → Prop} (w : World) (q : Int) (v u : Value) (p : Pl) (h : PlRd S w v u (mP q p)) (hs : SmPl p) (hq0 : 0 ≤ q) (hq : q ≤ 100000000) :
    Calls Try.prog 54 #[.agg #[v, u], .int .i64 q] w (fun e w' => e = .returned (.int .i64 (q + (cP p : Nat))) ∧ Below w.heap.size w w') := by
  obtain ⟨W, eW⟩ : ∃ X, w.alloc (.cells #[v, u] 26) = X := ⟨_, rfl⟩
  have f1 : Blk W (w.heap.size) 26 #[v, u] := by
    rw [← eW]
    have h0 := heap_alloc_new w (.cells #[v, u] 26)
    exact h0
  have bW : Below w.heap.size w W := by rw [← eW]; exact (Below.refl _ _).alloc (by skip; omega) _
  have nW : W.heap.size = w.heap.size + 1 := by rw [← eW]; simp
  have hP := h.below bW
  have c0 := f1.cell 0
  have c1 := f1.cell 1
  have HP := Lib.hid hP
  have HB := Lib.hid bW
  have HW := Lib.hid eW
  have hn1 := hs.two.1
  have hn2 := hs.two.2
  obtain ⟨r, hr⟩ : ∃ r, q + 2 * (p.1.length : Int) = r := ⟨_, rfl⟩
  obtain ⟨s, hs2⟩ : ∃ s, r + (p.2.length : Int) = s := ⟨_, rfl⟩
  have hr0 : 0 ≤ r := by omega
  have hr1 : r ≤ 1000000000 := by omega
  have hsn : ¬ (s < 0) := by omega
  have hrn : ¬ (r < 0) := by omega
  have HR := Lib.hid (And.intro hr hs2)
  have HS : Hid (s = q + (cP p : Nat)) := Lib.hid (by unfold cP; omega)
  clear f1 bW eW h hP hs hr hs2
  go_enter Try.func54, Try.ntmps54
  go_upto_region 1 with fail
  rw [HW.out]
  go_wp2_with fail
  refine (heldQuoteS_any W q v p.1 HP.out.1.1 hn1 hq0 (by omega)).mono ?_
  rintro e w' ⟨rfl, rfl⟩
  rw [HR.out.1]
  go_wp2_with fail
  refine (heldIntS_any W r u p.2.length (by have := HP.out.2.1; rw [← HR.out.1]; exact this) hn2 hr0 hr1).mono ?_
  rintro e w' ⟨rfl, rfl⟩
  rw [HR.out.2]
  go_wp2_with fail
  go_ret
  exact ⟨ret_int HS.out, HB.out⟩

theorem mPs_at (q : Int) (ps : List Pl) (k : Nat) (p : Pl) (h : ps[k]? = some p) : (mPs q ps)[k]? = some (mP (q + (cPs (ps.take k) : Nat)) p) := by
  have hk : k < ps.length := (List.getElem?_eq_some_iff.1 h).1
  have e : ps = ps.take k ++ p :: ps.drop (k + 1) := by
    conv => lhs; rw [← List.take_append_drop k ps]
    congr 1
    rw [List.drop_eq_getElem_cons hk]
    congr 1
    rw [List.getElem?_eq_getElem hk] at h
    exact Option.some.inj h
  conv => lhs; rw [e, mPs_app]
  rw [List.getElem?_append_right (by rw [mPs_len, List.length_take]; omega), mPs_len, List.length_take, Nat.min_eq_left (by omega), Nat.sub_self]
  rfl

set_option maxRecDepth 100000 in
set_option maxHeartbeats 4000000 in
theorem heldPlaceS_any {S : Nat → Prop} (w : World) (q : Int) (r : Value) (ps : List Pl) (h : PsRd S w r (mPs q ps)) (hs : totS ps ≤ 1048576) (hq0 : 0 ≤ q) (hq : q ≤ 10000000) :
    Calls Try.prog 55 #[r, .int .i64 q] w (fun e w' => e = .returned (.int .i64 (q + (cPs ps : Nat))) ∧ w = w') := by
  obtain ⟨A, c, rfl, hc, hm⟩ := h.form
  obtain ⟨n, hn⟩ : ∃ n, n = ps.length := ⟨_, rfl⟩
  rw [mPs_len, ← hn] at h hc ⊢
  have HP := Lib.hid h
  have HN := Lib.hid hn
  have HTS := Lib.hid hs
  clear h hn hs
  go_enter Try.func55, Try.ntmps55
  go_wp2_with fail
  go_loop [1, 5] (fun l i => ∃ (k : Nat) (s : Int), l = .int .i64 s ∧ i = .int .i64 (k : Int) ∧ k ≤ n ∧ (0 ≤ s ∧ s ≤ 100000000) ∧ Hid (s = q + (cPs (ps.take k) : Nat))) (fun _ i => n - (intOf i).toNat)
  case atStart => exact ⟨0, q, rfl, rfl, Nat.zero_le _, ⟨hq0, by omega⟩, Lib.hid (by simp [cPs])⟩
  case round =>
    obtain ⟨k, s, rfl, rfl, hk, ⟨hs0, hs1⟩, HS⟩ := hrel
    by_cases hlt : k < n
    · have hlt' : (k : Int) < (n : Int) := by omega
      have hk0 : (0 : Int) ≤ (k : Int) := by omega
      obtain ⟨b, off, v, u, p9, rfl, hbb, hp9, d0, d1, hpl⟩ := HP.out.at_ hlt
      have hkp : k < ps.length := by have := HN.out; omega
      obtain ⟨p, hp⟩ : ∃ p, ps[k]? = some p := ⟨_, List.getElem?_eq_getElem hkp⟩
      rw [mPs_at q ps k p hp] at hp9
      obtain rfl := Option.some.inj hp9
      clear hp9
      have hsp : p.1.length ≤ 1048576 ∧ p.2.length ≤ 1048576 := by
        have h1 := tot_mem (List.mem_of_getElem? hp)
        have h2 := HTS.out
        unfold tP at h1
        omega
      obtain ⟨s1, hs1e⟩ : ∃ s1, s + 2 * (p.1.length : Int) = s1 := ⟨_, rfl⟩
      have hs1a : 0 ≤ s1 := by omega
      have hs1b : s1 ≤ 1000000000 := by omega
      have hs1n : ¬ (s1 < 0) := by omega
      obtain ⟨s2, hs2e⟩ : ∃ s2, s1 + (p.2.length : Int) = s2 := ⟨_, rfl⟩
      have HS2 : Hid (s2 = q + (cPs (ps.take (k + 1)) : Nat)) := Lib.hid (by have h1 := HS.out; rw [cPs_take hp]; unfold cP; omega)
      have hs2a : 0 ≤ s2 := by omega
      have hs2n : ¬ (s2 < 0) := by omega
      have hs2b : s2 ≤ 100000000 := by
        have h1 := HS2.out
        have h2 := cPs_le (ps.take (k + 1))
        have h3 := tot_le ps (k + 1)
        have h4 := HTS.out
        omega
      have HE := Lib.hid (And.intro hs1e hs2e)
      have HQ : Hid (QRd w v (qUp s p.1 p.1.length)) := Lib.hid (by rw [HS.out]; exact hpl.1.1)
      have HI : Hid (IRd w u (upFrom s1 p.2.length)) := Lib.hid (by have h1 := hpl.2.1; rw [← hs1e, HS.out]; exact h1)
      have hq1 := hsp.1
      have hq2 := hsp.2
      clear hpl hsp hs1e hs2e hp hbb
      go_wp2_with fail
      refine (heldQuoteS_any w s v p.1 HQ.out hq1 hs0 (by omega)).mono ?_
      rintro e w' ⟨rfl, rfl⟩
      rw [HE.out.1]
      go_wp2_with fail
      refine (heldIntS_any w s1 u p.2.length HI.out hq2 hs1a hs1b).mono ?_
      rintro e w' ⟨rfl, rfl⟩
      rw [HE.out.2]
      go_wp2_with fail
      go_round
      case rel => exact ⟨k + 1, s2, by go_num, by go_num, by omega, ⟨hs2a, hs2b⟩, HS2⟩
      case measure => simp [intOf]; omega
    · obtain rfl : k = n := by omega
      have hlt' : decide ((k : Int) < (k : Int)) = false := by simp
      have HF : Hid (s = q + (cPs ps : Nat)) := Lib.hid (by
        have h1 := HS.out
        have h2 := HN.out
        rwa [List.take_of_length_le (by omega)] at h1)
      go_wp2_with fail
      go_ret
      exact ⟨ret_int HF.out, rfl⟩

def mD (q : Int) (d : Dk) : Dk := (mP q d.1, mPs (q + (cP d.1 : Nat)) d.2)

def cD (d : Dk) : Nat := cP d.1 + cPs d.2

def MkDk (base : Nat) (q : Int) (v u r : Value) (us : List (Value × Value)) (d : Dk) (w : World) (e : Ending) (w' : World) : Prop := e = .returned (.int .i64 (q + (cD d : Nat))) ∧ (PlN w' base v u (mP q d.1) ∧ PsN w' base r us (mPs (q + (cP d.1 : Nat)) d.2)) ∧ GrB (InV (v :: u :: us.flatMap pC)) w w'

set_option maxHeartbeats 4000000 in
theorem markDesk_any (w : World) (base : Nat) (q : Int) (v u r : Value) (us : List (Value × Value)) (d : Dk) (h : PlN w base v u d.1) (k : PsN w base r us d.2) (ha : (v :: u :: r :: us.flatMap pC).Pairwise Ap) (hs : SmDk d) (hq0 : 0 ≤ q) (hq : q ≤ 1000000) :
    Calls Try.prog 29 #[.agg #[v, u, r], .int .i64 q] w (MkDk base q v u r us d w) := by
  obtain ⟨W, eW⟩ : ∃ X, w.alloc (.cells #[v, u, r] 29) = X := ⟨_, rfl⟩
  have f1 : Blk W (w.heap.size) 29 #[v, u, r] := by
    rw [← eW]
    have h0 := heap_alloc_new w (.cells #[v, u, r] 29)
    exact h0
  have bW : Below w.heap.size w W := by rw [← eW]; exact (Below.refl _ _).alloc (by skip; omega) _
  have nW : W.heap.size = w.heap.size + 1 := by rw [← eW]; simp
  have hP := h.below bW
  have hK := k.below bW
  have F1 := Lib.hid f1
  have c0 := f1.cell 0
  have c1 := f1.cell 1
  have HP := Lib.hid hP
  have HK := Lib.hid hK
  have HB := Lib.hid bW
  have HW := Lib.hid eW
  have HA := Lib.hid ha
  have HS := Lib.hid hs
  have HG := Lib.hid (And.intro h.ge k.blocks)
  clear f1 bW eW h hP hK k ha hs
  obtain ⟨s, hse⟩ : ∃ s, q + (cP d.1 : Nat) = s := ⟨_, rfl⟩
  have hcp : (cP d.1 : Nat) ≤ 2097152 := by
    have h1 := HS.out
    unfold SmDk tP at h1
    unfold cP; omega
  have hs0 : 0 ≤ s := by omega
  have hs1 : s ≤ 10000000 := by omega
  have HE := Lib.hid hse
  clear hse hcp
  go_enter Try.func29, Try.ntmps29
  go_upto_region 1 with fail
  rw [HW.out]
  go_wp2_with fail
  refine (markPlace_any W base q v u d.1 HP.out (by
    have h1 := (List.pairwise_cons.1 HA.out).1 u (by simp)
    exact h1) HS.out.parts.1 hq0 (by omega)).mono ?_
  rintro e w1 ⟨rfl, o1, g1⟩
  rw [HE.out]
  have z1 := g1.size
  have hvu : ∀ x ∈ r :: us.flatMap pC, ∀ g, x.ownBlock = some g → ¬ InV [v, u] g := fun x hx => InV.not (fun y hy => by
    simp only [List.mem_cons, List.not_mem_nil, or_false] at hy
    have h1 := List.pairwise_cons.1 HA.out
    have h2 := List.pairwise_cons.1 h1.2
    rcases hy with rfl | rfl
    · exact h1.1 x (List.mem_cons_of_mem _ hx)
    · exact h2.1 x hx)
  have HK1 := Lib.hid (HK.out.touch g1 (hvu r (by simp)) (fun x hx => hvu x (by simp [hx])))
  have HP1 := Lib.hid o1
  have G1 : Hid (GrB (InV (v :: u :: us.flatMap pC)) w w1) := Lib.hid (((GrB.of_below HB.out).mono (fun _ hf => hf.elim)).trans (g1.mono (fun g ⟨y, hy, e⟩ => ⟨y, by simp only [List.mem_cons, List.not_mem_nil, or_false] at hy; rcases hy with rfl | rfl <;> simp, e⟩)))
  have F2 : Blk w1 w.heap.size 29 #[v, u, r] := F1.out.more (g1.block _ F1.out.lt (fun ⟨y, hy, e⟩ => by
    simp only [List.mem_cons, List.not_mem_nil, or_false] at hy
    rcases hy with rfl | rfl
    · have := (HG.out.1.1 _ e).2; omega
    · have := (HG.out.1.2 _ e).2; omega))
  clear o1 g1 hvu c0 c1
  have c2 := F2.cell 2
  clear F2
  go_wp2_with fail
  refine (markPlaceS_any w1 base s r us d.2 HK1.out (List.pairwise_cons.1 (List.pairwise_cons.1 HA.out).2).2 HS.out.parts.2.1 (by have h1 := HS.out; unfold SmDk at h1; omega) hs0 hs1).mono ?_
  rintro e w2 ⟨rfl, o2, g2⟩
  have HP2 : Hid (PlN w2 base v u (mP q d.1)) := Lib.hid (by
    have h1 := List.pairwise_cons.1 HA.out
    have h2 := List.pairwise_cons.1 h1.2
    exact HP1.out.touch g2 (InV.not (fun y hy => (h1.1 y (by simp [hy])).symm)) (InV.not (fun y hy => (h2.1 y (by simp [hy])).symm)))
  have HK2 : Hid (PsN w2 base r us (mPs (q + (cP d.1 : Nat)) d.2)) := Lib.hid (by rw [HE.out]; exact o2)
  have G2 : Hid (GrB (InV (v :: u :: us.flatMap pC)) w w2) := Lib.hid (G1.out.trans (g2.mono (fun g ⟨y, hy, e⟩ => ⟨y, by simp [hy], e⟩)))
  obtain ⟨t, ht⟩ : ∃ t, s + (cPs d.2 : Nat) = t := ⟨_, rfl⟩
  rw [ht]
  have HT : Hid (t = q + (cD d : Nat)) := Lib.hid (by have := HE.out; unfold cD; omega)
  clear o2 g2 c2 ht
  go_wp2_with fail
  go_ret
  exact ⟨ret_int HT.out, ⟨HP2.out, HK2.out⟩, G2.out⟩

set_option maxHeartbeats 4000000 in
theorem heldDesk_any {S : Nat → Prop} (w : World) (q : Int) (v u r : Value) (d : Dk) (h : DkRd S w v u r (mD q d)) (hs : SmDk d) (hq0 : 0 ≤ q) (hq : q ≤ 1000000) :
    Calls Try.prog 30 #[.agg #[v, u, r], .int .i64 q] w (fun e w' => e = .returned (.int .i64 (q + (cD d : Nat))) ∧ Below w.heap.size w w') := by
  obtain ⟨W, eW⟩ : ∃ X, w.alloc (.cells #[v, u, r] 29) = X := ⟨_, rfl⟩
  have f1 : Blk W (w.heap.size) 29 #[v, u, r] := by
    rw [← eW]
    have h0 := heap_alloc_new w (.cells #[v, u, r] 29)
    exact h0
  have bW : Below w.heap.size w W := by rw [← eW]; exact (Below.refl _ _).alloc (by skip; omega) _
  have nW : W.heap.size = w.heap.size + 1 := by rw [← eW]; simp
  have hP := h.below bW
  have F1 := Lib.hid f1
  have c0 := f1.cell 0
  have c1 := f1.cell 1
  have HP := Lib.hid hP
  have HB := Lib.hid bW
  have HW := Lib.hid eW
  have HS := Lib.hid hs
  clear f1 bW eW h hP hs
  obtain ⟨s, hse⟩ : ∃ s, q + (cP d.1 : Nat) = s := ⟨_, rfl⟩
  have hcp : (cP d.1 : Nat) ≤ 2097152 := by
    have h1 := HS.out
    unfold SmDk tP at h1
    unfold cP; omega
  have hs0 : 0 ≤ s := by omega
  have hs1 : s ≤ 10000000 := by omega
  have hsn : ¬ (s < 0) := by omega
  obtain ⟨t, ht⟩ : ∃ t, s + (cPs d.2 : Nat) = t := ⟨_, rfl⟩
  have htn : ¬ (t < 0) := by omega
  have HE := Lib.hid (And.intro hse ht)
  have HT : Hid (t = q + (cD d : Nat)) := Lib.hid (by unfold cD; omega)
  clear hse hcp ht
  go_enter Try.func30, Try.ntmps30
  go_upto_region 1 with fail
  rw [HW.out]
  go_wp2_with fail
  refine (heldPlace_any W q v u d.1 HP.out.1 HS.out.parts.1 hq0 (by omega)).mono ?_
  rintro e w1 ⟨rfl, b1⟩
  rw [HE.out.1]
  have HP1 := Lib.hid (HP.out.2.below b1)
  have HB1 := Lib.hid (below_step HB.out b1 HB.out.size)
  have F2 := F1.out.below15 b1
  clear b1 c0 c1
  have c2 := F2.cell 2
  clear F2
  go_wp2_with fail
  refine (heldPlaceS_any w1 s r d.2 (by have h1 := HP1.out; rw [← HE.out.1]; exact h1) (by have h1 := HS.out; unfold SmDk at h1; omega) hs0 hs1).mono ?_
  rintro e w' ⟨rfl, rfl⟩
  rw [HE.out.2]
  go_wp2_with fail
  go_ret
  exact ⟨ret_int HT.out, HB1.out⟩

end Go.Proofs.Ytebebcomhdjihaa

namespace Go.Proofs.Ytebebcomhdjihaa
open Go.RowKit
set_option linter.unusedVariables false

def LeftIs (xs : List Int) (k : Nat) (n : Int) : Prop := (∀ y ∈ xs.take k, 0 ≤ y ∧ y ≤ 36) ∧ n = 36 - (xs.take k).sum ∧ 0 ≤ n ∧ n ≤ 36

theorem LeftIs.step {xs : List Int} {k : Nat} {n x : Int} (h : LeftIs xs k n) (hx : xs[k]? = some x) (h0 : 0 ≤ x) (h1 : x ≤ n) : LeftIs xs (k + 1) (n - x) := by
  obtain ⟨a, b, c, d⟩ := h
  refine ⟨allm_take hx ((inB_iff _ _ _).2 (by omega)) a, ?_, by omega, by omega⟩
  rw [sum_take hx]; omega

theorem on_next {m : List Int} (hm : Grs m) {k : Nat} {x : Int} (hx : m[k]? = some x) (e : Int) :
    ((bitI e k == 1) = true → onI (m.take k) e + x = onI (m.take (k + 1)) e) ∧ ((bitI e k == 1) = false → onI (m.take k) e = onI (m.take (k + 1)) e) := by
  have h1 := onI_take hx e
  rcases bitI_01 e k with h | h
  · rw [h] at h1; rw [h]
    refine ⟨fun h2 => by simp at h2, fun _ => by rw [h1]; omega⟩
  · rw [h] at h1; rw [h]
    refine ⟨fun _ => by rw [h1]; omega, fun h2 => by simp at h2⟩

set_option maxHeartbeats 2000000 in
theorem implGrains_any (w : World) (v : Value) (m : List Int) (e : Int) (hv : IRd w v m) (hm : Grs m) (e1 : 0 ≤ e) (e2 : e ≤ 15) :
    Calls Try.prog 103 #[v, .int .i64 e] w fun r w' => r = .returned (.int .i64 (onI m e)) ∧ w = w' := by
  obtain ⟨A, c, rfl, hl, hmx, -⟩ := id hv
  have HV := Lib.hid hv
  have HM := Lib.hid hm
  have hm4 := hm.2
  clear hv hm
  go_enter Try.func103, Try.ntmps103
  go_wp2_with fail
  go_loop [5, 10] (fun t i => ∃ (k : Nat) (n : Int), i = .int .i64 (k : Int) ∧ k ≤ m.length ∧ t = .int .i64 n ∧ Hid (n = onI (m.take k) e)) (fun _ i => m.length - (intOf i).toNat)
  case atStart => exact ⟨0, 0, rfl, Nat.zero_le _, rfl, Lib.hid (by simp [onI])⟩
  case round =>
    obtain ⟨k, n, rfl, hk, rfl, HN⟩ := hrel
    by_cases hlt : k < m.length
    · obtain ⟨b, off, x, rfl, -, hx, hcx⟩ := HV.out.at_ hlt
      have HX := Lib.hid (on_next HM.out hx e)
      obtain ⟨x1, x2⟩ := HM.out.1 x (List.mem_of_getElem? hx)
      obtain ⟨n1, n2⟩ : 0 ≤ n ∧ n ≤ 144 := by rw [HN.out]; exact grs_on HM.out e k
      clear hx
      rcases Bool.eq_false_or_eq_true (bitI e k == 1) with hb | hb
      all_goals
        have HB1 := Lib.hid hb
        go_wp2_with (go_at_call 105; refine (hasQ_any _ _ e1 e2 (by omega) _).mono ?_; rintro r w' ⟨rfl, rfl⟩)
        go_round
        case rel => exact ⟨k + 1, _, by go_num, by omega, rfl, Lib.hid (by rw [HN.out]; first | exact HX.out.1 HB1.out | exact HX.out.2 HB1.out)⟩
        case measure => simp [intOf]; omega
    · go_wp2_with fail
      go_ret
      exact ⟨ret_int (by rw [HN.out, List.take_of_length_le (by omega)]), rfl⟩

end Go.Proofs.Ytebebcomhdjihaa

namespace Go.Proofs.Ytebebcomhdjihaa
open Go.RowKit
set_option linter.unusedVariables false

def fitF (B : Nat) : Value := .func (.func 102) #[] #[.pointer (some ⟨B, 0, none⟩)]

set_option maxHeartbeats 4000000 in
theorem fit1_any (W : World) (so : Bool) (q : Qt) (B : Nat) (v : Value) (m : List Int) (hB : W.cell? ⟨B, 0, none⟩ = some v) (hv : IRd W v m) (hm : Grs m) (hq : (0 ≤ q.1 ∧ q.1 ≤ 15) ∧ 0 ≤ q.2 ∧ q.2 ≤ 6) :
    Calls Try.prog 102 #[.bool so, qV q, .pointer (some ⟨B, 0, none⟩)] W fun r W' => r = .returned (.bool (so && (onI m q.1 * 6 == q.2 * 36))) ∧ Below W.heap.size W W' := by
  obtain ⟨e, p⟩ := q
  unfold qV
  obtain ⟨⟨e1, e2⟩, p1, p2⟩ := hq
  have e1 : 0 ≤ e := e1
  have e2 : e ≤ 15 := e2
  have p1 : 0 ≤ p := p1
  have p2 : p ≤ 6 := p2
  have hlt : B < W.heap.size := World.block_lt_of_cell? W _ hB
  have HLT := Lib.hid hlt
  have HBw : Hid (Below W.heap.size W (W.alloc (.cells #[.int .i64 e, .int .i64 p] 64))) := Lib.hid ((Below.refl _ _).alloc (Nat.le_refl _) _)
  have HC : Hid ((W.alloc (.cells #[.int .i64 e, .int .i64 p] 64)).cell? ⟨W.heap.size, 0, none⟩ = some (.int .i64 e) ∧ (W.alloc (.cells #[.int .i64 e, .int .i64 p] 64)).cell? ⟨W.heap.size, 1, none⟩ = some (.int .i64 p)) := Lib.hid (box_cells (W := W) (q := (e, p)) (Below.refl _ _))
  have HCB : Hid ((W.alloc (.cells #[.int .i64 e, .int .i64 p] 64)).cell? ⟨B, 0, none⟩ = some v) := Lib.hid ((HBw.out.cell (p := ⟨B, 0, none⟩) hlt).trans hB)
  have HV := Lib.hid (hv.keep (SameAt.of_below HBw.out))
  have HM := Lib.hid hm
  clear hB hv hm hlt
  obtain ⟨N, hN⟩ : ∃ N, onI m e = N := ⟨_, rfl⟩
  obtain ⟨n1, n2⟩ : 0 ≤ N ∧ N ≤ 144 := by
    have := grs_on HM.out e m.length
    rw [List.take_length, hN] at this
    exact this
  have HNN := Lib.hid hN
  clear hN
  have hw6 : IntKind.i64.wrap (N * 6) = N * 6 := IntWalk.i64_in _ (by omega)
  have hw36 : IntKind.i64.wrap (p * 36) = p * 36 := IntWalk.i64_in _ (by omega)
  cases so
  · go_enter Try.func102, Try.ntmps102
    go_wp2_with fail
    generalize W.alloc (.cells #[.int .i64 e, .int .i64 p] 64) = w1 at HBw HC HCB HV ⊢
    go_region
    go_wp2_with fail
    go_ret
    exact ⟨ret_bool rfl, HBw.out.drew⟩
  · rcases Bool.eq_false_or_eq_true (N * 6 == p * 36) with ht | ht
    all_goals
      have HT := Lib.hid ht
      have ht3 := ht
      rw [← hw6, ← hw36] at ht3
      go_enter Try.func102, Try.ntmps102
      go_wp2_with fail
      generalize W.alloc (.cells #[.int .i64 e, .int .i64 p] 64) = w1 at HBw HC HCB HV ⊢
      go_region_held3 (fun w' => w'.cell? ⟨B, 0, none⟩ = some v ∧ w'.cell? ⟨W.heap.size, 0, none⟩ = some (.int .i64 e) ∧ w'.cell? ⟨W.heap.size, 1, none⟩ = some (.int .i64 p)) (exact ⟨HCB.out, HC.out⟩) (first
        | (go_at_call 103; refine (implGrains_any w1.drew _ m e HV.out HM.out e1 e2).mono ?_; rintro r w3 ⟨rfl, rfl⟩; rw [HNN.out]))
      all_goals
        go_wp2_with fail
        go_ret
        exact ⟨ret_bool (by rw [Bool.true_and]; show _ = (onI m e * 6 == p * 36); rw [HNN.out]; exact HT.out.symm), HBw.out.drew⟩

theorem fit_step {m : List Int} {qs : List Qt} {k : Nat} {q : Qt} (hx : qs[k]? = some q) : fitI m (qs.take (k + 1)) = (fitI m (qs.take k) && (onI m q.1 * 6 == q.2 * 36)) := by
  rw [fitI, fitI, List.take_add_one, hx]
  simp

set_option maxHeartbeats 4000000 in
theorem foldFit_any (w : World) (u : Value) (qs : List Qt) (B : Nat) (v : Value) (m : List Int) (hu : QRd w u qs) (hB : w.cell? ⟨B, 0, none⟩ = some v) (hv : IRd w v m) (hm : Grs m) (hq : Qts qs) :
    Calls Try.prog 101 #[u, .bool true, fitF B] w (BoolPost (fitI m qs) w) := by
  obtain ⟨A, c, rfl, hl, hmx⟩ := hu.form
  have hlt : B < w.heap.size := World.block_lt_of_cell? w _ hB
  have HK : Hid (∀ wr o, Below w.heap.size w wr → (wr.alloc o).cell? ⟨B, 0, none⟩ = some v ∧ IRd (wr.alloc o) v m) := Lib.hid (fun wr o hb => by
    have hb2 := hb.alloc hb.size o
    exact ⟨(hb2.cell (p := ⟨B, 0, none⟩) hlt).trans hB, hv.keep (SameAt.of_below hb2)⟩)
  have HU := Lib.hid hu
  have HM := Lib.hid hm
  have HQ := Lib.hid hq
  clear hu hm hq hB hv hlt
  unfold fitF
  go_enter Try.func101, Try.ntmps101
  go_wp2_with fail
  go_loopw [1, 11] (fun t i wr => ∃ (k : Nat) (b : Bool), i = .int .i64 (k : Int) ∧ k ≤ qs.length ∧ t = .bool b ∧ Hid (b = fitI m (qs.take k)) ∧ Hid (Below w.heap.size w wr)) (fun _ i _ => qs.length - (intOf i).toNat)
  case atStart => exact ⟨0, true, rfl, Nat.zero_le _, rfl, Lib.hid (by simp [fitI]), Lib.hid (Below.refl _ _)⟩
  case round =>
    obtain ⟨k, t, rfl, hk, rfl, HN, HB⟩ := hrel
    by_cases hlt : k < qs.length
    · obtain ⟨b, off, ⟨e, p⟩, rfl, -, hx, hc0, hc1⟩ := QRd.at_ (HU.out.keep (SameAt.of_below HB.out)) hlt
      have HX := Lib.hid hx
      clear hx
      have HE := Lib.hid (HQ.out _ (List.mem_of_getElem? HX.out))
      go_wp2_with fail
      refine (fit1_any _ t (e, p) B v m (HK.out wr _ HB.out).1 (HK.out wr _ HB.out).2 HM.out HE.out).mono ?_
      rintro r w2 ⟨rfl, b2⟩
      have HB2 : Hid (Below w.heap.size w w2) := Lib.hid (below_step (HB.out.alloc HB.out.size _) b2 (by simp; have := HB.out.size; omega))
      clear b2 hc0 hc1
      obtain ⟨t2, ht2⟩ : ∃ t2, (t && (onI m (e, p).1 * 6 == (e, p).2 * 36)) = t2 := ⟨_, rfl⟩
      rw [ht2]
      have HT2 := Lib.hid ht2
      clear ht2
      go_wp2_with fail
      go_roundw
      case rel => exact ⟨k + 1, t2, by go_num, by omega, rfl, Lib.hid (by rw [fit_step HX.out, ← HN.out]; exact HT2.out.symm), HB2⟩
      case measure => simp [intOf]; omega
    · go_wp2_with fail
      go_ret
      exact ⟨ret_bool (by have := HN.out; rw [List.take_of_length_le (by omega)] at this; exact this), HB.out⟩

set_option maxHeartbeats 4000000 in
theorem implFits_any (w : World) (v u : Value) (m : List Int) (qs : List Qt) (hv : IRd w v m) (hu : QRd w u qs) (hm : Grs m) (hq : Qts qs) :
    Calls Try.prog 91 #[v, u] w (BoolPost (fitI m qs) w) := by
  obtain ⟨A, c, rfl, hl, hmx, -⟩ := id hv
  have HK : Hid ((w.alloc (.cells #[.slice A m.length c] 24)).cell? ⟨w.heap.size, 0, none⟩ = some (.slice A m.length c) ∧ IRd (w.alloc (.cells #[.slice A m.length c] 24)) (.slice A m.length c) m ∧ QRd (w.alloc (.cells #[.slice A m.length c] 24)) u qs) := Lib.hid ⟨one_new w _ _ 0 _ rfl, hv.keep (SameAt.grow rfl), hu.keep (SameAt.grow rfl)⟩
  have HM := Lib.hid hm
  have HQ := Lib.hid hq
  clear hm hq hv hu
  go_enter Try.func91, Try.ntmps91
  go_wp2_with fail
  refine (foldFit_any _ u qs w.heap.size _ m HK.out.2.2 HK.out.1 HK.out.2.1 HM.out HQ.out).mono ?_
  rintro r w2 ⟨rfl, b2⟩
  have HB2 := Lib.hid (below_step ((Below.refl w.heap.size w).alloc (Nat.le_refl _) _) b2 (by simp))
  clear b2
  go_wp2_with fail
  go_ret
  exact ⟨ret_bool rfl, HB2.out⟩

end Go.Proofs.Ytebebcomhdjihaa
