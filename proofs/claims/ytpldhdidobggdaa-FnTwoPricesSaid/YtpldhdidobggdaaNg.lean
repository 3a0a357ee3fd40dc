/- The program's walk over the measures that fit a book: its contract. Conditions: stated. -/
import Derived.RangeFuncNested
import Derived.Shelf.RegionOpen
import Derived.WalkKit
import Derived.OwnWalkIn
import Derived.TacticsInMore
import Derived.LoopNIn
import Derived.LoopIn
import Derived.Sort.LoopGhostIn
import Derived.Test.YtpldhdidobggdaaNf
import Derived.Test.YtpldhdidobggdaaNb
import Derived.Test.YtpldhdidobggdaaNc
namespace Go.Proofs.Ytpldhdidobggdaa
open Go.RowKit Go.Shelf
set_option linter.unusedVariables false
attribute [local go_sem] Oper.semAt_some

/-- all measures that fit, in their order -/
def fitAll (m : Nat) (qs : List Qt) : List (List Int) := ((lay m 36).filter fun l => fitI (natL l) qs).map natL

/-- those of the first d ways to lay the grains -/
def preN (m : Nat) (qs : List Qt) (d : Nat) : List (List Int) := (((lay m 36).take d).filter fun l => fitI (natL l) qs).map natL

theorem pre_zero (m : Nat) (qs : List Qt) : preN m qs 0 = [] := by simp [preN]

theorem pre_all {m : Nat} {qs : List Qt} {d : Nat} (h : (lay m 36).length ≤ d) : preN m qs d = fitAll m qs := by
  rw [preN, List.take_of_length_le h]; rfl

theorem pre_fit {m : Nat} {qs : List Qt} {d : Nat} {l : List Nat} (h : (lay m 36)[d]? = some l) (hf : fitI (natL l) qs = true) : preN m qs (d + 1) = preN m qs d ++ [natL l] := by
  rw [preN, preN, List.take_add_one, h, List.filter_append]
  simp [hf]

theorem pre_skip {m : Nat} {qs : List Qt} {d : Nat} {l : List Nat} (h : (lay m 36)[d]? = some l) (hf : fitI (natL l) qs = false) : preN m qs (d + 1) = preN m qs d := by
  rw [preN, preN, List.take_add_one, h, List.filter_append]
  simp [hf]

theorem pre_prefix (m : Nat) (qs : List Qt) (d : Nat) : preN m qs d <+: fitAll m qs := ((List.take_prefix d (lay m 36)).filter _).map _

/-- what lay ahead of a loop, but for block C, lies as it lay -/
def Held (w0 : World) (C : Nat) (A : World) : Prop := w0.heap.size ≤ A.heap.size ∧ ∀ k, k < w0.heap.size → k ≠ C → A.heap[k]? = w0.heap[k]?

theorem Held.below {w0 A A' : World} {C B : Nat} (h : Held w0 C A) (hb : Below B A A') (hB : w0.heap.size ≤ B) : Held w0 C A' :=
  ⟨Nat.le_trans h.1 hb.size, fun k hk hC => (hb.block k (by omega)).trans (h.2 k hk hC)⟩

theorem Held.kept {w0 A A' : World} {C l : Nat} (h : Held w0 C A) (hb : KeptBut C l A A') (hl : w0.heap.size ≤ l) : Held w0 C A' :=
  ⟨Nat.le_trans h.1 hb.1, fun k hk hC => (hb.2 k (by have := h.1; omega) hC (by omega)).trans (h.2 k hk hC)⟩

theorem Held.cell {w0 A : World} {C : Nat} (h : Held w0 C A) {p : Addr} (hp : p.block < w0.heap.size) (hC : p.block ≠ C) : A.cell? p = w0.cell? p := World.cell?_of_block (w := w0) (h.2 p.block hp hC)

/-- where the walk stands -/
def FwRel (W w0 : World) (C m : Nat) (qs : List Qt) (J : List (List Int) → World → Prop) (v : Value) (d : Nat) (t : Bool) (A : World) : Prop :=
  (∃ l, IOwn A W.heap.size v (natL l) ∧ (t = true → (lay m 36)[d]? = some l) ∧ (t = false → (lay m 36).length = d)) ∧ Held w0 C A ∧ J (preN m qs d) A ∧ W.heap.size ≤ A.heap.size

/-- a row of the walk's own through a round's body -/
theorem own_kept {A A' : World} {base C l : Nat} {v : Value} {x : List Int} (h : IOwn A base v x) (k : KeptBut C l A A') (hC : C < base) (hl : l < base) : IOwn A' base v x :=
  h.keep ⟨k.1, fun g hg hlt => k.2 g hlt (by have := (h.ge g hg).1; omega) (by have := (h.ge g hg).1; omega)⟩

/-- a step of the walk -/
theorem FwRel.step {W w0 A A' : World} {C m d : Nat} {qs : List Qt} {J : List (List Int) → World → Prop} {v : Value} {l : List Nat} {e : Ending} (m1 : 1 ≤ m) (m4 : m ≤ 4) (hd : (lay m 36)[d]? = some l)
    (ho : IOwn A W.heap.size v (natL l)) (hh : Held w0 C A) (hj : J (preN m qs (d + 1)) A) (hs : W.heap.size ≤ A.heap.size) (hws : w0.heap.size ≤ W.heap.size) (hJ : Stays W.heap.size J) (h : StepPost W.heap.size v l A e A') :
    ∃ t, e = .returned (.bool t) ∧ FwRel W w0 C m qs J v (d + 1) t A' := by
  obtain ⟨t, l', rfl, hst, -, o, hgr, hz⟩ := h
  have hc := chain_at (chain_of m1 m4 (.inl rfl)) hd
  have hlt : d < (lay m 36).length := (List.getElem?_eq_some_iff.1 hd).1
  have hb : Below W.heap.size A A' := (Below.refl _ A).grown hgr hs (fun k hk => (ho.ge k hk).1)
  refine ⟨t, rfl, ⟨l', o, fun ht => ?_, fun ht => ?_⟩, hh.below hb hws, hJ _ _ _ hj hb, by omega⟩
  · subst ht; rw [← hc]; exact hst
  · subst ht
    have : (lay m 36)[d + 1]? = none := by rw [← hc]; exact hst
    have := List.getElem?_eq_none_iff.1 this
    omega

set_option maxRecDepth 100000 in
set_option maxHeartbeats 8000000 in
theorem fitWalk_any (n : Nat) (C Bw Bb m : Nat) (u : Value) (qs : List Qt) (w0 : World) (hC1 : Bw ≠ C) (hC2 : Bb ≠ C) (hC : C < w0.heap.size)
    (hw : w0.cell? ⟨Bw, 0, none⟩ = some (.int .i64 (m : Int))) (hb : w0.cell? ⟨Bb, 0, none⟩ = some u) (hu : ∀ A, Held w0 C A → QRd A u qs) (hq : Qts qs) (m1 : 1 ≤ m) (m4 : m ≤ 4) :
    RowWalk n Try.prog 71 #[.pointer (some ⟨Bw, 0, none⟩), .pointer (some ⟨Bb, 0, none⟩)] C w0 (fitAll m qs) := by
  intro l J Jx W hW hl0 hl1 hJ hY h0
  have hWs := hW.size
  have HH : Held w0 C W := ⟨hW.size, fun k hk _ => hW.block k hk⟩
  have HB : Hid (∀ A, Held w0 C A → A.cell? ⟨Bw, 0, none⟩ = some (.int .i64 (m : Int)) ∧ A.cell? ⟨Bb, 0, none⟩ = some u ∧ QRd A u qs) := Lib.hid (fun A hA =>
    ⟨(hA.cell (p := ⟨Bw, 0, none⟩) (World.block_lt_of_cell? w0 _ hw) hC1).trans hw, (hA.cell (p := ⟨Bb, 0, none⟩) (World.block_lt_of_cell? w0 _ hb) hC2).trans hb, hu A hA⟩)
  have hcw := (HB.out W HH).1
  have HHH := Lib.hid HH
  have HQ := Lib.hid hq
  have HY := Lib.hid hY
  have HJ := Lib.hid hJ
  have HJ0 := Lib.hid h0
  have HC := Lib.hid hC
  have HL0 := Lib.hid hl0
  have HL1 := Lib.hid hl1
  have HWS := Lib.hid hWs
  clear HH hq hY hJ h0 hC hl0 hl1 hWs hW hw hb hu hC1 hC2
  refine callsIn_of_wp Try.func71 rfl trivial ?_ rfl
  simp only [Try.ntmps71, List.size_toArray, List.length_cons, List.length_nil, Nat.reduceAdd, Nat.reduceSub, Array.replicate_succ, Array.replicate_zero, List.push_toArray, List.append_toArray, List.nil_append, List.cons_append]
  gi_wp2_with fail
  refine ⟨trivial, (fun h => by cases h), (callsIn_wide.2 (leastMeasure_any W m m1 m4)).mono ?_⟩
  rintro e w3 ⟨v, rfl, o3, b3⟩
  have H0 : Hid (FwRel W w0 C m qs J v 0 true w3) := Lib.hid ⟨⟨_, o3, fun _ => by obtain ⟨k, rfl⟩ : ∃ k, m = k + 1 := ⟨m - 1, by omega⟩; exact lay_first k 36, fun h => by cases h⟩, HHH.out.below b3 HWS.out, by rw [pre_zero]; exact HJ.out _ _ _ HJ0.out b3, b3.size⟩
  clear o3 b3
  obtain ⟨L, hL⟩ : ∃ L, (lay m 36).length = L := ⟨_, rfl⟩
  have HL := Lib.hid hL
  clear hL
  gi_wp2_with fail
  gi_loopg [5] (L + 1) (fun gk s wr => ∃ (d : Nat) (t : Bool), gk = L + 1 - d ∧ d ≤ L ∧ s = .bool t ∧ Hid (FwRel W w0 C m qs J v d t wr))
  case atStart => exact ⟨0, true, by omega, Nat.zero_le _, rfl, H0⟩
  case round =>
    obtain ⟨d, t, hgk, hd, rfl, HF⟩ := hrel
    clear H0
    cases t
    · have HE : Hid (J (fitAll m qs) wr) := Lib.hid (by obtain ⟨⟨x, -, -, h2⟩, -, h3, -⟩ := HF.out; rw [← pre_all (d := d) (by rw [h2 rfl]; exact Nat.le_refl _)]; exact h3)
      gi_wp2_with fail
      go_end0
      exact ⟨⟨_, rfl⟩, .inl HE.out⟩
    · obtain ⟨⟨x, ox, hx, -⟩, hh, hj, hs⟩ := id HF.out
      have hx := hx rfl
      have HX := Lib.hid hx
      have HO := Lib.hid ox
      have HHD := Lib.hid hh
      have HJD := Lib.hid hj
      have HSZ := Lib.hid hs
      have hdL : d < L := by rw [← HL.out]; exact (List.getElem?_eq_some_iff.1 hx).1
      obtain ⟨hf1, hf2⟩ := lay_facts m1 hx
      have HF1 := Lib.hid hf1
      have HF2 := Lib.hid hf2
      have HG : Hid (Grs (natL x)) := Lib.hid (grs_of ((mea_lay (natL x)).2 ⟨by rw [natL_len]; omega, x, by rw [natL_len, hf1]; exact List.mem_of_getElem? hx, rfl⟩))
      have hcb := (HB.out wr hh).2.1
      have HU := Lib.hid (HB.out wr hh).2.2
      clear hx ox hh hj hs hf1 hf2
      obtain ⟨fb, hfb⟩ : ∃ fb, fitI (natL x) qs = fb := ⟨_, rfl⟩
      have HFB := Lib.hid hfb
      clear hfb
      gi_wp2_with fail
      refine ⟨trivial, (fun h => by cases h), (callsIn_wide.2 (implFits_any wr v u (natL x) qs HO.out.rd HU.out HG.out HQ.out)).mono ?_⟩
      rintro e w5 ⟨rfl, b5⟩
      rw [HFB.out]
      have HO5 := Lib.hid (HO.out.keep (SameAt.of_below b5))
      have HH5 := Lib.hid (HHD.out.below b5 (Nat.le_trans HWS.out HSZ.out))
      have HJ5 := Lib.hid (HJ.out _ _ _ HJD.out (b5.mono HSZ.out))
      have HS5 : Hid (W.heap.size ≤ w5.heap.size) := Lib.hid (Nat.le_trans HSZ.out b5.size)
      clear b5
      cases fb
      · gi_wp2_with fail
        refine ⟨fun _ h => (by cases h), ?_⟩
        gi_wp2_with fail
        refine ⟨trivial, (fun h => by cases h), (callsIn_wide.2 (layNext_any w5 W.heap.size v x (by have := HF1.out; omega) (by have := HF1.out; omega) (by have := HF2.out; omega) HO5.out)).mono ?_⟩
        intro e w6 hstep
        obtain ⟨t', rfl, hW6⟩ := FwRel.step (qs := qs) (J := J) (W := W) (w0 := w0) (C := C) m1 m4 HX.out HO5.out HH5.out (by rw [pre_skip HX.out HFB.out]; exact HJ5.out) HS5.out HWS.out HJ.out hstep
        have HW6 := Lib.hid hW6
        clear hW6 hstep
        gi_wp2_with fail
        gi_roundg (L + 1 - (d + 1))
        case measure => omega
        case rel => exact ⟨d + 1, t', rfl, by omega, rfl, HW6⟩
      · obtain ⟨fn, tmps, assign, body, hy, hR⟩ := HY.out _ _ _ _ HJ5.out HS5.out HO5.out (by rw [← pre_fit HX.out HFB.out]; exact pre_prefix m qs (d + 1))
        have HR := Lib.hid hR
        clear hR
        gi_wp2_with fail
        refine ⟨(fun h => by cases h), HR.out.mono ?_⟩
        rintro e w6 (⟨rfl, hj6, hk6⟩ | ⟨rfl, hx6⟩)
        · have HO6 := Lib.hid (own_kept HO5.out hk6 (Nat.lt_of_lt_of_le HC.out HWS.out) HL1.out)
          have HH6 := Lib.hid (HH5.out.kept hk6 HL0.out)
          have HJ6 := Lib.hid hj6
          have HS6 : Hid (W.heap.size ≤ w6.heap.size) := Lib.hid (Nat.le_trans HS5.out hk6.1)
          clear hj6 hk6 hy HR
          gi_wp2_with fail
          refine ⟨trivial, (fun h => by cases h), (callsIn_wide.2 (layNext_any w6 W.heap.size v x (by have := HF1.out; omega) (by have := HF1.out; omega) (by have := HF2.out; omega) HO6.out)).mono ?_⟩
          intro e w7 hstep
          obtain ⟨t', rfl, hW6⟩ := FwRel.step (qs := qs) (J := J) (W := W) (w0 := w0) (C := C) m1 m4 HX.out HO6.out HH6.out (by rw [pre_fit HX.out HFB.out]; exact HJ6.out) HS6.out HWS.out HJ.out hstep
          have HW6 := Lib.hid hW6
          clear hW6 hstep
          gi_wp2_with fail
          gi_roundg (L + 1 - (d + 1))
          case measure => omega
          case rel => exact ⟨d + 1, t', rfl, by omega, rfl, HW6⟩
        · have HX6 := Lib.hid hx6
          clear hx6 hy HR
          gi_wp2_with fail
          refine bodyPost_ret (results_none rfl _ _ _) rfl ?_
          exact ⟨⟨_, rfl⟩, .inr ⟨_, by rw [← pre_fit HX.out HFB.out]; exact pre_prefix m qs (d + 1), HX6.out⟩⟩

end Go.Proofs.Ytpldhdidobggdaa
