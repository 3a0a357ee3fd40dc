/- Contracts on the walk over measures: spec: l4Step at any row; FirstMeasure, CountMeasures. Conditions: stated at each. -/
import Derived.Test.YtfdgelikmhaagaaMc
import Derived.Deep.LoopGhost
namespace Go.Proofs.Ytfdgelikmhaagaa
open Go.RowKit
set_option linter.unusedVariables false

theorem l4Step_any (w : World) (base : Nat) (v : Value) (l : List Nat) (h1 : 1 ≤ l.length) (h4 : l.length ≤ 4) (hs : l.sum ≤ 36) (hv : IOwn w base v (natL l)) :
    Calls Try.prog 94 #[v] w (StepPost base v l w) := by
  match l, h1, h4, hs, hv with
  | [a], h1, h4, hs, hv =>
    simp only [List.sum_cons, List.sum_nil] at hs
    exact step_1_0 w base v a (by omega) hv
  | [a, b], h1, h4, hs, hv =>
    simp only [List.sum_cons, List.sum_nil] at hs
    cases b with
    | zero =>
      exact step_2_0 w base v a (by omega) hv
    | succ b => exact step_2_1 w base v a b (by omega) (by omega) hv
  | [a, b, c], h1, h4, hs, hv =>
    simp only [List.sum_cons, List.sum_nil] at hs
    cases c with
    | zero =>
      cases b with
      | zero =>
        exact step_3_0 w base v a (by omega) hv
      | succ b => exact step_3_1 w base v a b (by omega) (by omega) hv
    | succ c => exact step_3_2 w base v a b c (by omega) (by omega) (by omega) hv
  | [a, b, c, d], h1, h4, hs, hv =>
    simp only [List.sum_cons, List.sum_nil] at hs
    cases d with
    | zero =>
      cases c with
      | zero =>
        cases b with
        | zero =>
          exact step_4_0 w base v a (by omega) hv
        | succ b => exact step_4_1 w base v a b (by omega) (by omega) hv
      | succ c => exact step_4_2 w base v a b c (by omega) (by omega) (by omega) hv
    | succ d => exact step_4_3 w base v a b c d (by omega) (by omega) (by omega) (by omega) hv

/-- where the walk over the ways to lay g grains stands: at the d-th, or past the last -/
def WkRel (B : World) (n g : Nat) (v : Value) (d : Nat) (t : Bool) (wr : World) : Prop :=
  Below B.heap.size B wr ∧ ∃ l, IOwn wr B.heap.size v (natL l) ∧ (t = true → (lay n g)[d]? = some l) ∧ (t = false → (lay n g).length = d)

theorem lay_facts {n g d : Nat} {l : List Nat} (h1 : 1 ≤ n) (h : (lay n g)[d]? = some l) : l.length = n ∧ l.sum = g := by
  obtain ⟨k, rfl⟩ : ∃ k, n = k + 1 := ⟨n - 1, by omega⟩
  exact (mem_lay k g l).1 (List.mem_of_getElem? h)

theorem WkRel.keep {B wr w' : World} {n g d : Nat} {v : Value} {t : Bool} (h : WkRel B n g v d t wr) (hb : Below wr.heap.size wr w') : WkRel B n g v d t w' := by
  obtain ⟨h1, l, h2, h3, h4⟩ := h
  exact ⟨below_step h1 hb h1.size, l, h2.keep (SameAt.of_below hb), h3, h4⟩

theorem WkRel.start {B w' : World} {n g : Nat} {v : Value} (h1 : 1 ≤ n) (o : IOwn w' B.heap.size v (natL (firstL n g))) (hb : Below B.heap.size B w') : WkRel B n g v 0 true w' := by
  obtain ⟨k, rfl⟩ : ∃ k, n = k + 1 := ⟨n - 1, by omega⟩
  exact ⟨hb, _, o, fun _ => lay_first k g, fun h => by cases h⟩

/-- a step -/
theorem WkRel.step {B wr w' : World} {n g d : Nat} {v : Value} {l : List Nat} {e : Ending} (h1 : 1 ≤ n) (h4 : n ≤ 4) (hg : g = 36 ∨ g = 18 ∨ g = 12 ∨ g = 6) (hb : Below B.heap.size B wr) (hd : (lay n g)[d]? = some l)
    (h : StepPost B.heap.size v l wr e w') : ∃ t, e = .returned (.bool t) ∧ WkRel B n g v (d + 1) t w' := by
  obtain ⟨t, l', rfl, hs, -, o, hgr, hz⟩ := h
  have hc := chain_at (chain_of h1 h4 hg) hd
  have hlt : d < (lay n g).length := (List.getElem?_eq_some_iff.1 hd).1
  refine ⟨t, rfl, hb.grown hgr hb.size (fun k hk => (o.ge k hk).1), l', o, fun ht => ?_, fun ht => ?_⟩
  · subst ht; rw [← hc]; exact hs
  · subst ht
    have : (lay n g)[d + 1]? = none := by rw [← hc]; exact hs
    have := List.getElem?_eq_none_iff.1 this
    omega

theorem find_at {α : Type} {p : α → Bool} {L : List α} {d : Nat} {l : α} (h : ∀ j, j < d → ∀ x, L[j]? = some x → p x = false) (hd : L[d]? = some l) (hp : p l = true) : L.find? p = some l := by
  induction L generalizing d with
  | nil => simp at hd
  | cons x L ih =>
    cases d with
    | zero => simp at hd; subst hd; rw [List.find?_cons, hp]
    | succ d =>
      have hx := h 0 (by omega) x rfl
      rw [List.find?_cons, hx]
      exact ih (d := d) (fun j hj y hy => h (j + 1) (Nat.succ_lt_succ hj) y (by simpa using hy)) (by simpa using hd)

theorem find_none {α : Type} {p : α → Bool} {L : List α} (h : ∀ j, j < L.length → ∀ x, L[j]? = some x → p x = false) : L.find? p = none := by
  rw [List.find?_eq_none]
  intro x hx
  obtain ⟨j, hj, e⟩ := List.getElem_of_mem hx
  have := h j hj x (by rw [← e]; exact List.getElem?_eq_getElem hj)
  simp [this]

def firstB (n : Int) (qs : List Qt) : Bool := bokB n qs && (firstFit n.toNat qs).isSome

def firstR (n : Int) (qs : List Qt) : List Int := if bokB n qs = true then ((firstFit n.toNat qs).map natL).getD [] else []

theorem first_no {n : Int} {qs : List Qt} (h : bokB n qs = false) : firstB n qs = false ∧ firstR n qs = [] := by
  constructor
  · rw [firstB, h]; rfl
  · rw [firstR, h]; rfl

theorem first_at {n : Nat} {qs : List Qt} (h : bokB (n : Int) qs = true) {d : Nat} {l : List Nat} (hno : ∀ j, j < d → ∀ x, (lay n 36)[j]? = some x → fitI (natL x) qs = false) (hd : (lay n 36)[d]? = some l) (hp : fitI (natL l) qs = true) :
    firstB n qs = true ∧ firstR n qs = natL l := by
  have hf : firstFit n qs = some l := find_at hno hd hp
  rw [firstB, firstR, h, Int.toNat_natCast, hf]
  exact ⟨rfl, rfl⟩

theorem first_none {n : Nat} {qs : List Qt} (h : bokB (n : Int) qs = true) (hno : ∀ j, j < (lay n 36).length → ∀ x, (lay n 36)[j]? = some x → fitI (natL x) qs = false) : firstB n qs = false ∧ firstR n qs = [] := by
  have hf : firstFit n qs = none := find_none hno
  rw [firstB, firstR, h, Int.toNat_natCast, hf]
  exact ⟨rfl, rfl⟩

set_option maxHeartbeats 4000000 in
theorem specFirstMeasure_any (w : World) (n : Int) (v : Value) (qs : List Qt) (hv : QRd w v qs) :
    Calls Try.prog 42 #[.int .i64 n, v] w (RowOk w.heap.size (firstR n qs) (firstB n qs) w) := by
  have HV := Lib.hid hv
  clear hv
  rcases Bool.eq_false_or_eq_true (bokB n qs) with h | h
  · have H := Lib.hid h
    have HQ := Lib.hid (qts_of h)
    have hw1 : 1 ≤ n := ((bokB_iff _ _).1 h).1.1
    have hw2 : n ≤ 4 := ((bokB_iff _ _).1 h).1.2
    obtain ⟨m, rfl⟩ : ∃ m : Nat, n = m := ⟨n.toNat, by omega⟩
    have hm1 : 1 ≤ m := by omega
    have hm4 : m ≤ 4 := by omega
    go_enter Try.func42, Try.ntmps42
    go_wp2_with fail
    refine (specBookOk_any _ _ _ _ HV.out).mono ?_
    rintro r w2 ⟨rfl, b2⟩
    rw [h]
    have HB2 := Lib.hid b2
    have HV2 := Lib.hid (HV.out.keep (SameAt.of_below b2))
    clear b2 h
    go_wp2_with fail
    refine (l4First_any w2 m 36 hm1 hm4).mono ?_
    rintro r w3 ⟨u, rfl, o3, b3⟩
    have H0 := Lib.hid (WkRel.start hm1 o3 b3)
    clear o3 b3
    obtain ⟨L, hL⟩ : ∃ L, (lay m 36).length = L := ⟨_, rfl⟩
    have HL := Lib.hid hL
    clear hL
    go_wp2_with fail
    go_loopg [7] (L + 1) (fun gk s wr => ∃ (d : Nat) (t : Bool), gk = L + 1 - d ∧ d ≤ L ∧ s = .bool t ∧ Hid (WkRel w2 m 36 u d t wr) ∧ Hid (∀ j, j < d → ∀ x, (lay m 36)[j]? = some x → fitI (natL x) qs = false))
    case atStart => exact ⟨0, true, by omega, Nat.zero_le _, rfl, H0, Lib.hid (fun j hj => absurd hj (Nat.not_lt_zero _))⟩
    case round =>
      obtain ⟨d, t, hgk, hd, rfl, HW, HN⟩ := hrel
      clear H0
      cases t
      · have HF := Lib.hid (first_none H.out (by have h1 := HN.out; obtain ⟨-, l, -, -, h2⟩ := HW.out; rw [h2 rfl]; exact h1))
        have HB := Lib.hid (below_step HB2.out HW.out.1 HB2.out.size)
        go_wp2_with fail
        go_ret2
        exact rowOk_ret HF.out.1 HF.out.2 (lit_own _ _ HB.out.size) (HB.out.alloc HB.out.size _)
      · obtain ⟨-, l, ol, hl, -⟩ := id HW.out
        have hl := hl rfl
        have HLL := Lib.hid hl
        have hdL : d < L := by rw [← HL.out]; exact (List.getElem?_eq_some_iff.1 hl).1
        obtain ⟨hf1, hf2⟩ := lay_facts hm1 hl
        have HOL := Lib.hid ol
        have HG : Hid (Grs (natL l)) := Lib.hid (grs_of ((mea_lay (natL l)).2 ⟨by rw [natL_len]; omega, l, by rw [natL_len, hf1]; exact List.mem_of_getElem? hl, rfl⟩))
        clear hl ol
        obtain ⟨fb, hfb⟩ : ∃ fb, fitI (natL l) qs = fb := ⟨_, rfl⟩
        have HFB := Lib.hid hfb
        clear hfb
        go_wp2_with fail
        refine (l4Fits_any wr u v (natL l) qs HOL.out.rd (HV2.out.keep (SameAt.of_below HW.out.1)) HG.out HQ.out).mono ?_
        rintro r w5 ⟨rfl, b5⟩
        rw [HFB.out]
        have HW5 := Lib.hid (HW.out.keep b5)
        have HOL5 := Lib.hid (HOL.out.keep (SameAt.of_below b5))
        have HB5 := Lib.hid (below_step HB2.out HW5.out.1 HB2.out.size)
        clear b5
        cases fb
        · go_wp2_with fail
          refine (l4Step_any w5 w2.heap.size u l (by omega) (by omega) (by omega) HOL5.out).mono ?_
          intro r w6 hstep
          obtain ⟨t', rfl, hW6⟩ := WkRel.step hm1 hm4 (.inl rfl) HW5.out.1 HLL.out hstep
          have HW6 := Lib.hid hW6
          clear hW6 hstep
          go_wp2_with fail
          go_roundg (L + 1 - (d + 1))
          case measure => omega
          case rel => exact ⟨d + 1, t', rfl, by omega, rfl, HW6, Lib.hid (fun j hj x hx => by
            rcases Nat.lt_succ_iff_lt_or_eq.1 hj with h1 | h1
            · exact HN.out j h1 x hx
            · subst h1
              rw [HLL.out] at hx
              obtain rfl := Option.some.inj hx
              exact HFB.out)⟩
        · have HF := Lib.hid (first_at H.out HN.out HLL.out HFB.out)
          go_wp2_with fail
          go_ret2
          exact rowOk_ret HF.out.1 HF.out.2 (HOL5.out.base HB2.out.size) HB5.out
  · have HN := Lib.hid (first_no h)
    go_enter Try.func42, Try.ntmps42
    go_wp2_with fail
    refine (specBookOk_any _ _ _ _ HV.out).mono ?_
    rintro r w2 ⟨rfl, b2⟩
    rw [h]
    have HB2 := Lib.hid b2
    clear b2
    go_wp2_with fail
    go_ret2
    exact rowOk_ret HN.out.1 HN.out.2 (lit_own _ _ HB2.out.size) (HB2.out.alloc HB2.out.size _)

end Go.Proofs.Ytfdgelikmhaagaa
