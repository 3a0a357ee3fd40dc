/- Contracts, facts and walks that the laws of this seat lean on, laid together by a program of ours (mkmerge.py) out of: Pb Qf Pc Ls Ln. Conditions: stated at each. -/
import Derived.Lib.SliceRun
import Derived.Test.YtebebcomhdjihaaL5
namespace Go.Proofs.Ytebebcomhdjihaa
open Go.RowKit
set_option linter.unusedVariables false

def Ap (a b : Value) : Prop := ∀ g, a.ownBlock = some g → b.ownBlock ≠ some g

theorem Ap.symm {a b : Value} (h : Ap a b) : Ap b a := fun g h1 h2 => h g h2 h1

theorem Ap.nil (b : Value) : Ap (.slice none 0 0) b := fun g h => by cases h

theorem Ap.of_lt {a b : Value} {B : Nat} (ha : ∀ g, a.ownBlock = some g → g < B) (hb : ∀ g, b.ownBlock = some g → B ≤ g) : Ap a b := fun g h1 h2 => by have := ha g h1; have := hb g h2; omega

def PlN (w : World) (base : Nat) (v u : Value) (p : Pl) : Prop := QOwn w base v p.1 ∧ IOwn w base u p.2

theorem PlN.below {w w' : World} {base : Nat} {v u : Value} {p : Pl} (h : PlN w base v u p) (hb : Below w.heap.size w w') : PlN w' base v u p := ⟨h.1.below hb, h.2.keep (SameAt.of_below hb)⟩

theorem PlN.base {w : World} {base base' : Nat} {v u : Value} {p : Pl} (h : PlN w base v u p) (hb : base' ≤ base) : PlN w base' v u p := ⟨h.1.base hb, h.2.base hb⟩

theorem PlN.ge {w : World} {base : Nat} {v u : Value} {p : Pl} (h : PlN w base v u p) : (∀ g, v.ownBlock = some g → base ≤ g ∧ g < w.heap.size) ∧ ∀ g, u.ownBlock = some g → base ≤ g ∧ g < w.heap.size := ⟨h.1.ge, h.2.ge⟩

theorem PlN.rd {w : World} {base : Nat} {v u : Value} {p : Pl} {S : Nat → Prop} (h : PlN w base v u p) (hs : ∀ g, base ≤ g → g < w.heap.size → S g) : PlRd S w v u p := pl_new h.1 h.2 hs

theorem PlN.nil (w : World) (base : Nat) : PlN w base (.slice none 0 0) (.slice none 0 0) ([], []) := ⟨GOwn.nil _ _ _ _ _, nil_own _ _⟩

def PsN (w : World) (base : Nat) (r : Value) (us : List (Value × Value)) (ps : List Pl) : Prop :=
  us.length = ps.length ∧ GOwn 26 2 pC w base r us ∧ ∀ (k : Nat) (x : Value × Value) (p : Pl), us[k]? = some x → ps[k]? = some p → PlN w base x.1 x.2 p

def DkN (w : World) (base : Nat) (v u r : Value) (d : Dk) : Prop :=
  PlN w base v u d.1 ∧ ∃ us : List (Value × Value), PsN w base r us d.2 ∧ (v :: u :: r :: us.flatMap pC).Pairwise Ap

theorem PsN.below {w w' : World} {base : Nat} {r : Value} {us : List (Value × Value)} {ps : List Pl} (h : PsN w base r us ps) (hb : Below w.heap.size w w') : PsN w' base r us ps :=
  ⟨h.1, h.2.1.below hb, fun k x p hx hp => (h.2.2 k x p hx hp).below hb⟩

theorem PsN.base {w : World} {base base' : Nat} {r : Value} {us : List (Value × Value)} {ps : List Pl} (h : PsN w base r us ps) (hb : base' ≤ base) : PsN w base' r us ps :=
  ⟨h.1, h.2.1.base hb, fun k x p hx hp => (h.2.2 k x p hx hp).base hb⟩

theorem PsN.rd {w : World} {base : Nat} {r : Value} {us : List (Value × Value)} {ps : List Pl} {S : Nat → Prop} (h : PsN w base r us ps) (hs : ∀ g, base ≤ g → g < w.heap.size → S g) : PsRd S w r ps :=
  ⟨us, h.1, ⟨h.2.1.rd pC_len, fun g hg => hs g (h.2.1.ge g hg).1 (h.2.1.ge g hg).2⟩, fun k x p hx hp => (h.2.2 k x p hx hp).rd hs⟩

theorem DkN.below {w w' : World} {base : Nat} {v u r : Value} {d : Dk} (h : DkN w base v u r d) (hb : Below w.heap.size w w') : DkN w' base v u r d := by
  obtain ⟨h1, us, h2, h3⟩ := h
  exact ⟨h1.below hb, us, h2.below hb, h3⟩

theorem DkN.base {w : World} {base base' : Nat} {v u r : Value} {d : Dk} (h : DkN w base v u r d) (hb : base' ≤ base) : DkN w base' v u r d := by
  obtain ⟨h1, us, h2, h3⟩ := h
  exact ⟨h1.base hb, us, h2.base hb, h3⟩

theorem PlN.off {w w' : World} {base g : Nat} {v u : Value} {p : Pl} (h : PlN w base v u p) (hg : w.grownBy w' (some g)) (hb : g < base) : PlN w' base v u p :=
  ⟨h.1.off hg (.inr (fun e => by have := (h.ge.1 _ e).1; omega)), iown_g.2 ((iown_g.1 h.2).off hg (.inr (fun e => by have := (h.ge.2 _ e).1; omega)))⟩

theorem DkN.off {w w' : World} {base g : Nat} {v u r : Value} {d : Dk} (h : DkN w base v u r d) (hg : w.grownBy w' (some g)) (hb : g < base) : DkN w' base v u r d := by
  obtain ⟨h1, us, ⟨h2, h3, h4⟩, h5⟩ := h
  exact ⟨h1.off hg hb, us, ⟨h2, h3.off hg (.inr (fun e => by have := (h3.ge _ e).1; omega)), fun k x p hx hp => (h4 k x p hx hp).off hg hb⟩, h5⟩

theorem DkN.rd {w : World} {base : Nat} {v u r : Value} {d : Dk} (h : DkN w base v u r d) : DkRd (fun g => base ≤ g ∧ g < w.heap.size) w v u r d := by
  obtain ⟨h1, us, h2, -⟩ := h
  exact ⟨h1.rd (fun g a b => ⟨a, b⟩), h2.rd (fun g a b => ⟨a, b⟩)⟩

theorem dkForm {S : Nat → Prop} {w : World} {v u r : Value} {d : Dk} (h : DkRd S w v u r d) : (∃ A n c, v = .slice A n c) ∧ (∃ A n c, u = .slice A n c) ∧ ∃ A n c, r = .slice A n c := by
  refine ⟨?_, ?_, ?_⟩
  · obtain ⟨x1, x2, x3, -⟩ := h.1.1.1.form; exact ⟨_, _, _, x3⟩
  · obtain ⟨x1, x2, x3, -⟩ := h.1.2.1; exact ⟨_, _, _, x3⟩
  · obtain ⟨x1, x2, x3, -⟩ := h.2.form; exact ⟨_, _, _, x3⟩

theorem DkN.nil (w : World) (base : Nat) : DkN w base (.slice none 0 0) (.slice none 0 0) (.slice none 0 0) noDk :=
  ⟨PlN.nil _ _, [], ⟨rfl, GOwn.nil _ _ _ _ _, fun k x p h => by simp at h⟩, by simp [Ap, Value.ownBlock]⟩

theorem PsN.blocks {w : World} {base : Nat} {r : Value} {us : List (Value × Value)} {ps : List Pl} (h : PsN w base r us ps) : ∀ x ∈ us.flatMap pC, ∀ g, x.ownBlock = some g → base ≤ g ∧ g < w.heap.size := by
  intro x hx g hg
  obtain ⟨y, hy, hxy⟩ := List.mem_flatMap.1 hx
  obtain ⟨k, hk, e⟩ := List.getElem_of_mem hy
  have hk2 : k < ps.length := by have := h.1; omega
  have h3 := h.2.2 k y ps[k] (by rw [List.getElem?_eq_getElem hk, e]) (List.getElem?_eq_getElem hk2)
  simp only [pC, List.mem_cons, List.not_mem_nil, or_false] at hxy
  rcases hxy with rfl | rfl
  · exact h3.ge.1 g hg
  · exact h3.ge.2 g hg

theorem PsN.snocAp {us : List (Value × Value)} {v u : Value} {B : Nat} (h : (us.flatMap pC).Pairwise Ap) (hlt : ∀ x ∈ us.flatMap pC, ∀ g, x.ownBlock = some g → g < B) (hv : ∀ g, v.ownBlock = some g → B ≤ g) (hu : ∀ g, u.ownBlock = some g → B ≤ g) (hvu : Ap v u) : ((us ++ [(v, u)]).flatMap pC).Pairwise Ap := by
  rw [List.flatMap_append]
  refine List.pairwise_append.2 ⟨h, ?_, fun a ha b hb => ?_⟩
  · simp only [List.flatMap_cons, List.flatMap_nil, List.append_nil, pC]
    exact List.Pairwise.cons (fun b hb => by obtain rfl := List.mem_singleton.1 hb; exact hvu) (List.pairwise_singleton _ _)
  · simp only [List.flatMap_cons, List.flatMap_nil, List.append_nil, pC, List.mem_cons, List.not_mem_nil, or_false] at hb
    rcases hb with rfl | rfl
    · exact Ap.of_lt (hlt a ha) hv
    · exact Ap.of_lt (hlt a ha) hu

theorem dk_ap1 {v u : Value} (h : Ap v u) : (v :: u :: (Value.slice none 0 0) :: ([] : List (Value × Value)).flatMap pC).Pairwise Ap := by
  have hn : ∀ b : Value, Ap b (.slice none 0 0) := fun b g _ e => by cases e
  refine List.Pairwise.cons (fun b hb => ?_) (List.Pairwise.cons (fun b hb => ?_) (List.pairwise_singleton _ _))
  · simp only [List.flatMap_nil, List.mem_cons, List.not_mem_nil, or_false] at hb
    rcases hb with rfl | rfl
    · exact h
    · exact hn _
  · simp only [List.flatMap_nil, List.mem_cons, List.not_mem_nil, or_false] at hb
    subst hb
    exact hn _

def PsUp (wr : World) (g B n k : Nat) (us : List (Value × Value)) (ps : List Pl) : Prop :=
  us.length = k ∧ GOwn 26 2 pC wr B (.slice (some ⟨g, 0, none⟩) n n) (us ++ List.replicate (n - k) (.slice none 0 0, .slice none 0 0)) ∧ (∀ (j : Nat) (x : Value × Value) (p : Pl), us[j]? = some x → ps[j]? = some p → PlN wr (g + 1) x.1 x.2 p) ∧ (us.flatMap pC).Pairwise Ap ∧ B ≤ g ∧ g < wr.heap.size

theorem PsUp.below {wr w' : World} {g B n k : Nat} {us : List (Value × Value)} {ps : List Pl} (h : PsUp wr g B n k us ps) (hb : Below wr.heap.size wr w') : PsUp w' g B n k us ps :=
  ⟨h.1, h.2.1.below hb, fun j x p hx hp => (h.2.2.1 j x p hx hp).below hb, h.2.2.2.1, h.2.2.2.2.1, by have := hb.size; have := h.2.2.2.2.2; omega⟩

theorem PsUp.blocks {wr : World} {g B n k : Nat} {us : List (Value × Value)} {ps : List Pl} (h : PsUp wr g B n k us ps) (hk : k ≤ ps.length) : ∀ x ∈ us.flatMap pC, ∀ b, x.ownBlock = some b → g + 1 ≤ b ∧ b < wr.heap.size := by
  intro x hx b hb
  obtain ⟨y, hy, hxy⟩ := List.mem_flatMap.1 hx
  obtain ⟨j, hj, e⟩ := List.getElem_of_mem hy
  have hj2 : j < ps.length := by have := h.1; omega
  have h3 := h.2.2.1 j y ps[j] (by rw [List.getElem?_eq_getElem hj, e]) (List.getElem?_eq_getElem hj2)
  simp only [pC, List.mem_cons, List.not_mem_nil, or_false] at hxy
  rcases hxy with rfl | rfl
  · exact h3.ge.1 b hb
  · exact h3.ge.2 b hb

theorem PsUp.step {w1 w2 : World} {g B n k : Nat} {us : List (Value × Value)} {ps : List Pl} {p : Pl} {v u : Value} (h : PsUp w1 g B n k us ps) (hk : k < n) (hl : n = ps.length) (hp : ps[k]? = some p) (hb : Below w1.heap.size w1 w2)
    (hv : QOwn w2 w1.heap.size v p.1) (hu : IOwn w2 w1.heap.size u p.2) (hvu : Ap v u) :
    PsUp ((w2.setCell ⟨g, k * 2, none⟩ v).setCell ⟨g, k * 2 + 1, none⟩ u) g B n (k + 1) (us ++ [(v, u)]) ps := by
  have hg := h.2.2.2.2.2
  have hsz := hb.size
  have h2 := h.below hb
  obtain ⟨e1, e2, e3, e4, e5, e6⟩ := h2
  have hlen : (us ++ List.replicate (n - k) ((.slice none 0 0, .slice none 0 0) : Value × Value)).length = n := by simp; omega
  have hset := GOwn.set2 (e := 26) pC_len (by rw [hlen]; exact e2) (k := k) (by rw [hlen]; exact hk) (x := (v, u)) (v0 := v) (v1 := u) rfl
  rw [hlen] at hset
  have hlist : (us ++ List.replicate (n - k) ((.slice none 0 0, .slice none 0 0) : Value × Value)).set k (v, u) = us ++ [(v, u)] ++ List.replicate (n - (k + 1)) (.slice none 0 0, .slice none 0 0) := by
    obtain ⟨m, hm⟩ : ∃ m, n - k = m + 1 := ⟨n - k - 1, by omega⟩
    rw [hm, show n - (k + 1) = m by omega, List.set_append_right _ _ (by omega), e1, Nat.sub_self, List.replicate_succ, List.set_cons_zero, List.append_assoc]; rfl
  rw [hlist] at hset
  have hgrow := hset.2
  have hoff : ∀ (x : Value), (∀ b, x.ownBlock = some b → g + 1 ≤ b) → x.ownBlock = none ∨ x.ownBlock ≠ some g := fun x hx => .inr (fun e => by have := hx g e; omega)
  have hkeep : ∀ (x y : Value) (q : Pl), PlN w2 (g + 1) x y q → PlN ((w2.setCell ⟨g, k * 2, none⟩ v).setCell ⟨g, k * 2 + 1, none⟩ u) (g + 1) x y q := fun x y q hq =>
    ⟨hq.1.off hgrow (hoff x (fun b hb => (hq.ge.1 b hb).1)), iown_g.2 ((iown_g.1 hq.2).off hgrow (hoff y (fun b hb => (hq.ge.2 b hb).1)))⟩
  have hnew : PlN w2 (g + 1) v u p := ⟨hv.base (by omega), hu.base (by omega)⟩
  refine ⟨by simp [e1], hset.1, fun j x q hx hq => ?_, PsN.snocAp (B := w1.heap.size) e4 ?_ (fun b hb => (hv.ge b hb).1) (fun b hb => (hu.ge b hb).1) hvu, e5, by have := hgrow.size; omega⟩
  · rcases Nat.lt_or_ge j us.length with hj | hj
    · rw [List.getElem?_append_left hj] at hx
      exact hkeep _ _ _ (e3 j x q hx hq)
    · have hjk : j = us.length := by
        have := (List.getElem?_eq_some_iff.1 hx).1
        simp at this; omega
      subst hjk
      rw [List.getElem?_append_right (Nat.le_refl _), Nat.sub_self] at hx
      obtain rfl := Option.some.inj hx
      rw [e1, hp] at hq
      obtain rfl := Option.some.inj hq
      exact hkeep _ _ _ hnew
  · intro x hx b hb
    exact (h.blocks (by omega) x hx b hb).2

theorem PsUp.all {wr : World} {g B n : Nat} {us : List (Value × Value)} {ps : List Pl} (h : PsUp wr g B n n us ps) (hl : n = ps.length) : PsN wr B (.slice (some ⟨g, 0, none⟩) n n) us ps ∧ (us.flatMap pC).Pairwise Ap ∧ ∀ x ∈ us.flatMap pC, ∀ b, x.ownBlock = some b → g + 1 ≤ b ∧ b < wr.heap.size := by
  obtain ⟨e1, e2, e3, e4, e5, e6⟩ := id h
  rw [Nat.sub_self, List.replicate_zero, List.append_nil] at e2
  exact ⟨⟨by omega, e2, fun j x p hx hp => (e3 j x p hx hp).base (by omega)⟩, e4, h.blocks (by omega)⟩

theorem PsUp.start {w w0 : World} {B n : Nat} {ps : List Pl} {zc : Array Value} (hown : w0.ownsRow w.heap.size 26 2 (.slice (some ⟨w.heap.size, 0, none⟩) n n) n (madeCells zc (n * 2)).toList) (hz : zc = #[.slice none 0 0, .slice none 0 0]) (hB : B ≤ w.heap.size) (hlt : w.heap.size < w0.heap.size) : PsUp w0 w.heap.size B n 0 [] ps := by
  subst hz
  have h1 := flat_made pC_len (by decide) ((.slice none 0 0, .slice none 0 0) : Value × Value) n
  have h2 : GOwn 26 2 pC w0 w.heap.size (.slice (some ⟨w.heap.size, 0, none⟩) n n) (List.replicate n ((.slice none 0 0, .slice none 0 0) : Value × Value)) := by
    unfold GOwn
    rw [← h1, List.length_replicate]
    exact hown
  refine ⟨rfl, ?_, fun j x p hx => by simp at hx, by simp, hB, hlt⟩
  rw [Nat.sub_zero, List.nil_append]
  exact h2.base hB

def DkBo (d : Dk) (b : Bool) (w : World) (e : Ending) (w' : World) : Prop := ∃ v u r, e = .returned (.tuple #[.agg #[v, u, r], .bool b]) ∧ DkN w' w.heap.size v u r d ∧ Below w.heap.size w w'

theorem dkBo_of {d d' : Dk} {b b' : Bool} {w w' : World} {v u r : Value} (hd : d = d') (hb : b = b') (h : DkN w' w.heap.size v u r d') (hw : Below w.heap.size w w') : DkBo d b w (.returned (.tuple #[.agg #[v, u, r], .bool b'])) w' := by
  subst hd hb; exact ⟨_, _, _, rfl, h, hw⟩

end Go.Proofs.Ytebebcomhdjihaa

namespace Go.Proofs.Ytebebcomhdjihaa
open Go.RowKit
set_option linter.unusedVariables false

theorem stakes_no1 {ss : List Int} {n : Nat} (h : ss.length ≠ n) : (decide (ss.length = n) && ss.all stB) = false := by rw [decide_eq_false h]; rfl

theorem alls_take {ss : List Int} {k : Nat} {x : Int} (hx : ss[k]? = some x) (h : stB x = true) (ih : ∀ y ∈ ss.take k, stB y = true) : ∀ y ∈ ss.take (k + 1), stB y = true := by
  rw [List.take_add_one, hx]
  intro y hy
  rcases List.mem_append.1 hy with h1 | h1
  · exact ih y h1
  · simp at h1; subst h1; exact h

theorem alls_no {ss : List Int} {k : Nat} {x : Int} (hx : ss[k]? = some x) (h : stB x = false) : ss.all stB = false := by
  rw [← Bool.not_eq_true, List.all_eq_true]
  intro h2
  have := h2 x (List.mem_of_getElem? hx)
  rw [h] at this; cases this

set_option maxHeartbeats 1000000 in
theorem stakesOk_any (w : World) (v u : Value) (qs : List Qt) (ss : List Int) (hv : QRd w v qs) (hu : IRd w u ss) :
    Calls Try.prog 37 #[v, u] w fun r w' => r = .returned (.bool (decide (ss.length = qs.length) && ss.all stB)) ∧ w = w' := by
  obtain ⟨A, c, rfl, hl, hm⟩ := hv.form
  obtain ⟨A', c', rfl, hl', hm', -⟩ := id hu
  have HU := Lib.hid hu
  clear hu hv
  by_cases h : ss.length = qs.length
  · have H := Lib.hid h
    have h' : ((ss.length : Int) == (qs.length : Int)) = true := by simp; omega
    have h'' : ((ss.length : Int) != (qs.length : Int)) = false := by simp; omega
    clear h
    go_enter Try.func37, Try.ntmps37
    go_wp2_with fail
    clear h' h''
    go_loop [14] (fun i => ∃ k : Nat, i = .int .i64 k ∧ k ≤ ss.length ∧ Hid (∀ y ∈ ss.take k, stB y = true)) (fun i => ss.length - (intOf i).toNat)
    case atStart => exact ⟨0, rfl, Nat.zero_le _, Lib.hid (by simp)⟩
    case round =>
      obtain ⟨k, rfl, hk, HA⟩ := hrel
      by_cases hlt : k < ss.length
      · obtain ⟨b, off, x, rfl, -, hx, hcx⟩ := HU.out.at_ hlt
        have HX := Lib.hid hx
        clear hx
        rcases Bool.eq_false_or_eq_true (stB x) with hs | hs
        · have HS := Lib.hid hs
          go_wp2_with fail
          refine (stakeOk_any x _).mono ?_
          rintro r w' ⟨rfl, rfl⟩
          rw [hs]
          go_wp2_with fail
          go_round
          case rel => exact ⟨k + 1, by go_num, by omega, Lib.hid (alls_take HX.out HS.out HA.out)⟩
          case measure => simp [intOf]; omega
        · have HS := Lib.hid hs
          go_wp2_with fail
          refine (stakeOk_any x _).mono ?_
          rintro r w' ⟨rfl, rfl⟩
          rw [hs]
          go_wp2_with fail
          go_ret
          exact ⟨ret_bool (by rw [alls_no HX.out HS.out]; simp), rfl⟩
      · go_wp2_with fail
        go_ret
        exact ⟨ret_bool (by rw [decide_eq_true H.out, List.all_eq_true.2 (by have := HA.out; rwa [List.take_of_length_le (by omega)] at this)]; rfl), rfl⟩
  · have H := Lib.hid h
    have h' : ((ss.length : Int) == (qs.length : Int)) = false := by simp; omega
    have h'' : ((ss.length : Int) != (qs.length : Int)) = true := by simp; omega
    clear h
    go_enter Try.func37, Try.ntmps37
    go_wp2_with fail
    go_ret
    exact ⟨ret_bool (stakes_no1 H.out).symm, rfl⟩

end Go.Proofs.Ytebebcomhdjihaa

namespace Go.Proofs.Ytebebcomhdjihaa
open Go.RowKit
set_option linter.unusedVariables false

def qUp (q : Int) (xs : List Qt) (k : Nat) : List Qt := (List.range k).map (fun i : Nat => (q + 2 * (i : Int), q + 2 * (i : Int) + 1)) ++ xs.drop k

theorem qUp_len (q : Int) (xs : List Qt) {k : Nat} (hk : k ≤ xs.length) : (qUp q xs k).length = xs.length := by simp [qUp]; omega

theorem qUp_set (q : Int) (xs : List Qt) {k : Nat} (hk : k < xs.length) : (qUp q xs k).set k (q + 2 * (k : Int), q + 2 * (k : Int) + 1) = qUp q xs (k + 1) := by
  unfold qUp
  rw [List.set_append_right _ _ (by simp), List.length_map, List.length_range, Nat.sub_self, List.drop_eq_getElem_cons hk, List.set_cons_zero, List.range_succ, List.map_append, List.append_assoc]
  rfl

def QMarkRel (w : World) (base : Nat) (q : Int) (v : Value) (xs : List Qt) (k : Nat) (wr : World) : Prop :=
  QOwn wr base v (qUp q xs k) ∧ w.grownBy wr v.ownBlock ∧ wr.heap.size = w.heap.size

theorem QMarkRel.step {w wr : World} {base g cap n : Nat} {q : Int} {xs : List Qt} {k : Nat} (h : QMarkRel w base q (.slice (some ⟨g, 0, none⟩) n cap) xs k wr) (hn : xs.length = n) (hk : k < n) :
    QMarkRel w base q (.slice (some ⟨g, 0, none⟩) n cap) xs (k + 1) ((wr.setCell ⟨g, k * 2, none⟩ (.int .i64 (q + 2 * (k : Int)))).setCell ⟨g, k * 2 + 1, none⟩ (.int .i64 (q + 2 * (k : Int) + 1))) := by
  subst hn
  obtain ⟨h1, h2, h5⟩ := h
  have hl := qUp_len q xs (Nat.le_of_lt hk)
  rw [← hl] at h1
  obtain ⟨h3, h4⟩ := GOwn.set2 (cp := cap) (x := (q + 2 * (k : Int), q + 2 * (k : Int) + 1)) qC_len h1 (by rw [hl]; exact hk) rfl
  rw [qUp_set q xs hk, hl] at h3
  exact ⟨h3, ⟨h4.os.trans h2.os, h4.tape.trans h2.tape, h4.output.trans h2.output, Nat.le_trans h2.size h4.size, fun i hi hne => (h4.block i (by omega) hne).trans (h2.block i hi hne)⟩, by simpa using h5⟩

end Go.Proofs.Ytebebcomhdjihaa

namespace Go.Proofs.Ytebebcomhdjihaa
open Go.RowKit
set_option linter.unusedVariables false

set_option maxRecDepth 100000 in
set_option maxHeartbeats 4000000 in
theorem implPlaceOk_any (w : World) (v u : Value) (qs : List Qt) (ss : List Int) (hv : QRd w v qs) (hu : IRd w u ss) :
    Calls Try.prog 18 #[.agg #[v, u]] w (BoolPost (plB (qs, ss)) w) := by
  obtain ⟨A, c, rfl, hl, hm⟩ := hv.form
  obtain ⟨A', c', rfl, hl', hm', -⟩ := id hu
  obtain ⟨c0, c1⟩ := pl_cells w (.slice A qs.length c) (.slice A' ss.length c') _ (Below.refl _ _)
  obtain ⟨W, hW⟩ : ∃ W, w.alloc (.cells #[.slice A qs.length c, .slice A' ss.length c'] 26) = W := ⟨_, rfl⟩
  have HB : Hid (Below w.heap.size w W) := Lib.hid (by rw [← hW]; exact (Below.refl _ _).alloc (Nat.le_refl _) _)
  have HV := Lib.hid (hv.keep (SameAt.of_below HB.out))
  have HU := Lib.hid (hu.keep (SameAt.of_below HB.out))
  rw [hW] at c0 c1
  have HW := Lib.hid hW
  clear hv hu hW
  obtain ⟨b, hb⟩ : ∃ b, (decide (ss.length = qs.length) && ss.all stB) = b := ⟨_, rfl⟩
  have HE : Hid (plB (qs, ss) = (b && fairB 4 qs)) := Lib.hid (by
    rw [← hb]
    unfold plB
    show (ss.all stB && (decide (ss.length = qs.length) && fairB 4 qs)) = _
    rw [← Bool.and_assoc, Bool.and_comm (ss.all stB)])
  have HBB := Lib.hid hb
  clear hb
  go_enter Try.func18, Try.ntmps18
  go_upto_region 1 with fail
  rw [HW.out]
  go_wp2_with fail
  refine (stakesOk_any W _ _ qs ss HV.out HU.out).mono ?_
  rintro r w' ⟨rfl, rfl⟩
  rw [HBB.out]
  cases b
  · have HF : Hid (plB (qs, ss) = false) := Lib.hid (by rw [HE.out]; rfl)
    go_wp2_with fail
    go_ret
    exact ⟨ret_bool HF.out.symm, HB.out⟩
  · have HF : Hid (plB (qs, ss) = fairB 4 qs) := Lib.hid (by rw [HE.out]; rfl)
    go_wp2_with fail
    refine (implFairOk_any W 4 _ qs HV.out).mono ?_
    rintro r w3 ⟨rfl, b3⟩
    have HB3 := Lib.hid (below_step HB.out b3 HB.out.size)
    clear b3
    go_wp2_with fail
    go_ret
    exact ⟨ret_bool HF.out.symm, HB3.out⟩

set_option maxRecDepth 100000 in
set_option maxHeartbeats 4000000 in
theorem cloneQ_any (w : World) (v : Value) (xs : List Qt) (hr : GRd 2 qC w v xs) (hs : Sane v) (h1 : ∀ y ∈ xs, ∀ x ∈ qC y, x.oneCell' = true) (hl : xs.length ≤ 1000000) :
    Calls Try.prog 62 #[v] w (fun e w' => ∃ v', e = .returned v' ∧ GOwn 64 2 qC w' w.heap.size v' xs ∧ Below w.heap.size w w') := by
  obtain ⟨iq, hiq, hq0, hq1, hq2⟩ := info_parts Try_qinfo15
  rcases hs with rfl | ⟨ad, n, c, rfl⟩
  · have h0 : xs = [] := by obtain ⟨A, cp, e, -⟩ := hr; injection e with _ e2 _; exact List.eq_nil_of_length_eq_zero e2.symm
    subst h0
    have q22 : ∀ (w : World) (a : Option Addr) (n c n' c' : Nat), (binOp .eql 23 (.slice a n c) (.slice none n' c')).run Try.prog w = .ok (.bool a.isNone) w := fun w a n c n' c' => Lib.run_eql_slice_nil w _ _ a n c n' c' Try.underlying23
    go_enter Try.func62, Try.ntmps62
    go_wp2_with fail
    go_ret
    exact ⟨_, rfl, GOwn.nil _ _ _ _ _, Below.refl _ _⟩
  · have hown : GOwn 64 2 qC (w.alloc (.cells #[] 64)) w.heap.size (.slice (some ⟨w.heap.size, 0, none⟩) 0 0) ([] : List Qt) := lit_none w w.heap.size (Nat.le_refl _)
    obtain ⟨v', w', rn, oo, gr, ne⟩ := run_app_g (t := 23) (ty := 23) rfl hiq hq0 hq1 hq2 rfl (by decide) qC_len hown (hr.keep (SameAt.of_below ((Below.refl _ w).alloc (Nat.le_refl _) _))) (.inr ⟨_, _, _, rfl⟩) h1 (by simp; omega) (by decide) (by rw [World.size_alloc]; omega)
    rw [List.nil_append] at oo
    have HB : Hid (Below w.heap.size w w') := Lib.hid (((Below.refl _ w).alloc (Nat.le_refl _) _).grown gr (by rw [World.size_alloc]; omega) (fun g hg => by have e : w.heap.size = g := Option.some.inj hg; omega))
    have HO := Lib.hid oo
    clear oo gr ne hr hown h1
    have q22 : ∀ (w : World) (a : Option Addr) (n c n' c' : Nat), (binOp .eql 23 (.slice a n c) (.slice none n' c')).run Try.prog w = .ok (.bool a.isNone) w := fun w a n c n' c' => Lib.run_eql_slice_nil w _ _ a n c n' c' Try.underlying23
    go_enter Try.func62, Try.ntmps62
    go_wp2_with (at_builtin; refine wp_app_run rfl _ _ _ rfl (by rfl) (by rfl) rn ?_)
    go_wp2_with fail
    go_ret
    exact ⟨_, rfl, HO.out, HB.out⟩

set_option maxRecDepth 100000 in
set_option maxHeartbeats 4000000 in
theorem cloneI_any (w : World) (v : Value) (xs : List Int) (hr : GRd 1 iC w v xs) (hs : Sane v) (h1 : ∀ y ∈ xs, ∀ x ∈ iC y, x.oneCell' = true) (hl : xs.length ≤ 1000000) :
    Calls Try.prog 63 #[v] w (fun e w' => ∃ v', e = .returned v' ∧ GOwn 3 1 iC w' w.heap.size v' xs ∧ Below w.heap.size w w') := by
  obtain ⟨iq, hiq, hq0, hq1, hq2⟩ := info_parts Try_intinfo
  rcases hs with rfl | ⟨ad, n, c, rfl⟩
  · have h0 : xs = [] := by obtain ⟨A, cp, e, -⟩ := hr; injection e with _ e2 _; exact List.eq_nil_of_length_eq_zero e2.symm
    subst h0
    have q22 : ∀ (w : World) (a : Option Addr) (n c n' c' : Nat), (binOp .eql 24 (.slice a n c) (.slice none n' c')).run Try.prog w = .ok (.bool a.isNone) w := fun w a n c n' c' => Lib.run_eql_slice_nil w _ _ a n c n' c' Try.underlying24
    go_enter Try.func63, Try.ntmps63
    go_wp2_with fail
    go_ret
    exact ⟨_, rfl, GOwn.nil _ _ _ _ _, Below.refl _ _⟩
  · have hown : GOwn 3 1 iC (w.alloc (.cells #[] 3)) w.heap.size (.slice (some ⟨w.heap.size, 0, none⟩) 0 0) ([] : List Int) := lit_none w w.heap.size (Nat.le_refl _)
    obtain ⟨v', w', rn, oo, gr, ne⟩ := run_app_g (t := 24) (ty := 24) rfl hiq hq0 hq1 hq2 rfl (by decide) iC_len hown (hr.keep (SameAt.of_below ((Below.refl _ w).alloc (Nat.le_refl _) _))) (.inr ⟨_, _, _, rfl⟩) h1 (by simp; omega) (by decide) (by rw [World.size_alloc]; omega)
    rw [List.nil_append] at oo
    have HB : Hid (Below w.heap.size w w') := Lib.hid (((Below.refl _ w).alloc (Nat.le_refl _) _).grown gr (by rw [World.size_alloc]; omega) (fun g hg => by have e : w.heap.size = g := Option.some.inj hg; omega))
    have HO := Lib.hid oo
    clear oo gr ne hr hown h1
    have q22 : ∀ (w : World) (a : Option Addr) (n c n' c' : Nat), (binOp .eql 24 (.slice a n c) (.slice none n' c')).run Try.prog w = .ok (.bool a.isNone) w := fun w a n c n' c' => Lib.run_eql_slice_nil w _ _ a n c n' c' Try.underlying24
    go_enter Try.func63, Try.ntmps63
    go_wp2_with (at_builtin; refine wp_app_run rfl _ _ _ rfl (by rfl) (by rfl) rn ?_)
    go_wp2_with fail
    go_ret
    exact ⟨_, rfl, HO.out, HB.out⟩

set_option maxRecDepth 100000 in
set_option maxHeartbeats 8000000 in
theorem clonePlace_any {S : Nat → Prop} (w : World) (v u : Value) (p : Pl) (h : PlRd S w v u p) (h1 : p.1.length ≤ 100000) (h2 : p.2.length ≤ 100000) :
    Calls Try.prog 35 #[.agg #[v, u]] w (PlNew p w) := by
  obtain ⟨W, eW⟩ : ∃ X, (w.alloc (.cells #[v, u] 26)).alloc (.cells #[.slice none 0 0, .slice none 0 0] 26) = X := ⟨_, rfl⟩
  have f1 : Blk W (w.heap.size) 26 #[v, u] := by
    rw [← eW]
    have h0 := heap_alloc_new w (.cells #[v, u] 26)
    exact Blk.alloc (h0) _
  have f2 : Blk W (w.heap.size + 1) 26 #[.slice none 0 0, .slice none 0 0] := by
    rw [← eW]
    have h0 := heap_alloc_new (w.alloc (.cells #[v, u] 26)) (.cells #[.slice none 0 0, .slice none 0 0] 26)
    rw [World.size_alloc] at h0
    exact h0
  have bW : Below w.heap.size w W := by rw [← eW]; exact ((Below.refl _ _).alloc (by skip; omega) _).alloc (by rw [World.size_alloc]; omega) _
  have nW : W.heap.size = w.heap.size + 2 := by rw [← eW]; simp
  have HR1 : Hid (∀ X, Below w.heap.size w X → QRd X v p.1) := Lib.hid (fun X hb => h.1.1.keep (SameAt.of_below hb))
  have HR2 : Hid (∀ X, Below w.heap.size w X → GRd 1 iC X u p.2) := Lib.hid (fun X hb => ird_g (h.2.1.keep (SameAt.of_below hb)))
  have HS1 := Lib.hid h.1.2.1
  have HS2 := Lib.hid h.2.2.1
  have F2 := Lib.hid f2
  have HW := Lib.hid eW
  have HB := Lib.hid bW
  clear h f2 eW bW
  go_enter Try.func35, Try.ntmps35
  go_upto_region 1 with fail
  rw [HW.out]
  have s0 : Below w.heap.size w W.drew ∧ Blk W.drew w.heap.size 26 #[v, u] := ⟨HB.out.drew, f1⟩
  have F2 : Blk W.drew (w.heap.size + 1) 26 #[.slice none 0 0, .slice none 0 0] := F2.out
  refine wp_region_held_drew (S := fun w' => Below w.heap.size w w' ∧ Blk w' w.heap.size 26 #[v, u]) (by kernel_rfl) s0 (fun hHeld => ?_)
  have fz : w.heap.size + 1 < W.drew.heap.size := F2.lt
  clear f1 nW
  generalize W.drew = X0 at *
  refine take_in (i := 0) (v := ?_) rfl (by kernel_rfl) (fun _ _ _ h => h) rfl ?_ hHeld ?_
  rotate_left
  · intro w' hSw; go_simp; all_goals with_reducible rfl
  try simp only [Act.put, List.setIfInBounds_toArray, List.set_cons_zero, List.set_cons_succ]
  refine take_in (i := 1) (v := ?_) rfl (by kernel_rfl) (fun _ _ _ h => h) rfl ?_ hHeld ?_
  rotate_left
  · intro w' hSw; have c0 := hSw.2.cell 0; have c1 := hSw.2.cell 1; go_simp; all_goals with_reducible rfl
  try simp only [Act.put, List.setIfInBounds_toArray, List.set_cons_zero, List.set_cons_succ]
  refine take_in (i := 3) (v := ?_) rfl (by kernel_rfl) (fun _ _ _ h => h) rfl ?_ hHeld ?_
  rotate_left
  · intro w' hSw; go_simp; all_goals with_reducible rfl
  try simp only [Act.put, List.setIfInBounds_toArray, List.set_cons_zero, List.set_cons_succ]
  refine take_in (i := 4) (v := ?_) rfl (by kernel_rfl) (fun _ _ _ h => h) rfl ?_ hHeld ?_
  rotate_left
  · intro w' hSw; have c0 := hSw.2.cell 0; have c1 := hSw.2.cell 1; go_simp; all_goals with_reducible rfl
  try simp only [Act.put, List.setIfInBounds_toArray, List.set_cons_zero, List.set_cons_succ]
  refine ready_one (i := 2) rfl (by kernel_rfl) (fun K hK => ?_)
  go_simp
  go_at_call 62
  refine (cloneQ_any X0 v p.1 (HR1.out X0 s0.1) HS1.out (qC15_one _) (by omega)).mono ?_
  rintro ee X1 ⟨v3, rfl, oa, b1⟩
  obtain ⟨A3, c3, rfl, -, -⟩ := (oa.rd qC_len).form
  have s1 : Below w.heap.size w X1 ∧ Blk X1 w.heap.size 26 #[v, u] := ⟨below_step s0.1 b1 s0.1.size, s0.2.below15 b1⟩
  have G2 := F2.below15 b1
  have lt3 : ∀ g, (Value.slice A3 p.1.length c3).ownBlock = some g → X0.heap.size ≤ g ∧ g < X1.heap.size := oa.ge
  have z1 := b1.size
  refine hK.out _ _ s1 (fun hHeld => ?_)
  clear hK K b1 F2 s0
  try simp only [Act.put, List.setIfInBounds_toArray, List.set_cons_zero, List.set_cons_succ]
  refine ready_one (i := 5) rfl (by kernel_rfl) (fun K hK => ?_)
  go_simp
  go_at_call 63
  refine (cloneI_any X1 u p.2 (HR2.out X1 s1.1) HS2.out (iC_one _) (by omega)).mono ?_
  rintro ee X2 ⟨v7, rfl, ob, b2⟩
  obtain ⟨A7, c7, rfl, -, -⟩ := (ob.rd iC_len).form
  have s2 : Below w.heap.size w X2 ∧ Blk X2 w.heap.size 26 #[v, u] := ⟨below_step s1.1 b2 s1.1.size, s1.2.below15 b2⟩
  have F2 := G2.below15 b2
  replace oa := oa.below b2
  have lt7 : ∀ g, (Value.slice A7 p.2.length c7).ownBlock = some g → X1.heap.size ≤ g ∧ g < X2.heap.size := ob.ge
  have z2 := b2.size
  refine hK.out _ _ s2 (fun hHeld => ?_)
  clear hK K b2 G2 s1
  try simp only [Act.put, List.setIfInBounds_toArray, List.set_cons_zero, List.set_cons_succ]
  refine take_in (i := 6) (v := ?_) rfl (by kernel_rfl) (fun _ _ _ h => h) rfl ?_ hHeld ?_
  rotate_left
  · intro w' hSw; go_simp; all_goals with_reducible rfl
  try simp only [Act.put, List.setIfInBounds_toArray, List.set_cons_zero, List.set_cons_succ]
  have d0 := F2.cell 0
  have d1 := F2.cell 1
  have e0 := F2.frozen 0
  have e1 := F2.frozen 1
  have hfar : ∀ g, (Value.slice A3 p.1.length c3).ownBlock = some g → (Value.slice A7 p.2.length c7).ownBlock ≠ some g := fun g hg e => by have := lt3 g hg; have := lt7 g e; omega
  have gw : X2.grownBy ((X2.setCell ⟨w.heap.size + 1, 0, none⟩ (Value.slice A3 p.1.length c3)).setCell ⟨w.heap.size + 1, 1, none⟩ (Value.slice A7 p.2.length c7)) (some (w.heap.size + 1)) := grow3 (set1_grown _ _ _ _) (set1_grown _ _ _ _)
  have bz : Below w.heap.size w ((X2.setCell ⟨w.heap.size + 1, 0, none⟩ (Value.slice A3 p.1.length c3)).setCell ⟨w.heap.size + 1, 1, none⟩ (Value.slice A7 p.2.length c7)) := s2.1.grown gw s2.1.size (fun g hg => by have e := Option.some.inj hg; omega)
  have sz : Below w.heap.size w ((X2.setCell ⟨w.heap.size + 1, 0, none⟩ (Value.slice A3 p.1.length c3)).setCell ⟨w.heap.size + 1, 1, none⟩ (Value.slice A7 p.2.length c7)) ∧ Blk ((X2.setCell ⟨w.heap.size + 1, 0, none⟩ (Value.slice A3 p.1.length c3)).setCell ⟨w.heap.size + 1, 1, none⟩ (Value.slice A7 p.2.length c7)) w.heap.size 26 #[v, u] := ⟨bz, (s2.2.set_far _ (by omega)).set_far _ (by omega)⟩
  have F3 : Blk ((X2.setCell ⟨w.heap.size + 1, 0, none⟩ (Value.slice A3 p.1.length c3)).setCell ⟨w.heap.size + 1, 1, none⟩ (Value.slice A7 p.2.length c7)) (w.heap.size + 1) 26 #[(Value.slice A3 p.1.length c3), (Value.slice A7 p.2.length c7)] := (F2.set_ 0 _).set_ 1 _
  have OA : Hid (QOwn ((X2.setCell ⟨w.heap.size + 1, 0, none⟩ (Value.slice A3 p.1.length c3)).setCell ⟨w.heap.size + 1, 1, none⟩ (Value.slice A7 p.2.length c7)) w.heap.size (Value.slice A3 p.1.length c3) p.1) := Lib.hid ((oa.off gw (.inr (fun e => by have := lt3 _ e; omega))).base (by have := s2.1.size; omega))
  have OB : Hid (IOwn ((X2.setCell ⟨w.heap.size + 1, 0, none⟩ (Value.slice A3 p.1.length c3)).setCell ⟨w.heap.size + 1, 1, none⟩ (Value.slice A7 p.2.length c7)) w.heap.size (Value.slice A7 p.2.length c7) p.2) := Lib.hid (iown_g.2 ((ob.off gw (.inr (fun e => by have := lt7 _ e; omega))).base (by have := s2.1.size; omega)))
  clear oa ob
  refine ready_one (i := 7) rfl (by kernel_rfl) (fun K hK => ?_)
  go_simp
  refine hK.out _ _ sz (fun hHeld => ?_)
  clear hK K d0 d1 e0 e1 sz gw F2 s2
  generalize ((X2.setCell ⟨w.heap.size + 1, 0, none⟩ (Value.slice A3 p.1.length c3)).setCell ⟨w.heap.size + 1, 1, none⟩ (Value.slice A7 p.2.length c7)) = XZ at *
  have d0 : XZ.cell? ⟨w.heap.size + 1, 0, none⟩ = some (Value.slice A3 p.1.length c3) := F3.cell 0
  have d1 : XZ.cell? ⟨w.heap.size + 1, 1, none⟩ = some (Value.slice A7 p.2.length c7) := F3.cell 1
  have HF := Lib.hid hfar
  have HZ := Lib.hid bz
  clear hfar bz
  refine wpAnyH_done (by kernel_rfl) ?_ _
  go_wp2_with fail
  refine bodyPost_ret (v := .agg #[(Value.slice A3 p.1.length c3), (Value.slice A7 p.2.length c7)]) (by simp [results, Try.results35, go_sem, d0, d1]) rfl ?_
  exact ⟨_, _, rfl, OA.out, OB.out, HF.out, HZ.out⟩

set_option maxRecDepth 100000 in
set_option maxHeartbeats 4000000 in
theorem implDeskOk_any {S : Nat → Prop} (w : World) (v u r : Value) (d : Dk) (h : DkRd S w v u r d) :
    Calls Try.prog 10 #[.agg #[v, u, r]] w (BoolPost (dkB d) w) := by
  obtain ⟨A, c, rfl, hl, hm⟩ := h.2.form
  obtain ⟨W, eW⟩ : ∃ X, w.alloc (.cells #[v, u, .slice A d.2.length c] 29) = X := ⟨_, rfl⟩
  have f1 : Blk W (w.heap.size) 29 #[v, u, .slice A d.2.length c] := by
    rw [← eW]
    have h0 := heap_alloc_new w (.cells #[v, u, .slice A d.2.length c] 29)
    exact h0
  have bW : Below w.heap.size w W := by rw [← eW]; exact (Below.refl _ _).alloc (by skip; omega) _
  have nW : W.heap.size = w.heap.size + 1 := by rw [← eW]; simp
  have HB := Lib.hid bW
  have HD : Hid (∀ wr, Below W.heap.size W wr → DkRd S wr v u (.slice A d.2.length c) d) := Lib.hid (fun wr hb => (h.below HB.out).below hb)
  have HC : Hid (∀ wr, Below W.heap.size W wr → wr.cell? ⟨w.heap.size, 0, none⟩ = some v ∧ wr.cell? ⟨w.heap.size, 1, none⟩ = some u ∧ wr.cell? ⟨w.heap.size, 2, none⟩ = some (.slice A d.2.length c)) := Lib.hid (fun wr hb => ⟨(f1.below15 hb).cell 0, (f1.below15 hb).cell 1, (f1.below15 hb).cell 2⟩)
  have HW := Lib.hid eW
  clear h f1 eW bW nW
  obtain ⟨n, hn⟩ : ∃ n, n = d.2.length := ⟨_, rfl⟩
  rw [← hn] at HD HC HW hl
  rw [← hn]
  have HN := Lib.hid hn
  clear hn
  obtain ⟨c0, c1, c2⟩ := HC.out W (Below.refl _ _)
  by_cases h8 : 8 < n
  · have h8' : (8 : Int) < (n : Int) := by omega
    have HF : Hid (dkB d = false) := Lib.hid (by
      rw [← Bool.not_eq_true, dkB_iff]
      intro hh
      have := hh.2.2
      have := HN.out
      omega)
    go_enter Try.func10, Try.ntmps10
    go_upto_region 1 with fail
    rw [HW.out]
    go_wp2_with fail
    go_ret
    exact ⟨ret_bool HF.out.symm, HB.out⟩
  · have h8' : (n : Int) ≤ 8 := by omega
    have h8'' : n ≤ 8 := by omega
    clear h8
    obtain ⟨t, ht⟩ : ∃ t, plB d.1 = t := ⟨_, rfl⟩
    have HT := Lib.hid ht
    clear ht
    have HPL := Lib.hid (HD.out W (Below.refl _ _)).1
    go_enter Try.func10, Try.ntmps10
    go_upto_region 1 with fail
    rw [HW.out]
    go_wp2_with fail
    refine (implPlaceOk_any W v u d.1.1 d.1.2 HPL.out.1.1 HPL.out.2.1).mono ?_
    rintro ee w1 ⟨rfl, b1⟩
    rw [show plB (d.1.1, d.1.2) = t from HT.out]
    have HB1 := Lib.hid b1
    clear b1 c0 c1 c2 HPL
    obtain ⟨c0, c1, c2⟩ := HC.out w1 HB1.out
    cases t
    · have HF : Hid (dkB d = false) := Lib.hid (by
        rw [← Bool.not_eq_true, dkB_iff]
        intro hh
        have := hh.2.1
        rw [HT.out] at this; cases this)
      go_wp2_with fail
      go_ret
      exact ⟨ret_bool HF.out.symm, below_step HB.out HB1.out HB.out.size⟩
    · go_wp2_with fail
      go_loopw [18] (fun i wr => ∃ k : Nat, i = .int .i64 (k : Int) ∧ k ≤ n ∧ Hid (∀ p ∈ d.2.take k, plB p = true) ∧ Hid (Below W.heap.size W wr)) (fun i _ => n - (intOf i).toNat)
      case atStart => exact ⟨0, rfl, Nat.zero_le _, Lib.hid (by simp), HB1⟩
      case round =>
        obtain ⟨k, rfl, hk, HA, HX⟩ := hrel
        clear c0 c1 c2
        by_cases hlt : k < n
        · have hlt' : (k : Int) < (n : Int) := by omega
          have hk0 : (0 : Int) ≤ (k : Int) := by omega
          obtain ⟨b, off, pv, pu, p, rfl, hbb, hp, d0, d1, hpl⟩ := (HD.out wr HX.out).2.at_ hlt
          obtain ⟨A3, c3, rfl, -, -⟩ := hpl.1.1.form
          obtain ⟨A4, c4, rfl, -, -, -⟩ := id hpl.2.1
          have HP := Lib.hid hp
          obtain ⟨Y, hY⟩ : ∃ Y, wr.alloc (.cells #[.slice A3 p.1.length c3, .slice A4 p.2.length c4] 26) = Y := ⟨_, rfl⟩
          have bY : Below wr.heap.size wr Y := by rw [← hY]; exact (Below.refl _ _).alloc (Nat.le_refl _) _
          have HPL := Lib.hid (hpl.below bY)
          have HXY := Lib.hid (below_step HX.out bY HX.out.size)
          have HY := Lib.hid hY
          have e0 : Y.cell? ⟨wr.heap.size, 0, none⟩ = some (.slice A3 p.1.length c3) := by rw [← hY]; exact Blk.cell (heap_alloc_new wr (.cells #[.slice A3 p.1.length c3, .slice A4 p.2.length c4] 26)) 0
          have e1 : Y.cell? ⟨wr.heap.size, 1, none⟩ = some (.slice A4 p.2.length c4) := by rw [← hY]; exact Blk.cell (heap_alloc_new wr (.cells #[.slice A3 p.1.length c3, .slice A4 p.2.length c4] 26)) 1
          clear hp hpl hbb hY bY
          rcases Bool.eq_false_or_eq_true (plB p) with h1 | h1
          · have HA2 := Lib.hid (all_pl HP.out h1 HA.out)
            have H1 := Lib.hid h1
            clear h1
            go_upto_region 6 with fail
            rw [HY.out]
            go_wp2_with fail
            refine (implPlaceOk_any Y _ _ p.1 p.2 HPL.out.1.1 HPL.out.2.1).mono ?_
            rintro ee w3 ⟨rfl, b3⟩
            rw [show plB (p.1, p.2) = true from H1.out]
            have HW3 := Lib.hid (below_step HXY.out b3 HXY.out.size)
            clear b3 d0 d1 e0 e1
            go_wp2_with fail
            go_roundw
            case rel => exact ⟨k + 1, by go_num, by omega, HA2, HW3⟩
            case measure => simp [intOf]; omega
          · have HF : Hid (dkB d = false) := Lib.hid (by
              rw [← Bool.not_eq_true, dkB_iff]
              intro hh
              have := hh.1 p (List.mem_of_getElem? HP.out)
              rw [h1] at this; cases this)
            have H1 := Lib.hid h1
            clear h1
            go_upto_region 6 with fail
            rw [HY.out]
            go_wp2_with fail
            refine (implPlaceOk_any Y _ _ p.1 p.2 HPL.out.1.1 HPL.out.2.1).mono ?_
            rintro ee w3 ⟨rfl, b3⟩
            rw [show plB (p.1, p.2) = false from H1.out]
            have HW3 := Lib.hid (below_step HXY.out b3 HXY.out.size)
            clear b3 d0 d1 e0 e1
            go_wp2_with fail
            go_ret
            exact ⟨ret_bool HF.out.symm, below_step HB.out HW3.out HB.out.size⟩
        · obtain rfl : k = n := by omega
          have hlt' : decide ((k : Int) < (k : Int)) = false := by simp
          have HF : Hid (dkB d = true) := Lib.hid ((dkB_iff _).2 ⟨by have := HA.out; rwa [HN.out, List.take_length] at this, HT.out, by have := HN.out; omega⟩)
          go_wp2_with fail
          go_ret
          exact ⟨ret_bool HF.out.symm, below_step HB.out HX.out HB.out.size⟩

set_option maxRecDepth 100000 in
set_option maxHeartbeats 4000000 in
theorem implDeskNew_any {S : Nat → Prop} (w : World) (v u : Value) (p : Pl) (h : PlRd S w v u p) (D : Dk) (hD : (if plB p = true then (p, []) else noDk) = D) :
    Calls Try.prog 14 #[.agg #[v, u]] w (DkBo D (plB p) w) := by
  obtain ⟨W, eW⟩ : ∃ X, (w.alloc (.cells #[v, u] 26)).alloc (.cells #[.slice none 0 0, .slice none 0 0, .slice none 0 0] 29) = X := ⟨_, rfl⟩
  have f1 : Blk W (w.heap.size) 26 #[v, u] := by
    rw [← eW]
    have h0 := heap_alloc_new w (.cells #[v, u] 26)
    exact Blk.alloc (h0) _
  have f2 : Blk W (w.heap.size + 1) 29 #[.slice none 0 0, .slice none 0 0, .slice none 0 0] := by
    rw [← eW]
    have h0 := heap_alloc_new (w.alloc (.cells #[v, u] 26)) (.cells #[.slice none 0 0, .slice none 0 0, .slice none 0 0] 29)
    rw [World.size_alloc] at h0
    exact h0
  have bW : Below w.heap.size w W := by rw [← eW]; exact ((Below.refl _ _).alloc (by skip; omega) _).alloc (by rw [World.size_alloc]; omega) _
  have nW : W.heap.size = w.heap.size + 2 := by rw [← eW]; simp
  have HD : Hid (∀ X, Below W.heap.size W X → PlRd S X v u p) := Lib.hid (fun X hb => (h.below bW).below hb)
  have F1 := Lib.hid f1
  have F2 := Lib.hid f2
  have HB := Lib.hid bW
  have HW := Lib.hid eW
  have HDD := Lib.hid hD
  have b0 : W.cell? ⟨w.heap.size, 0, none⟩ = some v := f1.cell 0
  have b1 : W.cell? ⟨w.heap.size, 1, none⟩ = some u := f1.cell 1
  clear h f1 f2 bW eW hD
  obtain ⟨t, ht⟩ : ∃ t, plB p = t := ⟨_, rfl⟩
  have HT := Lib.hid ht
  clear ht
  go_enter Try.func14, Try.ntmps14
  go_upto_region 1 with fail
  rw [HW.out]
  go_wp2_with fail
  refine (implPlaceOk_any W v u p.1 p.2 (HD.out W (Below.refl _ _)).1.1 (HD.out W (Below.refl _ _)).2.1).mono ?_
  rintro ee w1 ⟨rfl, bb⟩
  rw [show plB (p.1, p.2) = t from HT.out]
  have HB1 := Lib.hid bb
  have zw := bb.size
  have HBw := Lib.hid (below_step HB.out bb HB.out.size)
  clear bb b0 b1
  cases t
  · have HE : Hid (D = noDk) := Lib.hid (by rw [← HDD.out, HT.out]; rfl)
    have FR := F2.out.below15 HB1.out
    have z0 : w1.cell? ⟨w.heap.size + 1, 0, none⟩ = some (.slice none 0 0) := FR.cell 0
    have z1 : w1.cell? ⟨w.heap.size + 1, 1, none⟩ = some (.slice none 0 0) := FR.cell 1
    have z2 : w1.cell? ⟨w.heap.size + 1, 2, none⟩ = some (.slice none 0 0) := FR.cell 2
    have y0 := FR.frozen 0
    have y1 := FR.frozen 1
    have y2 := FR.frozen 2
    have gw : w1.grownBy (((w1.setCell ⟨w.heap.size + 1, 0, none⟩ (.slice none 0 0)).setCell ⟨w.heap.size + 1, 1, none⟩ (.slice none 0 0)).setCell ⟨w.heap.size + 1, 2, none⟩ (.slice none 0 0)) (some (w.heap.size + 1)) := set3_grown _ _ _ _ _
    have zsz : w1.heap.size ≤ (((w1.setCell ⟨w.heap.size + 1, 0, none⟩ (.slice none 0 0)).setCell ⟨w.heap.size + 1, 1, none⟩ (.slice none 0 0)).setCell ⟨w.heap.size + 1, 2, none⟩ (.slice none 0 0)).heap.size := gw.size
    have FZ : Blk (((w1.setCell ⟨w.heap.size + 1, 0, none⟩ (.slice none 0 0)).setCell ⟨w.heap.size + 1, 1, none⟩ (.slice none 0 0)).setCell ⟨w.heap.size + 1, 2, none⟩ (.slice none 0 0)) (w.heap.size + 1) 29 #[(.slice none 0 0), (.slice none 0 0), (.slice none 0 0)] := (((FR.set_ 0 _).set_ 1 _).set_ 2 _)
    have RES : Hid (Below w.heap.size w (((w1.setCell ⟨w.heap.size + 1, 0, none⟩ (.slice none 0 0)).setCell ⟨w.heap.size + 1, 1, none⟩ (.slice none 0 0)).setCell ⟨w.heap.size + 1, 2, none⟩ (.slice none 0 0))) := Lib.hid (HBw.out.grown gw HBw.out.size (fun g hg => by have e := Option.some.inj hg; omega))
    clear gw
    go_wp2_with fail
    clear z0 y0 z1 y1 z2 y2
    generalize (((w1.setCell ⟨w.heap.size + 1, 0, none⟩ (.slice none 0 0)).setCell ⟨w.heap.size + 1, 1, none⟩ (.slice none 0 0)).setCell ⟨w.heap.size + 1, 2, none⟩ (.slice none 0 0)) = Z at *
    have d0 : Z.cell? ⟨w.heap.size + 1, 0, none⟩ = some (.slice none 0 0) := FZ.cell 0
    have d1 : Z.cell? ⟨w.heap.size + 1, 1, none⟩ = some (.slice none 0 0) := FZ.cell 1
    have d2 : Z.cell? ⟨w.heap.size + 1, 2, none⟩ = some (.slice none 0 0) := FZ.cell 2
    refine bodyPost_ret (v := .tuple #[.agg #[(.slice none 0 0), (.slice none 0 0), (.slice none 0 0)], .bool false]) (by simp [results, Try.results14, go_sem, d0, d1, d2]) rfl ?_
    exact dkBo_of HE.out HT.out (DkN.nil _ _) RES.out
  · have HE : Hid (D = (p, [])) := Lib.hid (by rw [← HDD.out, HT.out]; rfl)
    have HLEN := Lib.hid (pl_len HT.out)
    have b0 : w1.cell? ⟨w.heap.size, 0, none⟩ = some v := (F1.out.below15 HB1.out).cell 0
    have b1 : w1.cell? ⟨w.heap.size, 1, none⟩ = some u := (F1.out.below15 HB1.out).cell 1
    go_wp2_with fail
    refine (clonePlace_any w1 v u p (HD.out w1 HB1.out) (by have := HLEN.out; omega) (by have := HLEN.out; omega)).mono ?_
    rintro ee w3 ⟨v1, u1, rfl, oq, oi, ond, b3⟩
    obtain ⟨A1, c1, rfl, -, -⟩ := (oq.rd qC_len).form
    obtain ⟨A5, c5, rfl, -, -, -⟩ := id oi.rd
    have zw3 := b3.size
    have HB3 := Lib.hid (below_step HBw.out b3 HBw.out.size)
    have FR := (F2.out.below15 HB1.out).below15 b3
    have NQ : ∀ g, (Value.slice A1 p.1.length c1).ownBlock = some g → w1.heap.size ≤ g := fun g hg => (oq.ge g hg).1
    have NI : ∀ g, (Value.slice A5 p.2.length c5).ownBlock = some g → w1.heap.size ≤ g := fun g hg => (oi.ge g hg).1
    have PN := Lib.hid (And.intro oq oi)
    have ND := Lib.hid ond
    clear oq oi ond b3 b0 b1
    have z0 : w3.cell? ⟨w.heap.size + 1, 0, none⟩ = some (.slice none 0 0) := FR.cell 0
    have z1 : w3.cell? ⟨w.heap.size + 1, 1, none⟩ = some (.slice none 0 0) := FR.cell 1
    have z2 : w3.cell? ⟨w.heap.size + 1, 2, none⟩ = some (.slice none 0 0) := FR.cell 2
    have y0 := FR.frozen 0
    have y1 := FR.frozen 1
    have y2 := FR.frozen 2
    have gw : w3.grownBy (((w3.setCell ⟨w.heap.size + 1, 0, none⟩ (.slice A1 p.1.length c1)).setCell ⟨w.heap.size + 1, 1, none⟩ (.slice A5 p.2.length c5)).setCell ⟨w.heap.size + 1, 2, none⟩ (.slice none 0 0)) (some (w.heap.size + 1)) := set3_grown _ _ _ _ _
    have zsz : w3.heap.size ≤ (((w3.setCell ⟨w.heap.size + 1, 0, none⟩ (.slice A1 p.1.length c1)).setCell ⟨w.heap.size + 1, 1, none⟩ (.slice A5 p.2.length c5)).setCell ⟨w.heap.size + 1, 2, none⟩ (.slice none 0 0)).heap.size := gw.size
    have FZ : Blk (((w3.setCell ⟨w.heap.size + 1, 0, none⟩ (.slice A1 p.1.length c1)).setCell ⟨w.heap.size + 1, 1, none⟩ (.slice A5 p.2.length c5)).setCell ⟨w.heap.size + 1, 2, none⟩ (.slice none 0 0)) (w.heap.size + 1) 29 #[(.slice A1 p.1.length c1), (.slice A5 p.2.length c5), (.slice none 0 0)] := (((FR.set_ 0 _).set_ 1 _).set_ 2 _)
    have RES : Hid (DkN (((w3.setCell ⟨w.heap.size + 1, 0, none⟩ (.slice A1 p.1.length c1)).setCell ⟨w.heap.size + 1, 1, none⟩ (.slice A5 p.2.length c5)).setCell ⟨w.heap.size + 1, 2, none⟩ (.slice none 0 0)) w.heap.size (.slice A1 p.1.length c1) (.slice A5 p.2.length c5) (.slice none 0 0) (p, []) ∧ Below w.heap.size w (((w3.setCell ⟨w.heap.size + 1, 0, none⟩ (.slice A1 p.1.length c1)).setCell ⟨w.heap.size + 1, 1, none⟩ (.slice A5 p.2.length c5)).setCell ⟨w.heap.size + 1, 2, none⟩ (.slice none 0 0))) := Lib.hid (⟨⟨⟨(PN.out.1.off gw (.inr (fun e => by have := NQ _ e; omega))).base (by omega), iown_g.2 (((iown_g.1 PN.out.2).off gw (.inr (fun e => by have := NI _ e; omega))).base (by omega))⟩, [], ⟨rfl, GOwn.nil _ _ _ _ _, fun k x p h => by simp at h⟩, dk_ap1 ND.out⟩, HB3.out.grown gw HB3.out.size (fun g hg => by have e := Option.some.inj hg; omega)⟩)
    clear gw
    go_wp2_with fail
    clear z0 y0 z1 y1 z2 y2
    generalize (((w3.setCell ⟨w.heap.size + 1, 0, none⟩ (.slice A1 p.1.length c1)).setCell ⟨w.heap.size + 1, 1, none⟩ (.slice A5 p.2.length c5)).setCell ⟨w.heap.size + 1, 2, none⟩ (.slice none 0 0)) = Z at *
    have d0 : Z.cell? ⟨w.heap.size + 1, 0, none⟩ = some (.slice A1 p.1.length c1) := FZ.cell 0
    have d1 : Z.cell? ⟨w.heap.size + 1, 1, none⟩ = some (.slice A5 p.2.length c5) := FZ.cell 1
    have d2 : Z.cell? ⟨w.heap.size + 1, 2, none⟩ = some (.slice none 0 0) := FZ.cell 2
    refine bodyPost_ret (v := .tuple #[.agg #[(.slice A1 p.1.length c1), (.slice A5 p.2.length c5), (.slice none 0 0)], .bool true]) (by simp [results, Try.results14, go_sem, d0, d1, d2]) rfl ?_
    exact dkBo_of HE.out HT.out RES.out.1 RES.out.2

end Go.Proofs.Ytebebcomhdjihaa

namespace Go.Proofs.Ytebebcomhdjihaa
open Go.RowKit
set_option linter.unusedVariables false

theorem cellB15 {w w' : World} {b o : Nat} {x : Value} (hb : Below w.heap.size w w') (hl : b < w.heap.size) (h : w.cell? ⟨b, o, none⟩ = some x) : w'.cell? ⟨b, o, none⟩ = some x := by rw [World.cell?_of_block (hb.block b hl)]; exact h

theorem take_both {α : Type} {xs ys : List α} {k : Nat} {x : α} (h : xs.take k = ys.take k) (hx : xs[k]? = some x) (hy : ys[k]? = some x) : xs.take (k + 1) = ys.take (k + 1) := by rw [List.take_add_one, List.take_add_one, h, hx, hy]

theorem at_ne {α : Type} {xs ys : List α} {k : Nat} {x y : α} (hx : xs[k]? = some x) (hy : ys[k]? = some y) (h : ¬ x = y) : ¬ xs = ys := fun e => h (by rw [e, hy] at hx; exact (Option.some.inj hx).symm)

set_option maxRecDepth 100000 in
set_option maxHeartbeats 8000000 in
theorem samePlace_any {S T : Nat → Prop} (w : World) (v u v' u' : Value) (p q : Pl) (h : PlRd S w v u p) (k : PlRd T w v' u' q) :
    Calls Try.prog 19 #[.agg #[v, u], .agg #[v', u']] w (BoolPost (decide (p = q)) w) := by
  obtain ⟨A, c, rfl, hl, hm⟩ := h.1.1.form
  obtain ⟨A', c', rfl, hl', hm'⟩ := k.1.1.form
  obtain ⟨n, hn⟩ : ∃ n, n = p.1.length := ⟨_, rfl⟩
  obtain ⟨m, hm2⟩ : ∃ m, m = q.1.length := ⟨_, rfl⟩
  rw [← hn] at h hl ⊢
  rw [← hm2] at k hl' ⊢
  have HN := Lib.hid (And.intro hn hm2)
  obtain ⟨W, eW⟩ : ∃ X, (w.alloc (.cells #[.slice A n c, u] 26)).alloc (.cells #[.slice A' m c', u'] 26) = X := ⟨_, rfl⟩
  have f1 : Blk W (w.heap.size) 26 #[.slice A n c, u] := by
    rw [← eW]
    have h0 := heap_alloc_new w (.cells #[.slice A n c, u] 26)
    exact Blk.alloc (h0) _
  have f2 : Blk W (w.heap.size + 1) 26 #[.slice A' m c', u'] := by
    rw [← eW]
    have h0 := heap_alloc_new (w.alloc (.cells #[.slice A n c, u] 26)) (.cells #[.slice A' m c', u'] 26)
    rw [World.size_alloc] at h0
    exact h0
  have bW : Below w.heap.size w W := by rw [← eW]; exact ((Below.refl _ _).alloc (by skip; omega) _).alloc (by rw [World.size_alloc]; omega) _
  have nW : W.heap.size = w.heap.size + 2 := by rw [← eW]; simp
  have HB := Lib.hid bW
  have HW := Lib.hid eW
  have HP := Lib.hid (h.below bW)
  have HQ := Lib.hid (k.below bW)
  have F1 := Lib.hid f1
  have F2 := Lib.hid f2
  have c0 := f1.cell 0
  have c1 := f1.cell 1
  have c2 := f2.cell 0
  have c3 := f2.cell 1
  clear f1 f2 bW eW nW h k hn hm2
  go_enter Try.func19, Try.ntmps19
  go_upto_region 1 with fail
  rw [HW.out]
  clear HW
  by_cases hnm : n = m
  · subst hnm
    obtain ⟨t, ht⟩ : ∃ t, decide (p.2 = q.2) = t := ⟨_, rfl⟩
    have HT := Lib.hid ht
    clear ht
    have hb0 : ((n : Int) != (n : Int)) = false := by simp
    go_wp2_with fail
    refine (sameInts_any W _ _ p.2 q.2 HP.out.2.1 HQ.out.2.1).mono ?_
    rintro e X ⟨n3, rfl, hX⟩
    rw [HT.out]
    have bX : Below W.heap.size W X := by rw [hX]; exact below_drewN (Below.refl _ _) n3
    have HBX := Lib.hid (below_step HB.out bX HB.out.size)
    have HPX := Lib.hid (HP.out.below bX)
    have HQX := Lib.hid (HQ.out.below bX)
    have G1 := Lib.hid (F1.out.below15 bX)
    have G2 := Lib.hid (F2.out.below15 bX)
    clear hX bX hb0 c0 c1 c2 c3 HB HP HQ F1 F2
    cases t
    · have HF : Hid (decide (p = q) = false) := Lib.hid (decide_eq_false (fun e => of_decide_eq_false HT.out (by rw [e])))
      go_wp2_with fail
      go_ret
      exact ⟨ret_bool HF.out.symm, HBX.out⟩
    · have c0 := G1.out.cell 0
      have c2 := G2.out.cell 0
      go_wp2_with fail
      go_loopw [5] (fun i wr => ∃ k : Nat, i = .int .i64 (k : Int) ∧ k ≤ n ∧ Hid (p.1.take k = q.1.take k ∧ Below X.heap.size X wr)) (fun i _ => n - (intOf i).toNat)
      case atStart => exact ⟨0, rfl, Nat.zero_le _, Lib.hid ⟨rfl, Below.refl _ _⟩⟩
      case round =>
        obtain ⟨k, rfl, hk, HR⟩ := hrel
        clear c0 c2
        have c0 := (G1.out.below15 HR.out.2).cell 0
        have c2 := (G2.out.below15 HR.out.2).cell 0
        by_cases hlt : k < n
        · have hlt' : (k : Int) < (n : Int) := by omega
          obtain ⟨b, off, ⟨x0, x1⟩, rfl, -, hx, hx0, hx1⟩ := QRd.at_ (HPX.out.1.1.keep (SameAt.of_below HR.out.2)) hlt
          obtain ⟨b', off', ⟨y0, y1⟩, rfl, -, hy, hy0, hy1⟩ := QRd.at_ (HQX.out.1.1.keep (SameAt.of_below HR.out.2)) hlt
          have HX := Lib.hid hx
          have HY := Lib.hid hy
          dsimp only at hx0 hx1 hy0 hy1
          clear hx hy
          by_cases hxy : x0 = y0 ∧ x1 = y1
          · obtain ⟨rfl, rfl⟩ := hxy
            go_wp2_with fail
            go_region
            all_goals
              go_wp2_with fail
              go_roundw
              case rel => exact ⟨k + 1, by go_num, by omega, Lib.hid ⟨take_both HR.out.1 HX.out HY.out, HR.out.2.drew⟩⟩
              case measure => simp [intOf]; omega
          · have hc : ¬ x0 = y0 ∨ (x0 = y0 ∧ ¬ x1 = y1) := by
              by_cases h1 : x0 = y0
              · exact .inr ⟨h1, fun h3 => hxy ⟨h1, h3⟩⟩
              · exact .inl h1
            have HNE : Hid (decide (p = q) = false) := Lib.hid (decide_eq_false (fun e => at_ne HX.out HY.out (fun e2 => hxy (by injection e2 with e3 e4; exact ⟨e3, e4⟩)) (by rw [e])))
            clear hxy
            rcases hc with hc | ⟨rfl, hc⟩
            all_goals
              go_wp2_with fail
              go_region
              all_goals
                go_wp2_with fail
                go_ret
                exact ⟨ret_bool HNE.out.symm, below_step HBX.out HR.out.2.drew HBX.out.size⟩
        · obtain rfl : k = n := by omega
          have hlt' : decide ((k : Int) < (k : Int)) = false := by simp
          have HF : Hid (decide (p = q) = true) := Lib.hid (decide_eq_true (by
            have h1 := HR.out.1
            obtain ⟨e1, e2⟩ := HN.out
            rw [List.take_of_length_le (by omega), List.take_of_length_le (by omega)] at h1
            exact Prod.ext h1 (of_decide_eq_true HT.out)))
          go_wp2_with fail
          go_ret
          exact ⟨ret_bool HF.out.symm, below_step HBX.out HR.out.2 HBX.out.size⟩
  · have hnm' : ((n : Int) != (m : Int)) = true := by rw [bne_iff_ne]; omega
    have HF : Hid (decide (p = q) = false) := Lib.hid (decide_eq_false (fun e => hnm (by obtain ⟨e1, e2⟩ := HN.out; rw [e1, e2, e])))
    clear hnm
    go_wp2_with fail
    go_ret
    exact ⟨ret_bool HF.out.symm, HB.out⟩

theorem pls_ne15 {ps qs : List Pl} {k : Nat} {p q : Pl} (hp : ps[k]? = some p) (hq : qs[k]? = some q) (h : ¬ p = q) : ¬ ps = qs := at_ne hp hq h

set_option maxRecDepth 100000 in
set_option maxHeartbeats 8000000 in
theorem sameDesk_any {S T : Nat → Prop} (w : World) (v u r v' u' r' : Value) (d x : Dk) (h : DkRd S w v u r d) (k : DkRd T w v' u' r' x) :
    Calls Try.prog 16 #[.agg #[v, u, r], .agg #[v', u', r']] w (BoolPost (decide (d = x)) w) := by
  obtain ⟨A, c, rfl, hl, hm⟩ := h.2.form
  obtain ⟨A', c', rfl, hl', hm'⟩ := k.2.form
  obtain ⟨n, hn⟩ : ∃ n, n = d.2.length := ⟨_, rfl⟩
  obtain ⟨m, hm2⟩ : ∃ m, m = x.2.length := ⟨_, rfl⟩
  rw [← hn] at h hl ⊢
  rw [← hm2] at k hl' ⊢
  have HN := Lib.hid (And.intro hn hm2)
  obtain ⟨W, eW⟩ : ∃ X, (w.alloc (.cells #[v, u, .slice A n c] 29)).alloc (.cells #[v', u', .slice A' m c'] 29) = X := ⟨_, rfl⟩
  have f1 : Blk W (w.heap.size) 29 #[v, u, .slice A n c] := by
    rw [← eW]
    have h0 := heap_alloc_new w (.cells #[v, u, .slice A n c] 29)
    exact Blk.alloc (h0) _
  have f2 : Blk W (w.heap.size + 1) 29 #[v', u', .slice A' m c'] := by
    rw [← eW]
    have h0 := heap_alloc_new (w.alloc (.cells #[v, u, .slice A n c] 29)) (.cells #[v', u', .slice A' m c'] 29)
    rw [World.size_alloc] at h0
    exact h0
  have bW : Below w.heap.size w W := by rw [← eW]; exact ((Below.refl _ _).alloc (by skip; omega) _).alloc (by rw [World.size_alloc]; omega) _
  have nW : W.heap.size = w.heap.size + 2 := by rw [← eW]; simp
  have HB := Lib.hid bW
  have HW := Lib.hid eW
  have HP := Lib.hid (h.below bW)
  have HQ := Lib.hid (k.below bW)
  have F1 := Lib.hid f1
  have F2 := Lib.hid f2
  have c0 := f1.cell 0
  have c1 := f1.cell 1
  have c2 := f2.cell 0
  have c3 := f2.cell 1
  obtain ⟨t, ht⟩ : ∃ t, decide (d.1 = x.1) = t := ⟨_, rfl⟩
  have HT := Lib.hid ht
  clear f1 f2 bW eW nW h k hn hm2 ht
  go_enter Try.func16, Try.ntmps16
  go_upto_region 1 with fail
  rw [HW.out]
  clear HW
  go_wp2_with fail
  refine (samePlace_any W _ _ _ _ d.1 x.1 HP.out.1 HQ.out.1).mono ?_
  rintro e X ⟨rfl, bX⟩
  rw [HT.out]
  have HBX := Lib.hid (below_step HB.out bX HB.out.size)
  have HPX := Lib.hid (HP.out.below bX)
  have HQX := Lib.hid (HQ.out.below bX)
  have G1 := Lib.hid (F1.out.below15 bX)
  have G2 := Lib.hid (F2.out.below15 bX)
  clear bX c0 c1 c2 c3 HB HP HQ F1 F2
  have c0 := G1.out.cell 2
  have c2 := G2.out.cell 2
  cases t
  · have HF : Hid (decide (d = x) = false) := Lib.hid (decide_eq_false (fun e => of_decide_eq_false HT.out (by rw [e])))
    go_wp2_with fail
    go_ret
    exact ⟨ret_bool HF.out.symm, HBX.out⟩
  · by_cases hnm : n = m
    · subst hnm
      have hb0 : ((n : Int) != (n : Int)) = false := by simp
      go_wp2_with fail
      go_loopw [5] (fun i wr => ∃ k : Nat, i = .int .i64 (k : Int) ∧ k ≤ n ∧ Hid (d.2.take k = x.2.take k ∧ Below X.heap.size X wr)) (fun i _ => n - (intOf i).toNat)
      case atStart => exact ⟨0, rfl, Nat.zero_le _, Lib.hid ⟨rfl, Below.refl _ _⟩⟩
      case round =>
        obtain ⟨k, rfl, hk, HR⟩ := hrel
        clear c0 c2
        have c0 := (G1.out.below15 HR.out.2).cell 2
        have c2 := (G2.out.below15 HR.out.2).cell 2
        by_cases hlt : k < n
        · have hlt' : (k : Int) < (n : Int) := by omega
          have hk0 : (0 : Int) ≤ (k : Int) := by omega
          obtain ⟨b, off, pv, pu, p, rfl, hbb, hp, d0, d1, hpl⟩ := (HPX.out.2.below HR.out.2).at_ hlt
          obtain ⟨b', off', qv, qu, q, rfl, hbb', hq, d2, d3, hql⟩ := (HQX.out.2.below HR.out.2).at_ hlt
          have HC : Hid (∀ w', Below wr.heap.size wr w' → ((w'.cell? ⟨b, off + k * 2, none⟩ = some pv ∧ w'.cell? ⟨b, off + k * 2 + 1, none⟩ = some pu) ∧ w'.cell? ⟨b', off' + k * 2, none⟩ = some qv ∧ w'.cell? ⟨b', off' + k * 2 + 1, none⟩ = some qu) ∧ w'.cell? ⟨w.heap.size, 2, none⟩ = some (.slice (some ⟨b, off, none⟩) n c) ∧ w'.cell? ⟨w.heap.size + 1, 2, none⟩ = some (.slice (some ⟨b', off', none⟩) n c')) := Lib.hid (fun w' hb => ⟨⟨⟨cellB15 hb hbb d0, cellB15 hb hbb d1⟩, cellB15 hb hbb' d2, cellB15 hb hbb' d3⟩, ((G1.out.below15 HR.out.2).below15 hb).cell 2, ((G2.out.below15 HR.out.2).below15 hb).cell 2⟩)
          have HPP := Lib.hid (And.intro hp hq)
          have HPL := Lib.hid (hpl.below (w' := wr.drew) (Below.refl _ _).drew)
          have HQL := Lib.hid (hql.below (w' := wr.drew) (Below.refl _ _).drew)
          have s0 : Below wr.heap.size wr wr.drew := (Below.refl _ _).drew
          obtain ⟨t, ht⟩ : ∃ t, decide (p = q) = t := ⟨_, rfl⟩
          have HT2 := Lib.hid ht
          clear hp hq hpl hql hbb hbb' d0 d1 d2 d3 ht
          go_upto_region 6 with fail
          clear c0 c2
          refine wp_region_held_drew (S := fun w' => Below wr.heap.size wr w') (by kernel_rfl) s0 (fun hHeld => ?_)
          generalize wr.drew = X0 at *
          refine take_in (i := 0) (v := ?_) rfl (by kernel_rfl) (fun _ _ _ h => h) rfl ?_ hHeld ?_
          rotate_left
          · intro w' hSw; go_simp; all_goals with_reducible rfl
          try simp only [Act.put, List.setIfInBounds_toArray, List.set_cons_zero, List.set_cons_succ]
          refine take_in (i := 1) (v := ?_) rfl (by kernel_rfl) (fun _ _ _ h => h) rfl ?_ hHeld ?_
          rotate_left
          · intro w' hSw; obtain ⟨⟨⟨q0, q1⟩, q2, q3⟩, q4, q5⟩ := HC.out w' hSw; go_simp; all_goals with_reducible rfl
          try simp only [Act.put, List.setIfInBounds_toArray, List.set_cons_zero, List.set_cons_succ]
          refine take_in (i := 2) (v := ?_) rfl (by kernel_rfl) (fun _ _ _ h => h) rfl ?_ hHeld ?_
          rotate_left
          · intro w' hSw; go_simp; all_goals with_reducible rfl
          try simp only [Act.put, List.setIfInBounds_toArray, List.set_cons_zero, List.set_cons_succ]
          refine take_in (i := 3) (v := ?_) rfl (by kernel_rfl) (fun _ _ _ h => h) rfl ?_ hHeld ?_
          rotate_left
          · intro w' hSw; go_simp; all_goals with_reducible rfl
          try simp only [Act.put, List.setIfInBounds_toArray, List.set_cons_zero, List.set_cons_succ]
          refine take_in (i := 4) (v := ?_) rfl (by kernel_rfl) (fun _ _ _ h => h) rfl ?_ hHeld ?_
          rotate_left
          · intro w' hSw; obtain ⟨⟨⟨q0, q1⟩, q2, q3⟩, q4, q5⟩ := HC.out w' hSw; go_simp; all_goals with_reducible rfl
          try simp only [Act.put, List.setIfInBounds_toArray, List.set_cons_zero, List.set_cons_succ]
          refine take_in (i := 5) (v := ?_) rfl (by kernel_rfl) (fun _ _ _ h => h) rfl ?_ hHeld ?_
          rotate_left
          · intro w' hSw; go_simp; all_goals with_reducible rfl
          try simp only [Act.put, List.setIfInBounds_toArray, List.set_cons_zero, List.set_cons_succ]
          refine take_in (i := 6) (v := ?_) rfl (by kernel_rfl) (fun _ _ _ h => h) rfl ?_ hHeld ?_
          rotate_left
          · intro w' hSw; obtain ⟨⟨⟨q0, q1⟩, q2, q3⟩, q4, q5⟩ := HC.out w' hSw; go_simp; all_goals with_reducible rfl
          try simp only [Act.put, List.setIfInBounds_toArray, List.set_cons_zero, List.set_cons_succ]
          refine take_in (i := 7) (v := ?_) rfl (by kernel_rfl) (fun _ _ _ h => h) rfl ?_ hHeld ?_
          rotate_left
          · intro w' hSw; go_simp; all_goals with_reducible rfl
          try simp only [Act.put, List.setIfInBounds_toArray, List.set_cons_zero, List.set_cons_succ]
          refine take_in (i := 8) (v := ?_) rfl (by kernel_rfl) (fun _ _ _ h => h) rfl ?_ hHeld ?_
          rotate_left
          · intro w' hSw; go_simp; all_goals with_reducible rfl
          try simp only [Act.put, List.setIfInBounds_toArray, List.set_cons_zero, List.set_cons_succ]
          refine take_in (i := 9) (v := ?_) rfl (by kernel_rfl) (fun _ _ _ h => h) rfl ?_ hHeld ?_
          rotate_left
          · intro w' hSw; obtain ⟨⟨⟨q0, q1⟩, q2, q3⟩, q4, q5⟩ := HC.out w' hSw; go_simp; all_goals with_reducible rfl
          try simp only [Act.put, List.setIfInBounds_toArray, List.set_cons_zero, List.set_cons_succ]
          refine ready_one (i := 10) rfl (by kernel_rfl) (fun K hK => ?_)
          go_simp
          go_at_call 19
          refine (samePlace_any X0 pv pu qv qu p q HPL.out HQL.out).mono ?_
          rintro ee X1 ⟨rfl, b1⟩
          rw [HT2.out]
          have s1 := below_step s0 b1 s0.size
          refine hK.out _ _ s1 (fun hHeld => ?_)
          clear hK K b1 s0
          try simp only [Act.put, List.setIfInBounds_toArray, List.set_cons_zero, List.set_cons_succ]
          cases t
          · refine take_in (i := 11) (v := ?_) rfl (by kernel_rfl) (fun _ _ _ h => h) rfl ?_ hHeld ?_
            rotate_left
            · intro w' hSw; go_simp; all_goals with_reducible rfl
            try simp only [Act.put, List.setIfInBounds_toArray, List.set_cons_zero, List.set_cons_succ]
            have HF : Hid (decide (d = x) = false) := Lib.hid (decide_eq_false (fun e => pls_ne15 HPP.out.1 HPP.out.2 (of_decide_eq_false HT2.out) (by rw [e])))
            have HZ := Lib.hid (below_step HBX.out (below_step HR.out.2 s1 HR.out.2.size) HBX.out.size)
            clear s1
            refine wpAnyH_done (by kernel_rfl) ?_ _
            go_wp2_with fail
            go_ret
            exact ⟨ret_bool HF.out.symm, HZ.out⟩
          · refine take_in (i := 11) (v := ?_) rfl (by kernel_rfl) (fun _ _ _ h => h) rfl ?_ hHeld ?_
            rotate_left
            · intro w' hSw; go_simp; all_goals with_reducible rfl
            try simp only [Act.put, List.setIfInBounds_toArray, List.set_cons_zero, List.set_cons_succ]
            have HZ : Hid (d.2.take (k + 1) = x.2.take (k + 1) ∧ Below X.heap.size X X1) := Lib.hid ⟨take_both HR.out.1 HPP.out.1 (by rw [HPP.out.2, of_decide_eq_true HT2.out]), below_step HR.out.2 s1 HR.out.2.size⟩
            clear s1
            refine wpAnyH_done (by kernel_rfl) ?_ _
            go_wp2_with fail
            go_roundw
            case rel => exact ⟨k + 1, by go_num, by omega, HZ⟩
            case measure => simp [intOf]; omega
        · obtain rfl : k = n := by omega
          have hlt' : decide ((k : Int) < (k : Int)) = false := by simp
          have HF : Hid (decide (d = x) = true) := Lib.hid (decide_eq_true (by
            have h1 := HR.out.1
            obtain ⟨e1, e2⟩ := HN.out
            rw [List.take_of_length_le (by omega), List.take_of_length_le (by omega)] at h1
            exact Prod.ext (of_decide_eq_true HT.out) h1))
          go_wp2_with fail
          go_ret
          exact ⟨ret_bool HF.out.symm, below_step HBX.out HR.out.2 HBX.out.size⟩
    · have hnm' : ((n : Int) != (m : Int)) = true := by rw [bne_iff_ne]; omega
      have HF : Hid (decide (d = x) = false) := Lib.hid (decide_eq_false (fun e => hnm (by obtain ⟨e1, e2⟩ := HN.out; rw [e1, e2, e])))
      clear hnm
      go_wp2_with fail
      go_ret
      exact ⟨ret_bool HF.out.symm, HBX.out⟩

set_option maxHeartbeats 4000000 in
theorem noDesk_any {S : Nat → Prop} (w : World) (v u r : Value) (d : Dk) (h : DkRd S w v u r d) :
    Calls Try.prog 17 #[.agg #[v, u, r]] w (BoolPost (decide (d = noDk)) w) := by
  obtain ⟨W, eW⟩ : ∃ X, w.alloc (.cells #[v, u, r] 29) = X := ⟨_, rfl⟩
  have f1 : Blk W (w.heap.size) 29 #[v, u, r] := by
    rw [← eW]
    have h0 := heap_alloc_new w (.cells #[v, u, r] 29)
    exact h0
  have bW : Below w.heap.size w W := by rw [← eW]; exact (Below.refl _ _).alloc (by skip; omega) _
  have nW : W.heap.size = w.heap.size + 1 := by rw [← eW]; simp
  have HB := Lib.hid bW
  have HW := Lib.hid eW
  have HP := Lib.hid (h.below bW)
  have c0 := f1.cell 0
  have c1 := f1.cell 1
  have c2 := f1.cell 2
  clear f1 bW eW nW h
  go_enter Try.func17, Try.ntmps17
  go_upto_region 1 with fail
  rw [HW.out]
  clear HW
  go_wp2_with fail
  refine (sameDesk_any (T := S) W _ _ _ _ _ _ d noDk HP.out (DkRd.nil S _)).mono ?_
  rintro e X ⟨rfl, bX⟩
  have HZ := Lib.hid (below_step HB.out bX HB.out.size)
  clear bX c0 c1 c2
  go_wp2_with fail
  go_ret
  exact ⟨rfl, HZ.out⟩

end Go.Proofs.Ytebebcomhdjihaa

namespace Go.Proofs.Ytebebcomhdjihaa
open Go.RowKit
set_option linter.unusedVariables false

theorem dkB_new {p : Pl} (h : plB p = true) : dkB (p, []) = true := (dkB_iff _).2 ⟨fun q hq => (by cases hq), h, (by simp)⟩

set_option maxRecDepth 100000 in
set_option maxHeartbeats 16000000 in
theorem FnDeskNew_walk (a0 : Option Addr) (len0 cap0 : Nat) (z0 : List Int) (w : World) (w0 : IsRowC .u8 w a0 len0 cap0 z0) :
    Calls Try.prog 4 #[.slice a0 len0 cap0] w fun e w' => e = .returned (.bool true) ∧ Below w.heap.size w w' := by
  by_cases hlen : 1048576 < len0
  · clear w0
    go_enter Try.func4, Try.ntmps4
    go_wp2
    go_ret
    exact ⟨rfl, Below.refl _ _⟩
  · have hlen' : decide (1048576 < len0) = false := by simpa using hlen
    go_enter Try.func4, Try.ntmps4
    go_wp2_with fail
    refine (drawDeskNew_any _ _ _ _ _ w0).mono ?_
    rintro e w1 ⟨v, u, p, rfl, hp, -, b1⟩
    obtain ⟨Av, cv, rfl, -, -⟩ := hp.1.1.form
    obtain ⟨Au, cu, rfl, -, -, -⟩ := id hp.2.1
    clear hlen hlen' w0
    have HB := Lib.hid b1
    have HP := Lib.hid (hp.mono (T := fun _ => True) (fun _ _ => trivial))
    clear hp b1
    obtain ⟨D, hD⟩ : ∃ D, (if plB p = true then (p, []) else noDk) = D := ⟨_, rfl⟩
    obtain ⟨b, hb⟩ : ∃ b, plB p = b := ⟨_, rfl⟩
    obtain ⟨n0, hn0⟩ : ∃ n, D.2.length = n := ⟨_, rfl⟩
    have HD := Lib.hid hD
    have HBB := Lib.hid hb
    have HN0 := Lib.hid hn0
    clear hD hb hn0
    obtain ⟨w2, hw2⟩ : ∃ X, w1.alloc (.cells #[(.slice Av p.1.length cv), (.slice Au p.2.length cu)] 26) = X := ⟨_, rfl⟩
    have bw2 : Below w1.heap.size w1 w2 := by rw [← hw2]; exact (Below.refl _ _).alloc (Nat.le_refl _) _
    have FP := Lib.hid (show Blk w2 w1.heap.size 26 #[(.slice Av p.1.length cv), (.slice Au p.2.length cu)] by rw [← hw2]; exact heap_alloc_new _ _)
    have sw2 : w1.heap.size < w2.heap.size := by rw [← hw2]; simp
    have Ew2 := Lib.hid hw2
    clear hw2
    have zw2 := bw2.size
    replace HP := Lib.hid (HP.out.below bw2)
    replace HB := Lib.hid (below_step HB.out bw2 HB.out.size)
    clear bw2
    go_upto_region 4 with fail
    rw [Ew2.out]
    clear Ew2
    have qFP0 := FP.out.cell 0
    have qFP1 := FP.out.cell 1
    go_wp2_with fail
    refine (implDeskNew_any w2 _ _ p HP.out D HD.out).mono ?_
    rintro e w3 ⟨vx, ux, rx, rfl, dn, bw3⟩
    rw [HBB.out]
    obtain ⟨⟨Axa, nxa, cxa, rfl⟩, ⟨Axb, nxb, cxb, rfl⟩, -⟩ := dkForm dn.rd
    obtain ⟨Axc, cxc, ex, -⟩ := dn.rd.2.form
    rw [HN0.out] at ex
    subst ex
    clear qFP0 qFP1
    have zw3 := bw3.size
    replace HP := Lib.hid (HP.out.below bw3)
    replace FP := Lib.hid (FP.out.below15 bw3)
    replace HB := Lib.hid (below_step HB.out bw3 HB.out.size)
    clear bw3
    have HX := Lib.hid (dn.rd)
    clear dn
    obtain ⟨w4, hw4⟩ : ∃ X, w3.alloc (.cells #[(.slice Axa nxa cxa), (.slice Axb nxb cxb), (.slice Axc n0 cxc)] 29) = X := ⟨_, rfl⟩
    have bw4 : Below w3.heap.size w3 w4 := by rw [← hw4]; exact (Below.refl _ _).alloc (Nat.le_refl _) _
    have FX := Lib.hid (show Blk w4 w3.heap.size 29 #[(.slice Axa nxa cxa), (.slice Axb nxb cxb), (.slice Axc n0 cxc)] by rw [← hw4]; exact heap_alloc_new _ _)
    have sw4 : w3.heap.size < w4.heap.size := by rw [← hw4]; simp
    have Ew4 := Lib.hid hw4
    clear hw4
    have zw4 := bw4.size
    replace HP := Lib.hid (HP.out.below bw4)
    replace FP := Lib.hid (FP.out.below15 bw4)
    replace HX := Lib.hid (HX.out.below bw4)
    replace HB := Lib.hid (below_step HB.out bw4 HB.out.size)
    clear bw4
    go_upto_region 5 with fail
    rw [Ew4.out]
    clear Ew4
    have qFP0 := FP.out.cell 0
    have qFP1 := FP.out.cell 1
    go_wp2_with fail
    refine (specDeskNew_any w4 _ _ p HP.out D HD.out).mono ?_
    rintro e w5 ⟨vy, uy, ry, rfl, dr, -, bw5⟩
    rw [HBB.out]
    obtain ⟨⟨Aya, nya, cya, rfl⟩, ⟨Ayb, nyb, cyb, rfl⟩, -⟩ := dkForm dr
    obtain ⟨Ayc, cyc, ex, -⟩ := dr.2.form
    rw [HN0.out] at ex
    subst ex
    clear qFP0 qFP1
    have zw5 := bw5.size
    replace HP := Lib.hid (HP.out.below bw5)
    replace FP := Lib.hid (FP.out.below15 bw5)
    replace HX := Lib.hid (HX.out.below bw5)
    replace FX := Lib.hid (FX.out.below15 bw5)
    replace HB := Lib.hid (below_step HB.out bw5 HB.out.size)
    clear bw5
    have HY := Lib.hid (dr)
    clear dr
    obtain ⟨w6, hw6⟩ : ∃ X, w5.alloc (.cells #[(.slice Aya nya cya), (.slice Ayb nyb cyb), (.slice Ayc n0 cyc)] 29) = X := ⟨_, rfl⟩
    have bw6 : Below w5.heap.size w5 w6 := by rw [← hw6]; exact (Below.refl _ _).alloc (Nat.le_refl _) _
    have FY := Lib.hid (show Blk w6 w5.heap.size 29 #[(.slice Aya nya cya), (.slice Ayb nyb cyb), (.slice Ayc n0 cyc)] by rw [← hw6]; exact heap_alloc_new _ _)
    have sw6 : w5.heap.size < w6.heap.size := by rw [← hw6]; simp
    have Ew6 := Lib.hid hw6
    clear hw6
    have zw6 := bw6.size
    replace HP := Lib.hid (HP.out.below bw6)
    replace FP := Lib.hid (FP.out.below15 bw6)
    replace HX := Lib.hid (HX.out.below bw6)
    replace FX := Lib.hid (FX.out.below15 bw6)
    replace HY := Lib.hid (HY.out.below bw6)
    replace HB := Lib.hid (below_step HB.out bw6 HB.out.size)
    clear bw6
    go_upto_region 6 with fail
    rw [Ew6.out]
    clear Ew6
    cases b
    · have HE : Hid (D = noDk) := Lib.hid (by rw [← HD.out, HBB.out]; rfl)
      have qFX0 := FX.out.cell 0
      have qFX1 := FX.out.cell 1
      have qFX2 := FX.out.cell 2
      have qFY0 := FY.out.cell 0
      have qFY1 := FY.out.cell 1
      have qFY2 := FY.out.cell 2
      go_wp2_with fail
      refine (sameDesk_any w6 _ _ _ _ _ _ D D HX.out HY.out).mono ?_
      rintro e w7 ⟨rfl, bw7⟩
      rw [show decide (D = D) = true from by simp]
      clear qFX0 qFX1 qFX2 qFY0 qFY1 qFY2
      have zw7 := bw7.size
      replace HP := Lib.hid (HP.out.below bw7)
      replace FP := Lib.hid (FP.out.below15 bw7)
      replace HX := Lib.hid (HX.out.below bw7)
      replace FX := Lib.hid (FX.out.below15 bw7)
      replace HY := Lib.hid (HY.out.below bw7)
      replace FY := Lib.hid (FY.out.below15 bw7)
      replace HB := Lib.hid (below_step HB.out bw7 HB.out.size)
      clear bw7
      have qFX0 := FX.out.cell 0
      have qFX1 := FX.out.cell 1
      have qFX2 := FX.out.cell 2
      go_wp2_with fail
      refine (noDesk_any w7 _ _ _ D HX.out).mono ?_
      rintro e w8 ⟨rfl, bw8⟩
      rw [show decide (D = noDk) = true from decide_eq_true HE.out]
      clear qFX0 qFX1 qFX2
      have zw8 := bw8.size
      replace HP := Lib.hid (HP.out.below bw8)
      replace FP := Lib.hid (FP.out.below15 bw8)
      replace HX := Lib.hid (HX.out.below bw8)
      replace FX := Lib.hid (FX.out.below15 bw8)
      replace HY := Lib.hid (HY.out.below bw8)
      replace FY := Lib.hid (FY.out.below15 bw8)
      replace HB := Lib.hid (below_step HB.out bw8 HB.out.size)
      clear bw8
      have qFP0 := FP.out.cell 0
      have qFP1 := FP.out.cell 1
      go_wp2_with fail
      refine (implPlaceOk_any w8 _ _ p.1 p.2 HP.out.1.1 HP.out.2.1).mono ?_
      rintro e w9 ⟨rfl, bw9⟩
      rw [show plB (p.1, p.2) = false from HBB.out]
      clear qFP0 qFP1
      have zw9 := bw9.size
      replace HP := Lib.hid (HP.out.below bw9)
      replace FP := Lib.hid (FP.out.below15 bw9)
      replace HX := Lib.hid (HX.out.below bw9)
      replace FX := Lib.hid (FX.out.below15 bw9)
      replace HY := Lib.hid (HY.out.below bw9)
      replace FY := Lib.hid (FY.out.below15 bw9)
      replace HB := Lib.hid (below_step HB.out bw9 HB.out.size)
      clear bw9
      go_wp2_with fail
      refine (alive_any _).mono ?_
      rintro e w' ⟨rfl, rfl⟩
      go_wp2_with fail
      go_ret
      exact ⟨rfl, HB.out⟩
    · have HE : Hid (D = (p, [])) := Lib.hid (by rw [← HD.out, HBB.out]; rfl)
      obtain rfl : n0 = 0 := by rw [← HN0.out, HE.out]; rfl
      have qFX0 := FX.out.cell 0
      have qFX1 := FX.out.cell 1
      have qFX2 := FX.out.cell 2
      have qFY0 := FY.out.cell 0
      have qFY1 := FY.out.cell 1
      have qFY2 := FY.out.cell 2
      go_wp2_with fail
      refine (sameDesk_any w6 _ _ _ _ _ _ D D HX.out HY.out).mono ?_
      rintro e w7 ⟨rfl, bw7⟩
      rw [show decide (D = D) = true from by simp]
      clear qFX0 qFX1 qFX2 qFY0 qFY1 qFY2
      have zw7 := bw7.size
      replace HP := Lib.hid (HP.out.below bw7)
      replace FP := Lib.hid (FP.out.below15 bw7)
      replace HX := Lib.hid (HX.out.below bw7)
      replace FX := Lib.hid (FX.out.below15 bw7)
      replace HY := Lib.hid (HY.out.below bw7)
      replace FY := Lib.hid (FY.out.below15 bw7)
      replace HB := Lib.hid (below_step HB.out bw7 HB.out.size)
      clear bw7
      have qFX0 := FX.out.cell 0
      have qFX1 := FX.out.cell 1
      have qFX2 := FX.out.cell 2
      go_wp2_with fail
      refine (implDeskOk_any w7 _ _ _ D HX.out).mono ?_
      rintro e w8 ⟨rfl, bw8⟩
      rw [show dkB D = true from by rw [HE.out]; exact dkB_new HBB.out]
      clear qFX0 qFX1 qFX2
      have zw8 := bw8.size
      replace HP := Lib.hid (HP.out.below bw8)
      replace FP := Lib.hid (FP.out.below15 bw8)
      replace HX := Lib.hid (HX.out.below bw8)
      replace FX := Lib.hid (FX.out.below15 bw8)
      replace HY := Lib.hid (HY.out.below bw8)
      replace FY := Lib.hid (FY.out.below15 bw8)
      replace HB := Lib.hid (below_step HB.out bw8 HB.out.size)
      clear bw8
      have qFX0 := FX.out.cell 0
      have qFX1 := FX.out.cell 1
      have qFP0 := FP.out.cell 0
      have qFP1 := FP.out.cell 1
      go_wp2_with fail
      refine (samePlace_any w8 _ _ _ _ D.1 p HX.out.1 HP.out).mono ?_
      rintro e w9 ⟨rfl, bw9⟩
      rw [show decide (D.1 = p) = true from decide_eq_true (by rw [HE.out])]
      clear qFX0 qFX1 qFP0 qFP1
      have zw9 := bw9.size
      replace HP := Lib.hid (HP.out.below bw9)
      replace FP := Lib.hid (FP.out.below15 bw9)
      replace HX := Lib.hid (HX.out.below bw9)
      replace FX := Lib.hid (FX.out.below15 bw9)
      replace HY := Lib.hid (HY.out.below bw9)
      replace FY := Lib.hid (FY.out.below15 bw9)
      replace HB := Lib.hid (below_step HB.out bw9 HB.out.size)
      clear bw9
      have qFX2 := FX.out.cell 2
      go_wp2_with fail
      go_ret
      exact ⟨rfl, HB.out⟩

end Go.Proofs.Ytebebcomhdjihaa
