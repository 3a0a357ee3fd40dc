/- A range over a function that walks over rows of its own: the law for the loop. Conditions: the walk's contract; what the body keeps. The program's walk over the measures that fit a book: its contract. Conditions: stated. -/
import Derived.RangeFuncWrites
import Derived.RangeFuncBound
import Derived.RangeFuncCalls
import Derived.RangeFuncLeaves
import Derived.Test.YteljcicdibbhdaaMe
import Derived.RangeFuncNested
import Derived.Shelf.RegionOpen
import Derived.WalkKit
import Derived.OwnWalkIn
import Derived.TacticsInMore
import Derived.LoopNIn
import Derived.LoopIn
import Derived.Sort.LoopGhostIn
import Derived.Test.YteljcicdibbhdaaNb
import Derived.Test.YteljcicdibbhdaaNc
namespace Go.Proofs.Yteljcicdibbhdaa
open Go.RowKit
set_option linter.unusedVariables false

/-- every block but C and l lies as it lay -/
def KeptBut (C l : Nat) (A B : World) : Prop := A.heap.size ≤ B.heap.size ∧ ∀ k, k < A.heap.size → k ≠ C → k ≠ l → B.heap[k]? = A.heap[k]?

/-- a caller's word is not touched by what is done from block B on -/
def Stays {β : Type} (B : Nat) (J : β → World → Prop) : Prop := ∀ s A A', J s A → Below B A A' → J s A'

/-- the contract of a walk over rows of its own: 'all' come, in this order, unless a round says that no more are wanted -/
def RowWalk (n : Nat) (P : Program) (gf : Nat) (lb : Array Value) (C : Nat) (w0 : World) (all : List (List Int)) : Prop :=
  ∀ (l : Nat) (J Jx : List (List Int) → World → Prop) (W : World), Below w0.heap.size w0 W → w0.heap.size ≤ l → l < W.heap.size → Stays W.heap.size J →
    (∀ pre x v A, J pre A → W.heap.size ≤ A.heap.size → IOwn A W.heap.size v x → (pre ++ [x]) <+: all →
      YieldAt Fence.wide (n - 1) P l #[v] A fun e A' => (e = .returned (.bool true) ∧ J (pre ++ [x]) A' ∧ KeptBut C l A A') ∨ (e = .returned (.bool false) ∧ Jx (pre ++ [x]) A')) →
    J [] W →
    CallsIn Fence.wide n P gf (#[.func (.yield l) #[] #[]] ++ lb) W fun e A => (∃ v, e = .returned v) ∧ (J all A ∨ ∃ pre, pre <+: all ∧ Jx pre A)

/-- how a round's body may be left -/
def RowPost (C : Nat) (I : List (List Int) → World → Prop) (Ix : Code → List (List Int) → World → Prop) (xs : List (List Int)) (A : World) : Exit → Act → World → Prop
  | .normal, _, B => KeptBut C C A B ∧ I xs B
  | .ret, _, B => KeepsOthers A B ∧ Ix .ret xs B
  | _, _, _ => False

theorem below_put {B : Nat} {A : World} {l : Nat} (o : Obj) (hl : l < A.heap.size) (hB : B ≤ l) : Below B A (A.putObj l o) :=
  (Below.refl B A).grown (grownBy_putObj' A l o) (by omega) (fun k e => by cases e; exact hB)

theorem own_put {A : World} {base l : Nat} {v : Value} {x : List Int} (o : Obj) (h : IOwn A base v x) (hl : l < base) : IOwn (A.putObj l o) base v x :=
  h.keep ⟨by simp, fun g hg hlt => World.putObj_heap_other (by have := (h.ge g hg).1; omega)⟩

set_option maxHeartbeats 2000000 in
theorem wpIn_rows {n : Nat} {P : Program} {g : Operand} {ps : Array Tmp} {assign body : Code} {Q : Exit → Act → World → Prop} {a : Act} {w : World} (h1 : 1 ≤ n)
    {gf : Nat} {lb : Array Value} (hg : a.eval g = .func (.func gf) #[] lb) (eg : ∀ args w, (callFunc gf args).run P w = .ok (.enter gf args) w)
    {C : Nat} {all : List (List Int)} (hseq : RowWalk (n - 1) P gf lb C w all) (hC : C < w.heap.size) (hps : ps.size = 1)
    (I : List (List Int) → World → Prop) (Ix : Code → List (List Int) → World → Prop) (hI : Stays w.heap.size I)
    (hIx : ∀ c pre A l o o', Ix c pre A → w.heap.size ≤ l → A.heap[l]? = some o → o.isCells = false → Ix c pre (A.putObj l o')) (h0 : I [] w)
    (hround : ∀ (l : Nat) (pre : List (List Int)) (x : List Int) (v : Value) (W : World), (pre ++ [x]) <+: all →
      assign.wpIn (Fence.wide.inRound l) (n - 1 - 1) P (Exit.then (fun a₁ W' => W' = W ∧ ∀ B, I pre B → w.heap.size + 2 ≤ B.heap.size → IOwn B (w.heap.size + 2) v x →
        body.wpIn (Fence.wide.inRound l) (n - 1 - 1) P (RowPost C I Ix (pre ++ [x]) B) a₁ B) (fun _ _ _ => False)) { tmps := (ps.zip #[v]).foldl (fun t (p, v) => t.setIfInBounds p v) a.tmps, defers := [] } W)
    (hdone : ∀ (D : Nat) (W : World), w.heap.size ≤ D → I all W → W.heap[D]? = some (.deferred (some [])) → Q .normal { a with defers := { target := .collected D, args := #[] } :: a.defers } W)
    (hstop : ∀ (D : Nat) (c : Code) (pre : List (List Int)) (W : World), w.heap.size ≤ D → pre <+: all → Ix c pre W → W.heap[D]? = some (.deferred (some [])) → c.wpIn Fence.wide n P Q { a with defers := { target := .collected D, args := #[] } :: a.defers } W) :
    (Code.rangeFunc g ps assign body).wpIn Fence.wide n P Q a w := by
  apply wpIn_rangeFunc
  intro fn _
  -- the record of the loop, and the world in which the walk's function is called
  let rec' : LoopState → Option Code → Loop := fun st pe => { state := st, pending := pe, fn := fn, tmps := a.tmps, params := ps, assign := assign, body := body, defers := w.heap.size }
  obtain ⟨rc, hrc⟩ : ∃ rc, rc = rec' := ⟨_, rfl⟩
  have hs0 : ∀ st pe, (rc st pe).state = st := fun _ _ => by rw [hrc]
  have hp0 : ∀ st pe, (rc st pe).pending = pe := fun _ _ => by rw [hrc]
  obtain ⟨S, hS⟩ : ∃ S, (w.alloc (.deferred (some []))).alloc (.loop (rc .ready none)) = S := ⟨_, rfl⟩
  have hsz : S.heap.size = w.heap.size + 2 := by rw [← hS]; simp
  have hSl : S.heap[w.heap.size + 1]? = some (.loop (rc .ready none)) := by
    rw [← hS]
    have := World.alloc_heap_new (w.alloc (.deferred (some []))) (.loop (rc .ready none))
    rwa [World.size_alloc] at this
  have hSd : S.heap[w.heap.size]? = some (.deferred (some [])) := by
    rw [← hS, Below.heap_alloc _ _ _ (by simp)]; exact World.alloc_heap_new w _
  have hSB : Below w.heap.size w S := by rw [← hS]; exact ((Below.refl _ w).alloc (Nat.le_refl _) _).alloc (by simp) _
  refine ⟨w.heap.size + 1, [{ target := .collected w.heap.size, args := #[] }], S, { target := .fn (.func gf) lb, args := #[.func (.yield (w.heap.size + 1)) #[] #[]] }, S, gf, #[.func (.yield (w.heap.size + 1)) #[] #[]] ++ lb, S, ?_, ?_, fun _ _ => trivial, ?_, fun _ => h1, ?_⟩
  · rw [← hS, hrc]; exact run_enterLoop_outer _ _ _ _ _
  · simp only [resolve, hg]; simp [go_sem]
  · simp [invoke, go_sem, eg]
  refine (hseq (w.heap.size + 1)
    (fun pre A => I pre A ∧ A.heap[w.heap.size + 1]? = some (.loop (rc .ready none)) ∧ A.heap[w.heap.size]? = some (.deferred (some [])))
    (fun pre A => ∃ c, Ix c pre A ∧ A.heap[w.heap.size + 1]? = some (.loop (rc .done (some c))) ∧ A.heap[w.heap.size]? = some (.deferred (some [])))
    S hSB (by omega) (by omega) ?stay ?round ⟨hI _ _ _ h0 hSB, hSl, hSd⟩).mono ?behind
  case stay =>
    rintro pre A A' ⟨i1, i2, i3⟩ hb
    exact ⟨hI _ _ _ i1 (hb.mono (by omega)), (hb.block _ (by omega)).trans i2, (hb.block _ (by omega)).trans i3⟩
  case round =>
    rintro pre x v A ⟨i1, i2, i3⟩ hA hv hpre
    have hlt : w.heap.size + 1 < A.heap.size := (Array.getElem?_eq_some_iff.1 i2).1
    have hy := run_yield (P := P) (args := #[v]) i2 (by rw [hrc]; simp [rec', hps])
    rw [hrc] at hy
    refine ⟨fn, _, assign, body, hy, roundIn_of_wpIn trivial (wpIn_mono (hround _ pre x v A hpre) ?_)⟩
    rintro e0 a1 A1 h01
    cases e0 with
    | exit id => exact h01.elim
    | goto t => exact h01.elim
    | ret => exact h01.elim
    | panic ch => exact h01.elim
    | outgrown => exact h01.elim
    | normal =>
    obtain ⟨rfl, hbody⟩ := h01
    refine ⟨_, run_beginRound i2 (hs0 _ _), ?_⟩
    obtain ⟨B, hB⟩ : ∃ B, A1.putObj (w.heap.size + 1) (.loop { rc .ready none with state := .busy }) = B := ⟨_, rfl⟩
    rw [hB]
    have hBl : B.heap[w.heap.size + 1]? = some (.loop { rc .ready none with state := .busy }) := by rw [← hB]; exact World.putObj_heap_same hlt
    have hBd : B.heap[w.heap.size]? = some (.deferred (some [])) := by rw [← hB, World.putObj_heap_other (by omega)]; exact i3
    have hBs : B.heap.size = A1.heap.size := by rw [← hB]; simp
    have hBI : I pre B := by rw [← hB]; exact hI _ _ _ i1 (below_put _ hlt (by omega))
    have hBv : IOwn B (w.heap.size + 2) v x := by rw [← hB, ← hsz]; exact own_put _ hv (by omega)
    have hBo : ∀ k, k ≠ w.heap.size + 1 → B.heap[k]? = A1.heap[k]? := fun k hk => by rw [← hB]; exact World.putObj_heap_other hk
    refine wpIn_mono (hbody B hBI (by omega) hBv) ?_
    rintro e a3 Z hp
    -- the record and the deferred calls' block, behind the body
    have fin : ∀ (jump : Option Code), Z.heap[w.heap.size + 1]? = some (.loop { rc .ready none with state := .busy }) → Z.heap[w.heap.size]? = some (.deferred (some [])) →
        (Instr.endRound (w.heap.size + 1) jump).run P Z = .ok (.bool jump.isNone) (Z.putObj (w.heap.size + 1) (.loop (rc (if jump.isNone then .ready else .done) jump))) ∧
        (Z.putObj (w.heap.size + 1) (.loop (rc (if jump.isNone then .ready else .done) jump))).heap[w.heap.size + 1]? = some (.loop (rc (if jump.isNone then .ready else .done) jump)) ∧
        (Z.putObj (w.heap.size + 1) (.loop (rc (if jump.isNone then .ready else .done) jump))).heap[w.heap.size]? = some (.deferred (some [])) := by
      intro jump hl3 hd3
      have hr := run_endRound (P := P) jump hl3
      refine ⟨?_, World.putObj_heap_same (Array.getElem?_eq_some_iff.1 hl3).1, (World.putObj_heap_other (by omega)).trans hd3⟩
      rw [hr, hrc]
    cases e with
    | normal =>
      obtain ⟨⟨k1, k2⟩, hi3⟩ := hp
      have hl3 := (k2 (w.heap.size + 1) (by omega) (by omega) (by omega)).trans hBl
      have hd3 := (k2 w.heap.size (by omega) (by omega) (by omega)).trans hBd
      obtain ⟨hr, hl4, hd4⟩ := fin none hl3 hd3
      have hlt3 := (Array.getElem?_eq_some_iff.1 hl3).1
      refine ⟨_, _, hr, .inl ⟨rfl, ⟨hI _ _ _ hi3 (below_put _ hlt3 (by omega)), hl4, hd4⟩, ?_⟩⟩
      refine ⟨by simp; omega, fun k hk hkC hkl => ?_⟩
      rw [World.putObj_heap_other hkl, k2 k (by omega) hkC hkC, hBo k hkl]
    | ret =>
      obtain ⟨hk3, hi3⟩ := hp
      have hl3 := hk3.same _ _ hBl rfl
      obtain ⟨hr, hl4, hd4⟩ := fin (some .ret) hl3 (hk3.same _ _ hBd rfl)
      exact ⟨_, _, hr, .inr ⟨rfl, .ret, hIx _ _ _ _ _ _ hi3 (by omega) hl3 rfl, hl4, hd4⟩⟩
    | exit id => exact hp.elim
    | goto t => exact hp.elim
    | panic ch => exact hp.elim
    | outgrown => exact hp.elim
  case behind =>
    rintro e Z ⟨⟨v, rfl⟩, ⟨i1, i2, i3⟩ | ⟨pre, hpre, c, i1, i2, i3⟩⟩
    · have hlt := (Array.getElem?_eq_some_iff.1 i2).1
      have hr := run_endLoop (P := P) i2 (by rw [hs0]; simp)
      rw [hp0] at hr
      exact ⟨none, _, hr, hdone _ _ (Nat.le_refl _) (hI _ _ _ i1 (below_put _ hlt (by omega))) ((World.putObj_heap_other (by omega)).trans i3)⟩
    · have hr := run_endLoop (P := P) i2 (by rw [hs0]; simp)
      rw [hp0] at hr
      exact ⟨some c, _, hr, hstop _ c pre _ (Nat.le_refl _) hpre (hIx _ _ _ _ _ _ i1 (by omega) i2 rfl) ((World.putObj_heap_other (by omega)).trans i3)⟩

end Go.Proofs.Yteljcicdibbhdaa

namespace Go.Proofs.Yteljcicdibbhdaa
open Go.RowKit Go.Shelf
set_option linter.unusedVariables false
attribute [local go_sem] Oper.semAt_some

/-- all measures that fit, in their order -/
def fitAll (m : Nat) (qs : List Qt) : List (List Int) := ((lay m 36).filter fun l => fitI (natL l) qs).map natL

/-- those of the first d ways to lay the grains -/
def preN (m : Nat) (qs : List Qt) (d : Nat) : List (List Int) := (((lay m 36).take d).filter fun l => fitI (natL l) qs).map natL

theorem pre_zero (m : Nat) (qs : List Qt) : preN m qs 0 = [] := by simp [preN]

theorem pre_all {m : Nat} {qs : List Qt} {d : Nat} (h : (lay m 36).length ≤ d) : preN m qs d = fitAll m qs := by
  rw [preN, List.take_of_length_le h]; rfl

theorem pre_fit {m : Nat} {qs : List Qt} {d : Nat} {l : List Nat} (h : (lay m 36)[d]? = some l) (hf : fitI (natL l) qs = true) : preN m qs (d + 1) = preN m qs d ++ [natL l] := by
  rw [preN, preN, List.take_add_one, h, List.filter_append]
  simp [hf]

theorem pre_skip {m : Nat} {qs : List Qt} {d : Nat} {l : List Nat} (h : (lay m 36)[d]? = some l) (hf : fitI (natL l) qs = false) : preN m qs (d + 1) = preN m qs d := by
  rw [preN, preN, List.take_add_one, h, List.filter_append]
  simp [hf]

theorem pre_prefix (m : Nat) (qs : List Qt) (d : Nat) : preN m qs d <+: fitAll m qs := ((List.take_prefix d (lay m 36)).filter _).map _

/-- what lay ahead of a loop, but for block C, lies as it lay -/
def Held (w0 : World) (C : Nat) (A : World) : Prop := w0.heap.size ≤ A.heap.size ∧ ∀ k, k < w0.heap.size → k ≠ C → A.heap[k]? = w0.heap[k]?

theorem Held.below {w0 A A' : World} {C B : Nat} (h : Held w0 C A) (hb : Below B A A') (hB : w0.heap.size ≤ B) : Held w0 C A' :=
  ⟨Nat.le_trans h.1 hb.size, fun k hk hC => (hb.block k (by omega)).trans (h.2 k hk hC)⟩

theorem Held.kept {w0 A A' : World} {C l : Nat} (h : Held w0 C A) (hb : KeptBut C l A A') (hl : w0.heap.size ≤ l) : Held w0 C A' :=
  ⟨Nat.le_trans h.1 hb.1, fun k hk hC => (hb.2 k (by have := h.1; omega) hC (by omega)).trans (h.2 k hk hC)⟩

theorem Held.cell {w0 A : World} {C : Nat} (h : Held w0 C A) {p : Addr} (hp : p.block < w0.heap.size) (hC : p.block ≠ C) : A.cell? p = w0.cell? p := World.cell?_of_block (w := w0) (h.2 p.block hp hC)

/-- where the walk stands -/
def FwRel (W w0 : World) (C m : Nat) (qs : List Qt) (J : List (List Int) → World → Prop) (v : Value) (d : Nat) (t : Bool) (A : World) : Prop :=
  (∃ l, IOwn A W.heap.size v (natL l) ∧ (t = true → (lay m 36)[d]? = some l) ∧ (t = false → (lay m 36).length = d)) ∧ Held w0 C A ∧ J (preN m qs d) A ∧ W.heap.size ≤ A.heap.size

/-- a row of the walk's own through a round's body -/
theorem own_kept {A A' : World} {base C l : Nat} {v : Value} {x : List Int} (h : IOwn A base v x) (k : KeptBut C l A A') (hC : C < base) (hl : l < base) : IOwn A' base v x :=
  h.keep ⟨k.1, fun g hg hlt => k.2 g hlt (by have := (h.ge g hg).1; omega) (by have := (h.ge g hg).1; omega)⟩

/-- a step of the walk -/
theorem FwRel.step {W w0 A A' : World} {C m d : Nat} {qs : List Qt} {J : List (List Int) → World → Prop} {v : Value} {l : List Nat} {e : Ending} (m1 : 1 ≤ m) (m4 : m ≤ 4) (hd : (lay m 36)[d]? = some l)
    (ho : IOwn A W.heap.size v (natL l)) (hh : Held w0 C A) (hj : J (preN m qs (d + 1)) A) (hs : W.heap.size ≤ A.heap.size) (hws : w0.heap.size ≤ W.heap.size) (hJ : Stays W.heap.size J) (h : StepPost W.heap.size v l A e A') :
    ∃ t, e = .returned (.bool t) ∧ FwRel W w0 C m qs J v (d + 1) t A' := by
  obtain ⟨t, l', rfl, hst, -, o, hgr, hz⟩ := h
  have hc := chain_at (chain_of m1 m4 (.inl rfl)) hd
  have hlt : d < (lay m 36).length := (List.getElem?_eq_some_iff.1 hd).1
  have hb : Below W.heap.size A A' := (Below.refl _ A).grown hgr hs (fun k hk => (ho.ge k hk).1)
  refine ⟨t, rfl, ⟨l', o, fun ht => ?_, fun ht => ?_⟩, hh.below hb hws, hJ _ _ _ hj hb, by omega⟩
  · subst ht; rw [← hc]; exact hst
  · subst ht
    have : (lay m 36)[d + 1]? = none := by rw [← hc]; exact hst
    have := List.getElem?_eq_none_iff.1 this
    omega

/-- the test that a walk over the measures is given: it has captured the variable at B -/
def fitT (B : Nat) : Value := .func (.func 93) #[] #[.pointer (some ⟨B, 0, none⟩)]

set_option maxHeartbeats 1000000 in
theorem fitTest_any (W : World) (v : Value) (m : List Int) (B : Nat) (u : Value) (qs : List Qt) (hB : W.cell? ⟨B, 0, none⟩ = some u) (hv : IRd W v m) (hu : QRd W u qs) (hm : Grs m) (hq : Qts qs) :
    Calls Try.prog 93 #[v, .pointer (some ⟨B, 0, none⟩)] W (BoolPost (fitI m qs) W) := by
  obtain ⟨A, c, rfl, hl, hmx, -⟩ := id hv
  obtain ⟨A2, c2, rfl, hl2, hmx2⟩ := hu.form
  have HV := Lib.hid hv
  have HU := Lib.hid hu
  have HM := Lib.hid hm
  have HQ := Lib.hid hq
  clear hm hq hv hu
  go_enter Try.func93, Try.ntmps93
  go_wp2_with fail
  refine (implFits_any _ _ _ m qs HV.out HU.out HM.out HQ.out).mono ?_
  rintro r w2 ⟨rfl, b2⟩
  have HB2 := Lib.hid b2
  clear b2
  go_wp2_with fail
  go_ret
  exact ⟨ret_bool rfl, HB2.out⟩

/-- what the walk's making leaves: the book's cell, then the worlds' and the test's -/
def FitW (W W' : World) (m : Int) (u : Value) : Prop :=
  Below W.heap.size W W' ∧ W'.heap.size = W.heap.size + 3 ∧ W'.cell? ⟨W.heap.size, 0, none⟩ = some u ∧ W'.cell? ⟨W.heap.size + 1, 0, none⟩ = some (.int .i64 m) ∧ W'.cell? ⟨W.heap.size + 1 + 1, 0, none⟩ = some (fitT W.heap.size)

/-- what the three cells hold, wherever they stay -/
theorem FitW.cells {W W' : World} {m : Int} {u : Value} (h : FitW W W' m u) {A : World} {B : Nat} (hb : Below B W' A) (hB : W.heap.size + 3 ≤ B) :
    A.cell? ⟨W.heap.size, 0, none⟩ = some u ∧ A.cell? ⟨W.heap.size + 1, 0, none⟩ = some (.int .i64 m) ∧ A.cell? ⟨W.heap.size + 1 + 1, 0, none⟩ = some (fitT W.heap.size) :=
  ⟨(hb.cell (p := ⟨W.heap.size, 0, none⟩) (show W.heap.size < B by omega)).trans h.2.2.1, (hb.cell (p := ⟨W.heap.size + 1, 0, none⟩) (show W.heap.size + 1 < B by omega)).trans h.2.2.2.1, (hb.cell (p := ⟨W.heap.size + 1 + 1, 0, none⟩) (show W.heap.size + 1 + 1 < B by omega)).trans h.2.2.2.2⟩

/-- the walk as a function value: it has captured the variables at b and b + 1 -/
def fitV (b : Nat) : Value := .func (.func 111) #[] #[.pointer (some ⟨b, 0, none⟩), .pointer (some ⟨b + 1, 0, none⟩)]

theorem new_cell (W : World) (v : Value) (t : TypeId) : (W.alloc (.cells #[v] t)).cell? ⟨W.heap.size, 0, none⟩ = some v ∧ (W.alloc (.cells #[v] t)).frozen? ⟨W.heap.size, 0, none⟩ = false := ⟨by simp, by simp⟩

theorem old_cell {W : World} {b : Nat} {v : Value} (o : Obj) (h : W.cell? ⟨b, 0, none⟩ = some v) : (W.alloc o).cell? ⟨b, 0, none⟩ = some v :=
  (((Below.refl _ W).alloc (Nat.le_refl _) o).cell (p := ⟨b, 0, none⟩) (World.block_lt_of_cell? W _ h)).trans h

theorem old_frz {W : World} {b : Nat} {v : Value} (o : Obj) (h : W.cell? ⟨b, 0, none⟩ = some v) (hf : W.frozen? ⟨b, 0, none⟩ = false) : (W.alloc o).frozen? ⟨b, 0, none⟩ = false :=
  (((Below.refl _ W).alloc (Nat.le_refl _) o).frozen (p := ⟨b, 0, none⟩) (World.block_lt_of_cell? W _ h)).trans hf

set_option maxHeartbeats 1000000 in
theorem measuresWhere_any (W : World) (m : Int) (h : Value) (f : FuncId) (b : Nat) (hf : h = .func (.func f) #[] #[.pointer (some ⟨b, 0, none⟩)]) :
    Calls Try.prog 92 #[.int .i64 m, h] W fun r W' => r = .returned (fitV W.heap.size) ∧ (W.alloc (.cells #[.int .i64 m] 3)).alloc (.cells #[h] 75) = W' := by
  subst hf
  go_enter Try.func92, Try.ntmps92
  go_wp2
  go_ret
  exact ⟨rfl, rfl⟩

set_option maxHeartbeats 1000000 in
theorem fitting_any (W : World) (m : Int) (A : Option Addr) (len c : Nat) :
    Calls Try.prog 56 #[.int .i64 m, .slice A len c] W fun r W' => r = .returned (fitV (W.heap.size + 1)) ∧ FitW W W' m (.slice A len c) := by
  go_enter Try.func56, Try.ntmps56
  go_wp2_with fail
  refine (measuresWhere_any _ m _ _ _ rfl).mono ?_
  rintro r w2 ⟨rfl, hw2⟩
  have HF : Hid (FitW W w2 m (.slice A len c)) := Lib.hid (by
    have h1 := new_cell W (.slice A len c) 23
    have h2 := new_cell (W.alloc (.cells #[.slice A len c] 23)) (.int .i64 m) 3
    have h3 := new_cell ((W.alloc (.cells #[.slice A len c] 23)).alloc (.cells #[.int .i64 m] 3)) (fitT W.heap.size) 75
    rw [World.size_alloc] at h2
    rw [World.size_alloc, World.size_alloc] at h3
    rw [← hw2]
    exact ⟨(((Below.refl _ _).alloc (Nat.le_refl _) _).alloc (by simp) _).alloc (by simp; omega) _, by simp, old_cell _ (old_cell _ h1.1), old_cell _ h2.1, h3.1⟩)
  clear hw2
  unfold fitV
  go_wp2_with fail
  go_ret
  exact ⟨by simp [fitV], HF.out⟩

set_option maxRecDepth 100000 in
set_option maxHeartbeats 8000000 in
theorem fitWalk_any (n : Nat) (C b m : Nat) (u : Value) (qs : List Qt) (w0 : World) (hC0 : b ≠ C) (hC1 : b + 1 ≠ C) (hC2 : b + 1 + 1 ≠ C) (hC : C < w0.heap.size)
    (hcs : w0.cell? ⟨b, 0, none⟩ = some u ∧ w0.cell? ⟨b + 1, 0, none⟩ = some (.int .i64 (m : Int)) ∧ w0.cell? ⟨b + 1 + 1, 0, none⟩ = some (fitT b)) (hu : ∀ A, Held w0 C A → QRd A u qs) (hq : Qts qs) (m1 : 1 ≤ m) (m4 : m ≤ 4) :
    RowWalk n Try.prog 111 #[.pointer (some ⟨b + 1, 0, none⟩), .pointer (some ⟨b + 1 + 1, 0, none⟩)] C w0 (fitAll m qs) := by
  intro l J Jx W hW hl0 hl1 hJ hY h0
  have hWs := hW.size
  have HH : Held w0 C W := ⟨hW.size, fun k hk _ => hW.block k hk⟩
  obtain ⟨hb, hw, hh⟩ := hcs
  unfold fitT at hh
  have HB : Hid (∀ A, Held w0 C A → A.cell? ⟨b + 1, 0, none⟩ = some (.int .i64 (m : Int)) ∧ A.cell? ⟨b + 1 + 1, 0, none⟩ = some (.func (.func 93) #[] #[.pointer (some ⟨b, 0, none⟩)]) ∧ A.cell? ⟨b, 0, none⟩ = some u ∧ QRd A u qs) := Lib.hid (fun A hA =>
    ⟨(hA.cell (p := ⟨b + 1, 0, none⟩) (World.block_lt_of_cell? w0 _ hw) hC1).trans hw, (hA.cell (p := ⟨b + 1 + 1, 0, none⟩) (World.block_lt_of_cell? w0 _ hh) hC2).trans hh, (hA.cell (p := ⟨b, 0, none⟩) (World.block_lt_of_cell? w0 _ hb) hC0).trans hb, hu A hA⟩)
  have hcw := (HB.out W HH).1
  have HHH := Lib.hid HH
  have HQ := Lib.hid hq
  have HY := Lib.hid hY
  have HJ := Lib.hid hJ
  have HJ0 := Lib.hid h0
  have HC := Lib.hid hC
  have HL0 := Lib.hid hl0
  have HL1 := Lib.hid hl1
  have HWS := Lib.hid hWs
  clear HH hq hY hJ h0 hC hl0 hl1 hWs hW hw hb hh hu hC0 hC1 hC2
  refine callsIn_of_wp Try.func111 rfl trivial ?_ rfl
  simp only [Try.ntmps111, List.size_toArray, List.length_cons, List.length_nil, Nat.reduceAdd, Nat.reduceSub, Array.replicate_succ, Array.replicate_zero, List.push_toArray, List.append_toArray, List.nil_append, List.cons_append]
  gi_wp2_with fail
  refine ⟨trivial, (fun h => by cases h), (callsIn_wide.2 (leastMeasure_any W m m1 m4)).mono ?_⟩
  rintro e w3 ⟨v, rfl, o3, b3⟩
  have H0 : Hid (FwRel W w0 C m qs J v 0 true w3) := Lib.hid ⟨⟨_, o3, fun _ => by obtain ⟨k, rfl⟩ : ∃ k, m = k + 1 := ⟨m - 1, by omega⟩; exact lay_first k 36, fun h => by cases h⟩, HHH.out.below b3 HWS.out, by rw [pre_zero]; exact HJ.out _ _ _ HJ0.out b3, b3.size⟩
  clear o3 b3
  obtain ⟨L, hL⟩ : ∃ L, (lay m 36).length = L := ⟨_, rfl⟩
  have HL := Lib.hid hL
  clear hL
  gi_wp2_with fail
  gi_loopg [5] (L + 1) (fun gk s wr => ∃ (d : Nat) (t : Bool), gk = L + 1 - d ∧ d ≤ L ∧ s = .bool t ∧ Hid (FwRel W w0 C m qs J v d t wr))
  case atStart => exact ⟨0, true, by omega, Nat.zero_le _, rfl, H0⟩
  case round =>
    obtain ⟨d, t, hgk, hd, rfl, HF⟩ := hrel
    clear H0
    cases t
    · have HE : Hid (J (fitAll m qs) wr) := Lib.hid (by obtain ⟨⟨x, -, -, h2⟩, -, h3, -⟩ := HF.out; rw [← pre_all (d := d) (by rw [h2 rfl]; exact Nat.le_refl _)]; exact h3)
      gi_wp2_with fail
      go_end0
      exact ⟨⟨_, rfl⟩, .inl HE.out⟩
    · obtain ⟨⟨x, ox, hx, -⟩, hh, hj, hs⟩ := id HF.out
      have hx := hx rfl
      have HX := Lib.hid hx
      have HO := Lib.hid ox
      have HHD := Lib.hid hh
      have HJD := Lib.hid hj
      have HSZ := Lib.hid hs
      have hdL : d < L := by rw [← HL.out]; exact (List.getElem?_eq_some_iff.1 hx).1
      obtain ⟨hf1, hf2⟩ := lay_facts m1 hx
      have HF1 := Lib.hid hf1
      have HF2 := Lib.hid hf2
      have HG : Hid (Grs (natL x)) := Lib.hid (grs_of ((mea_lay (natL x)).2 ⟨by rw [natL_len]; omega, x, by rw [natL_len, hf1]; exact List.mem_of_getElem? hx, rfl⟩))
      have hcb := (HB.out wr hh).2.1
      have HBC := Lib.hid (HB.out wr hh).2.2.1
      have HU := Lib.hid (HB.out wr hh).2.2.2
      clear hx ox hh hj hs hf1 hf2
      obtain ⟨fb, hfb⟩ : ∃ fb, fitI (natL x) qs = fb := ⟨_, rfl⟩
      have HFB := Lib.hid hfb
      clear hfb
      gi_wp2_with fail
      refine ⟨trivial, (fun h => by cases h), (callsIn_wide.2 (fitTest_any wr v (natL x) b u qs HBC.out HO.out.rd HU.out HG.out HQ.out)).mono ?_⟩
      rintro e w5 ⟨rfl, b5⟩
      rw [HFB.out]
      have HO5 := Lib.hid (HO.out.keep (SameAt.of_below b5))
      have HH5 := Lib.hid (HHD.out.below b5 (Nat.le_trans HWS.out HSZ.out))
      have HJ5 := Lib.hid (HJ.out _ _ _ HJD.out (b5.mono HSZ.out))
      have HS5 : Hid (W.heap.size ≤ w5.heap.size) := Lib.hid (Nat.le_trans HSZ.out b5.size)
      clear b5
      cases fb
      · gi_wp2_with fail
        refine ⟨fun _ h => (by cases h), ?_⟩
        gi_wp2_with fail
        refine ⟨trivial, (fun h => by cases h), (callsIn_wide.2 (layNext_any w5 W.heap.size v x (by have := HF1.out; omega) (by have := HF1.out; omega) (by have := HF2.out; omega) HO5.out)).mono ?_⟩
        intro e w6 hstep
        obtain ⟨t', rfl, hW6⟩ := FwRel.step (qs := qs) (J := J) (W := W) (w0 := w0) (C := C) m1 m4 HX.out HO5.out HH5.out (by rw [pre_skip HX.out HFB.out]; exact HJ5.out) HS5.out HWS.out HJ.out hstep
        have HW6 := Lib.hid hW6
        clear hW6 hstep
        gi_wp2_with fail
        gi_roundg (L + 1 - (d + 1))
        case measure => omega
        case rel => exact ⟨d + 1, t', rfl, by omega, rfl, HW6⟩
      · obtain ⟨fn, tmps, assign, body, hy, hR⟩ := HY.out _ _ _ _ HJ5.out HS5.out HO5.out (by rw [← pre_fit HX.out HFB.out]; exact pre_prefix m qs (d + 1))
        have HR := Lib.hid hR
        clear hR
        gi_wp2_with fail
        refine ⟨(fun h => by cases h), HR.out.mono ?_⟩
        rintro e w6 (⟨rfl, hj6, hk6⟩ | ⟨rfl, hx6⟩)
        · have HO6 := Lib.hid (own_kept HO5.out hk6 (Nat.lt_of_lt_of_le HC.out HWS.out) HL1.out)
          have HH6 := Lib.hid (HH5.out.kept hk6 HL0.out)
          have HJ6 := Lib.hid hj6
          have HS6 : Hid (W.heap.size ≤ w6.heap.size) := Lib.hid (Nat.le_trans HS5.out hk6.1)
          clear hj6 hk6 hy HR
          gi_wp2_with fail
          refine ⟨trivial, (fun h => by cases h), (callsIn_wide.2 (layNext_any w6 W.heap.size v x (by have := HF1.out; omega) (by have := HF1.out; omega) (by have := HF2.out; omega) HO6.out)).mono ?_⟩
          intro e w7 hstep
          obtain ⟨t', rfl, hW6⟩ := FwRel.step (qs := qs) (J := J) (W := W) (w0 := w0) (C := C) m1 m4 HX.out HO6.out HH6.out (by rw [pre_fit HX.out HFB.out]; exact HJ6.out) HS6.out HWS.out HJ.out hstep
          have HW6 := Lib.hid hW6
          clear hW6 hstep
          gi_wp2_with fail
          gi_roundg (L + 1 - (d + 1))
          case measure => omega
          case rel => exact ⟨d + 1, t', rfl, by omega, rfl, HW6⟩
        · have HX6 := Lib.hid hx6
          clear hx6 hy HR
          gi_wp2_with fail
          refine bodyPost_ret (results_none rfl _ _ _) rfl ?_
          exact ⟨⟨_, rfl⟩, .inr ⟨_, by rw [← pre_fit HX.out HFB.out]; exact pre_prefix m qs (d + 1), HX6.out⟩⟩

end Go.Proofs.Yteljcicdibbhdaa
