/- What is drawn for chapter 3: a book: what its loops keep. Conditions: a reader. What is drawn for chapter 3: a book. Conditions: a reader. What is drawn for chapter 3: stakes; a book; both. Conditions: a row of bytes that came in. -/
import Derived.Test.YtempdaodmjiloaaDt
import Derived.Test.YtempdaodmjiloaaQf
import Derived.Maps.AppendAt
import Derived.Deep.DeepCutAuto
namespace Go.Proofs.Ytempdaodmjiloaa
open Go.RowKit
set_option linter.unusedVariables false

/-- the reader, the book so far, and the grains: all made behind w -/
def BkRel (w : World) (R P g n : Nat) (p : Value) (qs : List Qt) (wr : World) : Prop :=
  DR w R P wr ∧ QOwn wr w.heap.size p qs ∧ (∃ gs : List Int, gs.length = n ∧ IOwn wr w.heap.size (.slice (some ⟨g, 0, none⟩) n n) gs) ∧ p.ownBlock ≠ some g ∧ R < w.heap.size

theorem own_ne {w : World} {base R : Nat} {v : Value} {xs : List Qt} (o : QOwn w base v xs) (hb : R < base) : v.ownBlock = none ∨ v.ownBlock ≠ some R := by
  rcases hv : v.ownBlock with _ | g
  · exact .inl rfl
  · refine .inr fun e => ?_
    have := (o.ge g hv).1
    injection e with e
    omega

theorem BkRel.grain_ge {w wr : World} {R P g n : Nat} {p : Value} {qs : List Qt} (h : BkRel w R P g n p qs wr) : w.heap.size ≤ g ∧ g < wr.heap.size := by
  obtain ⟨gs, h1, h2⟩ := h.2.2.1
  exact h2.ge g rfl

/-- nothing has turned but the reader, and new blocks -/
theorem BkRel.dr {w wr w' : World} {R P Q g n : Nat} {p : Value} {qs : List Qt} (h : BkRel w R P g n p qs wr) (k : DR wr R Q w') : BkRel w R Q g n p qs w' := by
  obtain ⟨h1, h2, ⟨gs, h3, h4⟩, h5, h6⟩ := h
  exact ⟨h1.trans k, h2.dr k h6, ⟨gs, h3, h4.dr k h6⟩, h5, h6⟩

theorem BkRel.picked {w wr w' : World} {R P Q g n : Nat} {p : Value} {qs : List Qt} (h : BkRel w R P g n p qs wr) (k : Picked R Q wr w') : BkRel w R Q g n p qs w' :=
  h.dr ((DR.start h.1.1).picked k)

theorem BkRel.alloc {w wr : World} {R P g n : Nat} {p : Value} {qs : List Qt} (h : BkRel w R P g n p qs wr) (o : Obj) : BkRel w R P g n p qs (wr.alloc o) :=
  h.dr ((DR.start h.1.1).alloc o)

theorem BkRel.drew {w wr : World} {R P g n : Nat} {p : Value} {qs : List Qt} (h : BkRel w R P g n p qs wr) : BkRel w R P g n p qs wr.drew := ⟨h.1.drew, h.2⟩

theorem BkRel.mono {w wr : World} {R P Q g n : Nat} {p : Value} {qs : List Qt} (h : BkRel w R P g n p qs wr) (hPQ : P ≤ Q) : BkRel w R Q g n p qs wr := ⟨h.1.mono hPQ, h.2⟩

theorem ird_cell0 {w : World} {b n c : Nat} {xs : List Int} {k : Nat} {x : Int} (h : IRd w (.slice (some ⟨b, 0, none⟩) n c) xs) (hx : xs[k]? = some x) : w.cell? ⟨b, k, none⟩ = some (.int .i64 x) := by
  have hk : k < xs.length := (List.getElem?_eq_some_iff.1 hx).1
  obtain ⟨A, c, e, hl, hm, hc⟩ := h
  injection e with e1 e2 e3
  obtain ⟨b', off', hA, -, hcell⟩ := hc (by omega)
  rw [← e1] at hA
  injection hA with hA
  injection hA with hb ho
  subst hb
  subst ho
  simpa using hcell k x hx

theorem BkRel.grain {w wr : World} {R P g n : Nat} {p : Value} {qs : List Qt} (h : BkRel w R P g n p qs wr) {k : Nat} (hk : k < n) : (∃ x, wr.cell? ⟨g, k, none⟩ = some (.int .i64 x)) ∧ wr.frozen? ⟨g, k, none⟩ = false := by
  obtain ⟨-, -, ⟨gs, h3, h4⟩, -, -⟩ := h
  subst h3
  refine ⟨⟨gs[k]'hk, ird_cell0 h4.rd (List.getElem?_eq_getElem hk)⟩, ?_⟩
  unfold IOwn at h4
  exact h4.frozenAt k

/-- another number of grains -/
theorem BkRel.lay {w wr : World} {R P g n : Nat} {p : Value} {qs : List Qt} (h : BkRel w R P g n p qs wr) (k : Nat) (x : Int) : BkRel w R P g n p qs (wr.setCell ⟨g, k, none⟩ (.int .i64 x)) := by
  have hg := h.grain_ge
  obtain ⟨h1, h2, ⟨gs, h3, h4⟩, h5, h6⟩ := h
  subst h3
  have h4' := h4
  unfold IOwn at h4'
  obtain ⟨h7, h8⟩ := h4'.stored k (.int .i64 x)
  refine ⟨h1.setCell hg.1 _, h2.keep (SameAt.of_grown h8 (.inr h5)), ⟨gs.set k x, by simp, ?_⟩, h5, h6⟩
  unfold IOwn
  rw [List.length_set, List.map_set]
  exact h7

/-- the book has grown by a quote -/
theorem BkRel.append {w wr w' : World} {R P g n : Nat} {p p' : Value} {qs ys : List Qt} (h : BkRel w R P g n p qs wr) (ho : QOwn w' w.heap.size p' ys) (hg : wr.grownBy w' p.ownBlock) (hp : p'.ownBlock = p.ownBlock ∨ p'.ownBlock = some wr.heap.size ∨ p'.ownBlock = some (wr.heap.size + 1)) : BkRel w R P g n p' ys w' := by
  have hgg := h.grain_ge
  obtain ⟨h1, h2, ⟨gs, h3, h4⟩, h5, h6⟩ := h
  refine ⟨h1.grown hg (fun b hb => (h2.ge b hb).1), ho, ⟨gs, h3, h4.keep (SameAt.of_grown hg (.inr fun e => h5 e.symm))⟩, ?_, h6⟩
  rcases hp with e | e | e
  · rw [e]; exact h5
  · rw [e]; intro e2; injection e2 with e2; omega
  · rw [e]; intro e2; injection e2 with e2; omega

/-- a variable of the round beside it: a quote -/
def BkLoc (w : World) (R P g n : Nat) (p : Value) (qs : List Qt) (b : Nat) (q : Qt) (wr : World) : Prop :=
  BkRel w R P g n p qs wr ∧ Blk wr b 50 #[.int .i64 q.1, .int .i64 q.2] ∧ b ≠ g ∧ p.ownBlock ≠ some b ∧ w.heap.size ≤ b

theorem BkRel.loc {w wr : World} {R P g n : Nat} {p : Value} {qs : List Qt} (h : BkRel w R P g n p qs wr) (q : Qt) : BkLoc w R P g n p qs wr.heap.size q (wr.alloc (.cells #[.int .i64 q.1, .int .i64 q.2] 50)) := by
  have hg := h.grain_ge
  refine ⟨h.alloc _, blk_alloc _ _ _, by omega, fun e => ?_, h.1.size⟩
  have := (h.2.1.ge _ e).2
  omega

theorem BkLoc.price {w wr : World} {R P g n b : Nat} {p : Value} {qs : List Qt} {q : Qt} (h : BkLoc w R P g n p qs b q wr) (x : Int) : BkLoc w R P g n p qs b (q.1, x) (wr.setCell ⟨b, 1, none⟩ (.int .i64 x)) := by
  obtain ⟨h1, h2, h3, h4, h5⟩ := h
  have hg : wr.grownBy (wr.setCell ⟨b, 1, none⟩ (.int .i64 x)) (some b) := ⟨rfl, rfl, rfl, by simp [World.setCell], fun i hi hne => Below.heap_setCell wr ⟨b, 1, none⟩ _ i (fun e => hne (by rw [e]))⟩
  obtain ⟨k1, k2, ⟨gs, k3, k4⟩, k5, k6⟩ := h1
  refine ⟨⟨k1.setCell h5 _, k2.keep (SameAt.of_grown hg (.inr h4)), ⟨gs, k3, k4.keep (SameAt.of_grown hg (.inr fun e => ?_))⟩, k5, k6⟩, h2.set_ 1 _, h3, h4, h5⟩
  have e' : some g = some b := e
  injection e' with e'
  exact h3 e'.symm

theorem BkLoc.drew {w wr : World} {R P g n b : Nat} {p : Value} {qs : List Qt} {q : Qt} (h : BkLoc w R P g n p qs b q wr) : BkLoc w R P g n p qs b q wr.drew := ⟨h.1.drew, h.2⟩

theorem BkLoc.cells {w wr : World} {R P g n b : Nat} {p : Value} {qs : List Qt} {q : Qt} (h : BkLoc w R P g n p qs b q wr) : wr.cell? ⟨b, 0, none⟩ = some (.int .i64 q.1) ∧ wr.cell? ⟨b, 1, none⟩ = some (.int .i64 q.2) ∧ wr.frozen? ⟨b, 0, none⟩ = false ∧ wr.frozen? ⟨b, 1, none⟩ = false := h.2.1.two

theorem two_one {x y : Int} : ∀ u ∈ [Value.int .i64 x, .int .i64 y], u.oneCell' = true := by
  intro u hu
  simp only [List.mem_cons, List.not_mem_nil, or_false] at hu
  rcases hu with rfl | rfl <;> rfl

/-- where the book begins -/
theorem book_start {w wr : World} {R P : Nat} (h : DR w R P wr) : DR w R P (wr.alloc (.cells #[] 50)) ∧ QOwn (wr.alloc (.cells #[] 50)) w.heap.size (.slice (some ⟨wr.heap.size, 0, none⟩) 0 0) [] :=
  ⟨h.alloc _, World.ownsRow_lit wr #[] 0 h.size (by unfold maxLen; omega) rfl⟩

theorem book_made {w wr w' : World} {R P n : Nat} {p : Value} (h : DR w R P wr) (hq : QOwn wr w.heap.size p []) (ho : w'.ownsRow wr.heap.size 3 1 (.slice (some ⟨wr.heap.size, 0, none⟩) n n) n (List.replicate n (.int .i64 0))) (hg : wr.grownBy w' none) : BkRel w R P wr.heap.size n p [] w' := by
  refine ⟨h.grown hg (fun g hg => by cases hg), hq.keep (SameAt.of_grown hg ?_), ⟨List.replicate n 0, by simp, ?_⟩, fun e => ?_, h.2.2⟩
  · rcases hv : p.ownBlock with _ | g
    · exact .inl rfl
    · exact .inr (fun e => by cases e)
  · have h1 : IOwn w' wr.heap.size (.slice (some ⟨wr.heap.size, 0, none⟩) n n) (List.replicate n 0) := by
      unfold IOwn
      rw [List.length_replicate]
      simpa using ho
    exact h1.base h.size
  · have := (hq.ge _ e).2
    omega

end Go.Proofs.Ytempdaodmjiloaa

namespace Go.Proofs.Ytempdaodmjiloaa
open Go.RowKit
set_option linter.unusedVariables false

/-- a number of worlds and a book that were drawn -/
def BookR (w : World) (R P : Nat) (e : Ending) (w' : World) : Prop := ∃ (x : Int) (v : Value) (qs : List Qt), e = .returned (.tuple #[.int .i64 x, v]) ∧ QOwn w' w.heap.size v qs ∧ qs.length ≤ 4 ∧ DR w R P w'

theorem BkRel.book {w wr : World} {R P Q g n : Nat} {p : Value} {qs : List Qt} (h : BkRel w R P g n p qs wr) (hPQ : P ≤ Q) (hl : qs.length ≤ 4) (x : Int) : BookR w R Q (.returned (.tuple #[.int .i64 x, p])) wr :=
  ⟨x, p, qs, rfl, h.2.1, hl, h.1.mono hPQ⟩

/-- a block of four quotes of nothing -/
def fourQ : Obj := .cells (madeCells #[.int .i64 0, .int .i64 0] 8) 50

theorem run_fourQ (w : World) : (Instr.makeSlice 48 (.int .i64 4) (.int .i64 4)).run Try.prog w = .ok (.slice (some ⟨w.heap.size, 0, none⟩) 4 4) (w.alloc fourQ) := by
  obtain ⟨j0, hj, hy0, hy1, hy2⟩ := info_parts Try_quoteinfo
  have h := run_make (P := Try.prog) w 48 50 j0 (.agg #[.int .i64 0, .int .i64 0]) Try.underlying48 hj hy0 .i64 .i64 4 4 (by omega) (Int.le_refl _) (by rw [hy2]; omega) (by omega)
  rw [hy1] at h
  simpa [fourQ, Value.cells] using h

theorem fourQ_own (w : World) (base : Nat) (hb : base ≤ w.heap.size) : QOwn (w.alloc fourQ) base (.slice (some ⟨w.heap.size, 0, none⟩) 4 4) [(0, 0), (0, 0), (0, 0), (0, 0)] := by
  have h := World.ownsRow_lit w (madeCells #[.int .i64 0, .int .i64 0] 8) 4 (e := 50) (base := base) (size := 2) hb (by unfold maxLen; omega) (by simp [size_madeCells])
  have e := flat_made qC_len (by decide) ((0, 0) : Qt) 4
  have e2 : (madeCells (qC ((0, 0) : Qt)).toArray (4 * 2)) = madeCells #[.int .i64 0, .int .i64 0] 8 := rfl
  rw [e2] at e
  rw [e] at h
  exact h

theorem fourQ_ret {w wr : World} {R P Q : Nat} (h : DR w R P wr) (hPQ : P ≤ Q) (x : Int) : BookR w R Q (.returned (.tuple #[.int .i64 x, .slice (some ⟨wr.heap.size, 0, none⟩) 4 4])) (wr.alloc fourQ).drew :=
  ⟨x, _, _, rfl, fourQ_own wr _ h.size, by simp, ((h.alloc _).drew).mono hPQ⟩

end Go.Proofs.Ytempdaodmjiloaa

namespace Go.Proofs.Ytempdaodmjiloaa
open Go.RowKit
set_option linter.unusedVariables false

def StakesR (w : World) (R P : Nat) (e : Ending) (w' : World) : Prop := ∃ v xs, e = .returned v ∧ GamRel w R P v xs w' ∧ xs.length ≤ 8

/-- a number of worlds and a book -/
def DrawBk (w : World) (e : Ending) (w' : World) : Prop := ∃ (x : Int) (v : Value) (qs : List Qt), e = .returned (.tuple #[.int .i64 x, v]) ∧ QOwn w' w.heap.size v qs ∧ qs.length ≤ 4 ∧ Below w.heap.size w w'

/-- a number of worlds, a book, and stakes -/
def DrawBal (w : World) (e : Ending) (w' : World) : Prop := ∃ (x : Int) (v u : Value) (qs : List Qt) (ss : List Int), e = .returned (.tuple #[.int .i64 x, v, u]) ∧ QOwn w' w.heap.size v qs ∧ IOwn w' w.heap.size u ss ∧ qs.length ≤ 4 ∧ ss.length ≤ 8 ∧ Below w.heap.size w w'

end Go.Proofs.Ytempdaodmjiloaa
