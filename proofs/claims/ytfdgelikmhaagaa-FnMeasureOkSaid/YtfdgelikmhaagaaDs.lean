/- What is drawn for chapter 3: a quote and a stake. Conditions: a row of bytes that came in. -/
import Derived.Test.YtfdgelikmhaagaaDr
namespace Go.Proofs.Ytfdgelikmhaagaa
open Go.RowKit
set_option linter.unusedVariables false

/-- a block of two cells: what the walk wants to know of it -/
theorem Blk.two {w : World} {g : Nat} {t : TypeId} {x y : Value} (h : Blk w g t #[x, y]) :
    w.cell? ⟨g, 0, none⟩ = some x ∧ w.cell? ⟨g, 1, none⟩ = some y ∧ w.frozen? ⟨g, 0, none⟩ = false ∧ w.frozen? ⟨g, 1, none⟩ = false := ⟨h.cell 0, h.cell 1, h.frozen 0, h.frozen 1⟩

theorem Blk.alloc {w : World} {g : Nat} {t : TypeId} {cs : Array Value} (h : Blk w g t cs) (o : Obj) : Blk (w.alloc o) g t cs := h.more (Below.heap_alloc w o g h.lt)

theorem Blk.set_far {w : World} {g b k : Nat} {t : TypeId} {cs : Array Value} (h : Blk w g t cs) (u : Value) (hne : g ≠ b) : Blk (w.setCell ⟨b, k, none⟩ u) g t cs :=
  h.more (Below.heap_setCell w ⟨b, k, none⟩ u g hne)

/-- where the last region of l20Staked begins: the reader, the result's block, the quote's block -/
def StRel (w : World) (R P g : Nat) (q : Qt) (wr : World) : Prop := DR w R P wr ∧ Blk wr w.heap.size 46 #[.int .i64 0, .int .i64 0] ∧ Blk wr g 46 #[.int .i64 q.1, .int .i64 q.2] ∧ g ≠ R ∧ w.heap.size ≠ R ∧ w.heap.size < g

theorem StRel.picked {w wr w' : World} {R P Q g : Nat} {q : Qt} (h : StRel w R P g q wr) (k : Picked R Q wr w') : StRel w R Q g q w' := by
  obtain ⟨h1, h2, h3, h4, h5, h6⟩ := h
  exact ⟨h1.picked k, h2.picked k h5, h3.picked k h4, h4, h5, h6⟩

theorem StRel.drew {w wr : World} {R P g : Nat} {q : Qt} (h : StRel w R P g q wr) : StRel w R P g q wr.drew := ⟨h.1.drew, h.2⟩

theorem StRel.alloc {w wr : World} {R P g : Nat} {q : Qt} (h : StRel w R P g q wr) (o : Obj) : StRel w R P g q (wr.alloc o) :=
  ⟨h.1.alloc o, h.2.1.alloc o, h.2.2.1.alloc o, h.2.2.2⟩

/-- another price -/
theorem StRel.price {w wr : World} {R P g : Nat} {q : Qt} (h : StRel w R P g q wr) (x : Int) : StRel w R P g (q.1, x) (wr.setCell ⟨g, 1, none⟩ (.int .i64 x)) := by
  obtain ⟨h1, h2, h3, h4, h5, h6⟩ := h
  exact ⟨h1.setCell (by omega) _, h2.set_far _ (by omega), h3.set_ 1 _, h4, h5, h6⟩

theorem StRel.writes {w wr : World} {R P g : Nat} {q : Qt} (h : StRel w R P g q wr) : wr.frozen? ⟨g, 1, none⟩ = false ∧ wr.cell? ⟨g, 1, none⟩ = some (.int .i64 q.2) := ⟨h.2.2.1.frozen 1, h.2.2.1.cell 1⟩

/-- what the walk wants to know at each step -/
theorem StRel.cells {w wr : World} {R P g : Nat} {q : Qt} (h : StRel w R P g q wr) :
    (wr.cell? ⟨g, 0, none⟩ = some (.int .i64 q.1) ∧ wr.cell? ⟨g, 1, none⟩ = some (.int .i64 q.2)) ∧ wr.cell? ⟨w.heap.size, 0, none⟩ = some (.int .i64 0) ∧ wr.cell? ⟨w.heap.size, 1, none⟩ = some (.int .i64 0) ∧ wr.frozen? ⟨w.heap.size, 0, none⟩ = false ∧ wr.frozen? ⟨w.heap.size, 1, none⟩ = false :=
  ⟨⟨h.2.2.1.cell 0, h.2.2.1.cell 1⟩, h.2.1.cell 0, h.2.1.cell 1, h.2.1.frozen 0, h.2.1.frozen 1⟩

/-- the end: the quote is laid into the result -/
theorem StRel.fin {w wr : World} {R P g : Nat} {q : Qt} (h : StRel w R P g q wr) :
    (((wr.setCell ⟨w.heap.size, 0, none⟩ (.int .i64 q.1)).setCell ⟨w.heap.size, 1, none⟩ (.int .i64 q.2)).cell? ⟨w.heap.size, 0, none⟩ = some (.int .i64 q.1)) ∧
    (((wr.setCell ⟨w.heap.size, 0, none⟩ (.int .i64 q.1)).setCell ⟨w.heap.size, 1, none⟩ (.int .i64 q.2)).cell? ⟨w.heap.size, 1, none⟩ = some (.int .i64 q.2)) ∧
    DR w R P ((wr.setCell ⟨w.heap.size, 0, none⟩ (.int .i64 q.1)).setCell ⟨w.heap.size, 1, none⟩ (.int .i64 q.2)) := by
  have BB := (h.2.1.set_ 0 (.int .i64 q.1)).set_ 1 (.int .i64 q.2)
  exact ⟨BB.cell 0, BB.cell 1, (h.1.setCell (Nat.le_refl _) _).setCell (Nat.le_refl _) _⟩

end Go.Proofs.Ytfdgelikmhaagaa
