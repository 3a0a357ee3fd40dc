/- What is drawn for chapter 3: a quote, a stake. Conditions: a row of bytes that came in. -/
import Derived.Test.YtfdgelikmhaagaaDq
namespace Go.Proofs.Ytfdgelikmhaagaa
open Go.RowKit
set_option linter.unusedVariables false

theorem IsRowC.alloc {k : IntKind} {w : World} {a : Option Addr} {len cap : Nat} {zs : List Int} (h : IsRowC k w a len cap zs) (o : Obj) : IsRowC k (w.alloc o) a len cap zs := by
  rcases h with h | ⟨x, rfl, hl, hm, hz, hcell, hwz⟩
  · exact .inl h
  · refine .inr ⟨x, rfl, hl, hm, hz, fun i hi => ?_, hwz⟩
    have hc := hcell i hi
    have hlt := World.block_lt_of_cell? w _ hc
    exact (World.cell?_of_block (Below.heap_alloc w o _ hlt)).trans hc

/-- the reader's opening, its block by another name -/
theorem open_at (w : World) (R : Nat) (a : Option Addr) (len cap : Nat) (zs : List Int) (hR : w.heap.size = R) (h : IsRowC .u8 w a len cap zs) :
    Calls Try.prog 62 #[.slice a len cap] w fun e w' => e = .returned (.pointer (some ⟨R, 0, none⟩)) ∧ DR w' R 0 w' ∧ Below w.heap.size w w' ∧ w'.heap.size = R + 1 := by
  subst hR
  refine (open_any w a len cap zs h).mono ?_
  rintro e w' ⟨rfl, ho⟩
  exact ⟨rfl, DR.start ho.rd, ho.below, ho.size⟩

theorem below_dr {B : Nat} {w w1 w2 : World} {R P : Nat} (h : Below B w w1) (k : DR w1 R P w2) (hB : B ≤ R) : Below B w w2 :=
  h.grown k.2.1 (by have := k.2.2; omega) (fun g hg => by injection hg with hg; omega)

/-- a number and a quote that were drawn -/
def DrawNQ (w : World) (e : Ending) (w' : World) : Prop := ∃ (x : Int) (q : Qt), e = .returned (.tuple #[.int .i64 x, qV q]) ∧ Below w.heap.size w w'

/-- a number of worlds, a quote and a stake that were drawn -/
def StakedR (w : World) (R P : Nat) (e : Ending) (w' : World) : Prop := ∃ (x : Int) (q : Qt) (s : Int), e = .returned (.tuple #[.int .i64 x, qV q, .int .i64 s]) ∧ DR w R P w'

end Go.Proofs.Ytfdgelikmhaagaa
