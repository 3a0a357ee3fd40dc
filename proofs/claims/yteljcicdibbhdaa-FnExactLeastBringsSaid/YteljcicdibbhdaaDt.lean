/- What is drawn for chapter 3: one quote. Conditions: a reader; at most four worlds. What is drawn for chapter 3: a quote, a stake. Conditions: a row of bytes that came in. What is drawn for chapter 3: a quote and a stake. Conditions: a row of bytes that came in. What is drawn for the laws of GainOf and OtherQuote. Conditions: a row of bytes that came in. -/
import Derived.Test.YteljcicdibbhdaaQd
import Derived.Test.YteljcicdibbhdaaDi
import Derived.Test.YteljcicdibbhdaaQc
import Derived.Deep.RegionWith
import Derived.Handy
namespace Go.Proofs.Yteljcicdibbhdaa
open Go.RowKit
set_option linter.unusedVariables false

/-- a reader stands at R, and nothing that was there in w has turned but it -/
def DR (w : World) (R P : Nat) (wr : World) : Prop := Rd wr R P ∧ w.grownBy wr (some R) ∧ R < w.heap.size

theorem DR.start {w : World} {R P : Nat} (h : Rd w R P) : DR w R P w := ⟨h, World.grownBy.refl _ _, h.lt⟩

theorem DR.picked {w wr w' : World} {R P Q : Nat} (h : DR w R P wr) (k : Picked R Q wr w') : DR w R Q w' := ⟨k.rd, grow_trans h.2.1 k.grown, h.2.2⟩

theorem DR.alloc {w wr : World} {R P : Nat} (h : DR w R P wr) (o : Obj) : DR w R P (wr.alloc o) :=
  ⟨h.1.keep (by simp) (fun b hb => Below.heap_alloc wr _ b hb), grow_trans h.2.1 (World.grownBy_alloc _ _ _), h.2.2⟩

theorem DR.drew {w wr : World} {R P : Nat} (h : DR w R P wr) : DR w R P wr.drew := ⟨h.1, ⟨h.2.1.os, h.2.1.tape, h.2.1.output, h.2.1.size, h.2.1.block⟩, h.2.2⟩

theorem DR.trans {w wr w' : World} {R P Q : Nat} (h : DR w R P wr) (k : DR wr R Q w') : DR w R Q w' := ⟨k.1, grow_trans h.2.1 k.2.1, h.2.2⟩

theorem DR.mono {w wr : World} {R P Q : Nat} (h : DR w R P wr) (hPQ : P ≤ Q) : DR w R Q wr := ⟨h.1.mono hPQ, h.2⟩

/-- a row of the call's own has turned -/
theorem DR.grown {w wr w' : World} {R P : Nat} {row : Option Nat} (h : DR w R P wr) (hg : wr.grownBy w' row) (hr : ∀ g, row = some g → w.heap.size ≤ g) : DR w R P w' :=
  ⟨h.1.grown hg (fun g hg' => by have := hr g hg'; have := h.2.2; omega), grow_far h.2.1 hg hr, h.2.2⟩

theorem DR.setCell {w wr : World} {R P g k : Nat} (h : DR w R P wr) (hg : w.heap.size ≤ g) (u : Value) : DR w R P (wr.setCell ⟨g, k, none⟩ u) :=
  h.grown (row := some g) ⟨rfl, rfl, rfl, by simp [World.setCell], fun b hb hne => Below.heap_setCell wr ⟨g, k, none⟩ u b (fun e => hne (by rw [e]))⟩ (fun g' hg' => by injection hg' with hg'; omega)

theorem DR.size {w wr : World} {R P : Nat} (h : DR w R P wr) : w.heap.size ≤ wr.heap.size := h.2.1.size

/-- a block of the call's own that is no reader stays -/
theorem Blk.picked {w w' : World} {R P g : Nat} {t : TypeId} {cs : Array Value} (h : Blk w g t cs) (k : Picked R P w w') (hne : g ≠ R) : Blk w' g t cs :=
  h.more (k.grown.block g h.lt (fun e => hne (by injection e)))

theorem Blk.dr {w w' : World} {R P g : Nat} {t : TypeId} {cs : Array Value} (h : Blk w g t cs) (k : DR w R P w') (hne : g ≠ R) : Blk w' g t cs :=
  h.more (k.2.1.block g h.lt (fun e => hne (by injection e)))

theorem blk_alloc (w : World) (cs : Array Value) (t : TypeId) : Blk (w.alloc (.cells cs t)) w.heap.size t cs := heap_alloc_new w _

theorem GOwn.dr {α : Type} {e : TypeId} {c : Nat} {enc : α → List Value} {w w' : World} {R P base : Nat} {v : Value} {xs : List α} (o : GOwn e c enc w base v xs) (k : DR w R P w') (hb : R < base) : GOwn e c enc w' base v xs := by
  refine o.keep (SameAt.of_grown k.2.1 ?_)
  rcases hv : v.ownBlock with _ | g
  · exact .inl rfl
  · refine .inr fun e => ?_
    have := (o.ge g hv).1
    injection e with e
    omega

theorem far_grownI {w w' : World} {R : Nat} {v : Value} {xs : List Int} {base : Nat} (h : w.grownBy w' (some R)) (o : IOwn w base v xs) (hb : R < base) : IOwn w' base v xs := by
  refine o.keep (SameAt.of_grown h ?_)
  rcases hv : v.ownBlock with _ | g
  · exact .inl rfl
  · refine .inr fun e => ?_
    have := (o.ge g hv).1
    injection e with e
    omega

theorem IOwn.dr {w w' : World} {R P base : Nat} {v : Value} {xs : List Int} (o : IOwn w base v xs) (k : DR w R P w') (hb : R < base) : IOwn w' base v xs := far_grownI k.2.1 o hb

/-- a quote that was drawn -/
def QuoteR (w : World) (R P : Nat) (e : Ending) (w' : World) : Prop := ∃ q : Qt, e = .returned (qV q) ∧ DR w R P w'

set_option maxHeartbeats 1000000 in
theorem l20Quote_any (w : World) (R P : Nat) (n : Int) (hP : P ≤ 100000) (h : Rd w R P) (h1 : 1 ≤ n) (h2 : n ≤ 4) :
    Calls Try.prog 98 #[.pointer (some ⟨R, 0, none⟩), .int .i64 n] w (QuoteR w R (P + 2)) := by
  have hR := h.lt
  have D0 := Lib.hid ((DR.start h).alloc (.cells #[.int .i64 0, .int .i64 0] 35))
  have B0 := Lib.hid (blk_alloc w #[.int .i64 0, .int .i64 0] 35)
  have hne : w.heap.size ≠ R := by omega
  have HNE := Lib.hid hne
  clear h hne
  obtain rfl | rfl | rfl | rfl := wcases h1 h2
  all_goals
    go_enter Try.func98, Try.ntmps98
    go_wp2_with fail
    refine (pick_any _ R P _ (by omega) D0.out.1).mono ?_
    rintro e w2 ⟨v1, rfl, -, k1⟩
    have D2 := Lib.hid (D0.out.picked k1)
    have B2 := Lib.hid (B0.out.picked k1 HNE.out)
    clear k1
    go_wp2_with fail
    refine (pick_any _ R (P + 1) _ (by omega) D2.out.1).mono ?_
    rintro e w3 ⟨v2, rfl, -, k1⟩
    have D3 := Lib.hid (D2.out.picked k1)
    have B3 := Lib.hid (B2.out.picked k1 HNE.out)
    clear k1
    have hc0 : w3.cell? ⟨w.heap.size, 0, none⟩ = some (.int .i64 0) := B3.out.cell 0
    have hc1 : w3.cell? ⟨w.heap.size, 1, none⟩ = some (.int .i64 0) := B3.out.cell 1
    have hf0 : w3.frozen? ⟨w.heap.size, 0, none⟩ = false := B3.out.frozen 0
    have hf1 : w3.frozen? ⟨w.heap.size, 1, none⟩ = false := B3.out.frozen 1
    have BB := (B3.out.set_ 0 (.int .i64 v1)).set_ 1 (.int .i64 v2)
    have hr0 : ((w3.setCell ⟨w.heap.size, 0, none⟩ (.int .i64 v1)).setCell ⟨w.heap.size, 1, none⟩ (.int .i64 v2)).cell? ⟨w.heap.size, 0, none⟩ = some (.int .i64 v1) := BB.cell 0
    have hr1 : ((w3.setCell ⟨w.heap.size, 0, none⟩ (.int .i64 v1)).setCell ⟨w.heap.size, 1, none⟩ (.int .i64 v2)).cell? ⟨w.heap.size, 1, none⟩ = some (.int .i64 v2) := BB.cell 1
    clear BB
    have HR0 := Lib.hid hr0
    have HR1 := Lib.hid hr1
    clear hr0 hr1
    go_wp2_with fail
    have hr0 := HR0.out
    have hr1 := HR1.out
    refine bodyPost_ret (v := .agg #[.int .i64 v1, .int .i64 v2]) (by simp [results, Try.results98, go_sem, hr0, hr1]) rfl ?_
    exact ⟨(v1, v2), rfl, (D3.out.setCell (Nat.le_refl _) _).setCell (Nat.le_refl _) _⟩

end Go.Proofs.Yteljcicdibbhdaa

namespace Go.Proofs.Yteljcicdibbhdaa
open Go.RowKit
set_option linter.unusedVariables false

theorem IsRowC.alloc {k : IntKind} {w : World} {a : Option Addr} {len cap : Nat} {zs : List Int} (h : IsRowC k w a len cap zs) (o : Obj) : IsRowC k (w.alloc o) a len cap zs := by
  rcases h with h | ⟨x, rfl, hl, hm, hz, hcell, hwz⟩
  · exact .inl h
  · refine .inr ⟨x, rfl, hl, hm, hz, fun i hi => ?_, hwz⟩
    have hc := hcell i hi
    have hlt := World.block_lt_of_cell? w _ hc
    exact (World.cell?_of_block (Below.heap_alloc w o _ hlt)).trans hc

/-- the reader's opening, its block by another name -/
theorem open_at (w : World) (R : Nat) (a : Option Addr) (len cap : Nat) (zs : List Int) (hR : w.heap.size = R) (h : IsRowC .u8 w a len cap zs) :
    Calls Try.prog 52 #[.slice a len cap] w fun e w' => e = .returned (.pointer (some ⟨R, 0, none⟩)) ∧ DR w' R 0 w' ∧ Below w.heap.size w w' ∧ w'.heap.size = R + 1 := by
  subst hR
  refine (open_any w a len cap zs h).mono ?_
  rintro e w' ⟨rfl, ho⟩
  exact ⟨rfl, DR.start ho.rd, ho.below, ho.size⟩

theorem below_dr {B : Nat} {w w1 w2 : World} {R P : Nat} (h : Below B w w1) (k : DR w1 R P w2) (hB : B ≤ R) : Below B w w2 :=
  h.grown k.2.1 (by have := k.2.2; omega) (fun g hg => by injection hg with hg; omega)

/-- a number and a quote that were drawn -/
def DrawNQ (w : World) (e : Ending) (w' : World) : Prop := ∃ (x : Int) (q : Qt), e = .returned (.tuple #[.int .i64 x, qV q]) ∧ Below w.heap.size w w'

/-- a number of worlds, a quote and a stake that were drawn -/
def StakedR (w : World) (R P : Nat) (e : Ending) (w' : World) : Prop := ∃ (x : Int) (q : Qt) (s : Int), e = .returned (.tuple #[.int .i64 x, qV q, .int .i64 s]) ∧ DR w R P w'

end Go.Proofs.Yteljcicdibbhdaa

namespace Go.Proofs.Yteljcicdibbhdaa
open Go.RowKit
set_option linter.unusedVariables false

/-- a block of two cells: what the walk wants to know of it -/
theorem Blk.two {w : World} {g : Nat} {t : TypeId} {x y : Value} (h : Blk w g t #[x, y]) :
    w.cell? ⟨g, 0, none⟩ = some x ∧ w.cell? ⟨g, 1, none⟩ = some y ∧ w.frozen? ⟨g, 0, none⟩ = false ∧ w.frozen? ⟨g, 1, none⟩ = false := ⟨h.cell 0, h.cell 1, h.frozen 0, h.frozen 1⟩

theorem Blk.alloc {w : World} {g : Nat} {t : TypeId} {cs : Array Value} (h : Blk w g t cs) (o : Obj) : Blk (w.alloc o) g t cs := h.more (Below.heap_alloc w o g h.lt)

theorem Blk.set_far {w : World} {g b k : Nat} {t : TypeId} {cs : Array Value} (h : Blk w g t cs) (u : Value) (hne : g ≠ b) : Blk (w.setCell ⟨b, k, none⟩ u) g t cs :=
  h.more (Below.heap_setCell w ⟨b, k, none⟩ u g hne)

/-- where the last region of l20Staked begins: the reader, the result's block, the quote's block -/
def StRel (w : World) (R P g : Nat) (q : Qt) (wr : World) : Prop := DR w R P wr ∧ Blk wr w.heap.size 35 #[.int .i64 0, .int .i64 0] ∧ Blk wr g 35 #[.int .i64 q.1, .int .i64 q.2] ∧ g ≠ R ∧ w.heap.size ≠ R ∧ w.heap.size < g

theorem StRel.picked {w wr w' : World} {R P Q g : Nat} {q : Qt} (h : StRel w R P g q wr) (k : Picked R Q wr w') : StRel w R Q g q w' := by
  obtain ⟨h1, h2, h3, h4, h5, h6⟩ := h
  exact ⟨h1.picked k, h2.picked k h5, h3.picked k h4, h4, h5, h6⟩

theorem StRel.drew {w wr : World} {R P g : Nat} {q : Qt} (h : StRel w R P g q wr) : StRel w R P g q wr.drew := ⟨h.1.drew, h.2⟩

theorem StRel.alloc {w wr : World} {R P g : Nat} {q : Qt} (h : StRel w R P g q wr) (o : Obj) : StRel w R P g q (wr.alloc o) :=
  ⟨h.1.alloc o, h.2.1.alloc o, h.2.2.1.alloc o, h.2.2.2⟩

/-- another price -/
theorem StRel.price {w wr : World} {R P g : Nat} {q : Qt} (h : StRel w R P g q wr) (x : Int) : StRel w R P g (q.1, x) (wr.setCell ⟨g, 1, none⟩ (.int .i64 x)) := by
  obtain ⟨h1, h2, h3, h4, h5, h6⟩ := h
  exact ⟨h1.setCell (by omega) _, h2.set_far _ (by omega), h3.set_ 1 _, h4, h5, h6⟩

theorem StRel.writes {w wr : World} {R P g : Nat} {q : Qt} (h : StRel w R P g q wr) : wr.frozen? ⟨g, 1, none⟩ = false ∧ wr.cell? ⟨g, 1, none⟩ = some (.int .i64 q.2) := ⟨h.2.2.1.frozen 1, h.2.2.1.cell 1⟩

/-- what the walk wants to know at each step -/
theorem StRel.cells {w wr : World} {R P g : Nat} {q : Qt} (h : StRel w R P g q wr) :
    (wr.cell? ⟨g, 0, none⟩ = some (.int .i64 q.1) ∧ wr.cell? ⟨g, 1, none⟩ = some (.int .i64 q.2)) ∧ wr.cell? ⟨w.heap.size, 0, none⟩ = some (.int .i64 0) ∧ wr.cell? ⟨w.heap.size, 1, none⟩ = some (.int .i64 0) ∧ wr.frozen? ⟨w.heap.size, 0, none⟩ = false ∧ wr.frozen? ⟨w.heap.size, 1, none⟩ = false :=
  ⟨⟨h.2.2.1.cell 0, h.2.2.1.cell 1⟩, h.2.1.cell 0, h.2.1.cell 1, h.2.1.frozen 0, h.2.1.frozen 1⟩

/-- the end: the quote is laid into the result -/
theorem StRel.fin {w wr : World} {R P g : Nat} {q : Qt} (h : StRel w R P g q wr) :
    (((wr.setCell ⟨w.heap.size, 0, none⟩ (.int .i64 q.1)).setCell ⟨w.heap.size, 1, none⟩ (.int .i64 q.2)).cell? ⟨w.heap.size, 0, none⟩ = some (.int .i64 q.1)) ∧
    (((wr.setCell ⟨w.heap.size, 0, none⟩ (.int .i64 q.1)).setCell ⟨w.heap.size, 1, none⟩ (.int .i64 q.2)).cell? ⟨w.heap.size, 1, none⟩ = some (.int .i64 q.2)) ∧
    DR w R P ((wr.setCell ⟨w.heap.size, 0, none⟩ (.int .i64 q.1)).setCell ⟨w.heap.size, 1, none⟩ (.int .i64 q.2)) := by
  have BB := (h.2.1.set_ 0 (.int .i64 q.1)).set_ 1 (.int .i64 q.2)
  exact ⟨BB.cell 0, BB.cell 1, (h.1.setCell (Nat.le_refl _) _).setCell (Nat.le_refl _) _⟩

end Go.Proofs.Yteljcicdibbhdaa

namespace Go.Proofs.Yteljcicdibbhdaa
open Go.RowKit
set_option linter.unusedVariables false

theorem Blk.fin {w : World} {g : Nat} {t : TypeId} {x y : Value} (h : Blk w g t #[x, y]) (u v : Value) :
    ((w.setCell ⟨g, 0, none⟩ u).setCell ⟨g, 1, none⟩ v).cell? ⟨g, 0, none⟩ = some u ∧ ((w.setCell ⟨g, 0, none⟩ u).setCell ⟨g, 1, none⟩ v).cell? ⟨g, 1, none⟩ = some v := by
  have BB := (h.set_ 0 u).set_ 1 v
  exact ⟨BB.cell 0, BB.cell 1⟩

/-- a number, a quote and a stake that were drawn -/
def DrawNQS (w : World) (e : Ending) (w' : World) : Prop := ∃ (x : Int) (q : Qt) (s : Int), e = .returned (.tuple #[.int .i64 x, qV q, .int .i64 s]) ∧ Below w.heap.size w w'

end Go.Proofs.Yteljcicdibbhdaa
