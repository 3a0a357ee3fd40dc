/- Contracts, facts and walks that the laws of this seat lean on, laid together by a program of ours (mkmerge.py) out of: Kp Di Dt Zd Kq Kc Ks Pa Pb Qf Ki Ab. Conditions: stated at each. -/
import Derived.Deep.AppendLies
import Derived.Deep.RegionWith
import Derived.Handy
import Derived.Deep.DeepCutAuto
import Derived.Deep.SlicePairs
import Derived.Lib.SmallJoins
import Derived.Test.YtebebcomhdjihaaM2
namespace Go.Proofs.Ytebebcomhdjihaa
open Go.RowKit
set_option linter.unusedVariables false

def Sane (v : Value) : Prop := v = .slice none 0 0 ∨ ∃ ad n c, v = .slice (some ad) n c

section
variable {α : Type}

theorem GOwn.sane {e : TypeId} {enc : α → List Value} {c : Nat} {w : World} {base : Nat} {v : Value} {xs : List α} (h : GOwn e c enc w base v xs) : Sane v := by
  rcases h.2 with ⟨rfl, h0⟩ | ⟨g, cap, cur, rfl, -⟩
  · exact .inl rfl
  · exact .inr ⟨_, _, _, rfl⟩

end

theorem GOwn.alloc {α : Type} {e : TypeId} {enc : α → List Value} {c : Nat} {w : World} {base : Nat} {v : Value} {xs : List α} (h : GOwn e c enc w base v xs) (o : Obj) : GOwn e c enc (w.alloc o) base v xs := World.ownsRow.alloc h o

theorem GOwn.below {α : Type} {e : TypeId} {enc : α → List Value} {c : Nat} {w w' : World} {base : Nat} {v : Value} {xs : List α} (h : GOwn e c enc w base v xs) (hb : Below w.heap.size w w') : GOwn e c enc w' base v xs := h.keep (SameAt.of_below hb)

theorem GOwn.off {α : Type} {e : TypeId} {enc : α → List Value} {c : Nat} {w w' : World} {base : Nat} {v : Value} {xs : List α} {r : Option Nat} (h : GOwn e c enc w base v xs) (hg : w.grownBy w' r) (hne : v.ownBlock = none ∨ v.ownBlock ≠ r) : GOwn e c enc w' base v xs := h.keep (SameAt.of_grown hg hne)

def iC (x : Int) : List Value := [.int .i64 x]

theorem flat_iC (xs : List Int) : xs.flatMap iC = xs.map (Value.int .i64) := by
  induction xs with
  | nil => rfl
  | cons x xs ih => rw [List.flatMap_cons, ih]; rfl

theorem iown_g {w : World} {base : Nat} {v : Value} {xs : List Int} : IOwn w base v xs ↔ GOwn 3 1 iC w base v xs := by
  unfold IOwn GOwn
  rw [flat_iC]

def pC (x : Value × Value) : List Value := [x.1, x.2]

theorem pC_len (x : Value × Value) : (pC x).length = 2 := rfl

theorem Try_placeinfo : (Try.prog.info? 26).map (fun i => (i.zero, i.size, i.bytes)) = some (some (.agg #[.slice none 0 0, .slice none 0 0]), 2, 48) := by kernel_rfl

def InS (S : Nat → Prop) (v : Value) : Prop := ∀ g, v.ownBlock = some g → S g

theorem InS.mono {S T : Nat → Prop} {v : Value} (h : InS S v) (hst : ∀ g, S g → T g) : InS T v := fun g hg => hst g (h g hg)

theorem InS.ne {S : Nat → Prop} {v : Value} {g : Nat} (h : InS S v) (hg : ¬ S g) : v.ownBlock = none ∨ v.ownBlock ≠ some g := .inr (fun e => hg (h g e))

def PlRd (S : Nat → Prop) (w : World) (v u : Value) (p : Pl) : Prop := (QRd w v p.1 ∧ Sane v ∧ InS S v) ∧ (IRd w u p.2 ∧ Sane u ∧ InS S u)

theorem PlRd.keep {S : Nat → Prop} {w w' : World} {v u : Value} {p : Pl} (h : PlRd S w v u p) (h1 : SameAt w w' v) (h2 : SameAt w w' u) : PlRd S w' v u p := ⟨⟨h.1.1.keep h1, h.1.2⟩, ⟨h.2.1.keep h2, h.2.2⟩⟩

theorem PlRd.below {S : Nat → Prop} {w w' : World} {v u : Value} {p : Pl} (h : PlRd S w v u p) (hb : Below w.heap.size w w') : PlRd S w' v u p := h.keep (SameAt.of_below hb) (SameAt.of_below hb)

theorem PlRd.off {S : Nat → Prop} {w w' : World} {v u : Value} {p : Pl} {g : Nat} (h : PlRd S w v u p) (hg : w.grownBy w' (some g)) (hs : ¬ S g) : PlRd S w' v u p := h.keep (SameAt.of_grown hg (h.1.2.2.ne hs)) (SameAt.of_grown hg (h.2.2.2.ne hs))

theorem PlRd.mono {S T : Nat → Prop} {w : World} {v u : Value} {p : Pl} (h : PlRd S w v u p) (hst : ∀ g, S g → T g) : PlRd T w v u p := ⟨⟨h.1.1, h.1.2.1, h.1.2.2.mono hst⟩, ⟨h.2.1, h.2.2.1, h.2.2.2.mono hst⟩⟩

theorem PlRd.nil (S : Nat → Prop) (w : World) : PlRd S w (.slice none 0 0) (.slice none 0 0) ([], []) :=
  ⟨⟨GRd.nil _ _ _, .inl rfl, fun g hg => by cases hg⟩, ⟨⟨none, 0, rfl, Nat.le_refl _, by omega, fun h => by simp at h⟩, .inl rfl, fun g hg => by cases hg⟩⟩

def PsRd (S : Nat → Prop) (w : World) (v : Value) (ps : List Pl) : Prop := ∃ us : List (Value × Value), us.length = ps.length ∧ (GRd 2 pC w v us ∧ InS S v) ∧ ∀ (k : Nat) (x : Value × Value) (p : Pl), us[k]? = some x → ps[k]? = some p → PlRd S w x.1 x.2 p

theorem PsRd.below {S : Nat → Prop} {w w' : World} {v : Value} {ps : List Pl} (h : PsRd S w v ps) (hb : Below w.heap.size w w') : PsRd S w' v ps := by
  obtain ⟨us, h1, h2, h3⟩ := h
  exact ⟨us, h1, ⟨h2.1.keep (SameAt.of_below hb), h2.2⟩, fun k x p k1 k2 => (h3 k x p k1 k2).below hb⟩

theorem PsRd.off {S : Nat → Prop} {w w' : World} {v : Value} {ps : List Pl} {g : Nat} (h : PsRd S w v ps) (hg : w.grownBy w' (some g)) (hs : ¬ S g) : PsRd S w' v ps := by
  obtain ⟨us, h1, h2, h3⟩ := h
  exact ⟨us, h1, ⟨h2.1.keep (SameAt.of_grown hg (h2.2.ne hs)), h2.2⟩, fun k x p k1 k2 => (h3 k x p k1 k2).off hg hs⟩

theorem PsRd.mono {S T : Nat → Prop} {w : World} {v : Value} {ps : List Pl} (h : PsRd S w v ps) (hst : ∀ g, S g → T g) : PsRd T w v ps := by
  obtain ⟨us, h1, h2, h3⟩ := h
  exact ⟨us, h1, ⟨h2.1, h2.2.mono hst⟩, fun k x p k1 k2 => (h3 k x p k1 k2).mono hst⟩

theorem PsRd.nil (S : Nat → Prop) (w : World) : PsRd S w (.slice none 0 0) [] := ⟨[], rfl, ⟨GRd.nil _ _ _, fun g hg => by cases hg⟩, fun k x p h => by simp at h⟩

theorem PsRd.form {S : Nat → Prop} {w : World} {v : Value} {ps : List Pl} (h : PsRd S w v ps) : ∃ A cp, v = .slice A ps.length cp ∧ ps.length ≤ cp ∧ cp ≤ 9223372036854775807 := by
  obtain ⟨us, h1, ⟨h2, -⟩, -⟩ := h
  rw [← h1]; exact h2.form

theorem PsRd.at_ {S : Nat → Prop} {w : World} {A : Option Addr} {n cp : Nat} {ps : List Pl} (h : PsRd S w (.slice A n cp) ps) {k : Nat} (hk : k < n) :
    ∃ b off v u p, A = some ⟨b, off, none⟩ ∧ b < w.heap.size ∧ ps[k]? = some p ∧ w.cell? ⟨b, off + k * 2, none⟩ = some v ∧ w.cell? ⟨b, off + k * 2 + 1, none⟩ = some u ∧ PlRd S w v u p := by
  obtain ⟨us, h1, ⟨h2, -⟩, h3⟩ := h
  have hn : n = us.length := by obtain ⟨A', c', e, -⟩ := h2; injection e
  obtain ⟨b, off, x, hA, hb, hx, hc⟩ := h2.at_ hk
  have hkl : k < ps.length := by omega
  obtain ⟨p, hp⟩ : ∃ p, ps[k]? = some p := ⟨_, List.getElem?_eq_getElem hkl⟩
  exact ⟨b, off, x.1, x.2, p, hA, hb, hp, (by have := hc 0 x.1 rfl; rwa [Nat.add_zero] at this), hc 1 x.2 rfl, h3 k x p hx hp⟩

def PsOwn (S : Nat → Prop) (w : World) (base : Nat) (v : Value) (ps : List Pl) : Prop := ∃ us : List (Value × Value), us.length = ps.length ∧ (GOwn 26 2 pC w base v us ∧ InS S v) ∧ ∀ (k : Nat) (x : Value × Value) (p : Pl), us[k]? = some x → ps[k]? = some p → PlRd (fun g => S g ∧ v.ownBlock ≠ some g) w x.1 x.2 p

theorem PsOwn.rd {S : Nat → Prop} {w : World} {base : Nat} {v : Value} {ps : List Pl} (h : PsOwn S w base v ps) : PsRd S w v ps := by
  obtain ⟨us, h1, h2, h3⟩ := h
  exact ⟨us, h1, ⟨h2.1.rd pC_len, h2.2⟩, fun k x p k1 k2 => (h3 k x p k1 k2).mono (fun g hg => hg.1)⟩

theorem PsOwn.below {S : Nat → Prop} {w w' : World} {base : Nat} {v : Value} {ps : List Pl} (h : PsOwn S w base v ps) (hb : Below w.heap.size w w') : PsOwn S w' base v ps := by
  obtain ⟨us, h1, h2, h3⟩ := h
  exact ⟨us, h1, ⟨h2.1.below hb, h2.2⟩, fun k x p k1 k2 => (h3 k x p k1 k2).below hb⟩

theorem PsOwn.off {S : Nat → Prop} {w w' : World} {base : Nat} {v : Value} {ps : List Pl} {g : Nat} (h : PsOwn S w base v ps) (hg : w.grownBy w' (some g)) (hs : ¬ S g) : PsOwn S w' base v ps := by
  obtain ⟨us, h1, h2, h3⟩ := h
  exact ⟨us, h1, ⟨h2.1.off hg (h2.2.ne hs), h2.2⟩, fun k x p k1 k2 => (h3 k x p k1 k2).off hg (fun hh => hs hh.1)⟩

theorem PsOwn.nil (S : Nat → Prop) (w : World) (base : Nat) : PsOwn S w base (.slice none 0 0) [] := ⟨[], rfl, ⟨GOwn.nil _ _ _ _ _, fun g hg => by cases hg⟩, fun k x p h => by simp at h⟩

def DkRd (S : Nat → Prop) (w : World) (v u r : Value) (d : Dk) : Prop := PlRd S w v u d.1 ∧ PsRd S w r d.2

theorem DkRd.below {S : Nat → Prop} {w w' : World} {v u r : Value} {d : Dk} (h : DkRd S w v u r d) (hb : Below w.heap.size w w') : DkRd S w' v u r d := ⟨h.1.below hb, h.2.below hb⟩

theorem DkRd.off {S : Nat → Prop} {w w' : World} {v u r : Value} {d : Dk} {g : Nat} (h : DkRd S w v u r d) (hg : w.grownBy w' (some g)) (hs : ¬ S g) : DkRd S w' v u r d := ⟨h.1.off hg hs, h.2.off hg hs⟩

theorem DkRd.mono {S T : Nat → Prop} {w : World} {v u r : Value} {d : Dk} (h : DkRd S w v u r d) (hst : ∀ g, S g → T g) : DkRd T w v u r d := ⟨h.1.mono hst, h.2.mono hst⟩

theorem DkRd.nil (S : Nat → Prop) (w : World) : DkRd S w (.slice none 0 0) (.slice none 0 0) (.slice none 0 0) (([], []), []) := ⟨PlRd.nil S w, PsRd.nil S w⟩

end Go.Proofs.Ytebebcomhdjihaa

namespace Go.Proofs.Ytebebcomhdjihaa
open Go.RowKit
set_option linter.unusedVariables false

theorem grow_trans {w w1 w2 : World} {r : Option Nat} (h : w.grownBy w1 r) (k : w1.grownBy w2 r) : w.grownBy w2 r :=
  ⟨k.os.trans h.os, k.tape.trans h.tape, k.output.trans h.output, Nat.le_trans h.size k.size, fun i hi hne => (k.block i (by have := h.size; omega) hne).trans (h.block i hi hne)⟩

theorem grow_far {w w1 w2 : World} {r s : Option Nat} (h : w.grownBy w1 r) (k : w1.grownBy w2 s) (hs : ∀ g, s = some g → w.heap.size ≤ g) : w.grownBy w2 r :=
  ⟨k.os.trans h.os, k.tape.trans h.tape, k.output.trans h.output, Nat.le_trans h.size k.size, fun i hi hne => (k.block i (by have := h.size; omega) (fun e => by have := hs i e.symm; omega)).trans (h.block i hi hne)⟩

def GamRel (w : World) (R P : Nat) (p : Value) (xs : List Int) (wr : World) : Prop := Rd wr R P ∧ IOwn wr w.heap.size p xs ∧ w.grownBy wr (some R) ∧ R < w.heap.size

theorem GamRel.start {w : World} {R P : Nat} (h : Rd w R P) : GamRel w R P (.slice (some ⟨w.heap.size, 0, none⟩) 0 0) [] (w.alloc (.cells #[] 3)) :=
  ⟨h.keep (by simp) (fun b hb => Below.heap_alloc w _ b hb), World.ownsRow_lit w #[] 0 (Nat.le_refl _) (by unfold maxLen; omega) rfl, World.grownBy_alloc _ _ _, h.lt⟩

def Amt (B : Int) (xs : List Int) : Prop := ∀ x ∈ xs, -B ≤ x ∧ x ≤ B

theorem Amt.mono {B C : Int} {xs : List Int} (h : Amt B xs) (hBC : B ≤ C) : Amt C xs := fun x hx => by have := h x hx; omega

theorem Amt.at_ {B : Int} {xs : List Int} (h : Amt B xs) {k : Nat} {x : Int} (hx : xs[k]? = some x) : -B ≤ x ∧ x ≤ B := h x (List.mem_of_getElem? hx)

theorem GamRel.cell {w wr : World} {R P g n cap : Nat} {xs : List Int} {k : Nat} {x : Int} (h : GamRel w R P (.slice (some ⟨g, 0, none⟩) n cap) xs wr) (hx : xs[k]? = some x) : wr.cell? ⟨g, k, none⟩ = some (.int .i64 x) := by
  have hk : k < xs.length := by
    rcases Nat.lt_or_ge k xs.length with h1 | h1
    · exact h1
    · rw [List.getElem?_eq_none h1] at hx; cases hx
  obtain ⟨A, c, e, hl, hm, hc⟩ := h.2.1.rd
  injection e with e1 e2 e3
  obtain ⟨b, off, hA, -, hcell⟩ := hc (by omega)
  rw [← e1] at hA
  injection hA with hA
  injection hA with hb ho
  subst hb
  subst ho
  simpa using hcell k x hx

theorem GamRel.frozen {w wr : World} {R P g n cap : Nat} {xs : List Int} (h : GamRel w R P (.slice (some ⟨g, 0, none⟩) n cap) xs wr) (k : Nat) : wr.frozen? ⟨g, k, none⟩ = false := by
  have ho := h.2.1
  unfold IOwn at ho
  rcases ho.2 with ⟨e, -⟩ | ⟨g', cap', cur, e, hb, hg, rest⟩
  · cases e
  · injection e with e1 e2 e3
    injection e1 with e1
    injection e1 with e1
    subst e1
    simp [World.frozen?, hg]

theorem GamRel.mono {w wr : World} {R P Q : Nat} {p : Value} {xs : List Int} (h : GamRel w R P p xs wr) (hPQ : P ≤ Q) : GamRel w R Q p xs wr := ⟨h.1.mono hPQ, h.2⟩

theorem GamRel.form {w wr : World} {R P : Nat} {p : Value} {xs : List Int} (h : GamRel w R P p xs wr) (hn : 0 < xs.length) : ∃ g cap, p = .slice (some ⟨g, 0, none⟩) xs.length cap ∧ xs.length ≤ cap ∧ cap ≤ 9223372036854775807 := by
  obtain ⟨g, cap, e, -, -⟩ := World.ownsRow.form h.2.1 hn
  obtain ⟨A, c, e', hl, hm, -⟩ := h.2.1.rd
  rw [e] at e'
  injection e' with e1 e2 e3
  exact ⟨g, cap, e, by omega, by omega⟩

end Go.Proofs.Ytebebcomhdjihaa

namespace Go.Proofs.Ytebebcomhdjihaa
open Go.RowKit
set_option linter.unusedVariables false

end Go.Proofs.Ytebebcomhdjihaa

namespace Go.Proofs.Ytebebcomhdjihaa
open Go.RowKit
set_option linter.unusedVariables false

end Go.Proofs.Ytebebcomhdjihaa

namespace Go.Proofs.Ytebebcomhdjihaa
open Go.RowKit
set_option linter.unusedVariables false

def DR (w : World) (R P : Nat) (wr : World) : Prop := Rd wr R P ∧ w.grownBy wr (some R) ∧ R < w.heap.size

theorem DR.start {w : World} {R P : Nat} (h : Rd w R P) : DR w R P w := ⟨h, World.grownBy.refl _ _, h.lt⟩

theorem DR.alloc {w wr : World} {R P : Nat} (h : DR w R P wr) (o : Obj) : DR w R P (wr.alloc o) :=
  ⟨h.1.keep (by simp) (fun b hb => Below.heap_alloc wr _ b hb), grow_trans h.2.1 (World.grownBy_alloc _ _ _), h.2.2⟩

theorem DR.drew {w wr : World} {R P : Nat} (h : DR w R P wr) : DR w R P wr.drew := ⟨h.1, ⟨h.2.1.os, h.2.1.tape, h.2.1.output, h.2.1.size, h.2.1.block⟩, h.2.2⟩

theorem DR.trans {w wr w' : World} {R P Q : Nat} (h : DR w R P wr) (k : DR wr R Q w') : DR w R Q w' := ⟨k.1, grow_trans h.2.1 k.2.1, h.2.2⟩

theorem DR.mono {w wr : World} {R P Q : Nat} (h : DR w R P wr) (hPQ : P ≤ Q) : DR w R Q wr := ⟨h.1.mono hPQ, h.2⟩

theorem DR.grown {w wr w' : World} {R P : Nat} {row : Option Nat} (h : DR w R P wr) (hg : wr.grownBy w' row) (hr : ∀ g, row = some g → w.heap.size ≤ g) : DR w R P w' :=
  ⟨h.1.grown hg (fun g hg' => by have := hr g hg'; have := h.2.2; omega), grow_far h.2.1 hg hr, h.2.2⟩

theorem DR.setCell {w wr : World} {R P g k : Nat} (h : DR w R P wr) (hg : w.heap.size ≤ g) (u : Value) : DR w R P (wr.setCell ⟨g, k, none⟩ u) :=
  h.grown (row := some g) ⟨rfl, rfl, rfl, by simp [World.setCell], fun b hb hne => Below.heap_setCell wr ⟨g, k, none⟩ u b (fun e => hne (by rw [e]))⟩ (fun g' hg' => by injection hg' with hg'; omega)

theorem DR.size {w wr : World} {R P : Nat} (h : DR w R P wr) : w.heap.size ≤ wr.heap.size := h.2.1.size

end Go.Proofs.Ytebebcomhdjihaa

namespace Go.Proofs.Ytebebcomhdjihaa
open Go.RowKit
set_option linter.unusedVariables false

theorem IsRowC.alloc {k : IntKind} {w : World} {a : Option Addr} {len cap : Nat} {zs : List Int} (h : IsRowC k w a len cap zs) (o : Obj) : IsRowC k (w.alloc o) a len cap zs := by
  rcases h with h | ⟨x, rfl, hl, hm, hz, hcell, hwz⟩
  · exact .inl h
  · refine .inr ⟨x, rfl, hl, hm, hz, fun i hi => ?_, hwz⟩
    have hc := hcell i hi
    have hlt := World.block_lt_of_cell? w _ hc
    exact (World.cell?_of_block (Below.heap_alloc w o _ hlt)).trans hc

end Go.Proofs.Ytebebcomhdjihaa

namespace Go.Proofs.Ytebebcomhdjihaa
open Go.RowKit
set_option linter.unusedVariables false

theorem Blk.two {w : World} {g : Nat} {t : TypeId} {x y : Value} (h : Blk w g t #[x, y]) :
    w.cell? ⟨g, 0, none⟩ = some x ∧ w.cell? ⟨g, 1, none⟩ = some y ∧ w.frozen? ⟨g, 0, none⟩ = false ∧ w.frozen? ⟨g, 1, none⟩ = false := ⟨h.cell 0, h.cell 1, h.frozen 0, h.frozen 1⟩

theorem Blk.alloc {w : World} {g : Nat} {t : TypeId} {cs : Array Value} (h : Blk w g t cs) (o : Obj) : Blk (w.alloc o) g t cs := h.more (Below.heap_alloc w o g h.lt)

def StRel (w : World) (R P g : Nat) (q : Qt) (wr : World) : Prop := DR w R P wr ∧ Blk wr w.heap.size 64 #[.int .i64 0, .int .i64 0] ∧ Blk wr g 64 #[.int .i64 q.1, .int .i64 q.2] ∧ g ≠ R ∧ w.heap.size ≠ R ∧ w.heap.size < g

theorem StRel.drew {w wr : World} {R P g : Nat} {q : Qt} (h : StRel w R P g q wr) : StRel w R P g q wr.drew := ⟨h.1.drew, h.2⟩

theorem StRel.alloc {w wr : World} {R P g : Nat} {q : Qt} (h : StRel w R P g q wr) (o : Obj) : StRel w R P g q (wr.alloc o) :=
  ⟨h.1.alloc o, h.2.1.alloc o, h.2.2.1.alloc o, h.2.2.2⟩

theorem StRel.cells {w wr : World} {R P g : Nat} {q : Qt} (h : StRel w R P g q wr) :
    (wr.cell? ⟨g, 0, none⟩ = some (.int .i64 q.1) ∧ wr.cell? ⟨g, 1, none⟩ = some (.int .i64 q.2)) ∧ wr.cell? ⟨w.heap.size, 0, none⟩ = some (.int .i64 0) ∧ wr.cell? ⟨w.heap.size, 1, none⟩ = some (.int .i64 0) ∧ wr.frozen? ⟨w.heap.size, 0, none⟩ = false ∧ wr.frozen? ⟨w.heap.size, 1, none⟩ = false :=
  ⟨⟨h.2.2.1.cell 0, h.2.2.1.cell 1⟩, h.2.1.cell 0, h.2.1.cell 1, h.2.1.frozen 0, h.2.1.frozen 1⟩

end Go.Proofs.Ytebebcomhdjihaa

namespace Go.Proofs.Ytebebcomhdjihaa
open Go.RowKit
set_option linter.unusedVariables false

end Go.Proofs.Ytebebcomhdjihaa

namespace Go.Proofs.Ytebebcomhdjihaa
open Go.RowKit
set_option linter.unusedVariables false

theorem TOwn.cell {w : World} {base g n c : Nat} {ps : List ByteArray} (h : TOwn w base (.slice (some ⟨g, 0, none⟩) n c) ps) {k : Nat} {p : ByteArray} (hu : ps[k]? = some p) : w.cell? ⟨g, k, none⟩ = some (.string p) := by
  have hk : k < ps.length := (List.getElem?_eq_some_iff.1 hu).1
  have hn : n = ps.length := by
    rcases h.2 with ⟨e, -⟩ | ⟨g', cap, cur, e, -⟩
    · cases e
    · injection e with e1 e2 e3
  subst hn
  have := World.ownsRow.cellAt h k (by omega)
  rw [this, List.getElem?_map, hu]; rfl

theorem TOwn.below {w w' : World} {base : Nat} {v : Value} {ps : List ByteArray} (h : TOwn w base v ps) (hb : Below w.heap.size w w') : TOwn w' base v ps := by
  refine ⟨h.1, ?_⟩
  rcases h.2 with hn | ⟨g, cap, cur, rfl, hb', hg, rest⟩
  · exact .inl hn
  · exact .inr ⟨g, cap, cur, rfl, hb', (hb.block g (Array.getElem?_eq_some_iff.1 hg).1).trans hg, rest⟩

theorem set1_grown (X : World) (g k : Nat) (u : Value) : X.grownBy (X.setCell ⟨g, k, none⟩ u) (some g) :=
  ⟨rfl, rfl, rfl, by simp [World.setCell], fun b hb hne => Below.heap_setCell X ⟨g, k, none⟩ u b (fun e => hne (by rw [e]))⟩

theorem grow3 {w w1 w2 : World} {r : Option Nat} (h : w.grownBy w1 r) (k : w1.grownBy w2 r) : w.grownBy w2 r :=
  ⟨k.os.trans h.os, k.tape.trans h.tape, k.output.trans h.output, Nat.le_trans h.size k.size, fun i hi hne => (k.block i (Nat.lt_of_lt_of_le hi h.size) hne).trans (h.block i hi hne)⟩

theorem set3_grown (X : World) (g : Nat) (u0 u1 u2 : Value) : X.grownBy (((X.setCell ⟨g, 0, none⟩ u0).setCell ⟨g, 1, none⟩ u1).setCell ⟨g, 2, none⟩ u2) (some g) :=
  grow3 (grow3 (set1_grown X g 0 u0) (set1_grown _ g 1 u1)) (set1_grown _ g 2 u2)

theorem MOwn.kept {X X' : World} {base g : Nat} {v : Value} {ms : List Mk} (o : MOwn X base v ms) (hg : X.grownBy X' (some g)) (hb : g < base) : MOwn X' base v ms := by
  refine GOwn.keep o (SameAt.of_grown hg ?_)
  rcases hv : v.ownBlock with _ | b
  · exact .inl rfl
  · refine .inr fun e => ?_
    have := (GOwn.ge o b hv).1
    injection e with e
    omega

end Go.Proofs.Ytebebcomhdjihaa

namespace Go.Proofs.Ytebebcomhdjihaa
open Go.RowKit
set_option linter.unusedVariables false

theorem Blk.below15 {w w' : World} {g : Nat} {t : TypeId} {cs : Array Value} (h : Blk w g t cs) (hb : Below w.heap.size w w') : Blk w' g t cs := h.more (hb.block g h.lt)

theorem Blk.off {w w' : World} {g : Nat} {t : TypeId} {cs : Array Value} {r : Option Nat} (h : Blk w g t cs) (hg : w.grownBy w' r) (hne : r ≠ some g) : Blk w' g t cs := h.more (hg.block g h.lt (fun e => hne e.symm))

def PlNew (p : Pl) (w : World) (e : Ending) (w' : World) : Prop := ∃ v u, e = .returned (.agg #[v, u]) ∧ QOwn w' w.heap.size v p.1 ∧ IOwn w' w.heap.size u p.2 ∧ (∀ g, v.ownBlock = some g → u.ownBlock ≠ some g) ∧ Below w.heap.size w w'

theorem dk_cells (w : World) (v u r : Value) (wr : World) (h : Below (w.alloc (.cells #[v, u, r] 29)).heap.size (w.alloc (.cells #[v, u, r] 29)) wr) :
    wr.cell? ⟨w.heap.size, 0, none⟩ = some v ∧ wr.cell? ⟨w.heap.size, 1, none⟩ = some u ∧ wr.cell? ⟨w.heap.size, 2, none⟩ = some r := by
  have h1 : Blk (w.alloc (.cells #[v, u, r] 29)) w.heap.size 29 #[v, u, r] := heap_alloc_new w _
  have h2 : Blk wr w.heap.size 29 #[v, u, r] := (h.block w.heap.size (by simp)).trans h1
  exact ⟨h2.cell 0, h2.cell 1, h2.cell 2⟩

theorem all_pl {ps : List Pl} {k : Nat} {p : Pl} (hx : ps[k]? = some p) (h : plB p = true) (ih : ∀ y ∈ ps.take k, plB y = true) : ∀ y ∈ ps.take (k + 1), plB y = true := by
  rw [List.take_add_one, hx]
  intro y hy
  rcases List.mem_append.1 hy with h1 | h1
  · exact ih y h1
  · simp at h1; subst h1; exact h

set_option maxRecDepth 100000 in
set_option maxHeartbeats 4000000 in
theorem specDeskOk_any {S : Nat → Prop} (w : World) (v u r : Value) (d : Dk) (h : DkRd S w v u r d) :
    Calls Try.prog 11 #[.agg #[v, u, r]] w (BoolPost (dkB d) w) := by
  obtain ⟨A, c, rfl, hl, hm⟩ := h.2.form
  have HB : Hid (Below w.heap.size w (w.alloc (.cells #[v, u, .slice A d.2.length c] 29))) := Lib.hid ((Below.refl _ _).alloc (Nat.le_refl _) _)
  have HD : Hid (∀ wr, Below (w.alloc (.cells #[v, u, .slice A d.2.length c] 29)).heap.size (w.alloc (.cells #[v, u, .slice A d.2.length c] 29)) wr → DkRd S wr v u (.slice A d.2.length c) d) := Lib.hid (fun wr hb => (h.below (show Below w.heap.size w (w.alloc (.cells #[v, u, .slice A d.2.length c] 29)) from (Below.refl _ _).alloc (Nat.le_refl _) _)).below hb)
  have HC : Hid (∀ wr, Below (w.alloc (.cells #[v, u, .slice A d.2.length c] 29)).heap.size (w.alloc (.cells #[v, u, .slice A d.2.length c] 29)) wr → wr.cell? ⟨w.heap.size, 0, none⟩ = some v ∧ wr.cell? ⟨w.heap.size, 1, none⟩ = some u ∧ wr.cell? ⟨w.heap.size, 2, none⟩ = some (.slice A d.2.length c)) := Lib.hid (fun wr hb => dk_cells w _ _ _ wr hb)
  have H0 : Hid (Below (w.alloc (.cells #[v, u, .slice A d.2.length c] 29)).heap.size (w.alloc (.cells #[v, u, .slice A d.2.length c] 29)) (w.alloc (.cells #[v, u, .slice A d.2.length c] 29))) := Lib.hid (Below.refl _ _)
  clear h
  obtain ⟨n, hn⟩ : ∃ n, n = d.2.length := ⟨_, rfl⟩
  rw [← hn] at HD HC HB H0 hl
  rw [← hn]
  have HN := Lib.hid hn
  clear hn
  go_enter Try.func11, Try.ntmps11
  go_wp2_with fail
  go_loopw [3] (fun i wr => ∃ k : Nat, i = .int .i64 (k : Int) ∧ k ≤ n ∧ Hid (∀ p ∈ d.2.take k, plB p = true) ∧ Hid (Below (w.alloc (.cells #[v, u, .slice A n c] 29)).heap.size (w.alloc (.cells #[v, u, .slice A n c] 29)) wr)) (fun i _ => n - (intOf i).toNat)
  case atStart => exact ⟨0, rfl, Nat.zero_le _, Lib.hid (by simp), H0⟩
  case round =>
    obtain ⟨k, rfl, hk, HA, HW⟩ := hrel
    clear H0
    obtain ⟨c0, c1, c2⟩ := HC.out wr HW.out
    by_cases hlt : k < n
    · have hlt' : (k : Int) < (n : Int) := by omega
      have hk0 : (0 : Int) ≤ (k : Int) := by omega
      obtain ⟨b, off, pv, pu, p, rfl, hbb, hp, d0, d1, hpl⟩ := (HD.out wr HW.out).2.at_ hlt
      have HP := Lib.hid hp
      have HPL := Lib.hid hpl
      clear hp hpl hbb
      rcases Bool.eq_false_or_eq_true (plB p) with h1 | h1
      · have HA2 := Lib.hid (all_pl HP.out h1 HA.out)
        have H1 := Lib.hid h1
        clear h1
        go_wp2_with fail
        refine (specPlaceOk_any wr pv pu p.1 p.2 HPL.out.1.1 HPL.out.2.1).mono ?_
        rintro ee w3 ⟨rfl, b3⟩
        rw [show plB (p.1, p.2) = true from H1.out]
        have HW3 := Lib.hid (below_step HW.out b3 HW.out.size)
        clear b3 c0 c1 c2 d0 d1
        go_wp2_with fail
        go_roundw
        case rel => exact ⟨k + 1, by go_num, by omega, HA2, HW3⟩
        case measure => simp [intOf]; omega
      · have HF : Hid (dkB d = false) := Lib.hid (by
          rw [← Bool.not_eq_true, dkB_iff]
          intro hh
          have := hh.1 p (List.mem_of_getElem? HP.out)
          rw [h1] at this; cases this)
        have H1 := Lib.hid h1
        clear h1
        go_wp2_with fail
        refine (specPlaceOk_any wr pv pu p.1 p.2 HPL.out.1.1 HPL.out.2.1).mono ?_
        rintro ee w3 ⟨rfl, b3⟩
        rw [show plB (p.1, p.2) = false from H1.out]
        have HW3 := Lib.hid (below_step HW.out b3 HW.out.size)
        clear b3 c0 c1 c2 d0 d1
        go_wp2_with fail
        go_ret
        exact ⟨ret_bool HF.out.symm, below_step HB.out HW3.out HB.out.size⟩
    · obtain rfl : k = n := by omega
      have hlt' : decide ((k : Int) < (k : Int)) = false := by simp
      have HALL : Hid (d.2.all plB = true) := Lib.hid (List.all_eq_true.2 (by have := HA.out; rwa [HN.out, List.take_length] at this))
      obtain ⟨t, ht⟩ : ∃ t, plB d.1 = t := ⟨_, rfl⟩
      have HT := Lib.hid ht
      clear ht
      have hPL := (HD.out wr HW.out).1
      have HPL := Lib.hid hPL
      clear hPL
      cases t
      · have HF : Hid (dkB d = false) := Lib.hid (by rw [dkB, HALL.out, HT.out]; rfl)
        go_wp2_with fail
        refine (specPlaceOk_any wr v u d.1.1 d.1.2 HPL.out.1.1 HPL.out.2.1).mono ?_
        rintro ee w3 ⟨rfl, b3⟩
        rw [show plB (d.1.1, d.1.2) = false from HT.out]
        have HW3 := Lib.hid (below_step HW.out b3 HW.out.size)
        clear b3 c0 c1 c2
        go_wp2_with fail
        go_ret
        exact ⟨ret_bool HF.out.symm, below_step HB.out HW3.out HB.out.size⟩
      · have HF : Hid (dkB d = decide ((k : Int) ≤ 8)) := Lib.hid (by
          rw [dkB, HALL.out, HT.out, Bool.true_and, Bool.true_and, ← HN.out]
          exact decide_eq_decide.2 (by omega))
        go_wp2_with fail
        refine (specPlaceOk_any wr v u d.1.1 d.1.2 HPL.out.1.1 HPL.out.2.1).mono ?_
        rintro ee w3 ⟨rfl, b3⟩
        rw [show plB (d.1.1, d.1.2) = true from HT.out]
        have HW3 := Lib.hid (below_step HW.out b3 HW.out.size)
        obtain ⟨c0, c1, c2⟩ := HC.out w3 HW3.out
        clear b3
        by_cases h8 : (k : Int) ≤ 8
        · have HG : Hid (dkB d = true) := Lib.hid (by rw [HF.out, decide_eq_true h8])
          go_wp2_with fail
          go_ret
          exact ⟨ret_bool HG.out.symm, below_step HB.out HW3.out HB.out.size⟩
        · have h8' : decide ((k : Int) ≤ 8) = false := decide_eq_false h8
          have HG : Hid (dkB d = false) := Lib.hid (by rw [HF.out, h8'])
          go_wp2_with fail
          go_ret
          exact ⟨ret_bool HG.out.symm, below_step HB.out HW3.out HB.out.size⟩

def DkOwn (S : Nat → Prop) (w : World) (base : Nat) (v u r : Value) (d : Dk) : Prop := PlRd (fun g => S g ∧ r.ownBlock ≠ some g) w v u d.1 ∧ PsOwn S w base r d.2

theorem DkOwn.rd {S : Nat → Prop} {w : World} {base : Nat} {v u r : Value} {d : Dk} (h : DkOwn S w base v u r d) : DkRd S w v u r d := ⟨h.1.mono (fun g hg => hg.1), h.2.rd⟩

theorem DkOwn.below {S : Nat → Prop} {w w' : World} {base : Nat} {v u r : Value} {d : Dk} (h : DkOwn S w base v u r d) (hb : Below w.heap.size w w') : DkOwn S w' base v u r d := ⟨h.1.below hb, h.2.below hb⟩

theorem DkOwn.off {S : Nat → Prop} {w w' : World} {base : Nat} {v u r : Value} {d : Dk} {g : Nat} (h : DkOwn S w base v u r d) (hg : w.grownBy w' (some g)) (hs : ¬ S g) : DkOwn S w' base v u r d := ⟨h.1.off hg (fun hh => hs hh.1), h.2.off hg hs⟩

theorem IOwn.sane {w : World} {base : Nat} {v : Value} {xs : List Int} (h : IOwn w base v xs) : Sane v := (iown_g.1 h).sane

theorem pl_new {w' : World} {base : Nat} {v u : Value} {p : Pl} {S : Nat → Prop} (hv : QOwn w' base v p.1) (hu : IOwn w' base u p.2) (hs : ∀ g, base ≤ g → g < w'.heap.size → S g) : PlRd S w' v u p :=
  ⟨⟨hv.rd qC_len, hv.sane, fun g hg => hs g (hv.ge g hg).1 (hv.ge g hg).2⟩, ⟨hu.rd, hu.sane, fun g hg => hs g (hu.ge g hg).1 (hu.ge g hg).2⟩⟩

theorem PsOwn.ge {S : Nat → Prop} {w : World} {base : Nat} {v : Value} {ps : List Pl} (h : PsOwn S w base v ps) : ∀ g, v.ownBlock = some g → S g := by
  obtain ⟨us, -, ⟨-, h2⟩, -⟩ := h
  exact h2

theorem PsOwn.mono {S T : Nat → Prop} {w : World} {base : Nat} {v : Value} {ps : List Pl} (h : PsOwn S w base v ps) (hst : ∀ g, S g → T g) : PsOwn T w base v ps := by
  obtain ⟨us, h1, h2, h3⟩ := h
  exact ⟨us, h1, ⟨h2.1, h2.2.mono hst⟩, fun k x p k1 k2 => (h3 k x p k1 k2).mono (fun g hg => ⟨hst g hg.1, hg.2⟩)⟩

theorem PsOwn.base {S : Nat → Prop} {w : World} {base base' : Nat} {v : Value} {ps : List Pl} (h : PsOwn S w base v ps) (hb : base' ≤ base) : PsOwn S w base' v ps := by
  obtain ⟨us, h1, h2, h3⟩ := h
  exact ⟨us, h1, ⟨h2.1.base hb, h2.2⟩, h3⟩

end Go.Proofs.Ytebebcomhdjihaa

namespace Go.Proofs.Ytebebcomhdjihaa
open Go.RowKit
set_option linter.unusedVariables false

theorem split_nl (c : UInt8) (l : List UInt8) : c ∉ l ∨ ∃ A B, c ∉ A ∧ l = A ++ c :: B := by
  induction l with
  | nil => exact .inl (by simp)
  | cons x l ih =>
    by_cases hx : x = c
    · subst hx; exact .inr ⟨[], l, by simp, rfl⟩
    · rcases ih with h | ⟨A, B, h, rfl⟩
      · exact .inl (by simp only [List.mem_cons, not_or]; exact ⟨fun e => hx e.symm, h⟩)
      · exact .inr ⟨x :: A, B, by simp only [List.mem_cons, not_or]; exact ⟨fun e => hx e.symm, h⟩, rfl⟩

theorem cut_ne (c : UInt8) (l : List UInt8) : cutF c l ≠ [] := by
  intro e
  have := (cut_len c l).1
  rw [e] at this
  simp at this

end Go.Proofs.Ytebebcomhdjihaa

namespace Go.Proofs.Ytebebcomhdjihaa
open Go.RowKit
set_option linter.unusedVariables false

def noDk : Dk := (([], []), [])

theorem DkOwn.nil (S : Nat → Prop) (w : World) (base : Nat) : DkOwn S w base (.slice none 0 0) (.slice none 0 0) (.slice none 0 0) noDk := ⟨PlRd.nil _ _, PsOwn.nil _ _ _⟩

end Go.Proofs.Ytebebcomhdjihaa

namespace Go.Proofs.Ytebebcomhdjihaa
open Go.RowKit
set_option linter.unusedVariables false

def CutAt (c : UInt8) (l A B : List UInt8) (ok : Bool) : Prop := (ok = true ∧ c ∉ A ∧ l = A ++ c :: B) ∨ (ok = false ∧ c ∉ l ∧ A = l ∧ B = [])

theorem CutAt.no {c : UInt8} {l A B : List UInt8} (h : CutAt c l A B false) : cutF c l = [l] ∧ A = l ∧ B = [] := by
  rcases h with ⟨h, -⟩ | ⟨-, h1, h2⟩
  · cases h
  · exact ⟨cut_one h1, h2⟩

theorem join_cut15 (c : UInt8) : ∀ (n : Nat) (l : List UInt8), l.length ≤ n → joinC c (cutF c l) = l := by
  intro n
  induction n with
  | zero =>
    intro l hl
    obtain rfl := List.eq_nil_of_length_eq_zero (Nat.le_zero.1 hl)
    rw [cut_one (by simp)]; rfl
  | succ n ih =>
    intro l hl
    rcases split_nl c l with h | ⟨A, B, h1, rfl⟩
    · rw [cut_one h]; rfl
    · rw [cut_cons h1]
      rw [List.length_append, List.length_cons] at hl
      have hB := ih B (by omega)
      cases hc : cutF c B with
      | nil => exact absurd hc (cut_ne c B)
      | cons b bs => rw [hc] at hB; show A ++ c :: joinC c (b :: bs) = _; rw [hB]

theorem join_cut (c : UInt8) (l : List UInt8) : joinC c (cutF c l) = l := join_cut15 c _ l (Nat.le_refl _)

def RN (l : List UInt8) (n : Int) (ok : Bool) : Prop := (ok = true ∧ dec n = l) ∨ (ok = false ∧ n = 0 ∧ ∀ m : Int, -99 ≤ m ∧ m ≤ 99 → dec m ≠ l)

def SmQ (q : Qt) : Prop := (0 ≤ q.1 ∧ q.1 ≤ 15) ∧ 0 ≤ q.2 ∧ q.2 ≤ 6

def RQ (r : List UInt8) (q : Qt) (s : Int) (ok : Bool) : Prop := (ok = true ∧ qTx q s = r) ∨ (ok = false ∧ ∀ (q : Qt) (s : Int), SmQ q → (-9 ≤ s ∧ s ≤ 9) → qTx q s ≠ r)

theorem qTx_cut (q : Qt) (s : Int) : cutF 58 (qTx q s) = [dec q.1, dec q.2, dec s] := by
  refine cut_join (by simp) (fun r hr => ?_)
  have h58 : (58 : UInt8).toNat = 58 := rfl
  simp only [List.mem_cons, List.not_mem_nil, or_false] at hr
  rcases hr with rfl | rfl | rfl <;> exact dec_not (by omega)

theorem RQ.parts {r a b c : List UInt8} {e p s : Int} {o1 o2 o3 : Bool} (h : cutF 58 r = [a, b, c]) (h1 : RN a e o1) (h2 : RN b p o2) (h3 : RN c s o3) : RQ r (e, p) s (o1 && (o2 && o3)) := by
  have hno : ∀ (q : Qt) (s : Int), qTx q s = r → a = dec q.1 ∧ b = dec q.2 ∧ c = dec s := fun q s e => by
    have h4 := qTx_cut q s
    rw [e, h] at h4
    injection h4 with e1 h4
    injection h4 with e2 h4
    injection h4 with e3 h4
    exact ⟨e1, e2, e3⟩
  rcases h1 with ⟨rfl, h1⟩ | ⟨rfl, -, h1⟩
  · rcases h2 with ⟨rfl, h2⟩ | ⟨rfl, -, h2⟩
    · rcases h3 with ⟨rfl, h3⟩ | ⟨rfl, -, h3⟩
      · refine .inl ⟨rfl, ?_⟩
        show joinC 58 [dec e, dec p, dec s] = r
        rw [h1, h2, h3, ← h, join_cut]
      · exact .inr ⟨rfl, fun q s hq hs e => h3 s ⟨by omega, by omega⟩ (hno q s e).2.2.symm⟩
    · exact .inr ⟨rfl, fun q s hq hs e => h2 q.2 ⟨by have := hq.2.1; omega, by have := hq.2.2; omega⟩ (hno q s e).2.1.symm⟩
  · exact .inr ⟨rfl, fun q s hq hs e => h1 q.1 ⟨by have := hq.1.1; omega, by have := hq.1.2; omega⟩ (hno q s e).1.symm⟩

end Go.Proofs.Ytebebcomhdjihaa

namespace Go.Proofs.Ytebebcomhdjihaa
open Go.RowKit
set_option linter.unusedVariables false

def Ap (a b : Value) : Prop := ∀ g, a.ownBlock = some g → b.ownBlock ≠ some g

theorem Ap.symm {a b : Value} (h : Ap a b) : Ap b a := fun g h1 h2 => h g h2 h1

theorem Ap.nil (b : Value) : Ap (.slice none 0 0) b := fun g h => by cases h

theorem Ap.of_lt {a b : Value} {B : Nat} (ha : ∀ g, a.ownBlock = some g → g < B) (hb : ∀ g, b.ownBlock = some g → B ≤ g) : Ap a b := fun g h1 h2 => by have := ha g h1; have := hb g h2; omega

def PlN (w : World) (base : Nat) (v u : Value) (p : Pl) : Prop := QOwn w base v p.1 ∧ IOwn w base u p.2

theorem PlN.below {w w' : World} {base : Nat} {v u : Value} {p : Pl} (h : PlN w base v u p) (hb : Below w.heap.size w w') : PlN w' base v u p := ⟨h.1.below hb, h.2.keep (SameAt.of_below hb)⟩

theorem PlN.base {w : World} {base base' : Nat} {v u : Value} {p : Pl} (h : PlN w base v u p) (hb : base' ≤ base) : PlN w base' v u p := ⟨h.1.base hb, h.2.base hb⟩

theorem PlN.ge {w : World} {base : Nat} {v u : Value} {p : Pl} (h : PlN w base v u p) : (∀ g, v.ownBlock = some g → base ≤ g ∧ g < w.heap.size) ∧ ∀ g, u.ownBlock = some g → base ≤ g ∧ g < w.heap.size := ⟨h.1.ge, h.2.ge⟩

theorem PlN.rd {w : World} {base : Nat} {v u : Value} {p : Pl} {S : Nat → Prop} (h : PlN w base v u p) (hs : ∀ g, base ≤ g → g < w.heap.size → S g) : PlRd S w v u p := pl_new h.1 h.2 hs

theorem PlN.nil (w : World) (base : Nat) : PlN w base (.slice none 0 0) (.slice none 0 0) ([], []) := ⟨GOwn.nil _ _ _ _ _, nil_own _ _⟩

def PsN (w : World) (base : Nat) (r : Value) (us : List (Value × Value)) (ps : List Pl) : Prop :=
  us.length = ps.length ∧ GOwn 26 2 pC w base r us ∧ ∀ (k : Nat) (x : Value × Value) (p : Pl), us[k]? = some x → ps[k]? = some p → PlN w base x.1 x.2 p

def DkN (w : World) (base : Nat) (v u r : Value) (d : Dk) : Prop :=
  PlN w base v u d.1 ∧ ∃ us : List (Value × Value), PsN w base r us d.2 ∧ (v :: u :: r :: us.flatMap pC).Pairwise Ap

theorem PsN.below {w w' : World} {base : Nat} {r : Value} {us : List (Value × Value)} {ps : List Pl} (h : PsN w base r us ps) (hb : Below w.heap.size w w') : PsN w' base r us ps :=
  ⟨h.1, h.2.1.below hb, fun k x p hx hp => (h.2.2 k x p hx hp).below hb⟩

theorem PsN.base {w : World} {base base' : Nat} {r : Value} {us : List (Value × Value)} {ps : List Pl} (h : PsN w base r us ps) (hb : base' ≤ base) : PsN w base' r us ps :=
  ⟨h.1, h.2.1.base hb, fun k x p hx hp => (h.2.2 k x p hx hp).base hb⟩

theorem PsN.rd {w : World} {base : Nat} {r : Value} {us : List (Value × Value)} {ps : List Pl} {S : Nat → Prop} (h : PsN w base r us ps) (hs : ∀ g, base ≤ g → g < w.heap.size → S g) : PsRd S w r ps :=
  ⟨us, h.1, ⟨h.2.1.rd pC_len, fun g hg => hs g (h.2.1.ge g hg).1 (h.2.1.ge g hg).2⟩, fun k x p hx hp => (h.2.2 k x p hx hp).rd hs⟩

theorem DkN.below {w w' : World} {base : Nat} {v u r : Value} {d : Dk} (h : DkN w base v u r d) (hb : Below w.heap.size w w') : DkN w' base v u r d := by
  obtain ⟨h1, us, h2, h3⟩ := h
  exact ⟨h1.below hb, us, h2.below hb, h3⟩

theorem DkN.base {w : World} {base base' : Nat} {v u r : Value} {d : Dk} (h : DkN w base v u r d) (hb : base' ≤ base) : DkN w base' v u r d := by
  obtain ⟨h1, us, h2, h3⟩ := h
  exact ⟨h1.base hb, us, h2.base hb, h3⟩

theorem PlN.off {w w' : World} {base g : Nat} {v u : Value} {p : Pl} (h : PlN w base v u p) (hg : w.grownBy w' (some g)) (hb : g < base) : PlN w' base v u p :=
  ⟨h.1.off hg (.inr (fun e => by have := (h.ge.1 _ e).1; omega)), iown_g.2 ((iown_g.1 h.2).off hg (.inr (fun e => by have := (h.ge.2 _ e).1; omega)))⟩

theorem DkN.off {w w' : World} {base g : Nat} {v u r : Value} {d : Dk} (h : DkN w base v u r d) (hg : w.grownBy w' (some g)) (hb : g < base) : DkN w' base v u r d := by
  obtain ⟨h1, us, ⟨h2, h3, h4⟩, h5⟩ := h
  exact ⟨h1.off hg hb, us, ⟨h2, h3.off hg (.inr (fun e => by have := (h3.ge _ e).1; omega)), fun k x p hx hp => (h4 k x p hx hp).off hg hb⟩, h5⟩

theorem DkN.rd {w : World} {base : Nat} {v u r : Value} {d : Dk} (h : DkN w base v u r d) : DkRd (fun g => base ≤ g ∧ g < w.heap.size) w v u r d := by
  obtain ⟨h1, us, h2, -⟩ := h
  exact ⟨h1.rd (fun g a b => ⟨a, b⟩), h2.rd (fun g a b => ⟨a, b⟩)⟩

theorem dkForm {S : Nat → Prop} {w : World} {v u r : Value} {d : Dk} (h : DkRd S w v u r d) : (∃ A n c, v = .slice A n c) ∧ (∃ A n c, u = .slice A n c) ∧ ∃ A n c, r = .slice A n c := by
  refine ⟨?_, ?_, ?_⟩
  · obtain ⟨x1, x2, x3, -⟩ := h.1.1.1.form; exact ⟨_, _, _, x3⟩
  · obtain ⟨x1, x2, x3, -⟩ := h.1.2.1; exact ⟨_, _, _, x3⟩
  · obtain ⟨x1, x2, x3, -⟩ := h.2.form; exact ⟨_, _, _, x3⟩

theorem DkN.nil (w : World) (base : Nat) : DkN w base (.slice none 0 0) (.slice none 0 0) (.slice none 0 0) noDk :=
  ⟨PlN.nil _ _, [], ⟨rfl, GOwn.nil _ _ _ _ _, fun k x p h => by simp at h⟩, by simp [Ap, Value.ownBlock]⟩

theorem PsN.blocks {w : World} {base : Nat} {r : Value} {us : List (Value × Value)} {ps : List Pl} (h : PsN w base r us ps) : ∀ x ∈ us.flatMap pC, ∀ g, x.ownBlock = some g → base ≤ g ∧ g < w.heap.size := by
  intro x hx g hg
  obtain ⟨y, hy, hxy⟩ := List.mem_flatMap.1 hx
  obtain ⟨k, hk, e⟩ := List.getElem_of_mem hy
  have hk2 : k < ps.length := by have := h.1; omega
  have h3 := h.2.2 k y ps[k] (by rw [List.getElem?_eq_getElem hk, e]) (List.getElem?_eq_getElem hk2)
  simp only [pC, List.mem_cons, List.not_mem_nil, or_false] at hxy
  rcases hxy with rfl | rfl
  · exact h3.ge.1 g hg
  · exact h3.ge.2 g hg

theorem PsN.snocAp {us : List (Value × Value)} {v u : Value} {B : Nat} (h : (us.flatMap pC).Pairwise Ap) (hlt : ∀ x ∈ us.flatMap pC, ∀ g, x.ownBlock = some g → g < B) (hv : ∀ g, v.ownBlock = some g → B ≤ g) (hu : ∀ g, u.ownBlock = some g → B ≤ g) (hvu : Ap v u) : ((us ++ [(v, u)]).flatMap pC).Pairwise Ap := by
  rw [List.flatMap_append]
  refine List.pairwise_append.2 ⟨h, ?_, fun a ha b hb => ?_⟩
  · simp only [List.flatMap_cons, List.flatMap_nil, List.append_nil, pC]
    exact List.Pairwise.cons (fun b hb => by obtain rfl := List.mem_singleton.1 hb; exact hvu) (List.pairwise_singleton _ _)
  · simp only [List.flatMap_cons, List.flatMap_nil, List.append_nil, pC, List.mem_cons, List.not_mem_nil, or_false] at hb
    rcases hb with rfl | rfl
    · exact Ap.of_lt (hlt a ha) hv
    · exact Ap.of_lt (hlt a ha) hu

def PsUp (wr : World) (g B n k : Nat) (us : List (Value × Value)) (ps : List Pl) : Prop :=
  us.length = k ∧ GOwn 26 2 pC wr B (.slice (some ⟨g, 0, none⟩) n n) (us ++ List.replicate (n - k) (.slice none 0 0, .slice none 0 0)) ∧ (∀ (j : Nat) (x : Value × Value) (p : Pl), us[j]? = some x → ps[j]? = some p → PlN wr (g + 1) x.1 x.2 p) ∧ (us.flatMap pC).Pairwise Ap ∧ B ≤ g ∧ g < wr.heap.size

theorem PsUp.below {wr w' : World} {g B n k : Nat} {us : List (Value × Value)} {ps : List Pl} (h : PsUp wr g B n k us ps) (hb : Below wr.heap.size wr w') : PsUp w' g B n k us ps :=
  ⟨h.1, h.2.1.below hb, fun j x p hx hp => (h.2.2.1 j x p hx hp).below hb, h.2.2.2.1, h.2.2.2.2.1, by have := hb.size; have := h.2.2.2.2.2; omega⟩

theorem PsUp.blocks {wr : World} {g B n k : Nat} {us : List (Value × Value)} {ps : List Pl} (h : PsUp wr g B n k us ps) (hk : k ≤ ps.length) : ∀ x ∈ us.flatMap pC, ∀ b, x.ownBlock = some b → g + 1 ≤ b ∧ b < wr.heap.size := by
  intro x hx b hb
  obtain ⟨y, hy, hxy⟩ := List.mem_flatMap.1 hx
  obtain ⟨j, hj, e⟩ := List.getElem_of_mem hy
  have hj2 : j < ps.length := by have := h.1; omega
  have h3 := h.2.2.1 j y ps[j] (by rw [List.getElem?_eq_getElem hj, e]) (List.getElem?_eq_getElem hj2)
  simp only [pC, List.mem_cons, List.not_mem_nil, or_false] at hxy
  rcases hxy with rfl | rfl
  · exact h3.ge.1 b hb
  · exact h3.ge.2 b hb

theorem PsUp.old {wr : World} {g B n k : Nat} {us : List (Value × Value)} {ps : List Pl} (h : PsUp wr g B n k us ps) (hk : k < n) :
    (wr.frozen? ⟨g, k * 2, none⟩ = false ∧ ∃ o, wr.cell? ⟨g, k * 2, none⟩ = some o) ∧ wr.frozen? ⟨g, k * 2 + 1, none⟩ = false ∧ ∃ o, wr.cell? ⟨g, k * 2 + 1, none⟩ = some o := by
  have hl : (us ++ List.replicate (n - k) ((.slice none 0 0, .slice none 0 0) : Value × Value)).length = n := by have := h.1; simp; omega
  have h0 := GOwn.old pC_len h.2.1 hl hk (j := 0) (by decide)
  have h1 := GOwn.old pC_len h.2.1 hl hk (j := 1) (by decide)
  rw [Nat.add_zero] at h0
  exact ⟨h0, h1⟩

theorem PsUp.step {w1 w2 : World} {g B n k : Nat} {us : List (Value × Value)} {ps : List Pl} {p : Pl} {v u : Value} (h : PsUp w1 g B n k us ps) (hk : k < n) (hl : n = ps.length) (hp : ps[k]? = some p) (hb : Below w1.heap.size w1 w2)
    (hv : QOwn w2 w1.heap.size v p.1) (hu : IOwn w2 w1.heap.size u p.2) (hvu : Ap v u) :
    PsUp ((w2.setCell ⟨g, k * 2, none⟩ v).setCell ⟨g, k * 2 + 1, none⟩ u) g B n (k + 1) (us ++ [(v, u)]) ps := by
  have hg := h.2.2.2.2.2
  have hsz := hb.size
  have h2 := h.below hb
  obtain ⟨e1, e2, e3, e4, e5, e6⟩ := h2
  have hlen : (us ++ List.replicate (n - k) ((.slice none 0 0, .slice none 0 0) : Value × Value)).length = n := by simp; omega
  have hset := GOwn.set2 (e := 26) pC_len (by rw [hlen]; exact e2) (k := k) (by rw [hlen]; exact hk) (x := (v, u)) (v0 := v) (v1 := u) rfl
  rw [hlen] at hset
  have hlist : (us ++ List.replicate (n - k) ((.slice none 0 0, .slice none 0 0) : Value × Value)).set k (v, u) = us ++ [(v, u)] ++ List.replicate (n - (k + 1)) (.slice none 0 0, .slice none 0 0) := by
    obtain ⟨m, hm⟩ : ∃ m, n - k = m + 1 := ⟨n - k - 1, by omega⟩
    rw [hm, show n - (k + 1) = m by omega, List.set_append_right _ _ (by omega), e1, Nat.sub_self, List.replicate_succ, List.set_cons_zero, List.append_assoc]; rfl
  rw [hlist] at hset
  have hgrow := hset.2
  have hoff : ∀ (x : Value), (∀ b, x.ownBlock = some b → g + 1 ≤ b) → x.ownBlock = none ∨ x.ownBlock ≠ some g := fun x hx => .inr (fun e => by have := hx g e; omega)
  have hkeep : ∀ (x y : Value) (q : Pl), PlN w2 (g + 1) x y q → PlN ((w2.setCell ⟨g, k * 2, none⟩ v).setCell ⟨g, k * 2 + 1, none⟩ u) (g + 1) x y q := fun x y q hq =>
    ⟨hq.1.off hgrow (hoff x (fun b hb => (hq.ge.1 b hb).1)), iown_g.2 ((iown_g.1 hq.2).off hgrow (hoff y (fun b hb => (hq.ge.2 b hb).1)))⟩
  have hnew : PlN w2 (g + 1) v u p := ⟨hv.base (by omega), hu.base (by omega)⟩
  refine ⟨by simp [e1], hset.1, fun j x q hx hq => ?_, PsN.snocAp (B := w1.heap.size) e4 ?_ (fun b hb => (hv.ge b hb).1) (fun b hb => (hu.ge b hb).1) hvu, e5, by have := hgrow.size; omega⟩
  · rcases Nat.lt_or_ge j us.length with hj | hj
    · rw [List.getElem?_append_left hj] at hx
      exact hkeep _ _ _ (e3 j x q hx hq)
    · have hjk : j = us.length := by
        have := (List.getElem?_eq_some_iff.1 hx).1
        simp at this; omega
      subst hjk
      rw [List.getElem?_append_right (Nat.le_refl _), Nat.sub_self] at hx
      obtain rfl := Option.some.inj hx
      rw [e1, hp] at hq
      obtain rfl := Option.some.inj hq
      exact hkeep _ _ _ hnew
  · intro x hx b hb
    exact (h.blocks (by omega) x hx b hb).2

theorem PsUp.all {wr : World} {g B n : Nat} {us : List (Value × Value)} {ps : List Pl} (h : PsUp wr g B n n us ps) (hl : n = ps.length) : PsN wr B (.slice (some ⟨g, 0, none⟩) n n) us ps ∧ (us.flatMap pC).Pairwise Ap ∧ ∀ x ∈ us.flatMap pC, ∀ b, x.ownBlock = some b → g + 1 ≤ b ∧ b < wr.heap.size := by
  obtain ⟨e1, e2, e3, e4, e5, e6⟩ := id h
  rw [Nat.sub_self, List.replicate_zero, List.append_nil] at e2
  exact ⟨⟨by omega, e2, fun j x p hx hp => (e3 j x p hx hp).base (by omega)⟩, e4, h.blocks (by omega)⟩

theorem PsUp.start {w w0 : World} {B n : Nat} {ps : List Pl} {zc : Array Value} (hown : w0.ownsRow w.heap.size 26 2 (.slice (some ⟨w.heap.size, 0, none⟩) n n) n (madeCells zc (n * 2)).toList) (hz : zc = #[.slice none 0 0, .slice none 0 0]) (hB : B ≤ w.heap.size) (hlt : w.heap.size < w0.heap.size) : PsUp w0 w.heap.size B n 0 [] ps := by
  subst hz
  have h1 := flat_made pC_len (by decide) ((.slice none 0 0, .slice none 0 0) : Value × Value) n
  have h2 : GOwn 26 2 pC w0 w.heap.size (.slice (some ⟨w.heap.size, 0, none⟩) n n) (List.replicate n ((.slice none 0 0, .slice none 0 0) : Value × Value)) := by
    unfold GOwn
    rw [← h1, List.length_replicate]
    exact hown
  refine ⟨rfl, ?_, fun j x p hx => by simp at hx, by simp, hB, hlt⟩
  rw [Nat.sub_zero, List.nil_append]
  exact h2.base hB

theorem dkN_mk {w : World} {base g n : Nat} {v u : Value} {us : List (Value × Value)} {d : Dk} (h1 : PlN w base v u d.1) (h2 : PsN w base (.slice (some ⟨g, 0, none⟩) n n) us d.2) (hvu : Ap v u) (hus : (us.flatMap pC).Pairwise Ap) (hr : ∀ x ∈ us.flatMap pC, ∀ b, x.ownBlock = some b → g + 1 ≤ b)
    (hv : ∀ x ∈ (Value.slice (some ⟨g, 0, none⟩) n n) :: us.flatMap pC, Ap v x) (hu : ∀ x ∈ (Value.slice (some ⟨g, 0, none⟩) n n) :: us.flatMap pC, Ap u x) : DkN w base v u (.slice (some ⟨g, 0, none⟩) n n) d := by
  refine ⟨h1, us, h2, List.Pairwise.cons (fun b hb => ?_) (List.Pairwise.cons (fun b hb => hu b hb) (List.Pairwise.cons (fun b hb => ?_) hus))⟩
  · rcases List.mem_cons.1 hb with rfl | hb
    · exact hvu
    · exact hv b hb
  · intro c hc e
    have e1 : g = c := Option.some.inj hc
    have := hr b hb c e
    omega

def DkPo (d : Dk) (w : World) (e : Ending) (w' : World) : Prop := ∃ v u r, e = .returned (.agg #[v, u, r]) ∧ DkN w' w.heap.size v u r d ∧ Below w.heap.size w w'

end Go.Proofs.Ytebebcomhdjihaa

namespace Go.Proofs.Ytebebcomhdjihaa
open Go.RowKit
set_option linter.unusedVariables false

theorem stakes_no1 {ss : List Int} {n : Nat} (h : ss.length ≠ n) : (decide (ss.length = n) && ss.all stB) = false := by rw [decide_eq_false h]; rfl

theorem alls_take {ss : List Int} {k : Nat} {x : Int} (hx : ss[k]? = some x) (h : stB x = true) (ih : ∀ y ∈ ss.take k, stB y = true) : ∀ y ∈ ss.take (k + 1), stB y = true := by
  rw [List.take_add_one, hx]
  intro y hy
  rcases List.mem_append.1 hy with h1 | h1
  · exact ih y h1
  · simp at h1; subst h1; exact h

theorem alls_no {ss : List Int} {k : Nat} {x : Int} (hx : ss[k]? = some x) (h : stB x = false) : ss.all stB = false := by
  rw [← Bool.not_eq_true, List.all_eq_true]
  intro h2
  have := h2 x (List.mem_of_getElem? hx)
  rw [h] at this; cases this

set_option maxHeartbeats 1000000 in
theorem stakesOk_any (w : World) (v u : Value) (qs : List Qt) (ss : List Int) (hv : QRd w v qs) (hu : IRd w u ss) :
    Calls Try.prog 37 #[v, u] w fun r w' => r = .returned (.bool (decide (ss.length = qs.length) && ss.all stB)) ∧ w = w' := by
  obtain ⟨A, c, rfl, hl, hm⟩ := hv.form
  obtain ⟨A', c', rfl, hl', hm', -⟩ := id hu
  have HU := Lib.hid hu
  clear hu hv
  by_cases h : ss.length = qs.length
  · have H := Lib.hid h
    have h' : ((ss.length : Int) == (qs.length : Int)) = true := by simp; omega
    have h'' : ((ss.length : Int) != (qs.length : Int)) = false := by simp; omega
    clear h
    go_enter Try.func37, Try.ntmps37
    go_wp2_with fail
    clear h' h''
    go_loop [14] (fun i => ∃ k : Nat, i = .int .i64 k ∧ k ≤ ss.length ∧ Hid (∀ y ∈ ss.take k, stB y = true)) (fun i => ss.length - (intOf i).toNat)
    case atStart => exact ⟨0, rfl, Nat.zero_le _, Lib.hid (by simp)⟩
    case round =>
      obtain ⟨k, rfl, hk, HA⟩ := hrel
      by_cases hlt : k < ss.length
      · obtain ⟨b, off, x, rfl, -, hx, hcx⟩ := HU.out.at_ hlt
        have HX := Lib.hid hx
        clear hx
        rcases Bool.eq_false_or_eq_true (stB x) with hs | hs
        · have HS := Lib.hid hs
          go_wp2_with fail
          refine (stakeOk_any x _).mono ?_
          rintro r w' ⟨rfl, rfl⟩
          rw [hs]
          go_wp2_with fail
          go_round
          case rel => exact ⟨k + 1, by go_num, by omega, Lib.hid (alls_take HX.out HS.out HA.out)⟩
          case measure => simp [intOf]; omega
        · have HS := Lib.hid hs
          go_wp2_with fail
          refine (stakeOk_any x _).mono ?_
          rintro r w' ⟨rfl, rfl⟩
          rw [hs]
          go_wp2_with fail
          go_ret
          exact ⟨ret_bool (by rw [alls_no HX.out HS.out]; simp), rfl⟩
      · go_wp2_with fail
        go_ret
        exact ⟨ret_bool (by rw [decide_eq_true H.out, List.all_eq_true.2 (by have := HA.out; rwa [List.take_of_length_le (by omega)] at this)]; rfl), rfl⟩
  · have H := Lib.hid h
    have h' : ((ss.length : Int) == (qs.length : Int)) = false := by simp; omega
    have h'' : ((ss.length : Int) != (qs.length : Int)) = true := by simp; omega
    clear h
    go_enter Try.func37, Try.ntmps37
    go_wp2_with fail
    go_ret
    exact ⟨ret_bool (stakes_no1 H.out).symm, rfl⟩

set_option maxHeartbeats 400000 in
theorem toQuote_any (q : Qt) (W : World) :
    Calls Try.prog 68 #[qV q] W fun r W' => r = .returned (qV q) ∧ Below W.heap.size W W' := by
  obtain ⟨e, p⟩ := q
  unfold qV
  go_enter Try.func68, Try.ntmps68
  go_wp2
  go_returns
  exact ⟨rfl, by go_grown⟩

theorem qeq_false1 {a b c d : Int} (h : (a != c) = true) : decide ((a, b) = (c, d)) = false := by
  rw [decide_eq_false_iff_not]
  intro e
  injection e with e1 e2
  simp [e1] at h

theorem qeq_false2 {a b c d : Int} (h : (b != d) = true) : decide ((a, b) = (c, d)) = false := by
  rw [decide_eq_false_iff_not]
  intro e
  injection e with e1 e2
  simp [e2] at h

set_option maxHeartbeats 400000 in
theorem eqQuote_any (q r : Qt) (W : World) :
    Calls Try.prog 69 #[qV q, qV r] W fun e W' => e = .returned (.bool (decide (q = r))) ∧ W' = (W.alloc (qBlk q)).alloc (qBlk r) := by
  obtain ⟨a, b⟩ := q
  obtain ⟨c, d⟩ := r
  unfold qV qBlk
  by_cases h1 : a = c
  · subst h1
    by_cases h2 : b = d
    · subst h2
      go_enter Try.func69, Try.ntmps69
      go_wp2
      go_ret
      exact ⟨ret_bool (by simp), rfl⟩
    · have h3 : (b != d) = true := by simpa using h2
      go_enter Try.func69, Try.ntmps69
      go_wp2
      go_ret
      exact ⟨ret_bool (qeq_false2 h3).symm, rfl⟩
  · have h3 : (a != c) = true := by simpa using h1
    go_enter Try.func69, Try.ntmps69
    go_wp2
    go_ret
    exact ⟨ret_bool (qeq_false1 h3).symm, rfl⟩

end Go.Proofs.Ytebebcomhdjihaa

namespace Go.Proofs.Ytebebcomhdjihaa
open Go.RowKit
set_option linter.unusedVariables false

theorem Try_quoteinfo : (Try.prog.info? 64).map (fun i => (i.zero, i.size, i.bytes)) = some (some (.agg #[.int .i64 0, .int .i64 0]), 2, 16) := by kernel_rfl

def NewQs (qs : List Qt) (w : World) (e : Ending) (w' : World) : Prop := ∃ v, e = .returned v ∧ QOwn w' w.heap.size v qs ∧ Below w.heap.size w w'

abbrev QFill (w : World) (qs : List Qt) (k : Nat) (wr : World) : Prop := GFill 64 2 qC ((0, 0) : Qt) w qs k wr

set_option maxHeartbeats 1000000 in
theorem toQuoteS_any (w : World) (v : Value) (qs : List Qt) (hv : QRd w v qs) (hn : qs.length ≤ 1048576) :
    Calls Try.prog 44 #[v] w (NewQs qs w) := by
  obtain ⟨A, c, rfl, hl, hm⟩ := hv.form
  have HV := Lib.hid hv
  clear hv
  obtain ⟨i0, hi, hz0, hz1, hz2⟩ := info_parts Try_quoteinfo
  go_enter Try.func44, Try.ntmps44
  go_wp2_with (at_make; refine wpList_make_full _ rfl _ _ 23 rfl w.heap.size 64 i0 (.agg #[.int .i64 0, .int .i64 0]) 2 Try.underlying23 hi hz0 hz1 .i64 .i64 _ _ qs.length rfl rfl rfl rfl ?b2 ?b3 (Nat.le_refl _) ?_)
  case b2 => first | omega | (rw [hz2]; omega)
  case b3 => unfold maxLen; omega
  intro w0 hown0 hgrow0
  have H0 : Hid (QFill w qs 0 w0) := Lib.hid (GFill.start qC_len (by decide) (0, 0) hown0 rfl rfl hgrow0)
  clear hown0 hgrow0 hi hz0 hz1 hz2
  go_wp2_with fail
  go_loopw [4] (fun i wr => ∃ k : Nat, i = .int .i64 k ∧ k ≤ qs.length ∧ Hid (QFill w qs k wr)) (fun i _ => qs.length - (intOf i).toNat)
  case atStart => exact ⟨0, rfl, Nat.zero_le _, H0⟩
  case round =>
    obtain ⟨k, rfl, hk, H⟩ := hrel
    clear H0
    by_cases hlt : k < qs.length
    · obtain ⟨b, off, q, rfl, -, hx, hc0, hc1⟩ := QRd.at_ (HV.out.keep (SameAt.of_below H.out.2)) hlt
      have HX := Lib.hid hx
      clear hx
      go_wp2_with fail
      refine (toQuote_any q _).mono ?_
      rintro r w2 ⟨rfl, b2⟩
      unfold qV
      have H2 := Lib.hid (H.out.keep b2)
      clear b2 hc0 hc1 H
      obtain ⟨hf0, o0, ho0⟩ := H2.out.old qC_len hlt (j := 0) (by decide)
      obtain ⟨hf1, o1, ho1⟩ := H2.out.old qC_len hlt (j := 1) (by decide)
      rw [Nat.add_zero] at hf0 ho0
      go_wp2_with fail
      go_roundw
      case rel => exact ⟨k + 1, by go_num, by omega, (show Hid _ from H2.out.step2 qC_len HX.out rfl)⟩
      case measure => simp [intOf]; omega
    · go_wp2_with fail
      go_ret
      obtain ⟨h1, h2⟩ := H.out.all (by omega)
      exact ⟨_, rfl, h1, h2⟩

def qagree (xs ys : List Qt) (k : Nat) : Prop := ∀ i, i < k → xs[i]? = ys[i]?

theorem qagree_all {xs ys : List Qt} (hl : xs.length = ys.length) (h : qagree xs ys xs.length) : xs = ys := by
  apply List.ext_getElem?
  intro i
  by_cases hi : i < xs.length
  · exact h i hi
  · rw [List.getElem?_eq_none (by omega), List.getElem?_eq_none (by omega)]

theorem qagree_succ {xs ys : List Qt} {k : Nat} (h : qagree xs ys k) (hk : xs[k]? = ys[k]?) : qagree xs ys (k + 1) := by
  intro i hi
  rcases Nat.lt_succ_iff_lt_or_eq.1 hi with h1 | h1
  · exact h i h1
  · subst h1; exact hk

def QEqPost (xs ys : List Qt) (w : World) (e : Ending) (w' : World) : Prop := e = .returned (.bool (decide (xs = ys))) ∧ Below w.heap.size w w'

set_option maxHeartbeats 2000000 in
theorem eqQuoteS_any (w : World) (v u : Value) (xs ys : List Qt) (hv : QRd w v xs) (hu : QRd w u ys) :
    Calls Try.prog 46 #[v, u] w (QEqPost xs ys w) := by
  obtain ⟨A, c, rfl, hl, hm⟩ := hv.form
  obtain ⟨A', c', rfl, hl', hm'⟩ := hu.form
  have HV := Lib.hid hv
  have HU := Lib.hid hu
  clear hv hu
  by_cases hlen : xs.length = ys.length
  · have h1 : ((xs.length : Int) == (ys.length : Int)) = true := by simp; omega
    have h2 : ((xs.length : Int) != (ys.length : Int)) = false := by simp; omega
    have HL := Lib.hid hlen
    clear hlen
    go_enter Try.func46, Try.ntmps46
    go_wp2
    clear h1 h2
    go_loopw [5] (fun i wr => ∃ k : Nat, i = .int .i64 k ∧ k ≤ xs.length ∧ Hid (qagree xs ys k) ∧ Hid (Below w.heap.size w wr)) (fun i _ => xs.length - (intOf i).toNat)
    case atStart => exact ⟨0, rfl, Nat.zero_le _, Lib.hid (fun i hi => absurd hi (Nat.not_lt_zero _)), Lib.hid (Below.refl _ _)⟩
    case round =>
      obtain ⟨k, rfl, hk, HA, HB⟩ := hrel
      by_cases hlt : k < xs.length
      · obtain ⟨b, off, x, rfl, -, hx, hx0, hx1⟩ := QRd.at_ (HV.out.keep (SameAt.of_below HB.out)) hlt
        obtain ⟨b', off', y, rfl, -, hy, hy0, hy1⟩ := QRd.at_ (HU.out.keep (SameAt.of_below HB.out)) (k := k) (by have := HL.out; omega)
        have hlt' : k < ys.length := by have := HL.out; omega
        have HX := Lib.hid hx
        have HY := Lib.hid hy
        clear hx hy
        rcases Bool.eq_false_or_eq_true (decide (x = y)) with hxy | hxy
        · have HXY : Hid (x = y) := Lib.hid (by simpa using hxy)
          go_wp2_with fail
          go_region_with (go_at_call 69; refine (eqQuote_any x y _).mono ?_; rintro r w2 ⟨rfl, rfl⟩; rw [hxy]; unfold qBlk)
          all_goals
            go_wp2_with fail
            go_roundw
            case rel => exact ⟨k + 1, by go_num, by omega, Lib.hid (qagree_succ HA.out (HX.out.trans (HXY.out ▸ HY.out.symm))), Lib.hid (below_step HB.out (by go_grown) HB.out.size)⟩
            case measure => simp [intOf]; omega
        · have HXY : Hid (x ≠ y) := Lib.hid (by simpa using hxy)
          go_wp2_with fail
          go_region_with (go_at_call 69; refine (eqQuote_any x y _).mono ?_; rintro r w2 ⟨rfl, rfl⟩; rw [hxy]; unfold qBlk)
          all_goals
            go_wp2_with fail
            go_ret
            exact ⟨ret_bool (by symm; simp only [decide_eq_false_iff_not]; intro e; subst e; exact HXY.out (Option.some.inj (HX.out.symm.trans HY.out))), below_step HB.out (by go_grown) HB.out.size⟩
      · go_wp2_with fail
        go_ret
        exact ⟨ret_bool (by symm; simp only [decide_eq_true_eq]; exact qagree_all HL.out (by have := HA.out; rwa [show k = xs.length from by omega] at this)), HB.out⟩
  · have h1 : ((xs.length : Int) == (ys.length : Int)) = false := by simp; omega
    have h2 : ((xs.length : Int) != (ys.length : Int)) = true := by simp; omega
    have HL := Lib.hid hlen
    clear hlen
    go_enter Try.func46, Try.ntmps46
    go_wp2
    go_ret
    exact ⟨ret_bool (by symm; simp only [decide_eq_false_iff_not]; intro e; exact HL.out (by rw [e])), Below.refl _ _⟩

def qUp (q : Int) (xs : List Qt) (k : Nat) : List Qt := (List.range k).map (fun i : Nat => (q + 2 * (i : Int), q + 2 * (i : Int) + 1)) ++ xs.drop k

theorem qUp_len (q : Int) (xs : List Qt) {k : Nat} (hk : k ≤ xs.length) : (qUp q xs k).length = xs.length := by simp [qUp]; omega

theorem qUp_set (q : Int) (xs : List Qt) {k : Nat} (hk : k < xs.length) : (qUp q xs k).set k (q + 2 * (k : Int), q + 2 * (k : Int) + 1) = qUp q xs (k + 1) := by
  unfold qUp
  rw [List.set_append_right _ _ (by simp), List.length_map, List.length_range, Nat.sub_self, List.drop_eq_getElem_cons hk, List.set_cons_zero, List.range_succ, List.map_append, List.append_assoc]
  rfl

def QMarkRel (w : World) (base : Nat) (q : Int) (v : Value) (xs : List Qt) (k : Nat) (wr : World) : Prop :=
  QOwn wr base v (qUp q xs k) ∧ w.grownBy wr v.ownBlock ∧ wr.heap.size = w.heap.size

theorem QMarkRel.step {w wr : World} {base g cap n : Nat} {q : Int} {xs : List Qt} {k : Nat} (h : QMarkRel w base q (.slice (some ⟨g, 0, none⟩) n cap) xs k wr) (hn : xs.length = n) (hk : k < n) :
    QMarkRel w base q (.slice (some ⟨g, 0, none⟩) n cap) xs (k + 1) ((wr.setCell ⟨g, k * 2, none⟩ (.int .i64 (q + 2 * (k : Int)))).setCell ⟨g, k * 2 + 1, none⟩ (.int .i64 (q + 2 * (k : Int) + 1))) := by
  subst hn
  obtain ⟨h1, h2, h5⟩ := h
  have hl := qUp_len q xs (Nat.le_of_lt hk)
  rw [← hl] at h1
  obtain ⟨h3, h4⟩ := GOwn.set2 (cp := cap) (x := (q + 2 * (k : Int), q + 2 * (k : Int) + 1)) qC_len h1 (by rw [hl]; exact hk) rfl
  rw [qUp_set q xs hk, hl] at h3
  exact ⟨h3, ⟨h4.os.trans h2.os, h4.tape.trans h2.tape, h4.output.trans h2.output, Nat.le_trans h2.size h4.size, fun i hi hne => (h4.block i (by omega) hne).trans (h2.block i hi hne)⟩, by simpa using h5⟩

end Go.Proofs.Ytebebcomhdjihaa

namespace Go.Proofs.Ytebebcomhdjihaa
open Go.RowKit
set_option linter.unusedVariables false

def dcL (a : Dd) : List Value := [.int .i64 a.1, .int .i64 a.2.1, .int .i64 a.2.2.1, .string a.2.2.2]

def DdRd (w : World) (v : Value) (ds : List Dd) : Prop := GRd 4 dcL w v ds

theorem DdRd.at_ {w : World} {A : Option Addr} {n cp : Nat} {ds : List Dd} (h : DdRd w (.slice A n cp) ds) {k : Nat} (hk : k < n) :
    ∃ b off a, A = some ⟨b, off, none⟩ ∧ b < w.heap.size ∧ ds[k]? = some a ∧ w.cell? ⟨b, off + k * 4, none⟩ = some (.int .i64 a.1) ∧ w.cell? ⟨b, off + k * 4 + 1, none⟩ = some (.int .i64 a.2.1) ∧ w.cell? ⟨b, off + k * 4 + 2, none⟩ = some (.int .i64 a.2.2.1) ∧ w.cell? ⟨b, off + k * 4 + 3, none⟩ = some (.string a.2.2.2) := by
  obtain ⟨b, off, a, hA, hb, hx, hc⟩ := GRd.at_ h hk
  exact ⟨b, off, a, hA, hb, hx, hc 0 _ rfl, hc 1 _ rfl, hc 2 _ rfl, hc 3 _ rfl⟩

end Go.Proofs.Ytebebcomhdjihaa

namespace Go.Proofs.Ytebebcomhdjihaa
open Go.RowKit Go.Deep Go.ChangeShapes Go.WideShapes Go.Joins
set_option linter.unusedVariables false

theorem list2 {α : Type} {l : List α} (h : l.length = 2) : ∃ a b, l = [a, b] := by
  match l, h with
  | [a, b], _ => exact ⟨a, b, rfl⟩

theorem grd_mk {α : Type} {c : Nat} {enc : α → List Value} (hc : 0 < c) (he : ∀ x, (enc x).length = c) {W : World} {a : Addr} {len m : Nat} (hl : len ≤ m) (hm : m ≤ 9223372036854775807) (q : Nat → α)
    (h : ∀ i, i < len → ∀ j u, (enc (q i))[j]? = some u → W.cell? (a.add (i * c + j)) = some u) : GRd c enc W (.slice (some a) len m) ((List.range len).map q) := by
  refine ⟨some a, m, by simp, by simpa using hl, hm, fun h0 => ?_⟩
  have hlen : 0 < len := by simpa using h0
  obtain ⟨b, off, spot⟩ := a
  obtain ⟨u0, hu0⟩ : ∃ u, (enc (q 0))[0]? = some u := ⟨_, List.getElem?_eq_getElem (by rw [he]; exact hc)⟩
  have hc0 := h 0 hlen 0 u0 hu0
  have hspot : spot = none := by simpa [Addr.add] using World.cell?_spot hc0
  subst hspot
  have hlt := World.block_lt_of_cell? W _ hc0
  rw [addr_add] at hlt
  refine ⟨b, off, rfl, hlt, fun i p hj j u hu => ?_⟩
  have hil : i < len := by
    rcases Nat.lt_or_ge i len with h1 | h1
    · exact h1
    · rw [List.getElem?_eq_none (by simpa using h1)] at hj; cases hj
  have hqe : p = q i := by
    rw [List.getElem?_map, List.getElem?_range hil] at hj
    exact (Option.some.inj hj).symm
  subst hqe
  have h2 := h i hil j u hu
  rw [addr_add] at h2
  rwa [Nat.add_assoc]

section
variable {H : Type} {enc : TypeId × Value → H} {W : World} {fuel : Nat}

theorem sane_trod {t e : TypeId} (ht : Try.prog.underlying t = some (.slice e)) {v : Value} {x : DataW H × List MemPlace} (h : DataW.trod enc Try.prog W 0 (fun _ => true) true fuel t [v] = some x) : Sane v := by
  rcases DataW.trod_slice ht h with ⟨hc, -⟩ | ⟨a, len, cap, -, -, -, -, hc, -⟩
  · exact .inl (by simpa using hc)
  · exact .inr ⟨a, len, cap, by simpa using hc⟩

theorem ird15_of_trod {v : Value} {x : DataW H × List MemPlace} (hf : DataW.trod enc Try.prog W 0 (fun _ => true) true fuel 24 [v] = some x) : ∃ zs, IRd W v zs := by
  rcases open_ints Try.underlying24 Try.underlying3 (by kernel_rfl) hf with ⟨hcs, -⟩ | ⟨a, l, c, zs, hcs, -, hl, hm, hz, -, hcell, hwz⟩
  · obtain rfl : v = .slice none 0 0 := by simpa using hcs
    exact ⟨[], none, 0, rfl, by simp, by omega, fun h => by simp at h⟩
  · obtain rfl : v = .slice (some a) l c := by simpa using hcs
    exact ird_of_row (.inr ⟨a, rfl, hl, hm, by simpa using hz, hcell, hwz⟩)

set_option maxRecDepth 100000 in
theorem qrd15_of_trod {v : Value} {x : DataW H × List MemPlace} (hf : DataW.trod enc Try.prog W 0 (fun _ => true) true fuel 40 [v] = some x) : ∃ qs, QRd W v qs := by
  rcases open_slice Try.underlying40 hf with ⟨h, -⟩ | ⟨a', len', cap', m, n, D, Pl, hcs, hb, hl, hm, hmm, -, hi⟩
  · obtain rfl : v = .slice none 0 0 := by simpa using h
    exact ⟨[], GRd.nil _ _ _⟩
  · obtain rfl : v = .slice (some a') len' cap' := by simpa using hcs
    have hmc : m = cap' := by rw [hmm]; simp
    subst hmc
    rw [maxLen_is] at hm
    have ce : Try.prog.cellsOf 89 = 2 := by kernel_rfl
    have c1 : Try.prog.cellsOf 3 = 1 := by kernel_rfl
    rw [ce] at hi
    have each : ∀ i, i < m → ∃ q : Qt, ∀ j u, (qC q)[j]? = some u → W.cell? (a'.add (i * 2 + j)) = some u := by
      intro i him
      obtain ⟨cs', h1, h2⟩ := hi i him
      obtain ⟨_, hlen, hcell⟩ := World.cells?_some h1
      obtain ⟨y0, y1, n', -, -, g0, g1⟩ := trod_struct2 Try.underlying89 h2
      obtain ⟨v0, v1, rfl⟩ := list2 hlen
      simp [c1] at g0 g1
      obtain ⟨n0, e0, -, -⟩ := DataW.trod_int Try.underlying3 g0
      obtain ⟨n1, e1, -, -⟩ := DataW.trod_int Try.underlying3 g1
      obtain rfl : v0 = .int .i64 n0 := by simpa using e0
      obtain rfl : v1 = .int .i64 n1 := by simpa using e1
      have k0 := hcell 0 (by omega)
      have k1 := hcell 1 (by omega)
      rw [add_add] at k0 k1
      refine ⟨(n0, n1), fun j u hu => ?_⟩
      match j, hu with
      | 0, hu => rw [k0]; simpa [qC] using hu
      | 1, hu => rw [k1]; simpa [qC] using hu
      | j + 2, hu => simp [qC] at hu
    obtain ⟨q, hq⟩ := choose_lt each
    exact ⟨_, grd_mk (by decide) qC_len hl hm q (fun i hi => hq i (by omega))⟩

theorem place_of {v u : Value} {x y : DataW H × List MemPlace} {n m : Nat} (h0 : DataW.trod enc Try.prog W 0 (fun _ => true) true n 40 [v] = some x) (h1 : DataW.trod enc Try.prog W 0 (fun _ => true) true m 24 [u] = some y) : ∃ p, PlRd (fun _ => True) W v u p := by
  obtain ⟨qs, hq⟩ := qrd15_of_trod h0
  obtain ⟨ss, hs⟩ := ird15_of_trod h1
  exact ⟨(qs, ss), ⟨hq, sane_trod Try.underlying40 h0, fun _ _ => trivial⟩, hs, sane_trod Try.underlying24 h1, fun _ _ => trivial⟩

set_option maxRecDepth 100000 in
theorem places_of {v : Value} {x : DataW H × List MemPlace} (hf : DataW.trod enc Try.prog W 0 (fun _ => true) true fuel 46 [v] = some x) : ∃ ps, PsRd (fun _ => True) W v ps := by
  rcases open_slice Try.underlying46 hf with ⟨h, -⟩ | ⟨a', len', cap', m, n, D, Pl, hcs, hb, hl, hm, hmm, -, hi⟩
  · obtain rfl : v = .slice none 0 0 := by simpa using h
    exact ⟨[], PsRd.nil _ _⟩
  · obtain rfl : v = .slice (some a') len' cap' := by simpa using hcs
    have hmc : m = cap' := by rw [hmm]; simp
    subst hmc
    rw [maxLen_is] at hm
    have ce : Try.prog.cellsOf 42 = 2 := by kernel_rfl
    have c1 : Try.prog.cellsOf 40 = 1 := by kernel_rfl
    have c2 : Try.prog.cellsOf 24 = 1 := by kernel_rfl
    rw [ce] at hi
    have each : ∀ i, i < m → ∃ q : (Value × Value) × _root_.Prod (List Qt) (List Int), (∀ j u, (pC q.1)[j]? = some u → W.cell? (a'.add (i * 2 + j)) = some u) ∧ PlRd (fun _ => True) W q.1.1 q.1.2 q.2 := by
      intro i him
      obtain ⟨cs', h1, h2⟩ := hi i him
      obtain ⟨_, hlen, hcell⟩ := World.cells?_some h1
      obtain ⟨y0, y1, n', -, -, g0, g1⟩ := trod_struct2 Try.underlying42 h2
      obtain ⟨v0, v1, rfl⟩ := list2 hlen
      simp [c1, c2] at g0 g1
      obtain ⟨p, hp⟩ := place_of g0 g1
      have k0 := hcell 0 (by omega)
      have k1 := hcell 1 (by omega)
      rw [add_add] at k0 k1
      refine ⟨((v0, v1), p), fun j u hu => ?_, hp⟩
      match j, hu with
      | 0, hu => rw [k0]; simpa [pC] using hu
      | 1, hu => rw [k1]; simpa [pC] using hu
      | j + 2, hu => simp [pC] at hu
    obtain ⟨q, hq⟩ := choose_lt each
    refine ⟨(List.range len').map fun i => (q i).2, (List.range len').map fun i => (q i).1, by simp, ⟨grd_mk (by decide) pC_len hl hm (fun i => (q i).1) (fun i hi => (hq i (by omega)).1), fun _ _ => trivial⟩, fun k u p hu hp => ?_⟩
    have hk : k < len' := by
      rcases Nat.lt_or_ge k len' with h1 | h1
      · exact h1
      · rw [List.getElem?_eq_none (by simpa using h1)] at hu; cases hu
    rw [List.getElem?_map, List.getElem?_range hk] at hu hp
    have e1 := Option.some.inj hu
    have e2 := Option.some.inj hp
    have := (hq k (by omega)).2
    rw [← e1, ← e2]
    exact this

set_option maxRecDepth 100000 in
theorem open_desk {r : Reach} {b0 : Nat} {v : Value} {d : DataW H} {p : List MemPlace} (hv : Value.okWide Try.prog W r b0 48 v) (h : DataW.Trod enc Try.prog W 0 (fun _ => true) true 48 v d p) :
    ∃ x y z dk, v = .agg #[x, y, z] ∧ DkRd (fun _ => True) W x y z dk := by
  obtain ⟨cs, rfl, hsz⟩ := okWide_struct Try.underlying48 hv
  have hC : Try.prog.cellsOf 48 = 3 := by kernel_rfl
  obtain ⟨c0, c1, c2, rfl⟩ := array3 (hsz.trans hC)
  obtain ⟨fuel, hf⟩ := h
  obtain ⟨y0, y1, n, -, -, h0, h1⟩ := trod_struct2 Try.underlying48 hf
  have e1 : Try.prog.cellsOf 42 = 2 := by kernel_rfl
  have e2 : Try.prog.cellsOf 46 = 1 := by kernel_rfl
  have e3 : Try.prog.cellsOf 40 = 1 := by kernel_rfl
  have e4 : Try.prog.cellsOf 24 = 1 := by kernel_rfl
  simp [Value.cells, e1, e2] at h0 h1
  obtain ⟨z0, z1, n', -, -, g0, g1⟩ := trod_struct2 Try.underlying42 h0
  simp [e3, e4] at g0 g1
  obtain ⟨pl, hp⟩ := place_of g0 g1
  obtain ⟨ps, hps⟩ := places_of h1
  exact ⟨c0, c1, c2, (pl, ps), rfl, hp, hps⟩

set_option maxRecDepth 100000 in
theorem open_place {r : Reach} {b0 : Nat} {v : Value} {d : DataW H} {p : List MemPlace} (hv : Value.okWide Try.prog W r b0 42 v) (h : DataW.Trod enc Try.prog W 0 (fun _ => true) true 42 v d p) :
    ∃ x y pl, v = .agg #[x, y] ∧ PlRd (fun _ => True) W x y pl := by
  obtain ⟨cs, rfl, hsz⟩ := okWide_struct Try.underlying42 hv
  have hC : Try.prog.cellsOf 42 = 2 := by kernel_rfl
  obtain ⟨c0, c1, rfl⟩ := array2 (hsz.trans hC)
  obtain ⟨fuel, hf⟩ := h
  obtain ⟨y0, y1, n, -, -, h0, h1⟩ := trod_struct2 Try.underlying42 hf
  have e3 : Try.prog.cellsOf 40 = 1 := by kernel_rfl
  have e4 : Try.prog.cellsOf 24 = 1 := by kernel_rfl
  simp [Value.cells, e3, e4] at h0 h1
  obtain ⟨pl, hp⟩ := place_of h0 h1
  exact ⟨c0, c1, pl, rfl, hp⟩

end

end Go.Proofs.Ytebebcomhdjihaa
