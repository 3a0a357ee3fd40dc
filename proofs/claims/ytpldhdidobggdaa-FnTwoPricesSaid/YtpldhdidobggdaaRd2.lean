/- The reader's opening. Conditions: a row of bytes that came in. -/
import Derived.Test.YtpldhdidobggdaaRd
namespace Go.Proofs.Ytpldhdidobggdaa
open Go.RowKit
set_option linter.unusedVariables false

def IsRowC (k : IntKind) (w : World) (a : Option Addr) (len cap : Nat) (zs : List Int) : Prop :=
  (a = none ∧ len = 0 ∧ cap = 0 ∧ zs = []) ∨
  ∃ x, a = some x ∧ len ≤ cap ∧ cap ≤ maxLen ∧ zs.length = cap ∧ (∀ i, i < zs.length → w.cell? (x.add i) = some (.int k (zs.getD i 0))) ∧ ∀ n ∈ zs, (Lit.int k n).wf = true

theorem u8_of {l : List Int} (h : ∀ n ∈ l, (Lit.int .u8 n).wf = true) (i : Nat) : ∃ v : Nat, v ≤ 255 ∧ l.getD i 0 = (v : Int) := by
  by_cases hi : i < l.length
  · have e : l.getD i 0 = l[i] := by simp [List.getElem?_eq_getElem hi]
    have := h _ (List.getElem_mem hi)
    simp only [Lit.wf, Bool.and_eq_true, IntKind.min, IntKind.max, IntKind.signed, IntKind.bits] at this
    simp at this
    exact ⟨l[i].toNat, by omega, by rw [e]; omega⟩
  · exact ⟨0, by omega, by simp [List.getElem?_eq_none (Nat.le_of_not_lt hi)]⟩

theorem addr_add (b off i : Nat) : (⟨b, off, none⟩ : Addr).add i = ⟨b, off + i, none⟩ := by
  unfold Addr.add; split
  · next h => rw [h]; rfl
  · rfl

/-- what a code's row says of its first n bytes -/
theorem bytes_of_row {w : World} {a : Option Addr} {len cap : Nat} {zs : List Int} (h : IsRowC .u8 w a len cap zs) {n : Nat} (hn : n ≤ len) (h2 : n ≤ 2000) (R : Nat) (hR : w.heap.size ≤ R) : Byts w R a n := by
  refine ⟨h2, fun h0 => ?_⟩
  rcases h with ⟨rfl, rfl, rfl, rfl⟩ | ⟨x, rfl, hl, hm, hz, hcell, hwz⟩
  · omega
  · obtain ⟨b, off, spot⟩ := x
    have hc := hcell 0 (by omega)
    have hspot : spot = none := by simpa [Addr.add] using World.cell?_spot hc
    subst hspot
    have hlt := World.block_lt_of_cell? w _ hc
    rw [addr_add] at hlt
    refine ⟨b, off, rfl, by simp at hlt; omega, hlt, fun i hi => ?_⟩
    obtain ⟨v, hv, e⟩ := u8_of hwz i
    refine ⟨v, hv, ?_⟩
    have := hcell i (by omega)
    rw [addr_add, e] at this
    exact this

theorem Byts.more {w w' : World} {R : Nat} {A : Option Addr} {n : Nat} (h : Byts w R A n) (hs : w.heap.size ≤ w'.heap.size) (hb : ∀ b, b < w.heap.size → b < R → w'.heap[b]? = w.heap[b]?) : Byts w' R A n := by
  refine ⟨h.1, fun hn => ?_⟩
  obtain ⟨b, off, e, hR, hl, hc⟩ := h.2 hn
  refine ⟨b, off, e, hR, by omega, fun i hi => ?_⟩
  obtain ⟨v, hv, hcell⟩ := hc i hi
  exact ⟨v, hv, (World.cell?_of_block (a := ⟨b, off + i, none⟩) (hb b hl hR)).trans hcell⟩

theorem Blk.more {w w' : World} {g : Nat} {t : TypeId} {cs : Array Value} (h : Blk w g t cs) (hb : w'.heap[g]? = w.heap[g]?) : Blk w' g t cs := hb.trans h

/-- a reader stays one where its own block stays, and all blocks that were there but one other -/
theorem Rd.keep {w w' : World} {R P : Nat} (h : Rd w R P) (hs : w.heap.size ≤ w'.heap.size) (hb : ∀ b, b < w.heap.size → w'.heap[b]? = w.heap[b]?) : Rd w' R P := by
  obtain ⟨A, n, cap, p, hB, hp, hy⟩ := h
  exact ⟨A, n, cap, p, hB.more (hb R hB.lt), hp, hy.more hs fun b hl _ => hb b hl⟩

/-- a reader stays one where a row behind it grows -/
theorem Rd.grown {w w' : World} {R P : Nat} {row : Option Nat} (h : Rd w R P) (hg : w.grownBy w' row) (hr : ∀ g, row = some g → R < g) : Rd w' R P := by
  obtain ⟨A, n, cap, p, hB, hp, hy⟩ := h
  exact ⟨A, n, cap, p, hB.more (hg.block R hB.lt (fun e => by have := hr R e.symm; omega)), hp, hy.more hg.size fun b hl hlt => hg.block b hl (fun e => by have := hr b e.symm; omega)⟩

theorem Rd.lt {w : World} {R P : Nat} (h : Rd w R P) : R < w.heap.size := by
  obtain ⟨A, n, cap, p, hB, hp, hy⟩ := h
  exact hB.lt

theorem Rd.mono {w : World} {R P Q : Nat} (h : Rd w R P) (hPQ : P ≤ Q) : Rd w R Q := by
  obtain ⟨A, n, cap, p, hB, hp, hy⟩ := h
  exact ⟨A, n, cap, p, hB, by omega, hy⟩

theorem Picked.below {R P B : Nat} {w w' : World} (h : Picked R P w w') (hB : B ≤ R) (hR : R < w.heap.size) : Below B w w' :=
  ⟨h.grown.os, h.grown.tape, h.grown.output, h.grown.size, fun k hk => h.grown.block k (by omega) (fun e => by injection e with e; omega)⟩

theorem Picked.trans {R P Q : Nat} {w w1 w2 : World} (h : Picked R P w w1) (k : Picked R Q w1 w2) : Picked R Q w w2 :=
  ⟨⟨k.grown.os.trans h.grown.os, k.grown.tape.trans h.grown.tape, k.grown.output.trans h.grown.output, Nat.le_trans h.grown.size k.grown.size,
    fun i hi hne => (k.grown.block i (by have := h.size; omega) hne).trans (h.grown.block i hi hne)⟩, k.size.trans h.size, k.rd⟩

structure Opened (w w' : World) : Prop where
  below : Below w.heap.size w w'
  size : w'.heap.size = w.heap.size + 1
  rd : Rd w' w.heap.size 0

def OpenPost (w : World) (e : Ending) (w' : World) : Prop := e = .returned (.pointer (some ⟨w.heap.size, 0, none⟩)) ∧ Opened w w'

theorem opened_mk {w : World} {a : Option Addr} {n cap : Nat} (hy : Byts w w.heap.size a n) : Opened w (w.alloc (.cells #[.slice a n cap, .int .i64 0] 73)) :=
  ⟨(Below.refl _ _).alloc (Nat.le_refl _) _, by simp, ⟨a, n, cap, 0, heap_alloc_new w _, by omega, hy.more (by simp) fun b hl _ => Below.heap_alloc w _ b hl⟩⟩

set_option maxHeartbeats 400000 in
theorem open_any (w : World) (a : Option Addr) (len cap : Nat) (zs : List Int) (h : IsRowC .u8 w a len cap zs) :
    Calls Try.prog 39 #[.slice a len cap] w (OpenPost w) := by
  have H := Lib.hid h
  by_cases hl : len ≤ 2000
  · clear h
    go_enter Try.func39, Try.ntmps39
    go_wp2
    go_ret
    exact ⟨rfl, opened_mk (bytes_of_row H.out (Nat.le_refl _) hl _ (Nat.le_refl _))⟩
  · have hl' : 2000 < len := by omega
    rcases h with ⟨rfl, rfl, rfl, rfl⟩ | ⟨x, rfl, hlc, hm, hz, -, -⟩
    · omega
    · have hcap : (2000 : Int) ≤ (cap : Int) := by omega
      clear hz
      go_enter Try.func39, Try.ntmps39
      go_wp2
      go_ret
      exact ⟨rfl, opened_mk (bytes_of_row H.out (by omega) (Nat.le_refl _) _ (Nat.le_refl _))⟩

end Go.Proofs.Ytpldhdidobggdaa
