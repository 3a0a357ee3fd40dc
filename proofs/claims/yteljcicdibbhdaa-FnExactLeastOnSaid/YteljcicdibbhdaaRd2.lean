/- The contract of the reader of a code: 'pick'. Conditions: at most a million picks before. The reader's opening. Conditions: a row of bytes that came in. -/
import Derived.Test.YteljcicdibbhdaaEv2
import Derived.Below
import Derived.Laws.OwnMore
import Derived.Deep.Draws
import Derived.Laws.Rows
import Derived.Deep.QuietTactic
import Derived.BigQuiet
import Derived.Lib.Hide
import Derived.IntWalk
namespace Go.Proofs.Yteljcicdibbhdaa
open Go.RowKit
set_option linter.unusedVariables false

/-- block g is just the cells cs of type t, none frozen -/
def Blk (w : World) (g : Nat) (t : TypeId) (cs : Array Value) : Prop := w.heap[g]? = some (.cells cs t (0, 0))

theorem Blk.lt {w : World} {g : Nat} {t : TypeId} {cs : Array Value} (h : Blk w g t cs) : g < w.heap.size := by
  rcases Nat.lt_or_ge g w.heap.size with hlt | hge
  · exact hlt
  · unfold Blk at h; rw [Array.getElem?_eq_none hge] at h; cases h

theorem Blk.cell {w : World} {g : Nat} {t : TypeId} {cs : Array Value} (h : Blk w g t cs) (i : Nat) : w.cell? ⟨g, i, none⟩ = cs[i]? := cell_of_row w g i cs t (0, 0) h

theorem Blk.frozen {w : World} {g : Nat} {t : TypeId} {cs : Array Value} (h : Blk w g t cs) (i : Nat) : w.frozen? ⟨g, i, none⟩ = false := by
  unfold Blk at h
  simp [World.frozen?, h]

theorem Blk.set_ {w : World} {g : Nat} {t : TypeId} {cs : Array Value} (h : Blk w g t cs) (i : Nat) (u : Value) : Blk (w.setCell ⟨g, i, none⟩ u) g t (cs.setIfInBounds i u) := by
  unfold Blk at h ⊢
  simp [World.setCell, Array.getElem?_modify, h]

/-- the n bytes at A, outside of block R -/
def Byts (w : World) (R : Nat) (A : Option Addr) (n : Nat) : Prop :=
  n ≤ 2000 ∧ (0 < n → ∃ b off, A = some ⟨b, off, none⟩ ∧ b < R ∧ b < w.heap.size ∧ ∀ i, i < n → ∃ v : Nat, v ≤ 255 ∧ w.cell? ⟨b, off + i, none⟩ = some (.int .u8 (v : Int)))

/-- a reader in block R, of which at most P bytes have been picked -/
def Rd (w : World) (R P : Nat) : Prop := ∃ A n cap, ∃ p : Nat, Blk w R 93 #[.slice A n cap, .int .i64 (p : Int)] ∧ p ≤ P ∧ Byts w R A n

/-- w' is w but for block R, which keeps being a reader -/
structure Picked (R P : Nat) (w w' : World) : Prop where
  grown : w.grownBy w' (some R)
  size : w'.heap.size = w.heap.size
  rd : Rd w' R P

def PickV (n v : Int) : Prop := 0 ≤ v ∧ (1 ≤ n → v < n) ∧ (n < 1 → v = 0)

def PickPost (R P : Nat) (n : Int) (w : World) (e : Ending) (w' : World) : Prop := ∃ v : Int, e = .returned (.int .i64 v) ∧ PickV n v ∧ Picked R P w w'

theorem setp_grown (w : World) (R : Nat) (u : Value) (k : Nat) : w.grownBy ((w.setCell ⟨R, 1, none⟩ u).drewN k) (some R) :=
  ⟨rfl, rfl, rfl, by simp [World.setCell], fun g hg hne => by
    show (w.setCell ⟨R, 1, none⟩ u).heap[g]? = w.heap[g]?
    exact Below.heap_setCell w ⟨R, 1, none⟩ u g (fun e => hne (by rw [e]))⟩

theorem setp_byts {w : World} {R : Nat} {A : Option Addr} {n : Nat} (h : Byts w R A n) (u : Value) (k : Nat) : Byts ((w.setCell ⟨R, 1, none⟩ u).drewN k) R A n := by
  refine ⟨h.1, fun hn => ?_⟩
  obtain ⟨b, off, e, hb, hl, hc⟩ := h.2 hn
  refine ⟨b, off, e, hb, by simpa using hl, fun i hi => ?_⟩
  obtain ⟨v, hv, hcell⟩ := hc i hi
  refine ⟨v, hv, ?_⟩
  rw [World.cell?_drewN, World.cell?_setCell_other w ⟨R, 1, none⟩ ⟨b, off + i, none⟩ u (fun e => by injection e with e1; omega)]
  exact hcell

theorem setp_picked {w : World} {R P : Nat} {A : Option Addr} {n cap p : Nat} (hB : Blk w R 93 #[.slice A n cap, .int .i64 (p : Int)]) (hp : p ≤ P) (hy : Byts w R A n) (k : Nat) :
    Picked R (P + 1) w ((w.setCell ⟨R, 1, none⟩ (.int .i64 ((p : Int) + 1))).drewN k) :=
  ⟨setp_grown w R _ k, by simp [World.setCell], ⟨A, n, cap, p + 1, hB.set_ 1 _, by omega, setp_byts hy _ k⟩⟩

theorem setp_picked0 {w : World} {R P : Nat} {A : Option Addr} {n cap p : Nat} (hB : Blk w R 93 #[.slice A n cap, .int .i64 (p : Int)]) (hp : p ≤ P) (hy : Byts w R A n) :
    Picked R (P + 1) w (w.setCell ⟨R, 1, none⟩ (.int .i64 ((p : Int) + 1))) := setp_picked hB hp hy 0

theorem xor_nonneg (a : Int) (h1 : 0 ≤ a) (h2 : a < 4611686018427387904) : 0 ≤ bits BinOp.xor IntKind.i64 a (a / 64) ∧ bits BinOp.xor IntKind.i64 a (a / 64) < 4611686018427387904 := by
  obtain ⟨n, rfl⟩ : ∃ n : Nat, a = n := ⟨a.toNat, by omega⟩
  have hd : ((n : Int) / 64) = ((n / 64 : Nat) : Int) := by omega
  have hx : n ^^^ n / 64 < 2 ^ 62 := Nat.xor_lt_two_pow (by omega) (by omega)
  have e1 : (BitVec.ofInt 64 (n : Int)).toNat = n := by
    rw [BitVec.ofInt_natCast, BitVec.toNat_ofNat]; exact Nat.mod_eq_of_lt (by omega)
  have e2 : (BitVec.ofInt 64 ((n / 64 : Nat) : Int)).toNat = n / 64 := by
    rw [BitVec.ofInt_natCast, BitVec.toNat_ofNat]; exact Nat.mod_eq_of_lt (by omega)
  rw [hd]
  have : bits BinOp.xor IntKind.i64 (n : Int) ((n / 64 : Nat) : Int) = ((n ^^^ n / 64 : Nat) : Int) := by
    show IntKind.i64.wrap ((BitVec.ofInt 64 (n : Int) ^^^ BitVec.ofInt 64 ((n / 64 : Nat) : Int)).toNat : Int) = _
    rw [BitVec.toNat_xor, e1, e2]
    exact IntWalk.i64_in _ (by omega)
  rw [this]
  omega

set_option maxHeartbeats 1000000 in
set_option maxRecDepth 100000 in
theorem pick_any (w : World) (R P : Nat) (n : Int) (hP : P ≤ 1000000) (h : Rd w R P) :
    Calls Try.prog 67 #[.pointer (some ⟨R, 0, none⟩), .int .i64 n] w (PickPost R (P + 1) n w) := by
  obtain ⟨A, len, cap, p, hB, hp, hy⟩ := h
  have c0 : w.cell? ⟨R, 0, none⟩ = some (.slice A len cap) := hB.cell 0
  have c1 : w.cell? ⟨R, 1, none⟩ = some (.int .i64 (p : Int)) := hB.cell 1
  have hf : w.frozen? ⟨R, 1, none⟩ = false := hB.frozen 1
  have hz : len ≤ 2000 := hy.1
  have HB := Lib.hid hB
  have HY := Lib.hid hy
  clear hB hy
  by_cases hn : n < 1
  · go_enter Try.func67, Try.ntmps67
    go_wp2
    go_ret
    exact ⟨0, rfl, ⟨by omega, by omega, by omega⟩, setp_picked0 HB.out hp HY.out⟩
  · have hn' : decide (n < 1) = false := by simpa using hn
    by_cases hl : len = 0
    · subst hl
      go_enter Try.func67, Try.ntmps67
      go_wp2
      go_ret
      exact ⟨0, rfl, ⟨by omega, by omega, by omega⟩, setp_picked0 HB.out hp HY.out⟩
    · have hl' : ((len : Int) == 0) = false := by simpa using hl
      have hl0 : 0 < len := by omega
      obtain ⟨b, off, rfl, hbR, -, hc⟩ := HY.out.2 (by omega)
      by_cases hk : p < len
      · obtain ⟨v, hv, hcv⟩ := hc p hk
        clear hc hl hn
        have hv2 : (0 : Int) ≤ v := by omega
        have hn1 : 1 ≤ n := by simpa using hn'
        go_enter Try.func67, Try.ntmps67
        go_wp2
        go_ret
        exact ⟨(v : Int) % n, rfl, ⟨Int.emod_nonneg _ (by omega), fun _ => Int.emod_lt_of_pos _ (by omega), by omega⟩, setp_picked0 HB.out hp HY.out⟩
      · have hk' : decide (p < len) = false := by simpa using hk
        have hn1 : 1 ≤ n := by simpa using hn'
        have m1 : p % len < len := Nat.mod_lt _ hl0
        have m2 : (p * 7 + 3) % len < len := Nat.mod_lt _ hl0
        obtain ⟨v1, hv1, hc1⟩ := hc (p % len) m1
        obtain ⟨v2, hv2, hc2⟩ := hc ((p * 7 + 3) % len) m2
        clear hc hl hn hk
        have hl1 : (1 : Int) ≤ (len : Int) := by omega
        obtain ⟨i1, hi1⟩ : ∃ i : Nat, p % len = i := ⟨_, rfl⟩
        obtain ⟨i2, hi2⟩ : ∃ i : Nat, (p * 7 + 3) % len = i := ⟨_, rfl⟩
        obtain ⟨d, hd⟩ : ∃ i : Nat, p / len = i := ⟨_, rfl⟩
        have hdp : d ≤ p := by rw [← hd]; exact Nat.div_le_self _ _
        rw [hi1] at m1 hc1
        rw [hi2] at m2 hc2
        have e1 : (p : Int).tmod (len : Int) = (i1 : Int) := by rw [Int.tmod_eq_emod_of_nonneg (by omega), ← hi1]; rfl
        have e2 : ((p * 7 + 3 : Nat) : Int).tmod (len : Int) = (i2 : Int) := by rw [Int.tmod_eq_emod_of_nonneg (by omega), ← hi2]; rfl
        have e3 : (p : Int).tdiv (len : Int) = (d : Int) := by rw [Int.tdiv_eq_ediv_of_nonneg (by omega), ← hd]; rfl
        clear hi1 hi2 hd
        obtain ⟨a3, h3⟩ : ∃ a : Nat, p * 7 + 3 = a := ⟨_, rfl⟩
        rw [h3] at e2
        have q0 : IntKind.i64.wrap (v1 : Int) = (v1 : Int) := IntWalk.i64_in _ (by omega)
        have q1 : IntKind.i64.wrap (v2 : Int) = (v2 : Int) := IntWalk.i64_in _ (by omega)
        obtain ⟨a1, h1⟩ : ∃ a : Nat, v1 * 131 = a := ⟨_, rfl⟩
        have q2 : IntKind.i64.wrap ((v1 : Int) * 131) = (a1 : Int) := by rw [IntWalk.i64_in _ (by omega)]; omega
        obtain ⟨a2, h2⟩ : ∃ a : Nat, p * 7 = a := ⟨_, rfl⟩
        have q3 : IntKind.i64.wrap ((p : Int) * 7) = (a2 : Int) := by rw [IntWalk.i64_in _ (by omega)]; omega
        have q4 : IntKind.i64.wrap ((a2 : Int) + 3) = (a3 : Int) := by rw [IntWalk.i64_in _ (by omega)]; omega
        obtain ⟨a4, h4⟩ : ∃ a : Nat, v2 * 1117 = a := ⟨_, rfl⟩
        have q5 : IntKind.i64.wrap ((v2 : Int) * 1117) = (a4 : Int) := by rw [IntWalk.i64_in _ (by omega)]; omega
        obtain ⟨a5, h5⟩ : ∃ a : Nat, a1 + a4 = a := ⟨_, rfl⟩
        have q6 : IntKind.i64.wrap ((a1 : Int) + (a4 : Int)) = (a5 : Int) := by rw [IntWalk.i64_in _ (by omega)]; omega
        obtain ⟨a6, h6⟩ : ∃ a : Nat, p * 29 = a := ⟨_, rfl⟩
        have q7 : IntKind.i64.wrap ((p : Int) * 29) = (a6 : Int) := by rw [IntWalk.i64_in _ (by omega)]; omega
        obtain ⟨a7, h7⟩ : ∃ a : Nat, a5 + a6 = a := ⟨_, rfl⟩
        have q8 : IntKind.i64.wrap ((a5 : Int) + (a6 : Int)) = (a7 : Int) := by rw [IntWalk.i64_in _ (by omega)]; omega
        have q9 : IntKind.i64.wrap (d : Int) = (d : Int) := IntWalk.i64_in _ (by omega)
        obtain ⟨a9, h9⟩ : ∃ a : Nat, d * 53 = a := ⟨_, rfl⟩
        have q10 : IntKind.i64.wrap ((d : Int) * 53) = (a9 : Int) := by rw [IntWalk.i64_in _ (by omega)]; omega
        obtain ⟨a10, h10⟩ : ∃ a : Nat, a7 + a9 = a := ⟨_, rfl⟩
        have q11 : IntKind.i64.wrap ((a7 : Int) + (a9 : Int)) = (a10 : Int) := by rw [IntWalk.i64_in _ (by omega)]; omega
        have hb10 : a10 ≤ 1000000000 := by omega
        obtain ⟨x1, x2⟩ := xor_nonneg (a10 : Int) (by omega) (by omega)
        have m1' : (i1 : Int) < (len : Int) := by omega
        have m2' : (i2 : Int) < (len : Int) := by omega
        have z1 : (0 : Int) ≤ (i1 : Int) := by omega
        have z2 : (0 : Int) ≤ (i2 : Int) := by omega
        clear h1 h2 h3 h4 h5 h6 h7 h9 h10
        go_enter Try.func67, Try.ntmps67
        go_wp2_with fail
        go_quiet (fail)
        clear q0 q1 q2 q3 q4 q5 q6 q7 q8 q9 q10 q11 e1 e2 e3
        go_wp2
        go_ret
        exact ⟨bits BinOp.xor IntKind.i64 (a10 : Int) ((a10 : Int) / 64) % n, rfl, ⟨Int.emod_nonneg _ (by omega), fun _ => Int.emod_lt_of_pos _ (by omega), by omega⟩, setp_picked HB.out hp HY.out _⟩

end Go.Proofs.Yteljcicdibbhdaa

namespace Go.Proofs.Yteljcicdibbhdaa
open Go.RowKit
set_option linter.unusedVariables false

def IsRowC (k : IntKind) (w : World) (a : Option Addr) (len cap : Nat) (zs : List Int) : Prop :=
  (a = none ∧ len = 0 ∧ cap = 0 ∧ zs = []) ∨
  ∃ x, a = some x ∧ len ≤ cap ∧ cap ≤ maxLen ∧ zs.length = cap ∧ (∀ i, i < zs.length → w.cell? (x.add i) = some (.int k (zs.getD i 0))) ∧ ∀ n ∈ zs, (Lit.int k n).wf = true

theorem u8_of {l : List Int} (h : ∀ n ∈ l, (Lit.int .u8 n).wf = true) (i : Nat) : ∃ v : Nat, v ≤ 255 ∧ l.getD i 0 = (v : Int) := by
  by_cases hi : i < l.length
  · have e : l.getD i 0 = l[i] := by simp [List.getElem?_eq_getElem hi]
    have := h _ (List.getElem_mem hi)
    simp only [Lit.wf, Bool.and_eq_true, IntKind.min, IntKind.max, IntKind.signed, IntKind.bits] at this
    simp at this
    exact ⟨l[i].toNat, by omega, by rw [e]; omega⟩
  · exact ⟨0, by omega, by simp [List.getElem?_eq_none (Nat.le_of_not_lt hi)]⟩

theorem addr_add (b off i : Nat) : (⟨b, off, none⟩ : Addr).add i = ⟨b, off + i, none⟩ := by
  unfold Addr.add; split
  · next h => rw [h]; rfl
  · rfl

/-- what a code's row says of its first n bytes -/
theorem bytes_of_row {w : World} {a : Option Addr} {len cap : Nat} {zs : List Int} (h : IsRowC .u8 w a len cap zs) {n : Nat} (hn : n ≤ len) (h2 : n ≤ 2000) (R : Nat) (hR : w.heap.size ≤ R) : Byts w R a n := by
  refine ⟨h2, fun h0 => ?_⟩
  rcases h with ⟨rfl, rfl, rfl, rfl⟩ | ⟨x, rfl, hl, hm, hz, hcell, hwz⟩
  · omega
  · obtain ⟨b, off, spot⟩ := x
    have hc := hcell 0 (by omega)
    have hspot : spot = none := by simpa [Addr.add] using World.cell?_spot hc
    subst hspot
    have hlt := World.block_lt_of_cell? w _ hc
    rw [addr_add] at hlt
    refine ⟨b, off, rfl, by simp at hlt; omega, hlt, fun i hi => ?_⟩
    obtain ⟨v, hv, e⟩ := u8_of hwz i
    refine ⟨v, hv, ?_⟩
    have := hcell i (by omega)
    rw [addr_add, e] at this
    exact this

theorem Byts.more {w w' : World} {R : Nat} {A : Option Addr} {n : Nat} (h : Byts w R A n) (hs : w.heap.size ≤ w'.heap.size) (hb : ∀ b, b < w.heap.size → b < R → w'.heap[b]? = w.heap[b]?) : Byts w' R A n := by
  refine ⟨h.1, fun hn => ?_⟩
  obtain ⟨b, off, e, hR, hl, hc⟩ := h.2 hn
  refine ⟨b, off, e, hR, by omega, fun i hi => ?_⟩
  obtain ⟨v, hv, hcell⟩ := hc i hi
  exact ⟨v, hv, (World.cell?_of_block (a := ⟨b, off + i, none⟩) (hb b hl hR)).trans hcell⟩

theorem Blk.more {w w' : World} {g : Nat} {t : TypeId} {cs : Array Value} (h : Blk w g t cs) (hb : w'.heap[g]? = w.heap[g]?) : Blk w' g t cs := hb.trans h

/-- a reader stays one where its own block stays, and all blocks that were there but one other -/
theorem Rd.keep {w w' : World} {R P : Nat} (h : Rd w R P) (hs : w.heap.size ≤ w'.heap.size) (hb : ∀ b, b < w.heap.size → w'.heap[b]? = w.heap[b]?) : Rd w' R P := by
  obtain ⟨A, n, cap, p, hB, hp, hy⟩ := h
  exact ⟨A, n, cap, p, hB.more (hb R hB.lt), hp, hy.more hs fun b hl _ => hb b hl⟩

/-- a reader stays one where a row behind it grows -/
theorem Rd.grown {w w' : World} {R P : Nat} {row : Option Nat} (h : Rd w R P) (hg : w.grownBy w' row) (hr : ∀ g, row = some g → R < g) : Rd w' R P := by
  obtain ⟨A, n, cap, p, hB, hp, hy⟩ := h
  exact ⟨A, n, cap, p, hB.more (hg.block R hB.lt (fun e => by have := hr R e.symm; omega)), hp, hy.more hg.size fun b hl hlt => hg.block b hl (fun e => by have := hr b e.symm; omega)⟩

theorem Rd.lt {w : World} {R P : Nat} (h : Rd w R P) : R < w.heap.size := by
  obtain ⟨A, n, cap, p, hB, hp, hy⟩ := h
  exact hB.lt

theorem Rd.mono {w : World} {R P Q : Nat} (h : Rd w R P) (hPQ : P ≤ Q) : Rd w R Q := by
  obtain ⟨A, n, cap, p, hB, hp, hy⟩ := h
  exact ⟨A, n, cap, p, hB, by omega, hy⟩

theorem Picked.below {R P B : Nat} {w w' : World} (h : Picked R P w w') (hB : B ≤ R) (hR : R < w.heap.size) : Below B w w' :=
  ⟨h.grown.os, h.grown.tape, h.grown.output, h.grown.size, fun k hk => h.grown.block k (by omega) (fun e => by injection e with e; omega)⟩

theorem Picked.trans {R P Q : Nat} {w w1 w2 : World} (h : Picked R P w w1) (k : Picked R Q w1 w2) : Picked R Q w w2 :=
  ⟨⟨k.grown.os.trans h.grown.os, k.grown.tape.trans h.grown.tape, k.grown.output.trans h.grown.output, Nat.le_trans h.grown.size k.grown.size,
    fun i hi hne => (k.grown.block i (by have := h.size; omega) hne).trans (h.grown.block i hi hne)⟩, k.size.trans h.size, k.rd⟩

structure Opened (w w' : World) : Prop where
  below : Below w.heap.size w w'
  size : w'.heap.size = w.heap.size + 1
  rd : Rd w' w.heap.size 0

def OpenPost (w : World) (e : Ending) (w' : World) : Prop := e = .returned (.pointer (some ⟨w.heap.size, 0, none⟩)) ∧ Opened w w'

theorem opened_mk {w : World} {a : Option Addr} {n cap : Nat} (hy : Byts w w.heap.size a n) : Opened w (w.alloc (.cells #[.slice a n cap, .int .i64 0] 93)) :=
  ⟨(Below.refl _ _).alloc (Nat.le_refl _) _, by simp, ⟨a, n, cap, 0, heap_alloc_new w _, by omega, hy.more (by simp) fun b hl _ => Below.heap_alloc w _ b hl⟩⟩

set_option maxHeartbeats 400000 in
theorem open_any (w : World) (a : Option Addr) (len cap : Nat) (zs : List Int) (h : IsRowC .u8 w a len cap zs) :
    Calls Try.prog 52 #[.slice a len cap] w (OpenPost w) := by
  have H := Lib.hid h
  by_cases hl : len ≤ 2000
  · clear h
    go_enter Try.func52, Try.ntmps52
    go_wp2
    go_ret
    exact ⟨rfl, opened_mk (bytes_of_row H.out (Nat.le_refl _) hl _ (Nat.le_refl _))⟩
  · have hl' : 2000 < len := by omega
    rcases h with ⟨rfl, rfl, rfl, rfl⟩ | ⟨x, rfl, hlc, hm, hz, -, -⟩
    · omega
    · have hcap : (2000 : Int) ≤ (cap : Int) := by omega
      clear hz
      go_enter Try.func52, Try.ntmps52
      go_wp2
      go_ret
      exact ⟨rfl, opened_mk (bytes_of_row H.out (by omega) (Nat.le_refl _) _ (Nat.le_refl _))⟩

end Go.Proofs.Yteljcicdibbhdaa
