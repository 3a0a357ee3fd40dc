/- What the walks over rows of ints and over the reader share. Conditions: stated at each. -/
import Derived.Test.YteljcicdibbhdaaRow
namespace Go.Proofs.Yteljcicdibbhdaa
open Go.RowKit
set_option linter.unusedVariables false

theorem ret_pair {a : Int} {b c : Bool} (h : b = c) : Ending.returned (.tuple #[.int .i64 a, .bool b]) = .returned (.tuple #[.int .i64 a, .bool c]) := by rw [h]

theorem SameAt.grow {w w' : World} {v : Value} {o : Obj} (h : w' = w.alloc o) : SameAt w w' v := by
  subst h
  exact ⟨by simp, fun g _ hg => Below.heap_alloc w o g hg⟩

theorem grown_after {w w1 w2 : World} {row : Option Nat} (h : Below w.heap.size w w1) (k : w1.grownBy w2 row) : w.grownBy w2 row :=
  ⟨k.os.trans h.os, k.tape.trans h.tape, k.output.trans h.output, Nat.le_trans h.size k.size, fun i hi hne => (k.block i (Nat.lt_of_lt_of_le hi h.size) hne).trans (h.block i hi)⟩

theorem grown_alloc2 {w w' : World} {o o' : Obj} {row : Option Nat} (h : ((w.alloc o).alloc o').grownBy w' row) : w.grownBy w' row :=
  grown_after (((Below.refl _ _).alloc (Nat.le_refl _) o).alloc (by simp) o') h

/-- the row v has grown by x, or lies anew -/
def GrownRow (base : Nat) (v : Value) (ys : List Int) (w : World) (e : Ending) (w' : World) : Prop := ∃ v', e = .returned v' ∧ IOwn w' base v' ys ∧ w.grownBy w' v.ownBlock

theorem one_int {x : Int} : ∀ u ∈ [Value.int .i64 x], u.oneCell' = true := by
  intro u hu
  rw [List.mem_singleton] at hu
  subst hu
  rfl

theorem one_new (w : World) (x : Value) (t : TypeId) : ∀ j u, [x][j]? = some u → (w.alloc (.cells #[x] t)).cell? ((⟨w.heap.size, 0, none⟩ : Addr).add j) = some u := by
  intro j u hu
  rcases j with _ | j
  · simp at hu; subst hu; simp [Addr.add]
  · simp at hu

theorem nil_own (w : World) (base : Nat) : IOwn w base (.slice none 0 0) [] := by simpa [IOwn] using World.ownsRow_nil w base 3 1

theorem below_drewN {B : Nat} {w w' : World} (h : Below B w w') (q : Nat) : Below B w (w'.drewN q) := ⟨h.os, h.tape, h.output, h.size, h.block⟩

theorem decide_self {xs : List Int} : decide (xs = xs) = true := by simp

/-- below B the second step keeps what the first one kept -/
theorem below_step {B : Nat} {w w1 w2 : World} (h : Below B w w1) (k : Below w1.heap.size w1 w2) (hB : B ≤ w1.heap.size) : Below B w w2 := h.trans (k.mono hB)

theorem below_grown {B : Nat} {w w1 w2 : World} {v : Value} {base : Nat} {xs : List Int} (h : Below B w w1) (k : w1.grownBy w2 v.ownBlock) (o : IOwn w1 base v xs) (hb : B ≤ base) (hB : B ≤ w1.heap.size) : Below B w w2 :=
  h.grown k hB (fun g hg => by have := (o.ge g hg).1; omega)

theorem own_far {w1 : World} {v u : Value} {base : Nat} {xs : List Int} (o : IOwn w1 base v xs) (h : ∀ g, u.ownBlock = some g → g < base) : u.ownBlock = none ∨ u.ownBlock ≠ v.ownBlock := by
  rcases hu : u.ownBlock with _ | g
  · exact .inl rfl
  · refine .inr fun e => ?_
    have h1 := h g hu
    have h2 := (o.ge g e.symm).1
    omega

theorem own_far' {w1 : World} {v u : Value} {B : Nat} {ys : List Int} (p : IOwn w1 B u ys) (h : ∀ g, v.ownBlock = some g → g < B) : u.ownBlock = none ∨ u.ownBlock ≠ v.ownBlock := by
  rcases hu : u.ownBlock with _ | g
  · exact .inl rfl
  · refine .inr fun e => ?_
    have h1 := h g e.symm
    have h2 := (p.ge g hu).1
    omega

theorem ird_drewN {W wr : World} {v : Value} {xs : List Int} {q : Nat} (h : IRd W v xs) (e : wr = W.drewN q) : IRd wr v xs := by
  subst e; exact h

theorem drewN_on {W wr : World} {q : Nat} (e : wr = W.drewN q) (n : Nat) : wr.drewN n = W.drewN (q + n) := by
  subst e; exact World.drewN_drewN _ _ _

theorem Opened.picked {w w1 w2 : World} {P : Nat} (h : Opened w w1) (k : Picked w.heap.size P w1 w2) : Below w.heap.size w w2 :=
  h.below.trans (k.below (Nat.le_refl _) (by have := h.size; omega))

def OddPost (R P : Nat) (w : World) (e : Ending) (w' : World) : Prop := ∃ b : Bool, e = .returned (.bool b) ∧ Picked R P w w'

set_option maxHeartbeats 400000 in
theorem odd_any (w : World) (R P : Nat) (n : Int) (hn : 1 ≤ n) (hn2 : n ≤ 1000000) (hP : P ≤ 1000000) (h : Rd w R P) :
    Calls Try.prog 99 #[.pointer (some ⟨R, 0, none⟩), .int .i64 n] w (OddPost R (P + 1) w) := by
  have hn0 : 0 < n := by omega
  go_enter Try.func99, Try.ntmps99
  go_wp2_with fail
  refine (pick_any _ R P _ hP h).mono ?_
  rintro e w2 ⟨v1, rfl, -, k1⟩
  go_wp2_with fail
  go_ret
  exact ⟨_, rfl, k1⟩

/-- what the loop of draws keeps: the reader, the row behind it, all that was there -/
def DrawRel (w : World) (R P : Nat) (v : Value) (xs : List Int) (wr : World) : Prop := Rd wr R P ∧ IOwn wr (R + 1) v xs ∧ Below w.heap.size w wr ∧ w.heap.size ≤ R

theorem DrawRel.picked {w wr w' : World} {R P Q : Nat} {v : Value} {xs : List Int} (h : DrawRel w R P v xs wr) (k : Picked R Q wr w') : DrawRel w R Q v xs w' := by
  obtain ⟨h1, h2, h3, h4⟩ := h
  refine ⟨k.rd, h2.keep (SameAt.of_grown k.grown ?_), h3.trans (k.below h4 h1.lt), h4⟩
  rcases hv : v.ownBlock with _ | g
  · exact .inl rfl
  · refine .inr fun e => ?_
    have := (h2.ge g hv).1
    injection e with e
    omega

theorem DrawRel.append {w wr w' : World} {R P : Nat} {v v' : Value} {xs ys : List Int} (h : DrawRel w R P v xs wr) (ho : IOwn w' (R + 1) v' ys) (hg : wr.grownBy w' v.ownBlock) : DrawRel w R P v' ys w' := by
  obtain ⟨h1, h2, h3, h4⟩ := h
  have hr := h1.lt
  exact ⟨h1.grown hg (fun g hg' => by have := (h2.ge g hg').1; omega), ho, h3.grown hg (by omega) (fun g hg' => by have := (h2.ge g hg').1; omega), h4⟩

end Go.Proofs.Yteljcicdibbhdaa
