/- Rows of bets, and the laws' helpers over them: toBet, toBetS, szBetS, eqBet, eqBetS, sameBets, markBetS, heldBetS. Conditions: stated at each. -/
import Derived.Test.YteljcicdibbhdaaUa
import Derived.Test.YteljcicdibbhdaaQf
import Derived.Test.YteljcicdibbhdaaRh
import Derived.BigRegion
namespace Go.Proofs.Yteljcicdibbhdaa
open Go.RowKit
set_option linter.unusedVariables false

/-- the cells of a bet -/
def bC (b : Bt) : List Value := [.int .i64 b.1, .int .i64 b.2.1, .int .i64 b.2.2]

theorem bC_len (b : Bt) : (bC b).length = 3 := rfl

abbrev BRd (w : World) (v : Value) (bs : List Bt) : Prop := GRd 3 bC w v bs

/-- a bet by value -/
def bV (b : Bt) : Value := .agg #[.int .i64 b.1, .int .i64 b.2.1, .int .i64 b.2.2]

theorem BRd.at_ {w : World} {A : Option Addr} {n cp : Nat} {bs : List Bt} (h : BRd w (.slice A n cp) bs) {k : Nat} (hk : k < n) :
    ∃ b off q, A = some ⟨b, off, none⟩ ∧ b < w.heap.size ∧ bs[k]? = some q ∧ w.cell? ⟨b, off + k * 3, none⟩ = some (.int .i64 q.1) ∧ w.cell? ⟨b, off + k * 3 + 1, none⟩ = some (.int .i64 q.2.1) ∧ w.cell? ⟨b, off + k * 3 + 2, none⟩ = some (.int .i64 q.2.2) := by
  obtain ⟨b, off, q, hA, hb, hx, hc⟩ := GRd.at_ h hk
  exact ⟨b, off, q, hA, hb, hx, hc 0 _ rfl, hc 1 _ rfl, hc 2 _ rfl⟩

theorem beq_false1 {a b c d e f : Int} (h : (a != d) = true) : decide ((a, b, c) = (d, e, f)) = false := by
  rw [decide_eq_false_iff_not]
  intro h2
  injection h2 with e1 e2
  simp [e1] at h

theorem beq_false2 {a b c d e f : Int} (h : (b != e) = true) : decide ((a, b, c) = (d, e, f)) = false := by
  rw [decide_eq_false_iff_not]
  intro h2
  injection h2 with e1 e2
  injection e2 with e3 e4
  simp [e3] at h

theorem beq_false3 {a b c d e f : Int} (h : (c != f) = true) : decide ((a, b, c) = (d, e, f)) = false := by
  rw [decide_eq_false_iff_not]
  intro h2
  injection h2 with e1 e2
  injection e2 with e3 e4
  simp [e4] at h

/-- up to place k both rows are alike -/
def bagree (xs ys : List Bt) (k : Nat) : Prop := ∀ i, i < k → xs[i]? = ys[i]?

theorem bagree_all {xs ys : List Bt} (hl : xs.length = ys.length) (h : bagree xs ys xs.length) : xs = ys := by
  apply List.ext_getElem?
  intro i
  by_cases hi : i < xs.length
  · exact h i hi
  · rw [List.getElem?_eq_none (by omega), List.getElem?_eq_none (by omega)]

theorem bagree_succ {xs ys : List Bt} {k : Nat} (h : bagree xs ys k) (hk : xs[k]? = ys[k]?) : bagree xs ys (k + 1) := by
  intro i hi
  rcases Nat.lt_succ_iff_lt_or_eq.1 hi with h1 | h1
  · exact h i h1
  · subst h1; exact hk

def BEqPost (xs ys : List Bt) (w : World) (e : Ending) (w' : World) : Prop := e = .returned (.bool (decide (xs = ys))) ∧ Below w.heap.size w w'

/-- the numbers from k on, three for each bet -/
def bUp (q : Int) (xs : List Bt) (k : Nat) : List Bt := (List.range k).map (fun i : Nat => (q + 3 * (i : Int), q + 3 * (i : Int) + 1, q + 3 * (i : Int) + 2)) ++ xs.drop k

theorem bUp_len (q : Int) (xs : List Bt) {k : Nat} (hk : k ≤ xs.length) : (bUp q xs k).length = xs.length := by simp [bUp]; omega

theorem bUp_set (q : Int) (xs : List Bt) {k : Nat} (hk : k < xs.length) : (bUp q xs k).set k (q + 3 * (k : Int), q + 3 * (k : Int) + 1, q + 3 * (k : Int) + 2) = bUp q xs (k + 1) := by
  unfold bUp
  rw [List.set_append_right _ _ (by simp), List.length_map, List.length_range, Nat.sub_self, List.drop_eq_getElem_cons hk, List.set_cons_zero, List.range_succ, List.map_append, List.append_assoc]
  rfl

theorem bUp_zero (q : Int) (xs : List Bt) : bUp q xs 0 = xs := by simp [bUp]

theorem bUp_at (q : Int) (xs : List Bt) {k : Nat} (hk : k < xs.length) : (bUp q xs xs.length)[k]? = some (q + 3 * (k : Int), q + 3 * (k : Int) + 1, q + 3 * (k : Int) + 2) := by
  unfold bUp
  rw [List.getElem?_append_left (by simp; omega), List.getElem?_map, List.getElem?_range hk]; rfl

end Go.Proofs.Yteljcicdibbhdaa
