/- The search for losing stakes as a function of lists. No condition. Contracts on spec's chapter 5: LosesBy. No condition. Contracts on spec's chapter 5: l5Search. Conditions: stated at each. Contracts on spec's chapter 5: LosingStakes, SafeOk, SureLossOf. Conditions: stated at each. -/
import Derived.Test.YteljcicdibbhdaaSx
import Derived.Test.YteljcicdibbhdaaQi
import Derived.Test.YteljcicdibbhdaaMe
import Derived.Laws.AppendOwnNone
namespace Go.Proofs.Yteljcicdibbhdaa
set_option linter.unusedVariables false

/-- stakes surely lose -/
def lossB (n : Int) (qs : List Qt) (ss : List Int) : Bool := balB n qs ss && losesB (balL n qs ss)

theorem loss_two {n : Int} {qs : List Qt} {ss : List Int} (hb : bokB n qs = true) (hl : ss.length = qs.length) (h2 : Two2 ss) : lossB n qs ss = losesB (balL n qs ss) := by
  rw [lossB, balB_two hb hl h2, Bool.true_and]

/-- the first stakes that go on these, k more, with so much left -/
def searchL (n : Int) (qs : List Qt) (ts : List Int) (k : Nat) (left : Int) : List Int :=
  match (stks k left.toNat).find? fun t => losesB (balL n qs (ts ++ t)) with
  | some t => ts ++ t
  | none => []

theorem search_zero (n : Int) (qs : List Qt) (ts : List Int) {left : Int} (h0 : 0 ≤ left) : searchL n qs ts 0 left = if (left == 0 && losesB (balL n qs ts)) = true then ts else [] := by
  unfold searchL stks
  by_cases h : left = 0
  · subst h
    simp only [Int.toNat_zero, if_true, List.find?_cons, List.append_nil, beq_self_eq_true, Bool.true_and]
    cases hb : losesB (balL n qs ts) <;> simp
  · have h1 : ¬ left.toNat = 0 := by omega
    have h2 : (left == 0) = false := by simp [h]
    rw [if_neg h1, h2]
    simp

def subL (n : Int) (qs : List Qt) (ts : List Int) (k : Nat) (left s : Int) : List Int :=
  if (s.natAbs : Int) ≤ left then searchL n qs (ts ++ [s]) k (left - s.natAbs) else []

def overL (n : Int) (qs : List Qt) (ts : List Int) (k : Nat) (left : Int) : List Int → List Int
  | [] => []
  | s :: l => match subL n qs ts k left s with
    | [] => overL n qs ts k left l
    | x :: xs => x :: xs

theorem search_flat (n : Int) (qs : List Qt) (ts : List Int) (k : Nat) {left : Int} (h0 : 0 ≤ left) (l : List Int) :
    (match ((l.filter fun s => decide (s.natAbs ≤ left.toNat)).flatMap fun s => (stks k (left.toNat - s.natAbs)).map fun t => s :: t).find? fun t => losesB (balL n qs (ts ++ t)) with
      | some t => ts ++ t
      | none => []) = overL n qs ts k left l := by
  induction l with
  | nil => rfl
  | cons s l ih =>
    unfold overL
    by_cases h : s.natAbs ≤ left.toNat
    · rw [List.filter_cons, if_pos (by simpa using h), List.flatMap_cons, List.find?_append]
      have e1 : (left - (s.natAbs : Int)).toNat = left.toNat - s.natAbs := by omega
      rw [subL, if_pos (by omega), searchL, e1]
      rw [List.find?_map]
      have e2 : ((fun t => losesB (balL n qs (ts ++ t))) ∘ fun t => s :: t) = fun t => losesB (balL n qs (ts ++ [s] ++ t)) := by
        funext t; simp [Function.comp]
      rw [e2]
      cases hf : (stks k (left.toNat - s.natAbs)).find? fun t => losesB (balL n qs (ts ++ [s] ++ t)) with
      | none => simpa using ih
      | some t =>
        obtain ⟨y, ys, hy⟩ : ∃ y ys, ts ++ [s] ++ t = y :: ys := by
          cases ts with
          | nil => exact ⟨s, t, rfl⟩
          | cons a b => exact ⟨a, b ++ [s] ++ t, rfl⟩
        have hz : ts ++ s :: t = y :: ys := by rw [← hy]; simp
        simp only [Option.map_some, Option.some_or, hz, hy]
    · rw [List.filter_cons, if_neg (by simpa using h)]
      rw [subL, if_neg (by omega)]
      exact ih

theorem search_succ (n : Int) (qs : List Qt) (ts : List Int) (k : Nat) {left : Int} (h0 : 0 ≤ left) : searchL n qs ts (k + 1) left = overL n qs ts k left tries := by
  rw [searchL, stks]
  exact search_flat n qs ts k h0 tries

theorem over_skip {n : Int} {qs : List Qt} {ts : List Int} {k : Nat} {left s : Int} {l : List Int} (h : subL n qs ts k left s = []) : overL n qs ts k left (s :: l) = overL n qs ts k left l := by
  rw [overL, h]

theorem over_stop {n : Int} {qs : List Qt} {ts : List Int} {k : Nat} {left s : Int} {l : List Int} (h : 0 < (subL n qs ts k left s).length) : overL n qs ts k left (s :: l) = subL n qs ts k left s := by
  rw [overL]
  cases hx : subL n qs ts k left s with
  | nil => rw [hx] at h; exact absurd h (Nat.lt_irrefl 0)
  | cons y ys => rfl

theorem sub_far {n : Int} {qs : List Qt} {ts : List Int} {k : Nat} {left s : Int} (h : left < (s.natAbs : Int)) : subL n qs ts k left s = [] := by
  rw [subL, if_neg (by omega)]

theorem sub_near {n : Int} {qs : List Qt} {ts : List Int} {k : Nat} {left s : Int} (h : (s.natAbs : Int) ≤ left) : subL n qs ts k left s = searchL n qs (ts ++ [s]) k (left - s.natAbs) := by
  rw [subL, if_pos h]

theorem search_len {n : Int} {qs : List Qt} {ts : List Int} {k : Nat} {left : Int} : (searchL n qs ts k left).length = 0 ∨ (searchL n qs ts k left).length = ts.length + k := by
  unfold searchL
  split
  · rename_i t ht
    have := ((mem_stks _ _ _).1 (List.mem_of_find?_eq_some ht)).1
    exact .inr (by rw [List.length_append, this])
  · exact .inl rfl

/-- the search from nothing on is the first losing stakes of this sum -/
theorem search_lose {n : Int} {qs : List Qt} {sum : Nat} (h1 : 1 ≤ sum) : loseIn n qs sum = if 0 < (searchL n qs [] qs.length (sum : Int)).length then some (searchL n qs [] qs.length (sum : Int)) else none := by
  rw [searchL, loseIn, Int.toNat_natCast]
  show _ = _
  simp only [List.nil_append]
  cases hf : (stks qs.length sum).find? fun t => losesB (balL n qs t) with
  | none => rfl
  | some t =>
    have h2 := ((mem_stks _ _ _).1 (List.mem_of_find?_eq_some hf)).2.2
    have : 0 < t.length := by
      cases t with
      | nil => simp [absSum] at h2; omega
      | cons a b => simp
    simp [this]

/-- from such a sum on, up to the sum of 6 -/
theorem lose_step {n : Int} {qs : List Qt} {sum m : Nat} : loseFrom n qs sum (m + 1) = match loseIn n qs sum with
    | some ss => some ss
    | none => loseFrom n qs (sum + 1) m := rfl

/-- what is handed back -/
def lossR (n : Int) (qs : List Qt) : List Int := (losing n qs).getD []

def lossOk (n : Int) (qs : List Qt) : Bool := (losing n qs).isSome

theorem loss_no {n : Int} {qs : List Qt} (h : bokB n qs = false) : lossR n qs = [] ∧ lossOk n qs = false := by
  rw [lossR, lossOk, losing, h]; exact ⟨rfl, rfl⟩

theorem loss_yes {n : Int} {qs : List Qt} (h : bokB n qs = true) : losing n qs = loseFrom n qs 1 6 := by rw [losing, if_pos h]

end Go.Proofs.Yteljcicdibbhdaa

namespace Go.Proofs.Yteljcicdibbhdaa
open Go.RowKit
set_option linter.unusedVariables false

end Go.Proofs.Yteljcicdibbhdaa

namespace Go.Proofs.Yteljcicdibbhdaa
open Go.RowKit
set_option linter.unusedVariables false

theorem ints_one' (ys : List Int) : ∀ u ∈ ys.map (Value.int .i64), u.oneCell' = true := by
  intro u hu
  obtain ⟨x, -, rfl⟩ := List.mem_map.1 hu
  rfl

/-- some row of ints, which the call owns -/
def Rows (base : Nat) (xs : List Int) (w : World) (e : Ending) (w' : World) : Prop := ∃ v, e = .returned v ∧ IOwn w' base v xs ∧ Below w.heap.size w w'

theorem rows_ret {w w' : World} {base : Nat} {xs ys : List Int} {v : Value} (h : xs = ys) (o : IOwn w' base v ys) (b : Below w.heap.size w w') : Rows base xs w (.returned v) w' := by
  subst h; exact ⟨v, rfl, o, b⟩

theorem ird_news {w : World} {g n c : Nat} {ts : List Int} (h : IRd w (.slice (some ⟨g, 0, none⟩) n c) ts) : ∀ j u, (ts.map (Value.int .i64))[j]? = some u → w.cell? ((⟨g, 0, none⟩ : Addr).add j) = some u := by
  intro j u hu
  rw [List.getElem?_map] at hu
  cases hx : ts[j]? with
  | none => rw [hx] at hu; cases hu
  | some x =>
    rw [hx] at hu
    obtain rfl := Option.some.inj hu
    have := IRd.cellk h hx
    rw [addr_add]
    exact this

theorem below_app {w w' : World} {o : Obj} {row : Option Nat} (hg : (w.alloc o).grownBy w' row) (hr : ∀ k, row = some k → w.heap.size ≤ k) : Below w.heap.size w w' :=
  (Below.refl _ w).grown (grown_after (w := w) ((Below.refl _ w).alloc (Nat.le_refl _) _) hg) (Nat.le_refl _) hr

/-- up to here nothing was found -/
def SrchRel (w : World) (n : Int) (qs : List Qt) (ts : List Int) (k : Nat) (left : Int) (d : Nat) (wr : World) : Prop :=
  Below w.heap.size w wr ∧ overL n qs ts k left tries = overL n qs ts k left (tries.drop d)

end Go.Proofs.Yteljcicdibbhdaa

namespace Go.Proofs.Yteljcicdibbhdaa
open Go.RowKit
set_option linter.unusedVariables false

theorem two_nil : Two2 [] := fun s hs => by cases hs

theorem lose_hit {n : Int} {qs : List Qt} {sum : Nat} {res : List Int} (h1 : 1 ≤ sum) (h6 : sum ≤ 6) (hl : losing n qs = loseFrom n qs sum (7 - sum)) (hr : searchL n qs [] qs.length (sum : Int) = res) (hp : 0 < res.length) : lossOk n qs = true ∧ lossR n qs = res := by
  have e := search_lose (n := n) (qs := qs) h1
  rw [hr, if_pos hp] at e
  have h : losing n qs = some res := by rw [hl, show 7 - sum = (6 - sum) + 1 from by omega, lose_step, e]
  rw [lossOk, lossR, h]
  exact ⟨rfl, rfl⟩

theorem lose_miss {n : Int} {qs : List Qt} {sum : Nat} {res : List Int} (h1 : 1 ≤ sum) (h6 : sum ≤ 6) (hl : losing n qs = loseFrom n qs sum (7 - sum)) (hr : searchL n qs [] qs.length (sum : Int) = res) (hp : ¬ 0 < res.length) : losing n qs = loseFrom n qs (sum + 1) (7 - (sum + 1)) := by
  have e := search_lose (n := n) (qs := qs) h1
  rw [hr, if_neg hp] at e
  rw [hl, show 7 - sum = (6 - sum) + 1 from by omega, lose_step, e, show 7 - (sum + 1) = 6 - sum from by omega]

theorem lose_end {n : Int} {qs : List Qt} (hl : losing n qs = loseFrom n qs 7 (7 - 7)) : lossOk n qs = false ∧ lossR n qs = [] := by
  have h : losing n qs = none := hl
  rw [lossOk, lossR, h]
  exact ⟨rfl, rfl⟩

def safeB (n : Int) (qs : List Qt) : Bool := bokB n qs && !lossOk n qs

/-- how much is lost at least, and whether it is told -/
def sureI (n : Int) (qs : List Qt) : Int := if lossOk n qs = true then -(bestI (balL n qs (lossR n qs))) else 0

theorem loss_got {n : Int} {qs : List Qt} (h : lossOk n qs = true) : losing n qs = some (lossR n qs) := by
  rw [lossOk] at h
  rw [lossR]
  cases hl : losing n qs with
  | none => rw [hl] at h; cases h
  | some ss => rfl

theorem loss_bal {n : Int} {qs : List Qt} (h : lossOk n qs = true) : balB n qs (lossR n qs) = true := by
  obtain ⟨h1, h2, h3, -⟩ := losing_some (loss_got h)
  exact balB_two h1 h2 h3

theorem best_small {g : List Int} (h : gokB g = true) : -1000 ≤ bestI g ∧ bestI g ≤ 1000 := by
  have := (best_greatest h).1
  exact ((gokB_iff g).1 h).2.2 _ this

end Go.Proofs.Yteljcicdibbhdaa
