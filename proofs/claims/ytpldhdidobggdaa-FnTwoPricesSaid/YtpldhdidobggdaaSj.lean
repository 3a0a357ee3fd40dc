/- All stakes in their order, as the program walks over them; the first that lose. Conditions: stated. -/
import Derived.Test.YtpldhdidobggdaaSc
namespace Go.Proofs.Ytpldhdidobggdaa
open Go.RowKit
set_option linter.unusedVariables false

/-- the stake that is tried in round d -/
def sAt (mo d : Nat) : Int := (d : Int) - (mo : Int)

/-- all rows that go on so, with so many stakes more, whose sum without signs is so much more -/
def layS : Nat → List Int → Nat → List (List Int)
  | 0, ts, left => if 0 < left then [] else [ts]
  | k + 1, ts, left => (List.range (2 * min left 2 + 1)).flatMap fun d => layS k (ts ++ [sAt (min left 2) d]) (left - (sAt (min left 2) d).natAbs)

/-- those of the first rounds -/
def doneS (k : Nat) (ts : List Int) (left e : Nat) : List (List Int) := (List.range e).flatMap fun d => layS k (ts ++ [sAt (min left 2) d]) (left - (sAt (min left 2) d).natAbs)

theorem done_zero (k : Nat) (ts : List Int) (left : Nat) : doneS k ts left 0 = [] := rfl

theorem done_succ (k : Nat) (ts : List Int) (left e : Nat) : doneS k ts left (e + 1) = doneS k ts left e ++ layS k (ts ++ [sAt (min left 2) e]) (left - (sAt (min left 2) e).natAbs) := by
  rw [doneS, doneS, List.range_succ, List.flatMap_append]
  simp

theorem done_all (k : Nat) (ts : List Int) (left : Nat) : doneS k ts left (2 * min left 2 + 1) = layS (k + 1) ts left := rfl

theorem done_more (k : Nat) (ts : List Int) (left e d : Nat) : doneS k ts left e <+: doneS k ts left (e + d) := by
  induction d with
  | zero => exact List.prefix_refl _
  | succ d ih => exact ih.trans (by rw [← Nat.add_assoc, done_succ]; exact List.prefix_append _ _)

theorem done_pre (k : Nat) (ts : List Int) (left : Nat) {e : Nat} (h : e ≤ 2 * min left 2 + 1) : doneS k ts left e <+: layS (k + 1) ts left := by
  obtain ⟨d, hd⟩ : ∃ d, 2 * min left 2 + 1 = e + d := ⟨_, (Nat.add_sub_of_le h).symm⟩
  rw [← done_all, hd]
  exact done_more _ _ _ _ _

/-- all rows of so many stakes -/
def stAll (c : Nat) : List (List Int) := (List.range (2 * c + 1)).flatMap fun s => layS c [] s

/-- those of the first sums -/
def stTo (c e : Nat) : List (List Int) := (List.range e).flatMap fun s => layS c [] s

theorem stTo_zero (c : Nat) : stTo c 0 = [] := rfl

theorem stTo_succ (c e : Nat) : stTo c (e + 1) = stTo c e ++ layS c [] e := by
  rw [stTo, stTo, List.range_succ, List.flatMap_append]
  simp

theorem stTo_all (c : Nat) : stTo c (2 * c + 1) = stAll c := rfl

theorem stTo_more (c e d : Nat) : stTo c e <+: stTo c (e + d) := by
  induction d with
  | zero => exact List.prefix_refl _
  | succ d ih => exact ih.trans (by rw [← Nat.add_assoc, stTo_succ]; exact List.prefix_append _ _)

theorem stTo_pre (c : Nat) {e : Nat} (h : e ≤ 2 * c + 1) : stTo c e <+: stAll c := by
  obtain ⟨d, hd⟩ : ∃ d, 2 * c + 1 = e + d := ⟨_, (Nat.add_sub_of_le h).symm⟩
  rw [← stTo_all, hd]
  exact stTo_more _ _ _

theorem all_tab : ∀ c : Fin 4, stAll c = (List.range 7).flatMap fun s => stks c s := by decide +kernel

theorem find_in {n : Int} {qs : List Qt} (hb : bokB n qs = true) (sum : Nat) : (stks qs.length sum).find? (lossB n qs) = loseIn n qs sum := by
  rw [loseIn]
  have h : ∀ l : List (List Int), (∀ ss ∈ l, ss ∈ stks qs.length sum) → l.find? (lossB n qs) = l.find? fun ss => losesB (balL n qs ss) := by
    intro l hl
    induction l with
    | nil => rfl
    | cons a l ih =>
      obtain ⟨h1, h2, -⟩ := (mem_stks _ _ _).1 (hl a (by simp))
      rw [List.find?_cons, List.find?_cons, loss_two hb h1 h2, ih (fun ss hs => hl ss (by simp [hs]))]
  exact h _ (fun _ h => h)

/-- stakes of nothing lose nothing -/
theorem lose_zero {n : Int} {qs : List Qt} (hb : bokB n qs = true) : loseIn n qs 0 = none := by
  cases h : loseIn n qs 0 with
  | none => rfl
  | some ss =>
    obtain ⟨h1, h2, h3, h4⟩ := loseIn_some h
    have := zero_loses (balB_two hb h1 h2) h3
    rw [h4] at this; cases this

theorem losing_all {n : Int} {qs : List Qt} (hb : bokB n qs = true) : losing n qs = (stAll qs.length).find? (lossB n qs) := by
  have hq3 : qs.length ≤ 3 := ((bokB_iff _ _).1 hb).2.1
  have ht := all_tab ⟨qs.length, by omega⟩
  have ht : stAll qs.length = (List.range 7).flatMap fun s => stks qs.length s := ht
  have hr : List.range 7 = [0, 1, 2, 3, 4, 5, 6] := rfl
  rw [ht, loss_yes hb, List.find?_flatMap, hr]
  have hf : (fun s => (stks qs.length s).find? (lossB n qs)) = loseIn n qs := funext fun s => find_in hb s
  rw [hf]
  simp only [List.findSome?_cons, lose_zero hb, List.findSome?_nil, loseFrom, Nat.reduceAdd]
  cases loseIn n qs 1 <;> cases loseIn n qs 2 <;> cases loseIn n qs 3 <;> cases loseIn n qs 4 <;> cases loseIn n qs 5 <;> cases loseIn n qs 6 <;> rfl

theorem all_hit {n : Int} {qs : List Qt} (hb : bokB n qs = true) {pre : List (List Int)} {x : List Int} (h : (pre ++ [x]) <+: stAll qs.length) (hp : ∀ y ∈ pre, lossB n qs y = false) (hx : lossB n qs x = true) :
    lossOk n qs = true ∧ lossR n qs = x := by
  obtain ⟨r, hr⟩ := h
  have hl : losing n qs = some x := by
    rw [losing_all hb, ← hr, List.append_assoc, List.find?_append, List.find?_eq_none.2 (fun y hy => by rw [hp y hy]; simp)]
    simp [hx]
  rw [lossOk, lossR, hl]
  exact ⟨rfl, rfl⟩

theorem all_miss {n : Int} {qs : List Qt} (hb : bokB n qs = true) (hp : ∀ y ∈ stAll qs.length, lossB n qs y = false) : lossOk n qs = false ∧ lossR n qs = [] := by
  have hl : losing n qs = none := by
    rw [losing_all hb]
    exact List.find?_eq_none.2 (fun y hy => by rw [hp y hy]; simp)
  rw [lossOk, lossR, hl]
  exact ⟨rfl, rfl⟩

end Go.Proofs.Ytpldhdidobggdaa
