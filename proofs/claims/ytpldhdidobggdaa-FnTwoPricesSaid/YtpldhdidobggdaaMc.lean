/- Contracts on the walk over measures: spec: l4First, l4Step. Conditions: at most four worlds, at most 36 grains. -/
import Derived.Test.YtpldhdidobggdaaMb
namespace Go.Proofs.Ytpldhdidobggdaa
open Go.RowKit
set_option linter.unusedVariables false

theorem IOwn.cellk {w : World} {base g n cap : Nat} {xs : List Int} (h : IOwn w base (.slice (some ⟨g, 0, none⟩) n cap) xs) {k : Nat} {x : Int} (hx : xs[k]? = some x) : w.cell? ⟨g, k, none⟩ = some (.int .i64 x) := by
  have := IRd.cellk h.rd hx
  rwa [Nat.zero_add] at this

theorem IOwn.frz {w : World} {base g n cap : Nat} {xs : List Int} (h : IOwn w base (.slice (some ⟨g, 0, none⟩) n cap) xs) (hn : xs.length = n) (k : Nat) : w.frozen? ⟨g, k, none⟩ = false := by
  subst hn
  unfold IOwn at h
  exact h.frozenAt k

theorem IOwn.set_ {w : World} {base g n cap : Nat} {xs : List Int} (h : IOwn w base (.slice (some ⟨g, 0, none⟩) n cap) xs) (hn : xs.length = n) (k : Nat) (x : Int) :
    IOwn (w.setCell ⟨g, k, none⟩ (.int .i64 x)) base (.slice (some ⟨g, 0, none⟩) n cap) (xs.set k x) ∧ w.grownBy (w.setCell ⟨g, k, none⟩ (.int .i64 x)) (some g) := by
  subst hn
  unfold IOwn at h ⊢
  obtain ⟨h1, h2⟩ := h.stored k (.int .i64 x)
  refine ⟨?_, h2⟩
  rw [List.length_set, List.map_set]
  exact h1

theorem IOwn.form {w : World} {base : Nat} {v : Value} {xs : List Int} (h : IOwn w base v xs) (hn : 0 < xs.length) : ∃ g cap, v = .slice (some ⟨g, 0, none⟩) xs.length cap ∧ xs.length ≤ cap ∧ cap ≤ 9223372036854775807 := by
  rcases h.2 with ⟨rfl, h0⟩ | ⟨g, cap, cur, rfl, -, -, h1, h2, -, -⟩
  · omega
  · exact ⟨g, cap, rfl, h1, by rw [maxLen_is] at h2; exact h2⟩

theorem grown_grown {w w1 w2 : World} {r : Option Nat} (h : w.grownBy w1 r) (k : w1.grownBy w2 r) : w.grownBy w2 r :=
  ⟨k.os.trans h.os, k.tape.trans h.tape, k.output.trans h.output, Nat.le_trans h.size k.size, fun i hi hne => (k.block i (by have := h.size; omega) hne).trans (h.block i hi hne)⟩

/-- the next way to lay grains, in its place; and whether there is one -/
def StepPost (base : Nat) (v : Value) (l : List Nat) (w : World) (e : Ending) (w' : World) : Prop :=
  ∃ (t : Bool) (l' : List Nat), e = .returned (.bool t) ∧ stepL l = (if t = true then some l' else none) ∧ (t = false → l' = l) ∧ IOwn w' base v (natL l') ∧ w.grownBy w' v.ownBlock ∧ w'.heap.size = w.heap.size

theorem step_yes {base g n cap : Nat} {l l' : List Nat} {w w1 w2 w3 : World} {xs : List Int} (hs : stepL l = some l') (g1 : w.grownBy w1 (some g)) (g2 : w1.grownBy w2 (some g)) (g3 : w2.grownBy w3 (some g)) (o : IOwn w3 base (.slice (some ⟨g, 0, none⟩) n cap) xs) (hx : xs = natL l') (hz : w3.heap.size = w.heap.size) :
    StepPost base (.slice (some ⟨g, 0, none⟩) n cap) l w (.returned (.bool true)) w3 := by
  subst hx
  exact ⟨true, l', rfl, hs, (fun h => by cases h), o, grown_grown (grown_grown g1 g2) g3, hz⟩

theorem step_no {base : Nat} {v : Value} {l : List Nat} {w : World} (hs : stepL l = none) (o : IOwn w base v (natL l)) : StepPost base v l w (.returned (.bool false)) w :=
  ⟨false, l, rfl, hs, fun _ => rfl, o, World.grownBy.refl _ _, rfl⟩

end Go.Proofs.Ytpldhdidobggdaa
