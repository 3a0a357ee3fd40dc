/- The contract of spec.ReadWager. Conditions: a text of at most two million bytes. (gen_zd.py) -/
import Derived.Test.YtfdlfgokoponmaaZc
import Derived.Test.YtfdlfgokoponmaaXn
namespace Go.Proofs.Ytfdlfgokoponmaa
open Go.RowKit
set_option linter.unusedVariables false

theorem TOwn.cell {w : World} {base g n c : Nat} {ps : List ByteArray} (h : TOwn w base (.slice (some ⟨g, 0, none⟩) n c) ps) {k : Nat} {p : ByteArray} (hu : ps[k]? = some p) : w.cell? ⟨g, k, none⟩ = some (.string p) := by
  have hk : k < ps.length := (List.getElem?_eq_some_iff.1 hu).1
  have hn : n = ps.length := by
    rcases h.2 with ⟨e, -⟩ | ⟨g', cap, cur, e, -⟩
    · cases e
    · injection e with e1 e2 e3
  subst hn
  have := World.ownsRow.cellAt h k (by omega)
  rw [this, List.getElem?_map, hu]; rfl

theorem TOwn.below {w w' : World} {base : Nat} {v : Value} {ps : List ByteArray} (h : TOwn w base v ps) (hb : Below w.heap.size w w') : TOwn w' base v ps := by
  refine ⟨h.1, ?_⟩
  rcases h.2 with hn | ⟨g, cap, cur, rfl, hb', hg, rest⟩
  · exact .inl hn
  · exact .inr ⟨g, cap, cur, rfl, hb', (hb.block g (Array.getElem?_eq_some_iff.1 hg).1).trans hg, rest⟩

/-- a wager that was read, or none -/
def WRead (S : ByteArray) (w : World) (e : Ending) (w' : World) : Prop := ∃ v, e = .returned (.tuple #[.agg #[.int .i64 (rwS S), v, .int .i64 (rwP S)], .bool (rwB S)]) ∧ MOwn w' w.heap.size v (rwL S) ∧ Below w.heap.size w w'

theorem wread_no {S : ByteArray} {w w1 : World} (h : ∀ s T p, ¬ WReadsB (bs S) s T p) (b : Below w.heap.size w w1) : WRead S w (.returned (.tuple #[.agg #[.int .i64 0, .slice none 0 0, .int .i64 0], .bool false])) w1 := by
  obtain ⟨h1, h2, h3, h4⟩ := rw_no h
  exact ⟨.slice none 0 0, by rw [h1, h2, h4], by rw [h3]; exact GOwn.nil _ _ _ _ _, b⟩

theorem wread_yes {S : ByteArray} {w w1 : World} {v : Value} {s : Int} {T : Tm} {p : Int} (h : WReadsB (bs S) s T p) (o : MOwn w1 w.heap.size v (encT T)) (b : Below w.heap.size w w1) : WRead S w (.returned (.tuple #[.agg #[.int .i64 s, v, .int .i64 p], .bool true])) w1 := by
  obtain ⟨h1, h2, h3, h4⟩ := rw_yes h
  exact ⟨v, by rw [h1, h2, h4], by rw [h3]; exact o, b⟩

theorem read_facts {S A B C D : ByteArray} (h1 : [A, B].map bs = cutF 42 (bs S)) (h2 : [C, D].map bs = cutF 64 (bs B)) {s : Int} {T : Tm} {p : Int} (h : WReadsB (bs S) s T p) : bs A = num s ∧ bs C = txtT T ∧ bs D = num p := by
  obtain ⟨e1, e2⟩ := h.cuts
  rw [e1] at h1
  injection h1 with a1 a2
  injection a2 with a2 _
  rw [a2, e2] at h2
  injection h2 with b1 b2
  injection b2 with b2 _
  exact ⟨a1, b1, b2⟩

theorem cut_first {S : ByteArray} {ps : List ByteArray} (h1 : ps.map bs = cutF 42 (bs S)) (hl : ps.length ≠ 2) : ∀ s T p, ¬ WReadsB (bs S) s T p := by
  intro s T p h
  rw [h.cuts.1] at h1
  have := congrArg List.length h1
  simp at this
  exact hl this

theorem cut_second {S A B : ByteArray} {qs : List ByteArray} (h1 : [A, B].map bs = cutF 42 (bs S)) (h2 : qs.map bs = cutF 64 (bs B)) (hl : qs.length ≠ 2) : ∀ s T p, ¬ WReadsB (bs S) s T p := by
  intro s T p h
  rw [h.cuts.1] at h1
  injection h1 with a1 a2
  injection a2 with a2 _
  rw [a2, h.cuts.2] at h2
  have := congrArg List.length h2
  simp at this
  exact hl this

theorem two_of {ps : List ByteArray} (h : ps.length = 2) : ∃ A B, ps = [A, B] := by
  match ps, h with
  | [A, B], _ => exact ⟨A, B, rfl⟩

theorem nonempty_cut {S A B : ByteArray} (h1 : [A, B].map bs = cutF 42 (bs S)) : bs S ≠ [] := by
  intro e
  rw [e, cut_nil] at h1
  have := congrArg List.length h1
  simp at this

/-- what is read back is the wager of the text -/
theorem read_back {S A B : ByteArray} (h1 : [A, B].map bs = cutF 42 (bs S)) {st : Int} {t : List Mk} {p : Int} (h : wgT st t p = bs S) : ∃ T, encT T = t ∧ WReadsB (bs S) st T p := by
  cases hb : wgB st t p with
  | false => rw [wgT_no hb] at h; exact absurd h.symm (nonempty_cut h1)
  | true =>
    obtain ⟨T, e, hT⟩ := wreads_of hb
    rw [h] at hT
    exact ⟨T, e, hT⟩

theorem set1_grown (X : World) (g k : Nat) (u : Value) : X.grownBy (X.setCell ⟨g, k, none⟩ u) (some g) :=
  ⟨rfl, rfl, rfl, by simp [World.setCell], fun b hb hne => Below.heap_setCell X ⟨g, k, none⟩ u b (fun e => hne (by rw [e]))⟩

theorem grow3 {w w1 w2 : World} {r : Option Nat} (h : w.grownBy w1 r) (k : w1.grownBy w2 r) : w.grownBy w2 r :=
  ⟨k.os.trans h.os, k.tape.trans h.tape, k.output.trans h.output, Nat.le_trans h.size k.size, fun i hi hne => (k.block i (Nat.lt_of_lt_of_le hi h.size) hne).trans (h.block i hi hne)⟩

theorem set3_grown (X : World) (g : Nat) (u0 u1 u2 : Value) : X.grownBy (((X.setCell ⟨g, 0, none⟩ u0).setCell ⟨g, 1, none⟩ u1).setCell ⟨g, 2, none⟩ u2) (some g) :=
  grow3 (grow3 (set1_grown X g 0 u0) (set1_grown _ g 1 u1)) (set1_grown _ g 2 u2)

theorem MOwn.kept {X X' : World} {base g : Nat} {v : Value} {ms : List Mk} (o : MOwn X base v ms) (hg : X.grownBy X' (some g)) (hb : g < base) : MOwn X' base v ms := by
  refine GOwn.keep o (SameAt.of_grown hg ?_)
  rcases hv : v.ownBlock with _ | b
  · exact .inl rfl
  · refine .inr fun e => ?_
    have := (GOwn.ge o b hv).1
    injection e with e
    omega

/-- the zero wager's block -/
theorem zero_blk (w : World) (wr : World) (h : Below (w.alloc (.cells #[.int .i64 0, .slice none 0 0, .int .i64 0] 25)).heap.size (w.alloc (.cells #[.int .i64 0, .slice none 0 0, .int .i64 0] 25)) wr) : Blk wr w.heap.size 25 #[.int .i64 0, .slice none 0 0, .int .i64 0] := by
  have h1 : Blk (w.alloc (.cells #[.int .i64 0, .slice none 0 0, .int .i64 0] 25)) w.heap.size 25 #[.int .i64 0, .slice none 0 0, .int .i64 0] := heap_alloc_new w _
  exact (h.block w.heap.size (by simp)).trans h1

end Go.Proofs.Ytfdlfgokoponmaa
