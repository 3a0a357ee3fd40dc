/- What is drawn of scores: l20Seen, l20Reports, DrawScoreOf, DrawTotalScore, DrawSeenMeasure, DrawBestReport, DrawExpectedScore, DrawFarApart. Conditions: a row of bytes, or a reader. -/
import Derived.Test.YtbjmhbkpeglpkaaFg
import Derived.Test.YtbjmhbkpeglpkaaFd
import Derived.Maps.AppendAt
import Derived.Laws.AppendOwnNone
namespace Go.Proofs.Ytbjmhbkpeglpkaa
open Go.RowKit
set_option linter.unusedVariables false

/-- every block of ints stays -/
def StayI (w w' : World) : Prop := w.heap.size ≤ w'.heap.size ∧ ∀ (g : Nat) (cur : Array Value), w.heap[g]? = some (Obj.cells cur 3 (0, 0)) → w'.heap[g]? = w.heap[g]?

theorem StayI.trans {w w1 w2 : World} (h : StayI w w1) (k : StayI w1 w2) : StayI w w2 :=
  ⟨Nat.le_trans h.1 k.1, fun g cur hg => (k.2 g cur ((h.2 g cur hg).trans hg)).trans (h.2 g cur hg)⟩

theorem StayI.grown {w w' : World} {row : Option Nat} (hg : w.grownBy w' row) (hr : ∀ (g : Nat) (cur : Array Value), row = some g → w.heap[g]? ≠ some (Obj.cells cur 3 (0, 0))) : StayI w w' :=
  ⟨hg.size, fun g cur h => hg.block g (Array.getElem?_eq_some_iff.1 h).1 (fun e => hr g cur e.symm h)⟩

theorem StayI.below {w w' : World} (h : Below w.heap.size w w') : StayI w w' := ⟨h.size, fun g cur hg => h.block g (Array.getElem?_eq_some_iff.1 hg).1⟩

/-- the reader is no block of ints -/
theorem rd_noI {w : World} {R Q : Nat} (hr : Rd w R Q) (cur : Array Value) : w.heap[R]? ≠ some (Obj.cells cur 3 (0, 0)) := by
  obtain ⟨A, n, cap, p, h1, -⟩ := hr
  unfold Blk at h1
  intro hg
  rw [h1] at hg
  injection hg with hg
  injection hg with h2 h3
  exact absurd h3 (by decide)

theorem StayI.reader {w w' : World} {R Q : Nat} (hr : Rd w R Q) (k : w.grownBy w' (some R)) : StayI w w' := StayI.grown k (fun g cur e => by injection e with e; subst e; exact rd_noI hr cur)

theorem IOwn.stay {w w' : World} {base : Nat} {u : Value} {xs : List Int} (h : IOwn w base u xs) (k : StayI w w') : IOwn w' base u xs := by
  refine ⟨h.1, ?_⟩
  rcases h.2 with hn | ⟨g, cap, cur, rfl, hb, hg, rest⟩
  · exact .inl hn
  · exact .inr ⟨g, cap, cur, rfl, hb, (k.2 g cur hg).trans hg, rest⟩

/-- the row of slices v holds us -/
abbrev VOwn (w : World) (base : Nat) (v : Value) (us : List Value) : Prop := w.ownsRow base 23 1 v us.length us

theorem VOwn.stay {w w' : World} {base : Nat} {v : Value} {us : List Value} (h : VOwn w base v us) (k : w.grownBy w' v.ownBlock) : StayI w w' := by
  refine StayI.grown k (fun g cur e hg => ?_)
  rcases h.2 with ⟨rfl, -⟩ | ⟨g', cap, cur', rfl, hb, hg', rest⟩
  · cases e
  · injection e with e
    subst e
    rw [hg'] at hg
    injection hg with hg
    injection hg with h2 h3
    exact absurd h3 (by decide)

/-- each slice is a row of ints -/
def RIn (w : World) (base : Nat) (us : List Value) (rs : List (List Int)) : Prop := us.length = rs.length ∧ ∀ (i : Nat) (u : Value) (r : List Int), us[i]? = some u → rs[i]? = some r → IOwn w base u r

theorem RIn.stay {w w' : World} {base : Nat} {us : List Value} {rs : List (List Int)} (h : RIn w base us rs) (k : StayI w w') : RIn w' base us rs := ⟨h.1, fun i u r hu hr => (h.2 i u r hu hr).stay k⟩

theorem RIn.nil (w : World) (base : Nat) : RIn w base [] [] := ⟨rfl, fun i u r hu _ => by simp at hu⟩

theorem RIn.push {w : World} {base : Nat} {us : List Value} {rs : List (List Int)} {u : Value} {r : List Int} (h : RIn w base us rs) (k : IOwn w base u r) : RIn w base (us ++ [u]) (rs ++ [r]) := by
  refine ⟨by simp [h.1], fun i x X hx hX => ?_⟩
  rcases Nat.lt_or_ge i us.length with hi | hi
  · rw [List.getElem?_append_left hi] at hx
    rw [List.getElem?_append_left (by rw [← h.1]; exact hi)] at hX
    exact h.2 i x X hx hX
  · rw [List.getElem?_append_right hi] at hx
    rw [List.getElem?_append_right (by rw [← h.1]; exact hi), ← h.1] at hX
    obtain ⟨j, hj⟩ : ∃ j, i - us.length = j := ⟨_, rfl⟩
    rw [hj] at hx hX
    match j, hx, hX with
    | 0, hx, hX =>
      obtain rfl := Option.some.inj hx
      obtain rfl := Option.some.inj hX
      exact k
    | j + 1, hx, hX => simp at hx

theorem srd_of {w : World} {base : Nat} {v : Value} {us : List Value} {rs : List (List Int)} (h : VOwn w base v us) (k : RIn w base us rs) : SRd w v rs := by
  have hg : GOwn 23 1 sV w base v us := by unfold GOwn; rw [flat_sV]; exact h
  exact ⟨us, k.1, hg.rd sV_len, fun i u r hu hr => (k.2 i u r hu hr).rd⟩

/-- seen worlds that were drawn -/
def SeenPost (w : World) (R P : Nat) (e : Ending) (w' : World) : Prop := ∃ v xs, e = .returned v ∧ GamRel w R P v xs w' ∧ xs.length ≤ 24

def manyL : List Int := [1, 2, 3, 4, 6, 9, 12, 5]

theorem many_at {j : Nat} (h : j < 8) : ∃ M, manyL[j]? = some M ∧ 1 ≤ M ∧ M ≤ 12 := by
  obtain rfl | rfl | rfl | rfl | rfl | rfl | rfl | rfl : j = 0 ∨ j = 1 ∨ j = 2 ∨ j = 3 ∨ j = 4 ∨ j = 5 ∨ j = 6 ∨ j = 7 := by omega
  all_goals exact ⟨_, rfl, by decide, by decide⟩

/-- a number of worlds, and worlds that turned out -/
def DrawNumI (w : World) (e : Ending) (w' : World) : Prop := ∃ (n : Int) (v : Value) (xs : List Int), e = .returned (.tuple #[.int .i64 n, v]) ∧ 1 ≤ n ∧ n ≤ 4 ∧ IOwn w' w.heap.size v xs ∧ xs.length ≤ 24 ∧ Below w.heap.size w w'

/-- a measure, and worlds that turned out -/
def DrawMeaI (w : World) (e : Ending) (w' : World) : Prop := ∃ (v u : Value) (xs ys : List Int), e = .returned (.tuple #[v, u]) ∧ IOwn w' w.heap.size v xs ∧ IOwn w' w.heap.size u ys ∧ xs.length ≤ 4 ∧ ys.length ≤ 24 ∧ Below w.heap.size w w'

/-- the reader R, a measure, and a row of reports, all made behind w -/
def RepRel (w : World) (R Q : Nat) (tv : Value) (t : List Int) (v : Value) (rs : List (List Int)) (wr : World) : Prop :=
  Rd wr R Q ∧ IOwn wr w.heap.size tv t ∧ (∃ us, VOwn wr w.heap.size v us ∧ RIn wr w.heap.size us rs) ∧ w.grownBy wr (some R) ∧ R < w.heap.size

theorem RepRel.start {w wr : World} {R Q : Nat} {tv : Value} {t : List Int} (h : GamRel w R Q tv t wr) : RepRel w R Q tv t (.slice (some ⟨wr.heap.size, 0, none⟩) 0 0) [] (wr.alloc (.cells #[] 23)) := by
  obtain ⟨h1, h2, h3, h4⟩ := h
  refine ⟨h1.keep (by simp) (fun b hb => Below.heap_alloc wr _ b hb), h2.keep (SameAt.grow rfl), ⟨[], World.ownsRow_lit wr #[] 0 h3.size (by unfold maxLen; omega) rfl, RIn.nil _ _⟩, grow_trans h3 (World.grownBy_alloc _ _ _), h4⟩

theorem RepRel.picked {w wr w' : World} {R P Q : Nat} {tv v : Value} {t : List Int} {rs : List (List Int)} (h : RepRel w R P tv t v rs wr) (k : Picked R Q wr w') : RepRel w R Q tv t v rs w' := by
  obtain ⟨h1, h2, ⟨us, h5, h6⟩, h3, h4⟩ := h
  have hs := StayI.reader h1 k.grown
  refine ⟨k.rd, h2.stay hs, ⟨us, ?_, h6.stay hs⟩, grow_trans h3 k.grown, h4⟩
  exact World.ownsRow.kept h5 k.grown (by
    rcases hv : v.ownBlock with _ | g
    · exact .inl rfl
    · refine .inr fun e => ?_
      injection e with e
      have := (World.ownsRow.lt h5 g hv).1
      omega)

theorem RepRel.mono {w wr : World} {R P Q : Nat} {tv v : Value} {t : List Int} {rs : List (List Int)} (h : RepRel w R P tv t v rs wr) (hPQ : P ≤ Q) : RepRel w R Q tv t v rs wr := ⟨h.1.mono hPQ, h.2⟩

/-- a drawn measure u behind wr: all stays, and it may be laid to the reports -/
theorem RepRel.drawn {w wr w' : World} {R P Q : Nat} {tv v u : Value} {t xs : List Int} {rs : List (List Int)} (h : RepRel w R P tv t v rs wr) (k : GamRel wr R Q u xs w') : RepRel w R Q tv t v rs w' ∧ IOwn w' w.heap.size u xs := by
  obtain ⟨h1, h2, ⟨us, h5, h6⟩, h3, h4⟩ := h
  have hs := StayI.reader h1 k.2.2.1
  refine ⟨⟨k.1, h2.stay hs, ⟨us, ?_, h6.stay hs⟩, grow_trans h3 k.2.2.1, h4⟩, k.2.1.base h3.size⟩
  exact World.ownsRow.kept h5 k.2.2.1 (by
    rcases hv : v.ownBlock with _ | g
    · exact .inl rfl
    · refine .inr fun e => ?_
      injection e with e
      have := (World.ownsRow.lt h5 g hv).1
      omega)

theorem alloc_b11 (w : World) (o : Obj) : Below w.heap.size w (w.alloc o) := (Below.refl _ _).alloc (Nat.le_refl _) o

theorem wp_app_rows {ops : Array Oper} {rest : List Oper} {o : Oper} {a : Act} {Q : Exit → Act → World → Prop} (hgd : o.guard = none) (s x : Operand)
    (ho : o.op = .call { callee := .builtin .append, args := #[s, x], argTypes := #[37, 37] }) (w : World) (base : Nat) (v : Value) (us : List Value) (A : Option Addr) (n c : Nat)
    (hs : a.eval s = v) (hown : VOwn w base v us) (hx : a.eval x = .slice (some ⟨w.heap.size, 0, none⟩) 1 1)
    (h1 : us.length ≤ 1000000) (hb : base ≤ w.heap.size)
    (h : ∀ v' w', VOwn w' base v' (us ++ [.slice A n c]) → w.grownBy w' v.ownBlock → wpList Try.prog ops Q rest (a.put o.dst v') w') :
    wpList Try.prog ops Q (o :: rest) a (w.alloc (.cells #[.slice A n c] 23)) := by
  obtain ⟨i0, hi, hz0, hz1, hz2⟩ := info_parts Try_rowinfo
  have hown2 : (w.alloc (.cells #[.slice A n c] 23)).ownsRow base 23 1 v us.length us := World.ownsRow.alloc hown _
  refine wpList_append_own_at _ hgd s x 37 ho base 23 i0 (.slice none 0 0) 1 24 Try.underlying37 hi hz0 hz1 hz2 rfl (by decide) v us.length us hs hown2 ⟨w.heap.size, 0, none⟩ 1 1 [.slice A n c] hx rfl (one_new w _ _) (fun u hu => by rw [List.mem_singleton] at hu; subst hu; rfl) (by unfold maxLen; omega) (by omega) (by simp; omega) ?_
  intro v' w' k1 k2 k3 k4
  refine h v' w' ?_ (grown_after ((Below.refl _ w).alloc (Nat.le_refl _) _) k2)
  have e : (us ++ [Value.slice A n c]).length = us.length + 1 := by simp
  unfold VOwn
  rw [e]
  exact k1

theorem RepRel.append {w wr w' : World} {R P : Nat} {tv v v' u : Value} {t r : List Int} {rs : List (List Int)} {us : List Value} (h : RepRel w R P tv t v rs wr) (hv : VOwn wr w.heap.size v us) (hin : RIn wr w.heap.size us rs) (hu : IOwn wr w.heap.size u r)
    (ho : VOwn w' w.heap.size v' (us ++ [u])) (hg : wr.grownBy w' v.ownBlock) : RepRel w R P tv t v' (rs ++ [r]) w' := by
  obtain ⟨h1, h2, -, h3, h4⟩ := h
  have hge := World.ownsRow.lt hv
  have hs := VOwn.stay hv hg
  exact ⟨h1.grown hg (fun g hg' => by have := (hge g hg').1; omega), h2.stay hs, ⟨_, ho, (hin.stay hs).push (hu.stay hs)⟩, grow_far h3 hg (fun g hg' => (hge g hg').1), h4⟩

theorem own_below {w w' : World} {base : Nat} {e : TypeId} {size : Nat} {v : Value} {n : Nat} {xs : List Value} (h : w.ownsRow base e size v n xs) (hb : Below w.heap.size w w') : w'.ownsRow base e size v n xs := by
  refine ⟨h.1, ?_⟩
  rcases h.2 with hn | ⟨g, cap, cur, rfl, hb', hg, rest⟩
  · exact .inl hn
  · exact .inr ⟨g, cap, cur, rfl, hb', (hb.block g (Array.getElem?_eq_some_iff.1 hg).1).trans hg, rest⟩

theorem RepRel.below {w wr w' : World} {R P : Nat} {tv v : Value} {t : List Int} {rs : List (List Int)} (h : RepRel w R P tv t v rs wr) (hb : Below wr.heap.size wr w') : RepRel w R P tv t v rs w' := by
  obtain ⟨h1, h2, ⟨us, h5, h6⟩, h3, h4⟩ := h
  have hs := StayI.below hb
  exact ⟨h1.keep hb.size (fun b hb' => hb.block b hb'), h2.stay hs, ⟨us, own_below h5 hb, h6.stay hs⟩, grow_trans h3 ⟨hb.os, hb.tape, hb.output, hb.size, fun i hi _ => hb.block i hi⟩, h4⟩

/-- a measure and reports that were drawn -/
def RepPost (w : World) (R : Nat) (e : Ending) (w' : World) : Prop := ∃ tv v t rs, e = .returned (.tuple #[tv, v]) ∧ IRd w' tv t ∧ SRd w' v rs ∧ t.length ≤ 4 ∧ rs.length ≤ 5 ∧ (∀ r ∈ rs, r.length ≤ 4) ∧ w.grownBy w' (some R)

theorem RepRel.post {w0 w wr : World} {R P : Nat} {tv v : Value} {t : List Int} {rs : List (List Int)} (h : RepRel w R P tv t v rs wr) (hw : w0.grownBy w (some R)) (h4 : t.length ≤ 4) (h5 : rs.length ≤ 5) (hr : ∀ r ∈ rs, r.length ≤ 4) : RepPost w0 R (.returned (.tuple #[tv, v])) wr := by
  obtain ⟨-, h2, ⟨us, k1, k2⟩, h3, -⟩ := h
  exact ⟨tv, v, t, rs, rfl, h2.rd, srd_of k1 k2, h4, h5, hr, grow_trans hw h3⟩

theorem len_snoc {rs : List (List Int)} {r : List Int} (h : ∀ x ∈ rs, x.length ≤ 4) (hr : r.length ≤ 4) : ∀ x ∈ rs ++ [r], x.length ≤ 4 := by
  intro x hx
  rcases List.mem_append.1 hx with hx | hx
  · exact h x hx
  · rw [List.mem_singleton] at hx; subst hx; exact hr

/-- a measure and reports that were drawn -/
def DrawRep (w : World) (e : Ending) (w' : World) : Prop := ∃ tv v t rs, e = .returned (.tuple #[tv, v]) ∧ IRd w' tv t ∧ SRd w' v rs ∧ t.length ≤ 4 ∧ rs.length ≤ 5 ∧ (∀ r ∈ rs, r.length ≤ 4) ∧ Below w.heap.size w w'

end Go.Proofs.Ytbjmhbkpeglpkaa
