/- A pile of parts that is drawn: a row of rows of marks, each the marks of a tree. Conditions: stated at each. -/
import Derived.Test.YtfdlfgokoponmaaDoorXl
import Derived.Test.YtfdlfgokoponmaaDoorYr
import Derived.Test.YtfdlfgokoponmaaDoorXi
import Derived.Test.YtfdlfgokoponmaaDoorRh
import Derived.Lib.Hide
namespace Go.Proofs.YtfdlfgokoponmaaDoor
open Go.RowKit
set_option linter.unusedVariables false

/-- every block of marks stays -/
def Stay (w w' : World) : Prop := w.heap.size ≤ w'.heap.size ∧ ∀ (g : Nat) (cur : Array Value), w.heap[g]? = some (Obj.cells cur 59 (0, 0)) → w'.heap[g]? = w.heap[g]?

theorem Stay.refl (w : World) : Stay w w := ⟨Nat.le_refl _, fun _ _ _ => rfl⟩

theorem Stay.trans {w w1 w2 : World} (h : Stay w w1) (k : Stay w1 w2) : Stay w w2 :=
  ⟨Nat.le_trans h.1 k.1, fun g cur hg => (k.2 g cur ((h.2 g cur hg).trans hg)).trans (h.2 g cur hg)⟩

theorem heap_lt {w : World} {g : Nat} {o : Obj} (h : w.heap[g]? = some o) : g < w.heap.size := (Array.getElem?_eq_some_iff.1 h).1

theorem Stay.grown {w w' : World} {row : Option Nat} (hg : w.grownBy w' row) (hr : ∀ (g : Nat) (cur : Array Value), row = some g → w.heap[g]? ≠ some (Obj.cells cur 59 (0, 0))) : Stay w w' :=
  ⟨hg.size, fun g cur h => hg.block g (heap_lt h) (fun e => hr g cur e.symm h)⟩

theorem Stay.below {w w' : World} (h : Below w.heap.size w w') : Stay w w' := ⟨h.size, fun g cur hg => h.block g (heap_lt hg)⟩

theorem Stay.picked {w w' : World} {R P Q : Nat} (hr : Rd w R Q) (k : Picked R P w w') : Stay w w' := by
  obtain ⟨A, n, cap, p, h1, -⟩ := hr
  refine Stay.grown k.grown (fun g cur e hg => ?_)
  injection e with e
  subst e
  unfold Blk at h1
  rw [h1] at hg
  injection hg with hg
  injection hg with h2 h3
  exact absurd h3 (by decide)

theorem MOwn.stay {w w' : World} {base : Nat} {u : Value} {ms : List Mk} (h : MOwn w base u ms) (k : Stay w w') : MOwn w' base u ms := by
  refine ⟨h.1, ?_⟩
  rcases h.2 with hn | ⟨g, cap, cur, rfl, hb, hg, rest⟩
  · exact .inl hn
  · exact .inr ⟨g, cap, cur, rfl, hb, (k.2 g cur hg).trans hg, rest⟩

/-- the row of slices v holds us -/
def SOwn (w : World) (base : Nat) (v : Value) (us : List Value) : Prop := w.ownsRow base 23 1 v us.length us

theorem SOwn.stay {w w' : World} {base : Nat} {v : Value} {us : List Value} (h : SOwn w base v us) (k : w.grownBy w' v.ownBlock) : Stay w w' := by
  refine Stay.grown k (fun g cur e hg => ?_)
  rcases h.2 with ⟨rfl, -⟩ | ⟨g', cap, cur', rfl, hb, hg', rest⟩
  · cases e
  · injection e with e
    subst e
    rw [hg'] at hg
    injection hg with hg
    injection hg with h2 h3
    exact absurd h3 (by decide)

/-- each slice is the marks of a tree -/
def PIn (w : World) (base : Nat) (us : List Value) (ts : List Tm) : Prop := us.length = ts.length ∧ ∀ (i : Nat) (u : Value) (T : Tm), us[i]? = some u → ts[i]? = some T → MOwn w base u (encT T)

theorem PIn.stay {w w' : World} {base : Nat} {us : List Value} {ts : List Tm} (h : PIn w base us ts) (k : Stay w w') : PIn w' base us ts := ⟨h.1, fun i u T hu hT => (h.2 i u T hu hT).stay k⟩

theorem PIn.nil (w : World) (base : Nat) : PIn w base [] [] := ⟨rfl, fun i u T hu _ => by simp at hu⟩

theorem PIn.push {w : World} {base : Nat} {us : List Value} {ts : List Tm} {u : Value} {T : Tm} (h : PIn w base us ts) (k : MOwn w base u (encT T)) : PIn w base (us ++ [u]) (ts ++ [T]) := by
  refine ⟨by simp [h.1], fun i x X hx hX => ?_⟩
  rcases Nat.lt_or_ge i us.length with hi | hi
  · rw [List.getElem?_append_left hi] at hx
    rw [List.getElem?_append_left (by rw [← h.1]; exact hi)] at hX
    exact h.2 i x X hx hX
  · rw [List.getElem?_append_right hi] at hx
    rw [List.getElem?_append_right (by rw [← h.1]; exact hi), ← h.1] at hX
    obtain ⟨j, hj⟩ : ∃ j, i - us.length = j := ⟨_, rfl⟩
    rw [hj] at hx hX
    match j, hx, hX with
    | 0, hx, hX =>
      obtain rfl := Option.some.inj hx
      obtain rfl := Option.some.inj hX
      exact k
    | j + 1, hx, hX => simp at hx

theorem PIn.app {w : World} {base : Nat} {us vs : List Value} {ts ss : List Tm} (h : PIn w base us ts) (k : PIn w base vs ss) : PIn w base (us ++ vs) (ts ++ ss) := by
  refine ⟨by simp [h.1, k.1], fun i x X hx hX => ?_⟩
  rcases Nat.lt_or_ge i us.length with hi | hi
  · rw [List.getElem?_append_left hi] at hx
    rw [List.getElem?_append_left (by rw [← h.1]; exact hi)] at hX
    exact h.2 i x X hx hX
  · rw [List.getElem?_append_right hi] at hx
    rw [List.getElem?_append_right (by rw [← h.1]; exact hi), ← h.1] at hX
    exact k.2 _ x X hx hX

theorem PIn.take {w : World} {base : Nat} {us : List Value} {ts : List Tm} (h : PIn w base us ts) (n : Nat) : PIn w base (us.take n) (ts.take n) := by
  refine ⟨by simp [h.1], fun i x X hx hX => ?_⟩
  rw [List.getElem?_take] at hx hX
  split at hx
  · next hi => rw [if_pos hi] at hX; exact h.2 i x X hx hX
  · cases hx

theorem PIn.drop {w : World} {base : Nat} {us : List Value} {ts : List Tm} (h : PIn w base us ts) (n : Nat) : PIn w base (us.drop n) (ts.drop n) := by
  refine ⟨by simp [h.1], fun i x X hx hX => ?_⟩
  rw [List.getElem?_drop] at hx hX
  exact h.2 _ x X hx hX

theorem PIn.set {w : World} {base : Nat} {us : List Value} {ts : List Tm} (h : PIn w base us ts) {k : Nat} {u : Value} {T : Tm} (hk : MOwn w base u (encT T)) : PIn w base (us.set k u) (ts.set k T) := by
  refine ⟨by simp [h.1], fun i x X hx hX => ?_⟩
  rw [List.getElem?_set] at hx hX
  split at hx
  · next hi =>
    rw [if_pos hi] at hX
    split at hx
    · next h1 =>
      split at hX
      · obtain rfl := Option.some.inj hx
        obtain rfl := Option.some.inj hX
        exact hk
      · cases hX
    · cases hx
  · next hi => rw [if_neg hi] at hX; exact h.2 i x X hx hX

theorem PIn.mono {w : World} {base base' : Nat} {us : List Value} {ts : List Tm} (h : PIn w base us ts) (hb : base' ≤ base) : PIn w base' us ts := ⟨h.1, fun i u T hu hT => (h.2 i u T hu hT).base hb⟩

/-! how many marks there are -/

def lenT (ts : List Tm) : Nat := (ts.map fun T => (encT T).length).sum

theorem lenT_app (a b : List Tm) : lenT (a ++ b) = lenT a + lenT b := by simp [lenT]

theorem lenT_one (T : Tm) : lenT [T] = (encT T).length := by simp [lenT]

theorem lenT_split {ts : List Tm} {k : Nat} {x y : Tm} (hx : ts[k]? = some x) (hy : ts[k + 1]? = some y) : lenT ts = lenT (ts.take k) + (encT x).length + (encT y).length + lenT (ts.drop (k + 2)) := by
  have hk : k < ts.length := (List.getElem?_eq_some_iff.1 hx).1
  have hk1 : k + 1 < ts.length := (List.getElem?_eq_some_iff.1 hy).1
  have e : ts = ts.take k ++ ([x] ++ ([y] ++ ts.drop (k + 2))) := by
    apply List.ext_getElem?
    intro i
    rcases Nat.lt_or_ge i k with h | h
    · rw [List.getElem?_append_left (by rw [List.length_take]; omega), List.getElem?_take, if_pos h]
    · rw [List.getElem?_append_right (by rw [List.length_take]; omega), List.length_take, Nat.min_eq_left (by omega)]
      obtain ⟨j, rfl⟩ : ∃ j, i = k + j := ⟨i - k, by omega⟩
      rw [Nat.add_sub_cancel_left]
      match j with
      | 0 => rw [Nat.add_zero, hx]; rfl
      | 1 => rw [hy]; rfl
      | j + 2 => simp only [List.cons_append, List.nil_append, List.getElem?_cons_succ, List.getElem?_drop]; congr 1; omega
  conv => lhs; rw [e]
  rw [lenT_app, lenT_app, lenT_app, lenT_one, lenT_one]
  omega

theorem lenT_set {ts : List Tm} {k : Nat} {x y : Tm} (hx : ts[k]? = some x) : lenT (ts.set k y) + (encT x).length = lenT ts + (encT y).length := by
  induction ts generalizing k with
  | nil => simp at hx
  | cons t ts ih =>
    cases k with
    | zero =>
      obtain rfl : t = x := by simpa using hx
      simp [lenT]; omega
    | succ k =>
      have := ih (k := k) (by simpa using hx)
      simp [lenT] at this ⊢; omega

theorem lenT_ge {ts : List Tm} {k : Nat} {x : Tm} (hx : ts[k]? = some x) : (encT x).length ≤ lenT ts := by
  induction ts generalizing k with
  | nil => simp at hx
  | cons t ts ih =>
    cases k with
    | zero =>
      obtain rfl : t = x := by simpa using hx
      simp [lenT]
    | succ k =>
      have := ih (k := k) (by simpa using hx)
      simp [lenT] at this ⊢; omega

theorem lenT_len (ts : List Tm) : ts.length ≤ lenT ts := by
  induction ts with
  | nil => simp
  | cons t ts ih =>
    have := enc_pos t
    simp [lenT] at ih ⊢; omega

/-! the row of slices -/

theorem Try_rowinfo : (Tryd.prog.info? 23).map (fun i => (i.zero, i.size, i.bytes)) = some (some (.slice none 0 0), 1, 24) := by kernel_rfl

theorem SOwn.form {w : World} {base : Nat} {v : Value} {us : List Value} (h : SOwn w base v us) (h0 : 0 < us.length) : ∃ g c, v = .slice (some ⟨g, 0, none⟩) us.length c ∧ base ≤ g ∧ g < w.heap.size ∧ us.length ≤ c ∧ c ≤ 9223372036854775807 := by
  rcases h.2 with ⟨-, hz⟩ | ⟨g, cap, cur, rfl, hb, hg, h1, h2, -⟩
  · omega
  · exact ⟨g, cap, rfl, hb, heap_lt hg, h1, by rw [maxLen_is] at h2; exact h2⟩

theorem SOwn.cell {w : World} {base g n c : Nat} {us : List Value} (h : SOwn w base (.slice (some ⟨g, 0, none⟩) n c) us) {k : Nat} {u : Value} (hu : us[k]? = some u) : w.cell? ⟨g, k, none⟩ = some u := by
  have hk : k < us.length := (List.getElem?_eq_some_iff.1 hu).1
  have hn : n = us.length := by
    rcases h.2 with ⟨e, -⟩ | ⟨g', cap, cur, e, -⟩
    · cases e
    · injection e with e1 e2 e3
  subst hn
  have := World.ownsRow.cellAt h k (by omega)
  rw [this]; exact hu

theorem SOwn.keep {w w' : World} {base : Nat} {v : Value} {us : List Value} (h : SOwn w base v us) (hs : ∀ g, v.ownBlock = some g → w'.heap[g]? = w.heap[g]?) : SOwn w' base v us := by
  refine ⟨h.1, ?_⟩
  rcases h.2 with hn | ⟨g, cap, cur, rfl, hb, hg, rest⟩
  · exact .inl hn
  · exact .inr ⟨g, cap, cur, rfl, hb, (hs g rfl).trans hg, rest⟩

theorem SOwn.ge {w : World} {base : Nat} {v : Value} {us : List Value} (h : SOwn w base v us) : ∀ g, v.ownBlock = some g → base ≤ g ∧ g < w.heap.size := World.ownsRow.lt h

theorem SOwn.sr {w w' : World} {R P base : Nat} {v : Value} {us : List Value} (h : SOwn w base v us) (k : SR w R P w') (hb : R < base) : SOwn w' base v us :=
  h.keep (fun g hg => by have := h.ge g hg; exact k.block this.2 (by omega))

theorem MOwn.sr {w w' : World} {R P base : Nat} {v : Value} {ms : List Mk} (h : MOwn w base v ms) (k : SR w R P w') (hb : R < base) : MOwn w' base v ms := by
  refine GOwn.keep h (SameAt.of_grown k.2.1 ?_)
  rcases hv : v.ownBlock with _ | g
  · exact .inl rfl
  · refine .inr fun e => ?_
    have := (GOwn.ge h g hv).1
    injection e with e
    omega

theorem PIn.sr {w w' : World} {R P base : Nat} {us : List Value} {ts : List Tm} (h : PIn w base us ts) (k : SR w R P w') (hb : R < base) : PIn w' base us ts := ⟨h.1, fun i u T hu hT => (h.2 i u T hu hT).sr k hb⟩

theorem PIn.one {w : World} {base : Nat} {us : List Value} {ts : List Tm} (h : PIn w base us ts) : ∀ u ∈ us, u.oneCell' = true := by
  intro u hu
  obtain ⟨i, hi⟩ := List.mem_iff_getElem?.1 hu
  have hl : i < ts.length := by rw [← h.1]; exact (List.getElem?_eq_some_iff.1 hi).1
  rcases (h.2 i u _ hi (List.getElem?_eq_getElem hl)).2 with ⟨rfl, -⟩ | ⟨g, cap, cur, rfl, -⟩ <;> rfl

/-- a pile of parts, behind a reader -/
def Pile (w : World) (R Q : Nat) (v : Value) (us : List Value) (ts : List Tm) (wr : World) : Prop := SR w R Q wr ∧ SOwn wr w.heap.size v us ∧ PIn wr w.heap.size us ts

theorem Pile.sr {w wr w' : World} {R Q Q' : Nat} {v : Value} {us : List Value} {ts : List Tm} (h : Pile w R Q v us ts wr) (k : SR wr R Q' w') : Pile w R Q' v us ts w' :=
  ⟨⟨k.1, grT h.1.2.1 k.2.1, h.1.2.2⟩, h.2.1.sr k h.1.2.2, h.2.2.sr k h.1.2.2⟩

theorem Pile.picked {w wr w' : World} {R Q Q' : Nat} {v : Value} {us : List Value} {ts : List Tm} (h : Pile w R Q v us ts wr) (k : Picked R Q' wr w') : Pile w R Q' v us ts w' := h.sr (h.1.start'.picked k)

theorem Pile.alloc {w wr : World} {R Q : Nat} {v : Value} {us : List Value} {ts : List Tm} (h : Pile w R Q v us ts wr) (o : Obj) : Pile w R Q v us ts (wr.alloc o) := h.sr (h.1.start'.alloc o)

theorem Pile.rd {w wr : World} {R Q : Nat} {v : Value} {us : List Value} {ts : List Tm} (h : Pile w R Q v us ts wr) : Rd wr R Q := h.1.1

/-- the pile's row of slices has turned -/
theorem Pile.push {w wr w' : World} {R Q : Nat} {v v' : Value} {us us' : List Value} {ts ts' : List Tm} (h : Pile w R Q v us ts wr) (hg : wr.grownBy w' v.ownBlock) (ho : SOwn w' w.heap.size v' us') (hp : PIn wr w.heap.size us' ts') : Pile w R Q v' us' ts' w' :=
  ⟨h.1.grown hg (fun g hg' => (h.2.1.ge g hg').1), ho, hp.stay (h.2.1.stay hg)⟩

theorem wp_app_spine {ops : Array Oper} {rest : List Oper} {o : Oper} {a : Act} {Q : Exit → Act → World → Prop} (hgd : o.guard = none) (s x : Operand)
    (ho : o.op = .call { callee := .builtin .append, args := #[s, x], argTypes := #[94, 94] }) (w : World) (base : Nat) (v : Value) (us : List Value) (b off m c : Nat) (ns : List Value)
    (hs : a.eval s = v) (hown : SOwn w base v us) (hx : a.eval x = .slice (some ⟨b, off, none⟩) m c) (hm : ns.length = m) (hrd : ∀ j u, ns[j]? = some u → w.cell? ⟨b, off + j, none⟩ = some u) (hone : ∀ u ∈ ns, u.oneCell' = true)
    (h1 : us.length ≤ 1000000) (h2 : ns.length ≤ 1000000) (hb : base ≤ w.heap.size)
    (h : ∀ v' w', SOwn w' base v' (us ++ ns) → w.grownBy w' v.ownBlock → (v'.ownBlock = v.ownBlock ∨ v'.ownBlock = some w.heap.size) → wpList Tryd.prog ops Q rest (a.put o.dst v') w') :
    wpList Tryd.prog ops Q (o :: rest) a w := by
  obtain ⟨i0, hi, hz0, hz1, hz2⟩ := info_parts Try_rowinfo
  subst hm
  refine wpList_append_own_at w hgd s x 94 ho base 23 i0 (.slice none 0 0) 1 24 Tryd.underlying94 hi hz0 hz1 hz2 rfl (by decide) v us.length us hs hown ⟨b, off, none⟩ ns.length c ns hx (by omega) (fun j u hu => by rw [addr_add]; exact hrd j u hu) hone (by unfold maxLen; omega) (by omega) hb ?_
  intro v' w' k1 k2 k3 k4
  refine h v' w' ?_ k2 k4
  unfold SOwn
  rw [List.length_append]
  exact k1

theorem SOwn.base {w : World} {base base' : Nat} {v : Value} {us : List Value} (h : SOwn w base v us) (hb : base' ≤ base) : SOwn w base' v us := by
  refine ⟨h.1, ?_⟩
  rcases h.2 with hn | ⟨g, cap, cur, rfl, hb', rest⟩
  · exact .inl hn
  · exact .inr ⟨g, cap, cur, rfl, Nat.le_trans hb hb', rest⟩

/-- an append of a row that reads, run -/
theorem run_app_row (w : World) (base : Nat) (v : Value) (ms : List Mk) (b off m c : Nat) (ns : List Mk) (hown : MOwn w base v ms) (hrd : QRd w (.slice (some ⟨b, off, none⟩) m c) ns)
    (h1 : ms.length ≤ 1000000) (h2 : ns.length ≤ 1000000) (hb : base ≤ w.heap.size) :
    ∃ v' w', (Builtin.append_ #[23, 23] 23 #[v, .slice (some ⟨b, off, none⟩) m c]).run Tryd.prog w = .ok v' w' ∧ MOwn w' base v' (ms ++ ns) ∧ w.grownBy w' v.ownBlock ∧ (v'.ownBlock = v.ownBlock ∨ v'.ownBlock = some w.heap.size) := by
  obtain ⟨j0, hj, hy0, hy1, hy2⟩ := info_parts Try_markinfo
  obtain ⟨A, cp, e, hl, hm, -⟩ := id hrd
  injection e with e1 e2 e3
  subst e2
  obtain ⟨v', w', k0, k1, k2, -, k4⟩ := run_append_own_at (P := Tryd.prog) w base 23 23 59 j0 (.agg #[.int .i64 0, .int .i64 0]) 2 16 Tryd.underlying23 hj hy0 hy1 hy2 rfl (by decide) v ms.length (ms.flatMap qC) hown ⟨b, off, none⟩ ns.length c (ns.flatMap qC) (flat_len qC_len ns) (QRd.news hrd) (qC_one ns) (by unfold maxLen; omega) (by omega) hb
  refine ⟨v', w', k0, ?_, k2, k4⟩
  unfold MOwn GOwn
  rw [List.length_append, List.flatMap_append]
  exact k1

theorem QRd.allocd {w : World} {v : Value} {ms : List Mk} (h : QRd w v ms) (o : Obj) : QRd (w.alloc o) v ms := GRd.keep h (SameAt.of_below ((Below.refl _ w).alloc (Nat.le_refl _) _))

theorem MOwn.allocd {w : World} {base : Nat} {v : Value} {ms : List Mk} (h : MOwn w base v ms) (o : Obj) : MOwn (w.alloc o) base v ms := GOwn.keep h (SameAt.of_below ((Below.refl _ w).alloc (Nat.le_refl _) _))

theorem Pile.cells {w wr X : World} {R Q Q' g m c i : Nat} {us : List Value} {ts : List Tm} {u : Value} (h : Pile w R Q (.slice (some ⟨g, 0, none⟩) m c) us ts wr) (k : SR wr R Q' X) (hu : us[i]? = some u) : X.cell? ⟨g, i, none⟩ = some u := (h.2.1.sr k h.1.2.2).cell hu

theorem Pile.marks {w wr X : World} {R Q Q' i : Nat} {v : Value} {us : List Value} {ts : List Tm} {u : Value} {T : Tm} (h : Pile w R Q v us ts wr) (k : SR wr R Q' X) (hu : us[i]? = some u) (hT : ts[i]? = some T) : MOwn X w.heap.size u (encT T) := (h.2.2.2 i u T hu hT).sr k h.1.2.2

theorem MOwn.form {w : World} {base : Nat} {v : Value} {ms : List Mk} (h : MOwn w base v ms) (h0 : 0 < ms.length) : ∃ g c, v = .slice (some ⟨g, 0, none⟩) ms.length c ∧ base ≤ g ∧ g < w.heap.size ∧ ms.length ≤ c ∧ c ≤ 9223372036854775807 := by
  rcases h.2 with ⟨-, hz⟩ | ⟨g, cap, cur, rfl, hb, hg, h1, h2, -⟩
  · omega
  · exact ⟨g, cap, rfl, hb, heap_lt hg, h1, by rw [maxLen_is] at h2; exact h2⟩

/-- a slice of the pile is stored anew -/
theorem Pile.store {w wr : World} {R Q g c k : Nat} {us : List Value} {ts : List Tm} {u : Value} {T : Tm} (h : Pile w R Q (.slice (some ⟨g, 0, none⟩) us.length c) us ts wr) (ho : MOwn wr w.heap.size u (encT T)) :
    Pile w R Q (.slice (some ⟨g, 0, none⟩) us.length c) (us.set k u) (ts.set k T) (wr.setCell ⟨g, k, none⟩ u) := by
  obtain ⟨h1, g1⟩ := World.ownsRow.stored (show wr.ownsRow w.heap.size 23 1 (.slice (some ⟨g, 0, none⟩) us.length c) us.length us from h.2.1) k u
  refine h.push g1 ?_ (h.2.2.set ho)
  unfold SOwn
  rw [List.length_set]
  exact h1

theorem Pile.old {w wr : World} {R Q g c k : Nat} {us : List Value} {ts : List Tm} (h : Pile w R Q (.slice (some ⟨g, 0, none⟩) us.length c) us ts wr) (hk : k < us.length) : wr.frozen? ⟨g, k, none⟩ = false ∧ ∃ old, wr.cell? ⟨g, k, none⟩ = some old :=
  ⟨World.ownsRow.frozenAt (show wr.ownsRow w.heap.size 23 1 (.slice (some ⟨g, 0, none⟩) us.length c) us.length us from h.2.1) _, _, h.2.1.cell (List.getElem?_eq_getElem hk)⟩

theorem bin_of {z : Int} (h : z = 2 ∨ z = 3) (x y : Tm) : ∃ T, encT T = encT x ++ encT y ++ [(z, 0)] := by
  rcases h with rfl | rfl
  · exact ⟨.an x y, rfl⟩
  · exact ⟨.vel x y, rfl⟩

def lenS : Value → Nat
  | .slice _ n _ => n
  | _ => 0

theorem odd0_any (w : World) (R P : Nat) (n : Int) (hn : n ≤ 0) :
    Calls Tryd.prog 45 #[.pointer (some ⟨R, 0, none⟩), .int .i64 n] w fun e w' => e = .returned (.bool false) ∧ w = w' := by
  go_enter Tryd.func45, Tryd.ntmps45
  go_wp2
  go_ret
  exact ⟨rfl, rfl⟩

theorem letM_of {x : Int} (h0 : 0 ≤ x) (h1 : x < 2) : ∃ b, letM b = (0, x) := by
  obtain rfl | rfl : x = 0 ∨ x = 1 := by omega
  · exact ⟨false, rfl⟩
  · exact ⟨true, rfl⟩

/-! a term that was drawn -/

/-- the marks that were drawn, in a row of the call's own -/
def TermPost (R Q : Nat) (n : Int) (w : World) (e : Ending) (w' : World) : Prop := ∃ (g c : Nat) (t : List Mk), e = .returned (.slice (some ⟨g, 0, none⟩) t.length c) ∧ MOwn w' w.heap.size (.slice (some ⟨g, 0, none⟩) t.length c) t ∧ t.length ≤ 12 ∧ (n ≤ 0 → ∃ T, t = encT T ∧ t.length ≤ 11) ∧ SR w R Q w'

end Go.Proofs.YtfdlfgokoponmaaDoor
