/- Contracts on the way to PartsOf: the insertion, the parts. Conditions: stated at each. -/
import Derived.Test.YtnleljofoljdkaaDoorParts2
namespace Go.Proofs.YtnleljofoljdkaaDoor
open Go.RowKit
set_option linter.unusedVariables false

/-- the row v has grown by x, or lies anew -/
def GrownRow (base : Nat) (v : Value) (ys : List Int) (w : World) (e : Ending) (w' : World) : Prop := ∃ v', e = .returned v' ∧ IOwn w' base v' ys ∧ w.grownBy w' v.ownBlock

theorem one_int {x : Int} : ∀ u ∈ [Value.int .i64 x], u.oneCell' = true := by
  intro u hu
  rw [List.mem_singleton] at hu
  subst hu
  rfl

set_option maxHeartbeats 1000000 in
theorem insert_end (w : World) (base : Nat) (v : Value) (xs : List Int) (x : Int) (g : Nat) (hv : IOwn w base v xs) (hb : base ≤ w.heap.size) (hn : xs.length ≤ 1000)
    (hx : w.cell? ⟨g, 0, none⟩ = some (.int .i64 x)) :
    Calls Tryd.prog 31 #[v, .int .i64 (xs.length : Int), .slice (some ⟨g, 0, none⟩) 1 1] w (GrownRow base v (xs ++ [x]) w) := by
  obtain ⟨i0, hi, hz0, hz1, hz2⟩ := info_parts Try_intinfo
  have hg0 : ∀ j u, [Value.int .i64 x][j]? = some u → w.cell? ((⟨g, 0, none⟩ : Addr).add j) = some u := by
    intro j u hu
    rcases j with _ | j
    · simp at hu; subst hu; simpa [Addr.add] using hx
    · simp at hu
  have HG := Lib.hid hg0
  clear hg0 hx
  obtain ⟨A, c, rfl, hl, hm, -⟩ := hv.rd
  have HV := Lib.hid hv
  clear hv
  have hl0 : (0 : Int) ≤ (xs.length : Int) := by omega
  rcases Nat.eq_or_lt_of_le hl with hcl | hcl
  · obtain rfl : c = xs.length := hcl.symm
    clear hl hcl
    go_enter Tryd.func31, Tryd.ntmps31
    go_wp2_with (at_builtin; refine wpList_append_own _ rfl _ _ 23 rfl base 3 i0 (.int .i64 0) 1 8 Tryd.underlying23 hi hz0 hz1 hz2 rfl (by decide) _ _ _ rfl HV.out ⟨g, 0, none⟩ 1 1 [.int .i64 x] rfl rfl HG.out one_int ?c3 ?c4 hb ?_)
    case c3 => unfold maxLen; omega
    case c4 => omega
    intro v' w' hown hgrow _
    have HO := Lib.hid (show GrownRow base _ (xs ++ [x]) w (.returned v') w' from ⟨v', rfl, by simpa [IOwn] using hown, hgrow⟩)
    clear hown hgrow
    go_wp2_with fail
    go_ret
    exact HO.out
  · have hcl1 : decide (c = xs.length) = false := by simp; omega
    have hcl2 : decide ((c : Int) = (xs.length : Int)) = false := by simp; omega
    have hcl3 : (c == xs.length) = false := by simp; omega
    have hcl4 : ((c : Int) == (xs.length : Int)) = false := by simp; omega
    have hcl5 : ¬ c = xs.length := by omega
    go_enter Tryd.func31, Tryd.ntmps31
    go_wp2_with (at_builtin; refine wpList_append_own _ rfl _ _ 23 rfl base 3 i0 (.int .i64 0) 1 8 Tryd.underlying23 hi hz0 hz1 hz2 rfl (by decide) _ _ _ rfl HV.out ⟨g, 0, none⟩ 1 1 [.int .i64 x] rfl rfl HG.out one_int ?c3 ?c4 hb ?_)
    case c3 => unfold maxLen; omega
    case c4 => omega
    intro v' w' hown hgrow _
    have HO := Lib.hid (show GrownRow base _ (xs ++ [x]) w (.returned v') w' from ⟨v', rfl, by simpa [IOwn] using hown, hgrow⟩)
    clear hown hgrow
    go_wp2_with fail
    go_ret
    exact HO.out

theorem insert_end' (w : World) (base : Nat) (v : Value) (xs : List Int) (x : Int) (g n : Nat) (hn' : xs.length = n) (hv : IOwn w base v xs) (hb : base ≤ w.heap.size) (hn : n ≤ 1000)
    (hx : w.cell? ⟨g, 0, none⟩ = some (.int .i64 x)) :
    Calls Tryd.prog 31 #[v, .int .i64 (n : Int), .slice (some ⟨g, 0, none⟩) 1 1] w (GrownRow base v (xs ++ [x]) w) := by
  subst hn'
  exact insert_end w base v xs x g hv hb hn hx

theorem natI_snoc (l : List Nat) (p : Nat) : natI (l ++ [p]) = natI l ++ [(p : Int)] := by simp [natI]

theorem SameAt.grow {w w' : World} {v : Value} {o : Obj} (h : w' = w.alloc o) : SameAt w w' v := by
  subst h
  exact ⟨by simp, fun g _ hg => Below.heap_alloc w o g hg⟩

theorem grown_after {w w1 w2 : World} {row : Option Nat} (h : Below w.heap.size w w1) (k : w1.grownBy w2 row) : w.grownBy w2 row :=
  ⟨k.os.trans h.os, k.tape.trans h.tape, k.output.trans h.output, Nat.le_trans h.size k.size, fun i hi hne => (k.block i (Nat.lt_of_lt_of_le hi h.size) hne).trans (h.block i hi)⟩

theorem sorted_get {l : List Nat} (h : sortedB l = true) {i j : Nat} {x y : Nat} (hx : l[i]? = some x) (hy : l[j]? = some y) (hij : i < j) : lwN x < lwN y := by
  unfold sortedB at h
  have hj : j < l.length := by
    rcases Nat.lt_or_ge j l.length with h1 | h1
    · exact h1
    · rw [List.getElem?_eq_none h1] at hy; cases hy
  have h1 := List.all_eq_true.1 h j (List.mem_range.2 hj)
  have h2 := List.all_eq_true.1 h1 i (List.mem_range.2 hij)
  simp only [List.getD_eq_getElem?_getD, hx, hy, Option.getD_some, decide_eq_true_eq] at h2
  exact h2

/-- what the insertion of p into l is handed: found, or behind all -/
inductive Ins (l : List Nat) (p : Nat) (l' : List Nat) : Prop where
  | found (q : Nat) (y : Nat) (h : l[q]? = some y) (e : lwN y = lwN p) (el : l' = l)
  | new (h : ∀ y ∈ l, lwN y < lwN p) (el : l' = l ++ [p])

theorem Ins.place {l l' : List Nat} {p : Nat} (h : Ins l p l') (hs : sortedB l = true) :
    ∃ q, Place l (lwN p) q ∧ ((foundB l (lwN p) q = true ∧ l' = l) ∨ (foundB l (lwN p) q = false ∧ q = l.length ∧ l' = l ++ [p])) := by
  cases h with
  | found q y hq e el =>
    have hql : q < l.length := by
      rcases Nat.lt_or_ge q l.length with h1 | h1
      · exact h1
      · rw [List.getElem?_eq_none h1] at hq; cases hq
    refine ⟨q, ⟨by omega, fun i x hx hi => ?_, fun i x hx hi => ?_⟩, .inl ⟨by unfold foundB; rw [hq]; simp [e], el⟩⟩
    · rw [← e]; exact sorted_get hs hx hq hi
    · rw [← e]
      rcases Nat.eq_or_lt_of_le hi with h1 | h1
      · subst h1; rw [hq] at hx; obtain rfl := Option.some.inj hx; exact Nat.le_refl _
      · exact Nat.le_of_lt (sorted_get hs hq hx h1)
  | new hn el =>
    refine ⟨l.length, ⟨Nat.le_refl _, fun i x hx _ => hn x (List.mem_of_getElem? hx), fun i x hx hi => ?_⟩, .inr ⟨by unfold foundB; rw [List.getElem?_eq_none (Nat.le_refl _)], rfl, el⟩⟩
    rw [List.getElem?_eq_none hi] at hx; cases hx

theorem grown_alloc2 {w w' : World} {o o' : Obj} {row : Option Nat} (h : ((w.alloc o).alloc o').grownBy w' row) : w.grownBy w' row :=
  grown_after (((Below.refl _ _).alloc (Nat.le_refl _) o).alloc (by simp) o') h

set_option maxHeartbeats 2000000 in
theorem insertBy_any (w : World) (base : Nat) (v : Value) (l l' : List Nat) (p : Nat) (hv : IOwn w base v (natI l)) (hb : base ≤ w.heap.size) (hl : Parts l) (hp1 : 1 ≤ p) (hp2 : p ≤ 15)
    (hs : sortedB l = true) (ht : Tab w) (hi : Ins l p l') :
    Calls Tryd.prog 22 #[v, .int .i64 (p : Int), lwF] w (GrownRow base v (natI l') w) := by
  have hmf : ∀ (fn : Fn) (first cap : Array Value) (w : World), (Instr.makeFunc fn first cap).run Tryd.prog w = .ok (.func fn first cap) w := fun _ _ _ _ => rfl
  obtain ⟨q, hq, hcase⟩ := hi.place hs
  have HV := Lib.hid hv
  have HL := Lib.hid hl
  have HQ := Lib.hid hq
  have HT := Lib.hid ht
  clear hv hl hs ht hi hq
  have hB1 : ∀ o : Obj, Below w.heap.size w (w.alloc o) := fun o => (Below.refl _ _).alloc (Nat.le_refl _) o
  have hT1 : ∀ o : Obj, Hid (Tab (w.alloc o)) := fun o => Lib.hid (HT.out.below (hB1 o) (lt_of_tab HT.out))
  have hV1 : ∀ o : Obj, Hid (IOwn (w.alloc o) base v (natI l)) := fun o => Lib.hid (HV.out.keep (SameAt.of_below (hB1 o)))
  have HV1 := Lib.hid hV1
  have HT1 := Lib.hid hT1
  clear hV1 hT1 hB1
  unfold lwF
  rcases hcase with ⟨hf, rfl⟩ | ⟨hf, rfl, rfl⟩
  · go_enter Tryd.func22, Tryd.ntmps22
    go_wp2_with fail
    refine (leastWorld_any p hp1 hp2 _ (HT1.out _).out).mono ?_
    rintro e w' ⟨rfl, rfl⟩
    go_wp2_with fail
    refine (bs_any _ v _ (lwN p) q w.heap.size (HV1.out _).out.rd HL.out (HT1.out _).out (by simp [World.cell?_alloc_new, lwF]) HQ.out).mono ?_
    rintro e w' ⟨rfl, rfl⟩
    go_wp2_with fail
    go_ret
    exact ⟨_, rfl, (HV1.out _).out, World.grownBy_alloc _ _ _⟩
  · go_enter Tryd.func22, Tryd.ntmps22
    go_wp2_with fail
    refine (leastWorld_any p hp1 hp2 _ (HT1.out _).out).mono ?_
    rintro e w' ⟨rfl, rfl⟩
    go_wp2_with fail
    refine (bs_any _ v _ (lwN p) l.length w.heap.size (HV1.out _).out.rd HL.out (HT1.out _).out (by simp [World.cell?_alloc_new, lwF]) HQ.out).mono ?_
    rintro e w' ⟨rfl, rfl⟩
    go_wp2_with fail
    refine (insert_end' _ base v (natI l) (p : Int) (w.heap.size + 1) l.length (natI_len l) (((HV.out.keep (SameAt.grow rfl)).keep (SameAt.grow rfl))) (by simp; omega) (by have := HL.out.1; omega) (by simp)).mono ?_
    rintro e w' ⟨v', rfl, ho, hg⟩
    have HO := Lib.hid (show GrownRow base v (natI (l ++ [p])) w (.returned v') w' from ⟨v', rfl, by rw [natI_snoc]; exact ho, grown_alloc2 hg⟩)
    clear ho hg
    go_wp2_with fail
    go_ret
    exact HO.out

end Go.Proofs.YtnleljofoljdkaaDoor
