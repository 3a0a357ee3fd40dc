/- Appends to a row of marks that the call owns: one mark; a row that reads. Conditions: stated. -/
import Derived.Test.YtfdlfgokoponmaaDoorXb
namespace Go.Proofs.YtfdlfgokoponmaaDoor
open Go.RowKit
set_option linter.unusedVariables false

theorem qC_one (ms : List Qt) : ∀ u ∈ ms.flatMap qC, u.oneCell' = true := by
  intro u hu
  obtain ⟨q, -, hq⟩ := List.mem_flatMap.1 hu
  simp only [qC, List.mem_cons, List.not_mem_nil, or_false] at hq
  rcases hq with rfl | rfl <;> rfl

theorem QRd.news {w : World} {b off n c : Nat} {ms : List Qt} (h : QRd w (.slice (some ⟨b, off, none⟩) n c) ms) : ∀ j u, (ms.flatMap qC)[j]? = some u → w.cell? ((⟨b, off, none⟩ : Addr).add j) = some u := by
  intro j u hu
  have hj : j < (ms.flatMap qC).length := (List.getElem?_eq_some_iff.1 hu).1
  rw [flat_len qC_len] at hj
  have hk : j / 2 < ms.length := by omega
  obtain ⟨q, hq⟩ : ∃ q, ms[j / 2]? = some q := ⟨_, List.getElem?_eq_getElem hk⟩
  obtain ⟨h0, h1⟩ := QRd.cell h hq
  rcases Nat.mod_two_eq_zero_or_one j with hm | hm
  · have e1 := flat_at qC_len hq (j := 0) (u := .int .i64 q.1) rfl
    rw [show j / 2 * 2 + 0 = j from by omega] at e1
    rw [e1] at hu
    obtain rfl := Option.some.inj hu
    rw [show j / 2 * 2 = j from by omega] at h0
    rw [addr_add]; exact h0
  · have e1 := flat_at qC_len hq (j := 1) (u := .int .i64 q.2) rfl
    rw [show j / 2 * 2 + 1 = j from by omega] at e1
    rw [e1] at hu
    obtain rfl := Option.some.inj hu
    rw [Nat.add_assoc, show j / 2 * 2 + 1 = j from by omega] at h1
    rw [addr_add]; exact h1

theorem wp_app_row {ops : Array Oper} {rest : List Oper} {o : Oper} {a : Act} {Q : Exit → Act → World → Prop} (hgd : o.guard = none) (s x : Operand)
    (ho : o.op = .call { callee := .builtin .append, args := #[s, x], argTypes := #[23, 23] }) (w : World) (base : Nat) (v : Value) (ms : List Qt) (b off m c : Nat) (ns : List Qt)
    (hs : a.eval s = v) (hown : MOwn w base v ms) (hx : a.eval x = .slice (some ⟨b, off, none⟩) m c) (hrd : QRd w (.slice (some ⟨b, off, none⟩) m c) ns)
    (h1 : ms.length ≤ 1000000) (h2 : ns.length ≤ 1000000) (hb : base ≤ w.heap.size)
    (h : ∀ v' w', MOwn w' base v' (ms ++ ns) → w.grownBy w' v.ownBlock → (v' = .slice none 0 0 ↔ v = .slice none 0 0 ∧ m = 0) → (v'.ownBlock = v.ownBlock ∨ v'.ownBlock = some w.heap.size) → wpList Tryd.prog ops Q rest (a.put o.dst v') w') :
    wpList Tryd.prog ops Q (o :: rest) a w := by
  obtain ⟨i0, hi, hz0, hz1, hz2⟩ := info_parts Try_markinfo
  obtain ⟨A, cp, e, hl, hm, -⟩ := id hrd
  injection e with e1 e2 e3
  subst e2
  refine wpList_append_own_at w hgd s x 23 ho base 59 i0 (.agg #[.int .i64 0, .int .i64 0]) 2 16 Tryd.underlying23 hi hz0 hz1 hz2 rfl (by decide) v ms.length (ms.flatMap qC) hs hown ⟨b, off, none⟩ ns.length c (ns.flatMap qC) hx (flat_len qC_len ns) (QRd.news hrd) (qC_one ns) (by unfold maxLen; omega) (by omega) hb ?_
  intro v' w' k1 k2 k3 k4
  refine h v' w' ?_ k2 k3 k4
  unfold MOwn GOwn
  rw [List.length_append, List.flatMap_append]
  exact k1

theorem wp_app_mark {ops : Array Oper} {rest : List Oper} {o : Oper} {a : Act} {Q : Exit → Act → World → Prop} (hgd : o.guard = none) (s x : Operand)
    (ho : o.op = .call { callee := .builtin .append, args := #[s, x], argTypes := #[23, 23] }) (w : World) (base : Nat) (v : Value) (ms : List Qt) (k l : Int)
    (hs : a.eval s = v) (hown : MOwn w base v ms) (hx : a.eval x = .slice (some ⟨w.heap.size, 0, none⟩) 1 1)
    (h1 : ms.length ≤ 1000000) (hb : base ≤ w.heap.size)
    (h : ∀ v' w', MOwn w' base v' (ms ++ [(k, l)]) → Below base w w' → (v' = .slice none 0 0 ↔ False) → wpList Tryd.prog ops Q rest (a.put o.dst v') w') :
    wpList Tryd.prog ops Q (o :: rest) a (w.alloc (.cells #[.int .i64 k, .int .i64 l] 59)) := by
  have hrd : QRd (w.alloc (.cells #[.int .i64 k, .int .i64 l] 59)) (.slice (some ⟨w.heap.size, 0, none⟩) 1 1) [(k, l)] := by
    refine ⟨_, 1, rfl, by simp, by omega, fun _ => ⟨w.heap.size, 0, rfl, by simp, ?_⟩⟩
    intro i q hi j u hu
    match i, hi with
    | 0, hi =>
      obtain rfl := Option.some.inj hi
      have hn := World.news_of_block (heap_alloc_new w (.cells #[.int .i64 k, .int .i64 l] 59))
      have h5 := hn j u hu
      rw [addr_add] at h5
      simpa using h5
    | i + 1, hi => simp at hi
  refine wp_app_row hgd s x ho _ base v ms w.heap.size 0 1 1 [(k, l)] hs (World.ownsRow.alloc (show w.ownsRow base 59 2 v ms.length (ms.flatMap qC) from hown) _) hx hrd h1 (by simp) (by simp; omega) ?_
  intro v' w' k1 k2 k3 k4
  refine h v' w' k1 (((Below.refl base w).alloc hb _).grown k2 (by simp; omega) (fun g hg => (hown.ge g hg).1)) ?_
  rw [k3]
  simp

end Go.Proofs.YtfdlfgokoponmaaDoor
