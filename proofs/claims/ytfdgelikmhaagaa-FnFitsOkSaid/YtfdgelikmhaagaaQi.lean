/- spec.BalanceOf. Conditions: rows that read as lists. -/
import Derived.Test.YtfdgelikmhaagaaQh
namespace Go.Proofs.Ytfdgelikmhaagaa
open Go.RowKit
set_option linter.unusedVariables false

theorem bal_next {n : Int} {qs : List Qt} {ss : List Int} {k : Nat} {q : Qt} {s : Int} (h : balB n qs ss = true) (hq : qs[k]? = some q) (hs : ss[k]? = some s) (j : Nat) :
    IntKind.i64.wrap (balI (qs.take k) (ss.take k) j + gainI q s j) = balI (qs.take (k + 1)) (ss.take (k + 1)) j := by
  obtain ⟨h1, h2, h3⟩ := (balB_iff _ _ _).1 h
  obtain ⟨h4, h5, h6⟩ := (bokB_iff _ _).1 h1
  have hb := bal_bound (w := n) (qs := qs.take k) (ss := ss.take k) (fun q hq => h6 q (List.mem_of_mem_take hq)) (fun s hs => h3 s (List.mem_of_mem_take hs)) (by simp [h2]) j
  have hl : (qs.take k).length ≤ 3 := by simp; omega
  have hg := gain_bound (bal_gain h hq hs) j
  rw [balI_take hq hs h2 j]
  exact IntWalk.i64_in _ (by omega)

theorem bal_next64 {n : Int} {qs : List Qt} {ss : List Int} {k : Nat} {q : Qt} {s : Int} (h : balB n qs ss = true) (hq : qs[k]? = some q) (hs : ss[k]? = some s) (j : Nat) :
    wrap64 (balI (qs.take k) (ss.take k) j + gainI q s j) = balI (qs.take (k + 1)) (ss.take (k + 1)) j := by
  obtain ⟨h1, h2, h3⟩ := (balB_iff _ _ _).1 h
  obtain ⟨h4, h5, h6⟩ := (bokB_iff _ _).1 h1
  have hb := bal_bound (w := n) (qs := qs.take k) (ss := ss.take k) (fun q hq => h6 q (List.mem_of_mem_take hq)) (fun s hs => h3 s (List.mem_of_mem_take hs)) (by simp [h2]) j
  have hl : (qs.take k).length ≤ 3 := by simp; omega
  have hg := gain_bound (bal_gain h hq hs) j
  rw [balI_take hq hs h2 j]
  exact IntWalk.wrap64_in _ (by omega)

theorem lit_ret (w : World) (base : Nat) (hb : base ≤ w.heap.size) : IOwn (w.alloc (.cells #[] 3)) base (.slice (some ⟨w.heap.size, 0, none⟩) 0 0) [] := lit_own w base hb

end Go.Proofs.Ytfdgelikmhaagaa
