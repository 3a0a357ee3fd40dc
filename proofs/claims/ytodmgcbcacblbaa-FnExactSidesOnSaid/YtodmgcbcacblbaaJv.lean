/- A row of bids that came in reads as a list. Conditions: what the form tells of an argument. (gen_jv.py) -/
import Derived.Test.YtodmgcbcacblbaaJd
import Derived.Deep.SlicePairs
import Derived.Lib.SmallJoins
namespace Go.Proofs.Ytodmgcbcacblbaa
open Go.RowKit Go.Deep Go.ChangeShapes Go.WideShapes
set_option linter.unusedVariables false

def intIn : Value → Int
  | .int _ n => n
  | _ => 0

section
variable {H : Type} {enc : TypeId × Value → H} {P : Program} {w : World} {base : Nat} {spare : Nat → Bool} {held : Bool}

/-- a slice whose elements are structs of three fields of one cell, opened at every index -/
theorem open_slice_three {t e : TypeId} {f0 f1 f2 : Field} {fuel : Nat} {cs : List Value} {x : DataW H × List MemPlace} (ht : P.underlying t = some (.slice e)) (he : P.underlying e = some (.struct #[f0, f1, f2]))
    (ce : P.cellsOf e = 3) (o0 : f0.offset = 0) (o1 : f1.offset = 1) (o2 : f2.offset = 2) (c0 : P.cellsOf f0.type = 1) (c1 : P.cellsOf f1.type = 1) (c2 : P.cellsOf f2.type = 1)
    (h : DataW.trod enc P w base spare held fuel t cs = some x) :
    (cs = [.slice none 0 0]) ∨
    ∃ (a : Addr) (len cap m n : Nat), cs = [.slice (some a) len cap] ∧ base ≤ a.block ∧ len ≤ cap ∧ cap ≤ maxLen ∧ m = (if spare a.block then cap else len) ∧
      ∀ i, i < m → ∃ v0 v1 v2 y0 y1 y2, w.cell? (a.add (i * 3)) = some v0 ∧ w.cell? (a.add (i * 3 + 1)) = some v1 ∧ w.cell? (a.add (i * 3 + 2)) = some v2 ∧
        DataW.trod enc P w base spare held n f0.type [v0] = some y0 ∧ DataW.trod enc P w base spare held n f1.type [v1] = some y1 ∧ DataW.trod enc P w base spare held n f2.type [v2] = some y2 := by
  rcases open_slice ht h with ⟨h0, -⟩ | ⟨a, len, cap, m, n, D, Pl, rfl, hb, hl, hm, hmm, rfl, hx⟩
  · exact Or.inl h0
  right
  refine ⟨a, len, cap, m, n - 1, rfl, hb, hl, hm, hmm, fun i hi => ?_⟩
  obtain ⟨cs', h1, h2⟩ := hx i hi
  rw [ce] at h1
  obtain ⟨_, hlen, hcell⟩ := World.cells?_some h1
  obtain ⟨xs, k, hk, hxy, _, hxl, hf⟩ := DataW.trod_struct he h2
  have hk' : k = n - 1 := by omega
  subst hk'
  match xs, hxl, cs', hlen with
  | [y0, y1, y2], _, [v0, v1, v2], _ =>
    have g0 := hf 0 f0 rfl
    have g1 := hf 1 f1 rfl
    have g2 := hf 2 f2 rfl
    simp [o0, o1, o2, c0, c1, c2] at g0 g1 g2
    have e0 := hcell 0 (by omega)
    have e1 := hcell 1 (by omega)
    have e2 := hcell 2 (by omega)
    rw [add_add] at e0 e1 e2
    exact ⟨v0, v1, v2, y0, y1, y2, by simpa using e0, by simpa using e1, by simpa using e2, g0, g1, g2⟩

end

theorem brd_of_trod {H : Type} {enc : TypeId × Value → H} {W : World} {fuel : Nat} {a : Option Addr} {len cap : Nat} {x : DataW H × List MemPlace}
    (hf : DataW.trod enc Try.prog W 0 (fun _ => true) true fuel 55 [.slice a len cap] = some x) : ∃ bs, BRd W (.slice a len cap) bs := by
  rcases open_slice_three Try.underlying55 Try.underlying97 (by kernel_rfl) rfl rfl rfl (by kernel_rfl) (by kernel_rfl) (by kernel_rfl) hf with h | ⟨a', len', cap', m, n, hcs, hb, hl, hm, hmm, hi⟩
  · have h' : (Value.slice a len cap) = .slice none 0 0 := by simpa using h
    rw [h']
    exact ⟨[], GRd.nil _ _ _⟩
  · have h' : (Value.slice a len cap) = .slice (some a') len' cap' := by simpa using hcs
    rw [h']
    have hmc : m = cap' := by rw [hmm]; simp
    subst hmc
    rw [maxLen_is] at hm
    obtain ⟨b, off, spot⟩ := a'
    have hv : ∀ i : Nat, i < m → ∃ q : Bt, W.cell? ((⟨b, off, spot⟩ : Addr).add (i * 3)) = some (.int .i64 q.1) ∧ W.cell? ((⟨b, off, spot⟩ : Addr).add (i * 3 + 1)) = some (.int .i64 q.2.1) ∧ W.cell? ((⟨b, off, spot⟩ : Addr).add (i * 3 + 2)) = some (.int .i64 q.2.2) := by
      intro i him
      obtain ⟨v0, v1, v2, y0, y1, y2, k0, k1, k2, h0, h1, h2⟩ := hi i him
      obtain ⟨n0, e0, -, -⟩ := DataW.trod_int Try.underlying3 h0
      obtain ⟨n1, e1, -, -⟩ := DataW.trod_int Try.underlying3 h1
      obtain ⟨n2, e2, -, -⟩ := DataW.trod_int Try.underlying3 h2
      have e0' : v0 = .int .i64 n0 := by simpa using e0
      have e1' : v1 = .int .i64 n1 := by simpa using e1
      have e2' : v2 = .int .i64 n2 := by simpa using e2
      exact ⟨(n0, n1, n2), by rw [k0, e0'], by rw [k1, e1'], by rw [k2, e2']⟩
    obtain ⟨q, hq⟩ := choose_lt hv
    refine ⟨(List.range len').map q, some ⟨b, off, spot⟩, m, by simp, by simpa using hl, hm, fun h0 => ?_⟩
    have hlen : 0 < len' := by simpa using h0
    have hc := (hq 0 (by omega)).1
    have hspot : spot = none := by simpa [Addr.add] using World.cell?_spot hc
    subst hspot
    have hlt := World.block_lt_of_cell? W _ hc
    rw [addr_add] at hlt
    refine ⟨b, off, rfl, hlt, fun i p hj j u hu => ?_⟩
    have hil : i < len' := by
      rcases Nat.lt_or_ge i len' with h1 | h1
      · exact h1
      · rw [List.getElem?_eq_none (by simpa using h1)] at hj; cases hj
    have hqe : p = q i := by
      rw [List.getElem?_map, List.getElem?_range hil] at hj
      exact (Option.some.inj hj).symm
    obtain ⟨c0, c1, c2⟩ := hq i (by omega)
    rw [addr_add] at c0 c1 c2
    subst hqe
    match j, hu with
    | 0, hu =>
      have : u = .int .i64 (q i).1 := (Option.some.inj hu).symm
      rw [Nat.add_zero, c0, this]
    | 1, hu =>
      have : u = .int .i64 (q i).2.1 := (Option.some.inj hu).symm
      rw [Nat.add_assoc, c1, this]
    | 2, hu =>
      have : u = .int .i64 (q i).2.2 := (Option.some.inj hu).symm
      rw [Nat.add_assoc, c2, this]
    | j + 3, hu => simp [bC] at hu

end Go.Proofs.Ytodmgcbcacblbaa
