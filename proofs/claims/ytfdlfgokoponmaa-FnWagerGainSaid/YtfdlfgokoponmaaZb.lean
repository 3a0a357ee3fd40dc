/- Contracts of spec's l1Number (small numbers), l1Cut, l1Digits. Conditions: stated at each. -/
import Derived.Test.YtfdlfgokoponmaaZa
import Derived.Test.YtfdlfgokoponmaaRh
import Derived.Laws.IdiomStrings
namespace Go.Proofs.Ytfdlfgokoponmaa
open Go.RowKit
set_option linter.unusedVariables false

theorem conv_digit (w : World) {n : Nat} (h : n ≤ 9) :
    (convert 22 9 (.slice (some ⟨w.heap.size, 0, none⟩) 1 1)).run Try.prog (w.alloc (.cells #[.int .u8 (48 + (n : Int))] 5)) = .ok (.string ⟨#[dg n]⟩) (w.alloc (.cells #[.int .u8 (48 + (n : Int))] 5)) := by
  refine run_convert_bytes_back _ 22 9 5 ⟨w.heap.size, 0, none⟩ 1 [dg n] Try.underlying22 Try.underlying5 Try.underlying9 ?_
  intro j hj
  have h1 := one_new w (.int .u8 (48 + (n : Int))) 5 j (.int .u8 (48 + (n : Int))) (by
    obtain rfl : j = 0 := by simpa using hj
    rfl)
  obtain rfl : j = 0 := by simpa using hj
  rw [h1]
  have := (dg_ne h).2.2.2
  simp only [List.getElem_cons_zero, this]
  rfl

theorem bs_at {S : ByteArray} {k : Nat} (hk : k < S.size) : (bs S)[k]? = some (S[k]'hk) := by
  rw [List.getElem?_eq_getElem (by rw [bs_len]; exact hk)]; rfl

theorem bs_ext (S : ByteArray) (a b : Nat) : bs (S.extract a b) = ((bs S).drop a).take (b - a) := by
  simp [bs, ByteArray.data_extract, List.extract]

theorem ext_le (S : ByteArray) (a b : Nat) : (S.extract a b).size ≤ S.size := by rw [ByteArray.size_extract]; omega

theorem Try_textinfo : (Try.prog.info? 9).map (fun i => (i.zero, i.size, i.bytes)) = some (some (.string ByteArray.empty), 1, 16) := by kernel_rfl

/-- a row of texts of the call's own -/
def TOwn (w : World) (base : Nat) (v : Value) (ps : List ByteArray) : Prop := w.ownsRow base 9 1 v ps.length (ps.map Value.string)

/-- the pieces of a text -/
def CutPost (c : UInt8) (S : ByteArray) (w : World) (e : Ending) (w' : World) : Prop := ∃ (g cc : Nat) (ps : List ByteArray), e = .returned (.slice (some ⟨g, 0, none⟩) ps.length cc) ∧ TOwn w' w.heap.size (.slice (some ⟨g, 0, none⟩) ps.length cc) ps ∧ ps.map bs = cutF c (bs S) ∧ (∀ p ∈ ps, p.size ≤ S.size) ∧ Below w.heap.size w w'

/-- the number of a text of digits, or none -/
def DigPost (S : ByteArray) (w : World) (e : Ending) (w' : World) : Prop := ∃ d : Int, e = .returned (.int .i64 d) ∧ -1 ≤ d ∧ d ≤ 999999 ∧ (∀ n : Nat, n ≤ 9 → bs S = [dg n] → d = n) ∧ Below w.heap.size w w'

theorem one_digit {S : ByteArray} {n : Nat} (h : bs S = [dg n]) (hn : n ≤ 9) : S.size = 1 ∧ ∀ h0 : 0 < S.size, (S[0]'h0).toNat = 48 + n := by
  have h1 : S.size = 1 := by rw [← bs_len, h]; rfl
  refine ⟨h1, fun h0 => ?_⟩
  have := bs_at h0
  rw [h] at this
  have := Option.some.inj this
  rw [← this]
  exact (dg_ne hn).2.2.2

theorem pow_le6 {k : Nat} (h : k ≤ 6) : 10 ^ k ≤ 1000000 := by
  have : ∀ j : Fin 7, 10 ^ (j : Nat) ≤ 1000000 := by decide
  exact this ⟨k, by omega⟩

end Go.Proofs.Ytfdlfgokoponmaa
