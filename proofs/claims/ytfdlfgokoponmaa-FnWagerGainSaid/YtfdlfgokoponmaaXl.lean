/- The reading of terms: spec.l9Atom. Conditions: stated. -/
import Derived.Test.YtfdlfgokoponmaaXk
import Derived.Laws.Strings
namespace Go.Proofs.Ytfdlfgokoponmaa
open Go.RowKit
set_option linter.unusedVariables false

/-- the bytes of a text -/
def bs (S : ByteArray) : List UInt8 := S.data.toList

theorem bs_len (S : ByteArray) : (bs S).length = S.size := by rw [bs, Array.length_toList]; rfl

theorem bs_drop (S : ByteArray) {k : Nat} (hk : k < S.size) : (bs S).drop k = S[k] :: (bs S).drop (k + 1) := by
  rw [List.drop_eq_getElem_cons (by rw [bs_len]; exact hk)]
  rfl

theorem bs_end (S : ByteArray) {k : Nat} (hk : S.size ≤ k) : (bs S).drop k = [] := List.drop_eq_nil_of_le (by rw [bs_len]; exact hk)

theorem u8_lit {c d : UInt8} (h : c.toNat = d.toNat) : c = d := UInt8.toNat_inj.1 h

/-- what is read from a place on -/
def Got (m : Md) (S : ByteArray) (k : Nat) (ms : List Mk) (nx : Int) : Prop :=
  (∃ (T : Tm) (j : Nat), Rds m ((bs S).drop k) T ((bs S).drop j) ∧ ms = encT T ∧ nx = (j : Int) ∧ k ≤ j ∧ j ≤ S.size) ∨ ((∀ T q, ¬ Rds m ((bs S).drop k) T q) ∧ nx = -1)

theorem got_no {S : ByteArray} {k : Nat} (hk : k < S.size) (h : (S[k]'hk).toNat = 33) {ms : List Mk} {nx : Int} (g : Got .atom S (k + 1) ms nx) : Got .atom S k (ms ++ [(1, 0)]) nx := by
  have hc : S[k]'hk = 33 := u8_lit (d := 33) h
  rcases g with ⟨T, j, h1, rfl, h3, h4, h5⟩ | ⟨h1, h2⟩
  · refine .inl ⟨.no T, j, ?_, rfl, h3, by omega, h5⟩
    rw [bs_drop S hk, hc, rds_no]
    exact ⟨T, h1, rfl⟩
  · refine .inr ⟨fun T q hr => ?_, h2⟩
    rw [bs_drop S hk, hc, rds_no] at hr
    obtain ⟨x, hx, -⟩ := hr
    exact h1 x q hx

theorem got_br {S : ByteArray} {k : Nat} (hk : k < S.size) (h : (S[k]'hk).toNat = 40) {T : Tm} {j : Nat} (hj : j < S.size) (h2 : (S[j]'hj).toNat = 41) (hkj : k + 1 ≤ j) (g : Rds .disj ((bs S).drop (k + 1)) T ((bs S).drop j)) : Got .atom S k (encT T) ((j : Int) + 1) := by
  have hc : S[k]'hk = 40 := u8_lit (d := 40) h
  have hd : S[j]'hj = 41 := u8_lit (d := 41) h2
  refine .inl ⟨T, j + 1, ?_, rfl, by omega, by omega, by omega⟩
  rw [bs_drop S hk, hc, rds_br]
  rwa [bs_drop S hj, hd] at g

theorem got_br_no {S : ByteArray} {k : Nat} (hk : k < S.size) (h : (S[k]'hk).toNat = 40) {T : Tm} {j : Nat} (g : Rds .disj ((bs S).drop (k + 1)) T ((bs S).drop j)) (hj : ∀ hj : j < S.size, (S[j]'hj).toNat ≠ 41) : ∀ U q, ¬ Rds .atom ((bs S).drop k) U q := by
  intro U q hr
  have hc : S[k]'hk = 40 := u8_lit (d := 40) h
  rw [bs_drop S hk, hc, rds_br] at hr
  have h3 := (g.det hr).2
  by_cases h4 : j < S.size
  · rw [bs_drop S h4] at h3
    injection h3 with h5 h6
    exact hj h4 (by rw [h5]; rfl)
  · rw [bs_end S (by omega)] at h3
    cases h3

theorem got_br_none {S : ByteArray} {k : Nat} (hk : k < S.size) (h : (S[k]'hk).toNat = 40) (g : ∀ T q, ¬ Rds .disj ((bs S).drop (k + 1)) T q) : ∀ U q, ¬ Rds .atom ((bs S).drop k) U q := by
  intro U q hr
  have hc : S[k]'hk = 40 := u8_lit (d := 40) h
  rw [bs_drop S hk, hc, rds_br] at hr
  exact g _ _ hr

theorem got_else {S : ByteArray} {k : Nat} (hk : k < S.size) (h1 : ¬ (S[k]'hk).toNat = 97) (h2 : ¬ (S[k]'hk).toNat = 98) (h3 : ¬ (S[k]'hk).toNat = 33) (h4 : ¬ (S[k]'hk).toNat = 40) : ∀ U q, ¬ Rds .atom ((bs S).drop k) U q := by
  intro U q hr
  rw [bs_drop S hk] at hr
  exact rds_else (fun e => h1 (by rw [e]; rfl)) (fun e => h2 (by rw [e]; rfl)) (fun e => h3 (by rw [e]; rfl)) (fun e => h4 (by rw [e]; rfl)) _ _ _ hr

def PPost (m : Md) (S : ByteArray) (k : Nat) (w : World) (e : Ending) (w' : World) : Prop :=
  ∃ g n c ms nx, e = .returned (.tuple #[.slice (some ⟨g, 0, none⟩) n c, .int .i64 nx]) ∧ MOwn w' w.heap.size (.slice (some ⟨g, 0, none⟩) n c) ms ∧ Below w.heap.size w w' ∧ ms.length ≤ S.size - k ∧ Got m S k ms nx

theorem mown_len {w : World} {base g n c : Nat} {ms : List Mk} (o : MOwn w base (.slice (some ⟨g, 0, none⟩) n c) ms) : n = ms.length := by
  obtain ⟨A, cp, e, -, -⟩ := (o.rd qC_len).form
  injection e

theorem pp_none {m : Md} {S : ByteArray} {k : Nat} {w w1 : World} (h : ∀ T q, ¬ Rds m ((bs S).drop k) T q) (b : Below w.heap.size w w1) :
    PPost m S k w (.returned (.tuple #[.slice (some ⟨w1.heap.size, 0, none⟩) 0 0, .int .i64 (-1)])) (w1.alloc (.cells #[] 34)) :=
  ⟨_, 0, 0, [], -1, rfl, mlit0 w1 w.heap.size b.size, b.alloc b.size _, Nat.zero_le _, .inr ⟨h, rfl⟩⟩

theorem pp_some {m : Md} {S : ByteArray} {k : Nat} {w w1 : World} {v : Value} {ms : List Mk} {nx : Int} (o : MOwn w1 w.heap.size v ms) (hv : v ≠ .slice none 0 0) (b : Below w.heap.size w w1) (hl : ms.length ≤ S.size - k) (h : Got m S k ms nx) :
    PPost m S k w (.returned (.tuple #[v, .int .i64 nx])) w1 := by
  rcases id o.2 with ⟨rfl, h0⟩ | ⟨g, cap, cur, rfl, -⟩
  · exact absurd rfl hv
  · exact ⟨g, ms.length, cap, ms, nx, rfl, o, b, hl, h⟩

theorem mlit1 (w : World) (base : Nat) (hb : base ≤ w.heap.size) (x y : Int) : MOwn (w.alloc (.cells #[.int .i64 x, .int .i64 y] 34)) base (.slice (some ⟨w.heap.size, 0, none⟩) 1 1) [(x, y)] :=
  World.ownsRow_lit w #[.int .i64 x, .int .i64 y] 1 hb (by unfold maxLen; omega) rfl

end Go.Proofs.Ytfdlfgokoponmaa
