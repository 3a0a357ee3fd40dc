/- The reading of terms: spec.l9And, spec.l9Or, and all three readers. Conditions: stated. (gen_xm.py) -/
import Derived.Test.YtfdlfgokoponmaaXl
namespace Go.Proofs.Ytfdlfgokoponmaa
open Go.RowKit
set_option linter.unusedVariables false
set_option linter.unusedSimpArgs false

def bw : Md → Nat
  | .conjL t => (encT t).length
  | .disjL t => (encT t).length
  | _ => 0

theorem prs_enc (f : Nat) : ∀ (m : Md) (s : List UInt8) (x : Tm × List UInt8), prs f m s = some x → (encT x.1).length + x.2.length ≤ s.length + bw m := by
  induction f with
  | zero => intro m s x h; simp [prs] at h
  | succ f ih =>
    intro m s x h
    match m, s, h with
    | .atom, [], h => simp [prs] at h
    | .atom, c :: r, h =>
      rw [prs] at h
      split at h
      · obtain rfl := Option.some.inj h; (simp [bw, encT]) <;> omega
      split at h
      · obtain rfl := Option.some.inj h; (simp [bw, encT]) <;> omega
      split at h
      · cases hp : prs f .atom r with
        | none => rw [hp] at h; cases h
        | some p =>
          rw [hp] at h
          obtain rfl := Option.some.inj h
          have := ih _ _ _ hp
          simp [bw, encT] at this ⊢
          omega
      split at h
      · split at h
        · next t d r' hp =>
          split at h
          · obtain rfl := Option.some.inj h
            have := ih _ _ _ hp
            simp [bw, encT] at this ⊢
            omega
          · cases h
        · cases h
      · cases h
    | .conj, s, h =>
      rw [prs] at h
      cases hp : prs f .atom s with
      | none => rw [hp] at h; cases h
      | some p =>
        rw [hp] at h
        have h1 := ih _ _ _ hp
        have h2 := ih _ _ _ h
        simp [bw, encT] at h1 h2 ⊢
        omega
    | .conjL t, [], h => rw [prs] at h; obtain rfl := Option.some.inj h; (simp [bw, encT]) <;> omega
    | .conjL t, c :: r, h =>
      rw [prs] at h
      split at h
      · cases hp : prs f .atom r with
        | none => rw [hp] at h; cases h
        | some p =>
          rw [hp] at h
          have h1 := ih _ _ _ hp
          have h2 := ih _ _ _ h
          simp [bw, encT] at h1 h2 ⊢
          omega
      · obtain rfl := Option.some.inj h; (simp [bw, encT]) <;> omega
    | .disj, s, h =>
      rw [prs] at h
      cases hp : prs f .conj s with
      | none => rw [hp] at h; cases h
      | some p =>
        rw [hp] at h
        have h1 := ih _ _ _ hp
        have h2 := ih _ _ _ h
        simp [bw, encT] at h1 h2 ⊢
        omega
    | .disjL t, [], h => rw [prs] at h; obtain rfl := Option.some.inj h; (simp [bw, encT]) <;> omega
    | .disjL t, c :: r, h =>
      rw [prs] at h
      split at h
      · cases hp : prs f .conj r with
        | none => rw [hp] at h; cases h
        | some p =>
          rw [hp] at h
          have h1 := ih _ _ _ hp
          have h2 := ih _ _ _ h
          simp [bw, encT] at h1 h2 ⊢
          omega
      · obtain rfl := Option.some.inj h; (simp [bw, encT]) <;> omega

theorem rds_enc {m : Md} {s : List UInt8} {T : Tm} {r : List UInt8} (h : Rds m s T r) : (encT T).length + r.length ≤ s.length + bw m := by
  obtain ⟨f, hf⟩ := h
  exact prs_enc f m s _ hf

theorem got_len {m : Md} {S : ByteArray} {k j : Nat} {T : Tm} (h : Rds m ((bs S).drop k) T ((bs S).drop j)) (hm : bw m = 0) (hk : k ≤ j) (hj : j ≤ S.size) : (encT T).length ≤ j - k := by
  have h1 := rds_enc h
  rw [List.length_drop, List.length_drop, bs_len, hm] at h1
  omega

/-- how much is left to read -/
def restN (n : Nat) (nx : Int) : Nat := if nx < 0 then 0 else n + 1 - nx.toNat

theorem rest_less {n j : Nat} {nx : Int} (h : nx = -1 ∨ (j : Int) < nx) (hj : j < n) : restN n nx < restN n (j : Int) := by
  unfold restN
  rw [if_neg (by omega : ¬ ((j : Int) < 0)), Int.toNat_natCast]
  rcases h with h | h
  · rw [if_pos (by omega)]; omega
  · rw [if_neg (by omega)]; omega

theorem byte_ne {S : ByteArray} {j : Nat} {c : UInt8} (h : ∀ hj : j < S.size, (S[j]'hj).toNat ≠ c.toNat) : ((bs S).drop j).head? ≠ some c := by
  by_cases hj : j < S.size
  · rw [bs_drop S hj]
    intro e
    have e2 := Option.some.inj e
    exact h hj (by rw [e2])
  · rw [bs_end S (by omega)]
    simp

/-- the state of the loop -/
def LpC (S : ByteArray) (k : Nat) (ms : List Mk) (nx : Int) : Prop :=
  (∃ (T : Tm) (j : Nat), nx = (j : Int) ∧ ms = encT T ∧ k ≤ j ∧ j ≤ S.size ∧ (encT T).length ≤ j - k ∧ ∀ U r, Rds .conj ((bs S).drop k) U r ↔ Rds (.conjL T) ((bs S).drop j) U r) ∨ (nx = -1 ∧ ms.length ≤ S.size - k ∧ ∀ U r, ¬ Rds .conj ((bs S).drop k) U r)

theorem lpC_start {S : ByteArray} {k : Nat} {ms : List Mk} {nx : Int} (hl : ms.length ≤ S.size - k) (g : Got .atom S k ms nx) : LpC S k ms nx := by
  rcases g with ⟨T, j, h1, rfl, rfl, h4, h5⟩ | ⟨h1, rfl⟩
  · refine .inl ⟨T, j, rfl, rfl, h4, h5, got_len h1 rfl h4 h5, fun U r => ?_⟩
    rw [rds_conj]
    constructor
    · rintro ⟨x, q, hx, hq⟩
      obtain ⟨rfl, rfl⟩ := h1.det hx
      exact hq
    · exact fun h => ⟨T, _, h1, h⟩
  · refine .inr ⟨rfl, hl, fun U r hr => ?_⟩
    rw [rds_conj] at hr
    obtain ⟨x, q, hx, -⟩ := hr
    exact h1 x q hx

theorem lpC_more {S : ByteArray} {k j : Nat} {T : Tm} (hkj : k ≤ j) (hj : j < S.size) (hc : (S[j]'hj).toNat = 38) (he : (encT T).length ≤ j - k) (h : ∀ U r, Rds .conj ((bs S).drop k) U r ↔ Rds (.conjL T) ((bs S).drop j) U r)
    {ms : List Mk} {nx : Int} (hl : ms.length ≤ S.size - (j + 1)) (g : Got .atom S (j + 1) ms nx) : LpC S k (encT T ++ ms ++ [(2, 0)]) nx := by
  have hd : S[j]'hj = 38 := u8_lit (d := 38) hc
  rcases g with ⟨X, i, h1, rfl, rfl, h4, h5⟩ | ⟨h1, rfl⟩
  · have h6 := got_len h1 rfl h4 h5
    refine .inl ⟨.an T X, i, rfl, rfl, by omega, h5, by simp only [encT, List.length_append, List.length_cons, List.length_nil]; omega, fun U r => ?_⟩
    rw [h, bs_drop S hj, hd, rds_conjL]
    constructor
    · rintro ⟨x, q, hx, hq⟩
      obtain ⟨rfl, rfl⟩ := h1.det hx
      exact hq
    · exact fun h => ⟨X, _, h1, h⟩
  · refine .inr ⟨rfl, by simp only [List.length_append, List.length_cons, List.length_nil]; omega, fun U r hr => ?_⟩
    rw [h, bs_drop S hj, hd, rds_conjL] at hr
    obtain ⟨x, q, hx, -⟩ := hr
    exact h1 x q hx

theorem lpC_end {S : ByteArray} {k j : Nat} {T : Tm} (hkj : k ≤ j) (hj : j ≤ S.size) (hc : ∀ hj : j < S.size, (S[j]'hj).toNat ≠ 38) (h : ∀ U r, Rds .conj ((bs S).drop k) U r ↔ Rds (.conjL T) ((bs S).drop j) U r) : Got .conj S k (encT T) (j : Int) := by
  refine .inl ⟨T, j, ?_, rfl, rfl, hkj, hj⟩
  rw [h, rds_conj_stop (byte_ne (c := 38) hc)]
  exact ⟨rfl, rfl⟩

/-- the state of the loop -/
def LpD (S : ByteArray) (k : Nat) (ms : List Mk) (nx : Int) : Prop :=
  (∃ (T : Tm) (j : Nat), nx = (j : Int) ∧ ms = encT T ∧ k ≤ j ∧ j ≤ S.size ∧ (encT T).length ≤ j - k ∧ ∀ U r, Rds .disj ((bs S).drop k) U r ↔ Rds (.disjL T) ((bs S).drop j) U r) ∨ (nx = -1 ∧ ms.length ≤ S.size - k ∧ ∀ U r, ¬ Rds .disj ((bs S).drop k) U r)

theorem lpD_start {S : ByteArray} {k : Nat} {ms : List Mk} {nx : Int} (hl : ms.length ≤ S.size - k) (g : Got .conj S k ms nx) : LpD S k ms nx := by
  rcases g with ⟨T, j, h1, rfl, rfl, h4, h5⟩ | ⟨h1, rfl⟩
  · refine .inl ⟨T, j, rfl, rfl, h4, h5, got_len h1 rfl h4 h5, fun U r => ?_⟩
    rw [rds_disj]
    constructor
    · rintro ⟨x, q, hx, hq⟩
      obtain ⟨rfl, rfl⟩ := h1.det hx
      exact hq
    · exact fun h => ⟨T, _, h1, h⟩
  · refine .inr ⟨rfl, hl, fun U r hr => ?_⟩
    rw [rds_disj] at hr
    obtain ⟨x, q, hx, -⟩ := hr
    exact h1 x q hx

theorem lpD_more {S : ByteArray} {k j : Nat} {T : Tm} (hkj : k ≤ j) (hj : j < S.size) (hc : (S[j]'hj).toNat = 124) (he : (encT T).length ≤ j - k) (h : ∀ U r, Rds .disj ((bs S).drop k) U r ↔ Rds (.disjL T) ((bs S).drop j) U r)
    {ms : List Mk} {nx : Int} (hl : ms.length ≤ S.size - (j + 1)) (g : Got .conj S (j + 1) ms nx) : LpD S k (encT T ++ ms ++ [(3, 0)]) nx := by
  have hd : S[j]'hj = 124 := u8_lit (d := 124) hc
  rcases g with ⟨X, i, h1, rfl, rfl, h4, h5⟩ | ⟨h1, rfl⟩
  · have h6 := got_len h1 rfl h4 h5
    refine .inl ⟨.vel T X, i, rfl, rfl, by omega, h5, by simp only [encT, List.length_append, List.length_cons, List.length_nil]; omega, fun U r => ?_⟩
    rw [h, bs_drop S hj, hd, rds_disjL]
    constructor
    · rintro ⟨x, q, hx, hq⟩
      obtain ⟨rfl, rfl⟩ := h1.det hx
      exact hq
    · exact fun h => ⟨X, _, h1, h⟩
  · refine .inr ⟨rfl, by simp only [List.length_append, List.length_cons, List.length_nil]; omega, fun U r hr => ?_⟩
    rw [h, bs_drop S hj, hd, rds_disjL] at hr
    obtain ⟨x, q, hx, -⟩ := hr
    exact h1 x q hx

theorem lpD_end {S : ByteArray} {k j : Nat} {T : Tm} (hkj : k ≤ j) (hj : j ≤ S.size) (hc : ∀ hj : j < S.size, (S[j]'hj).toNat ≠ 124) (h : ∀ U r, Rds .disj ((bs S).drop k) U r ↔ Rds (.disjL T) ((bs S).drop j) U r) : Got .disj S k (encT T) (j : Int) := by
  refine .inl ⟨T, j, ?_, rfl, rfl, hkj, hj⟩
  rw [h, rds_disj_stop (byte_ne (c := 124) hc)]
  exact ⟨rfl, rfl⟩

end Go.Proofs.Ytfdlfgokoponmaa
