/- The reading of terms: spec.l9And, spec.l9Or, and all three readers. Conditions: stated. (gen_xm.py) -/
import Derived.Test.YtfdlfgokoponmaaDoorXl
namespace Go.Proofs.YtfdlfgokoponmaaDoor
open Go.RowKit
set_option linter.unusedVariables false
set_option linter.unusedSimpArgs false

def bw : Md → Nat
  | .conjL t => (encT t).length
  | .disjL t => (encT t).length
  | _ => 0

theorem prs_enc (f : Nat) : ∀ (m : Md) (s : List UInt8) (x : Tm × List UInt8), prs f m s = some x → (encT x.1).length + x.2.length ≤ s.length + bw m := by
  induction f with
  | zero => intro m s x h; simp [prs] at h
  | succ f ih =>
    intro m s x h
    match m, s, h with
    | .atom, [], h => simp [prs] at h
    | .atom, c :: r, h =>
      rw [prs] at h
      split at h
      · obtain rfl := Option.some.inj h; (simp [bw, encT]) <;> omega
      split at h
      · obtain rfl := Option.some.inj h; (simp [bw, encT]) <;> omega
      split at h
      · cases hp : prs f .atom r with
        | none => rw [hp] at h; cases h
        | some p =>
          rw [hp] at h
          obtain rfl := Option.some.inj h
          have := ih _ _ _ hp
          simp [bw, encT] at this ⊢
          omega
      split at h
      · split at h
        · next t d r' hp =>
          split at h
          · obtain rfl := Option.some.inj h
            have := ih _ _ _ hp
            simp [bw, encT] at this ⊢
            omega
          · cases h
        · cases h
      · cases h
    | .conj, s, h =>
      rw [prs] at h
      cases hp : prs f .atom s with
      | none => rw [hp] at h; cases h
      | some p =>
        rw [hp] at h
        have h1 := ih _ _ _ hp
        have h2 := ih _ _ _ h
        simp [bw, encT] at h1 h2 ⊢
        omega
    | .conjL t, [], h => rw [prs] at h; obtain rfl := Option.some.inj h; (simp [bw, encT]) <;> omega
    | .conjL t, c :: r, h =>
      rw [prs] at h
      split at h
      · cases hp : prs f .atom r with
        | none => rw [hp] at h; cases h
        | some p =>
          rw [hp] at h
          have h1 := ih _ _ _ hp
          have h2 := ih _ _ _ h
          simp [bw, encT] at h1 h2 ⊢
          omega
      · obtain rfl := Option.some.inj h; (simp [bw, encT]) <;> omega
    | .disj, s, h =>
      rw [prs] at h
      cases hp : prs f .conj s with
      | none => rw [hp] at h; cases h
      | some p =>
        rw [hp] at h
        have h1 := ih _ _ _ hp
        have h2 := ih _ _ _ h
        simp [bw, encT] at h1 h2 ⊢
        omega
    | .disjL t, [], h => rw [prs] at h; obtain rfl := Option.some.inj h; (simp [bw, encT]) <;> omega
    | .disjL t, c :: r, h =>
      rw [prs] at h
      split at h
      · cases hp : prs f .conj r with
        | none => rw [hp] at h; cases h
        | some p =>
          rw [hp] at h
          have h1 := ih _ _ _ hp
          have h2 := ih _ _ _ h
          simp [bw, encT] at h1 h2 ⊢
          omega
      · obtain rfl := Option.some.inj h; (simp [bw, encT]) <;> omega

theorem rds_enc {m : Md} {s : List UInt8} {T : Tm} {r : List UInt8} (h : Rds m s T r) : (encT T).length + r.length ≤ s.length + bw m := by
  obtain ⟨f, hf⟩ := h
  exact prs_enc f m s _ hf

theorem got_len {m : Md} {S : ByteArray} {k j : Nat} {T : Tm} (h : Rds m ((bs S).drop k) T ((bs S).drop j)) (hm : bw m = 0) (hk : k ≤ j) (hj : j ≤ S.size) : (encT T).length ≤ j - k := by
  have h1 := rds_enc h
  rw [List.length_drop, List.length_drop, bs_len, hm] at h1
  omega

/-- how much is left to read -/
def restN (n : Nat) (nx : Int) : Nat := if nx < 0 then 0 else n + 1 - nx.toNat

theorem rest_less {n j : Nat} {nx : Int} (h : nx = -1 ∨ (j : Int) < nx) (hj : j < n) : restN n nx < restN n (j : Int) := by
  unfold restN
  rw [if_neg (by omega : ¬ ((j : Int) < 0)), Int.toNat_natCast]
  rcases h with h | h
  · rw [if_pos (by omega)]; omega
  · rw [if_neg (by omega)]; omega

theorem byte_ne {S : ByteArray} {j : Nat} {c : UInt8} (h : ∀ hj : j < S.size, (S[j]'hj).toNat ≠ c.toNat) : ((bs S).drop j).head? ≠ some c := by
  by_cases hj : j < S.size
  · rw [bs_drop S hj]
    intro e
    have e2 := Option.some.inj e
    exact h hj (by rw [e2])
  · rw [bs_end S (by omega)]
    simp

/-- the state of the loop -/
def LpC (S : ByteArray) (k : Nat) (ms : List Mk) (nx : Int) : Prop :=
  (∃ (T : Tm) (j : Nat), nx = (j : Int) ∧ ms = encT T ∧ k ≤ j ∧ j ≤ S.size ∧ (encT T).length ≤ j - k ∧ ∀ U r, Rds .conj ((bs S).drop k) U r ↔ Rds (.conjL T) ((bs S).drop j) U r) ∨ (nx = -1 ∧ ms.length ≤ S.size - k ∧ ∀ U r, ¬ Rds .conj ((bs S).drop k) U r)

theorem lpC_start {S : ByteArray} {k : Nat} {ms : List Mk} {nx : Int} (hl : ms.length ≤ S.size - k) (g : Got .atom S k ms nx) : LpC S k ms nx := by
  rcases g with ⟨T, j, h1, rfl, rfl, h4, h5⟩ | ⟨h1, rfl⟩
  · refine .inl ⟨T, j, rfl, rfl, h4, h5, got_len h1 rfl h4 h5, fun U r => ?_⟩
    rw [rds_conj]
    constructor
    · rintro ⟨x, q, hx, hq⟩
      obtain ⟨rfl, rfl⟩ := h1.det hx
      exact hq
    · exact fun h => ⟨T, _, h1, h⟩
  · refine .inr ⟨rfl, hl, fun U r hr => ?_⟩
    rw [rds_conj] at hr
    obtain ⟨x, q, hx, -⟩ := hr
    exact h1 x q hx

theorem lpC_more {S : ByteArray} {k j : Nat} {T : Tm} (hkj : k ≤ j) (hj : j < S.size) (hc : (S[j]'hj).toNat = 38) (he : (encT T).length ≤ j - k) (h : ∀ U r, Rds .conj ((bs S).drop k) U r ↔ Rds (.conjL T) ((bs S).drop j) U r)
    {ms : List Mk} {nx : Int} (hl : ms.length ≤ S.size - (j + 1)) (g : Got .atom S (j + 1) ms nx) : LpC S k (encT T ++ ms ++ [(2, 0)]) nx := by
  have hd : S[j]'hj = 38 := u8_lit (d := 38) hc
  rcases g with ⟨X, i, h1, rfl, rfl, h4, h5⟩ | ⟨h1, rfl⟩
  · have h6 := got_len h1 rfl h4 h5
    refine .inl ⟨.an T X, i, rfl, rfl, by omega, h5, by simp only [encT, List.length_append, List.length_cons, List.length_nil]; omega, fun U r => ?_⟩
    rw [h, bs_drop S hj, hd, rds_conjL]
    constructor
    · rintro ⟨x, q, hx, hq⟩
      obtain ⟨rfl, rfl⟩ := h1.det hx
      exact hq
    · exact fun h => ⟨X, _, h1, h⟩
  · refine .inr ⟨rfl, by simp only [List.length_append, List.length_cons, List.length_nil]; omega, fun U r hr => ?_⟩
    rw [h, bs_drop S hj, hd, rds_conjL] at hr
    obtain ⟨x, q, hx, -⟩ := hr
    exact h1 x q hx

theorem lpC_end {S : ByteArray} {k j : Nat} {T : Tm} (hkj : k ≤ j) (hj : j ≤ S.size) (hc : ∀ hj : j < S.size, (S[j]'hj).toNat ≠ 38) (h : ∀ U r, Rds .conj ((bs S).drop k) U r ↔ Rds (.conjL T) ((bs S).drop j) U r) : Got .conj S k (encT T) (j : Int) := by
  refine .inl ⟨T, j, ?_, rfl, rfl, hkj, hj⟩
  rw [h, rds_conj_stop (byte_ne (c := 38) hc)]
  exact ⟨rfl, rfl⟩

set_option maxHeartbeats 2000000 in
theorem l9And_of (S : ByteArray) (hS : S.size ≤ 100000) (k : Nat) (hk : k ≤ S.size)
    (ih : ∀ k' : Nat, k ≤ k' → k' ≤ S.size → ∀ w, Calls Tryd.prog 87 #[.string S, .int .i64 (k' : Int)] w (PPost .atom S k' w)) (w : World) :
    Calls Tryd.prog 71 #[.string S, .int .i64 (k : Int)] w (PPost .conj S k w) := by
  have IH := Lib.hid ih
  clear ih
  go_enter Tryd.func71, Tryd.ntmps71
  go_wp2_with fail
  refine (IH.out k (Nat.le_refl _) hk w).mono ?_
  rintro r w1 ⟨g0, n0, c0, ms0, nx0, rfl, o0, b0, l0, G0⟩
  have H0 : Hid (MOwn w1 w.heap.size (.slice (some ⟨g0, 0, none⟩) n0 c0) ms0 ∧ Below w.heap.size w w1 ∧ LpC S k ms0 nx0) := Lib.hid ⟨o0, b0, lpC_start l0 G0⟩
  clear o0 b0 l0 G0
  go_wp2_with fail
  go_loopw [6, 7] (fun p i wr => ∃ (g n c : Nat) (ms : List Mk) (nx : Int), i = .int .i64 nx ∧ p = .slice (some ⟨g, 0, none⟩) n c ∧ Hid (MOwn wr w.heap.size (.slice (some ⟨g, 0, none⟩) n c) ms ∧ Below w.heap.size w wr ∧ LpC S k ms nx)) (fun _ i _ => restN S.size (intOf i))
  case atStart => exact ⟨g0, n0, c0, ms0, nx0, rfl, rfl, H0⟩
  case round =>
    obtain ⟨g, n, c, ms, nx, rfl, rfl, H⟩ := hrel
    clear H0
    rcases H.out.2.2 with ⟨T, j, rfl, rfl, h1, h2, h3, h4⟩ | ⟨rfl, h1, h2⟩
    · have H4 := Lib.hid h4
      clear h4
      have hj0 : (0 : Int) ≤ (j : Int) := by omega
      by_cases hj : j < S.size
      · have hj' : (j : Int) < (S.size : Int) := by omega
        by_cases hc : (S[j]'hj).toNat = 38
        · have HC := Lib.hid hc
          go_wp2_with fail
          refine (IH.out (j + 1) (by omega) (by omega) _).mono ?_
          rintro r w2 ⟨g2, n2, c2, ms2, nx2, rfl, o2, b2, l2, G2⟩
          have H5 : Hid (MOwn w2 wr.heap.size (.slice (some ⟨g2, 0, none⟩) n2 c2) ms2 ∧ Below wr.heap.size wr w2 ∧ Below w.heap.size w w2) := Lib.hid ⟨o2, b2, below_step H.out.2.1 b2 H.out.2.1.size⟩
          have HL := Lib.hid (lpC_more h1 hj HC.out h3 H4.out l2 G2)
          have hnx : nx2 = -1 ∨ ((j : Int) < nx2) := by
            rcases G2 with ⟨X, i, -, -, rfl, h7, -⟩ | ⟨-, rfl⟩
            · right; omega
            · left; rfl
          have HNX := Lib.hid hnx
          clear o2 b2 G2 hnx hc
          have hm1 : (encT T).length ≤ 100000 := by omega
          have hm2 : ms2.length ≤ 100000 := by omega
          clear l2
          have H6 : Hid (MOwn (w2.alloc (.cells #[] 59)) w.heap.size (.slice (some ⟨w2.heap.size, 0, none⟩) 0 0) [] ∧ QRd (w2.alloc (.cells #[] 59)) (.slice (some ⟨g, 0, none⟩) n c) (encT T) ∧ QRd (w2.alloc (.cells #[] 59)) (.slice (some ⟨g2, 0, none⟩) n2 c2) ms2 ∧ Below w.heap.size w (w2.alloc (.cells #[] 59)) ∧ Below (w2.alloc (.cells #[] 59)).heap.size (w2.alloc (.cells #[] 59)) (w2.alloc (.cells #[] 59))) :=
            Lib.hid ⟨mlit0 w2 w.heap.size H5.out.2.2.size, ((H.out.1.rd qC_len).keep (SameAt.of_below H5.out.2.1)).keep (SameAt.of_below ((Below.refl _ w2).alloc (Nat.le_refl _) _)), (H5.out.1.rd qC_len).keep (SameAt.of_below ((Below.refl _ w2).alloc (Nat.le_refl _) _)), H5.out.2.2.alloc H5.out.2.2.size _, Below.refl _ _⟩
          go_wp2_with (at_builtin; refine wp_app_row rfl _ _ rfl _ (w2.heap.size) _ [] _ _ _ _ (encT T) (by rfl) ((mlit0 w2 w2.heap.size (Nat.le_refl _))) (by rfl) H6.out.2.1 ?a1 ?a2 ?a3 ?_)
          case a1 => simp
          case a2 => omega
          case a3 => simp
          intro v4 w4 o4 g4 _ y4
          have HB4 : Hid (Below w2.heap.size (w2.alloc (.cells #[] 59)) w4) := Lib.hid ((Below.refl _ _).grown g4 (by simp) (fun g hg => ((mlit0 w2 w2.heap.size (Nat.le_refl _)).ge g hg).1))
          have H7 : Hid (MOwn w4 w2.heap.size v4 (encT T) ∧ QRd w4 (.slice (some ⟨g2, 0, none⟩) n2 c2) ms2 ∧ Below w.heap.size w w4 ∧ Below w2.heap.size w2 w4) := Lib.hid ⟨by simpa using o4, (H5.out.1.rd qC_len).keep (SameAt.of_below (((Below.refl _ w2).alloc (Nat.le_refl _) _).trans HB4.out)), H6.out.2.2.2.1.trans (HB4.out.mono H5.out.2.2.size), ((Below.refl _ w2).alloc (Nat.le_refl _) _).trans HB4.out⟩
          clear o4 g4 y4
          go_wp2_with (at_builtin; refine wp_app_row rfl _ _ rfl _ (w2.heap.size) _ (encT T) _ _ _ _ ms2 (by rfl) H7.out.1 (by rfl) H7.out.2.1 ?a4 ?a5 ?a6 ?_)
          case a4 => omega
          case a5 => omega
          case a6 => exact H7.out.2.2.2.size
          intro v5 w5 o5 g5 _ y5
          have HB5 : Hid (Below w2.heap.size w4 w5) := Lib.hid ((Below.refl _ _).grown g5 H7.out.2.2.2.size (fun g hg => (H7.out.1.ge g hg).1))
          have H8 : Hid (MOwn w5 w2.heap.size v5 (encT T ++ ms2) ∧ Below w.heap.size w w5 ∧ Below w2.heap.size w2 w5) := Lib.hid ⟨by simpa using o5, H7.out.2.2.1.trans (HB5.out.mono H5.out.2.2.size), H7.out.2.2.2.trans HB5.out⟩
          clear o5 g5 y5
          go_wp2_with (at_builtin; refine wp_app_mark rfl _ _ rfl _ w2.heap.size _ _ _ _ (by rfl) H8.out.1 (by rfl) ?b1 ?b2 ?_)
          case b1 => simp; omega
          case b2 => exact H8.out.2.2.size
          intro v6 w6 o6 b6 nn6
          have H9 : Hid (MOwn w6 w.heap.size v6 (encT T ++ ms2 ++ [(2, 0)]) ∧ Below w.heap.size w w6 ∧ v6 ≠ .slice none 0 0) := Lib.hid ⟨GOwn.base (by simpa using o6) H5.out.2.2.size, H8.out.2.1.trans (b6.mono H5.out.2.2.size), fun e => nn6 e⟩
          clear o6 b6 nn6
          obtain ⟨gz, cz, rfl⟩ : ∃ gz cz, v6 = .slice (some ⟨gz, 0, none⟩) (encT T ++ ms2 ++ [((2 : Int), (0 : Int))]).length cz := by
            rcases id H9.out.1.2 with ⟨e, -⟩ | ⟨g, cap, cur, e, -⟩
            · exact absurd e H9.out.2.2
            · exact ⟨g, cap, e⟩
          go_wp2_with fail
          go_roundw
          case rel => exact ⟨gz, _, cz, _, nx2, rfl, rfl, Lib.hid ⟨H9.out.1, H9.out.2.1, HL.out⟩⟩
          case measure => exact rest_less HNX.out hj
        · have HG := Lib.hid (lpC_end h1 h2 (fun _ => hc) H4.out)
          have e1 : (((S[j]'hj).toNat : Int) == 38) = false := by simp; omega
          have H3 := Lib.hid h3
          clear hc h3
          go_wp2_with fail
          go_ret2
          exact ⟨g, n, c, encT T, _, rfl, H.out.1, H.out.2.1, by have := H3.out; omega, HG.out⟩
      · have HG := Lib.hid (lpC_end h1 h2 (fun h => absurd h hj) H4.out)
        have hj' : (S.size : Int) ≤ (j : Int) := by omega
        have H3 := Lib.hid h3
        clear h3
        go_wp2_with fail
        go_ret2
        exact ⟨g, n, c, encT T, _, rfl, H.out.1, H.out.2.1, by have := H3.out; omega, HG.out⟩
    · have H2 := Lib.hid h2
      have H1 := Lib.hid h1
      clear h1 h2
      go_wp2_with fail
      go_ret2
      exact ⟨g, n, c, ms, _, rfl, H.out.1, H.out.2.1, H1.out, .inr ⟨H2.out, rfl⟩⟩

/-- the state of the loop -/
def LpD (S : ByteArray) (k : Nat) (ms : List Mk) (nx : Int) : Prop :=
  (∃ (T : Tm) (j : Nat), nx = (j : Int) ∧ ms = encT T ∧ k ≤ j ∧ j ≤ S.size ∧ (encT T).length ≤ j - k ∧ ∀ U r, Rds .disj ((bs S).drop k) U r ↔ Rds (.disjL T) ((bs S).drop j) U r) ∨ (nx = -1 ∧ ms.length ≤ S.size - k ∧ ∀ U r, ¬ Rds .disj ((bs S).drop k) U r)

theorem lpD_start {S : ByteArray} {k : Nat} {ms : List Mk} {nx : Int} (hl : ms.length ≤ S.size - k) (g : Got .conj S k ms nx) : LpD S k ms nx := by
  rcases g with ⟨T, j, h1, rfl, rfl, h4, h5⟩ | ⟨h1, rfl⟩
  · refine .inl ⟨T, j, rfl, rfl, h4, h5, got_len h1 rfl h4 h5, fun U r => ?_⟩
    rw [rds_disj]
    constructor
    · rintro ⟨x, q, hx, hq⟩
      obtain ⟨rfl, rfl⟩ := h1.det hx
      exact hq
    · exact fun h => ⟨T, _, h1, h⟩
  · refine .inr ⟨rfl, hl, fun U r hr => ?_⟩
    rw [rds_disj] at hr
    obtain ⟨x, q, hx, -⟩ := hr
    exact h1 x q hx

theorem lpD_more {S : ByteArray} {k j : Nat} {T : Tm} (hkj : k ≤ j) (hj : j < S.size) (hc : (S[j]'hj).toNat = 124) (he : (encT T).length ≤ j - k) (h : ∀ U r, Rds .disj ((bs S).drop k) U r ↔ Rds (.disjL T) ((bs S).drop j) U r)
    {ms : List Mk} {nx : Int} (hl : ms.length ≤ S.size - (j + 1)) (g : Got .conj S (j + 1) ms nx) : LpD S k (encT T ++ ms ++ [(3, 0)]) nx := by
  have hd : S[j]'hj = 124 := u8_lit (d := 124) hc
  rcases g with ⟨X, i, h1, rfl, rfl, h4, h5⟩ | ⟨h1, rfl⟩
  · have h6 := got_len h1 rfl h4 h5
    refine .inl ⟨.vel T X, i, rfl, rfl, by omega, h5, by simp only [encT, List.length_append, List.length_cons, List.length_nil]; omega, fun U r => ?_⟩
    rw [h, bs_drop S hj, hd, rds_disjL]
    constructor
    · rintro ⟨x, q, hx, hq⟩
      obtain ⟨rfl, rfl⟩ := h1.det hx
      exact hq
    · exact fun h => ⟨X, _, h1, h⟩
  · refine .inr ⟨rfl, by simp only [List.length_append, List.length_cons, List.length_nil]; omega, fun U r hr => ?_⟩
    rw [h, bs_drop S hj, hd, rds_disjL] at hr
    obtain ⟨x, q, hx, -⟩ := hr
    exact h1 x q hx

theorem lpD_end {S : ByteArray} {k j : Nat} {T : Tm} (hkj : k ≤ j) (hj : j ≤ S.size) (hc : ∀ hj : j < S.size, (S[j]'hj).toNat ≠ 124) (h : ∀ U r, Rds .disj ((bs S).drop k) U r ↔ Rds (.disjL T) ((bs S).drop j) U r) : Got .disj S k (encT T) (j : Int) := by
  refine .inl ⟨T, j, ?_, rfl, rfl, hkj, hj⟩
  rw [h, rds_disj_stop (byte_ne (c := 124) hc)]
  exact ⟨rfl, rfl⟩

set_option maxHeartbeats 2000000 in
theorem l9Or_of (S : ByteArray) (hS : S.size ≤ 100000) (k : Nat) (hk : k ≤ S.size)
    (ih : ∀ k' : Nat, k ≤ k' → k' ≤ S.size → ∀ w, Calls Tryd.prog 71 #[.string S, .int .i64 (k' : Int)] w (PPost .conj S k' w)) (w : World) :
    Calls Tryd.prog 60 #[.string S, .int .i64 (k : Int)] w (PPost .disj S k w) := by
  have IH := Lib.hid ih
  clear ih
  go_enter Tryd.func60, Tryd.ntmps60
  go_wp2_with fail
  refine (IH.out k (Nat.le_refl _) hk w).mono ?_
  rintro r w1 ⟨g0, n0, c0, ms0, nx0, rfl, o0, b0, l0, G0⟩
  have H0 : Hid (MOwn w1 w.heap.size (.slice (some ⟨g0, 0, none⟩) n0 c0) ms0 ∧ Below w.heap.size w w1 ∧ LpD S k ms0 nx0) := Lib.hid ⟨o0, b0, lpD_start l0 G0⟩
  clear o0 b0 l0 G0
  go_wp2_with fail
  go_loopw [6, 7] (fun p i wr => ∃ (g n c : Nat) (ms : List Mk) (nx : Int), i = .int .i64 nx ∧ p = .slice (some ⟨g, 0, none⟩) n c ∧ Hid (MOwn wr w.heap.size (.slice (some ⟨g, 0, none⟩) n c) ms ∧ Below w.heap.size w wr ∧ LpD S k ms nx)) (fun _ i _ => restN S.size (intOf i))
  case atStart => exact ⟨g0, n0, c0, ms0, nx0, rfl, rfl, H0⟩
  case round =>
    obtain ⟨g, n, c, ms, nx, rfl, rfl, H⟩ := hrel
    clear H0
    rcases H.out.2.2 with ⟨T, j, rfl, rfl, h1, h2, h3, h4⟩ | ⟨rfl, h1, h2⟩
    · have H4 := Lib.hid h4
      clear h4
      have hj0 : (0 : Int) ≤ (j : Int) := by omega
      by_cases hj : j < S.size
      · have hj' : (j : Int) < (S.size : Int) := by omega
        by_cases hc : (S[j]'hj).toNat = 124
        · have HC := Lib.hid hc
          go_wp2_with fail
          refine (IH.out (j + 1) (by omega) (by omega) _).mono ?_
          rintro r w2 ⟨g2, n2, c2, ms2, nx2, rfl, o2, b2, l2, G2⟩
          have H5 : Hid (MOwn w2 wr.heap.size (.slice (some ⟨g2, 0, none⟩) n2 c2) ms2 ∧ Below wr.heap.size wr w2 ∧ Below w.heap.size w w2) := Lib.hid ⟨o2, b2, below_step H.out.2.1 b2 H.out.2.1.size⟩
          have HL := Lib.hid (lpD_more h1 hj HC.out h3 H4.out l2 G2)
          have hnx : nx2 = -1 ∨ ((j : Int) < nx2) := by
            rcases G2 with ⟨X, i, -, -, rfl, h7, -⟩ | ⟨-, rfl⟩
            · right; omega
            · left; rfl
          have HNX := Lib.hid hnx
          clear o2 b2 G2 hnx hc
          have hm1 : (encT T).length ≤ 100000 := by omega
          have hm2 : ms2.length ≤ 100000 := by omega
          clear l2
          have H6 : Hid (MOwn (w2.alloc (.cells #[] 59)) w.heap.size (.slice (some ⟨w2.heap.size, 0, none⟩) 0 0) [] ∧ QRd (w2.alloc (.cells #[] 59)) (.slice (some ⟨g, 0, none⟩) n c) (encT T) ∧ QRd (w2.alloc (.cells #[] 59)) (.slice (some ⟨g2, 0, none⟩) n2 c2) ms2 ∧ Below w.heap.size w (w2.alloc (.cells #[] 59)) ∧ Below (w2.alloc (.cells #[] 59)).heap.size (w2.alloc (.cells #[] 59)) (w2.alloc (.cells #[] 59))) :=
            Lib.hid ⟨mlit0 w2 w.heap.size H5.out.2.2.size, ((H.out.1.rd qC_len).keep (SameAt.of_below H5.out.2.1)).keep (SameAt.of_below ((Below.refl _ w2).alloc (Nat.le_refl _) _)), (H5.out.1.rd qC_len).keep (SameAt.of_below ((Below.refl _ w2).alloc (Nat.le_refl _) _)), H5.out.2.2.alloc H5.out.2.2.size _, Below.refl _ _⟩
          go_wp2_with (at_builtin; refine wp_app_row rfl _ _ rfl _ (w2.heap.size) _ [] _ _ _ _ (encT T) (by rfl) ((mlit0 w2 w2.heap.size (Nat.le_refl _))) (by rfl) H6.out.2.1 ?a1 ?a2 ?a3 ?_)
          case a1 => simp
          case a2 => omega
          case a3 => simp
          intro v4 w4 o4 g4 _ y4
          have HB4 : Hid (Below w2.heap.size (w2.alloc (.cells #[] 59)) w4) := Lib.hid ((Below.refl _ _).grown g4 (by simp) (fun g hg => ((mlit0 w2 w2.heap.size (Nat.le_refl _)).ge g hg).1))
          have H7 : Hid (MOwn w4 w2.heap.size v4 (encT T) ∧ QRd w4 (.slice (some ⟨g2, 0, none⟩) n2 c2) ms2 ∧ Below w.heap.size w w4 ∧ Below w2.heap.size w2 w4) := Lib.hid ⟨by simpa using o4, (H5.out.1.rd qC_len).keep (SameAt.of_below (((Below.refl _ w2).alloc (Nat.le_refl _) _).trans HB4.out)), H6.out.2.2.2.1.trans (HB4.out.mono H5.out.2.2.size), ((Below.refl _ w2).alloc (Nat.le_refl _) _).trans HB4.out⟩
          clear o4 g4 y4
          go_wp2_with (at_builtin; refine wp_app_row rfl _ _ rfl _ (w2.heap.size) _ (encT T) _ _ _ _ ms2 (by rfl) H7.out.1 (by rfl) H7.out.2.1 ?a4 ?a5 ?a6 ?_)
          case a4 => omega
          case a5 => omega
          case a6 => exact H7.out.2.2.2.size
          intro v5 w5 o5 g5 _ y5
          have HB5 : Hid (Below w2.heap.size w4 w5) := Lib.hid ((Below.refl _ _).grown g5 H7.out.2.2.2.size (fun g hg => (H7.out.1.ge g hg).1))
          have H8 : Hid (MOwn w5 w2.heap.size v5 (encT T ++ ms2) ∧ Below w.heap.size w w5 ∧ Below w2.heap.size w2 w5) := Lib.hid ⟨by simpa using o5, H7.out.2.2.1.trans (HB5.out.mono H5.out.2.2.size), H7.out.2.2.2.trans HB5.out⟩
          clear o5 g5 y5
          go_wp2_with (at_builtin; refine wp_app_mark rfl _ _ rfl _ w2.heap.size _ _ _ _ (by rfl) H8.out.1 (by rfl) ?b1 ?b2 ?_)
          case b1 => simp; omega
          case b2 => exact H8.out.2.2.size
          intro v6 w6 o6 b6 nn6
          have H9 : Hid (MOwn w6 w.heap.size v6 (encT T ++ ms2 ++ [(3, 0)]) ∧ Below w.heap.size w w6 ∧ v6 ≠ .slice none 0 0) := Lib.hid ⟨GOwn.base (by simpa using o6) H5.out.2.2.size, H8.out.2.1.trans (b6.mono H5.out.2.2.size), fun e => nn6 e⟩
          clear o6 b6 nn6
          obtain ⟨gz, cz, rfl⟩ : ∃ gz cz, v6 = .slice (some ⟨gz, 0, none⟩) (encT T ++ ms2 ++ [((3 : Int), (0 : Int))]).length cz := by
            rcases id H9.out.1.2 with ⟨e, -⟩ | ⟨g, cap, cur, e, -⟩
            · exact absurd e H9.out.2.2
            · exact ⟨g, cap, e⟩
          go_wp2_with fail
          go_roundw
          case rel => exact ⟨gz, _, cz, _, nx2, rfl, rfl, Lib.hid ⟨H9.out.1, H9.out.2.1, HL.out⟩⟩
          case measure => exact rest_less HNX.out hj
        · have HG := Lib.hid (lpD_end h1 h2 (fun _ => hc) H4.out)
          have e1 : (((S[j]'hj).toNat : Int) == 124) = false := by simp; omega
          have H3 := Lib.hid h3
          clear hc h3
          go_wp2_with fail
          go_ret2
          exact ⟨g, n, c, encT T, _, rfl, H.out.1, H.out.2.1, by have := H3.out; omega, HG.out⟩
      · have HG := Lib.hid (lpD_end h1 h2 (fun h => absurd h hj) H4.out)
        have hj' : (S.size : Int) ≤ (j : Int) := by omega
        have H3 := Lib.hid h3
        clear h3
        go_wp2_with fail
        go_ret2
        exact ⟨g, n, c, encT T, _, rfl, H.out.1, H.out.2.1, by have := H3.out; omega, HG.out⟩
    · have H2 := Lib.hid h2
      have H1 := Lib.hid h1
      clear h1 h2
      go_wp2_with fail
      go_ret2
      exact ⟨g, n, c, ms, _, rfl, H.out.1, H.out.2.1, H1.out, .inr ⟨H2.out, rfl⟩⟩

/-- all three readers, from every place on -/
theorem readers (S : ByteArray) (hS : S.size ≤ 100000) (d : Nat) : ∀ k : Nat, k ≤ S.size → S.size - k ≤ d →
    (∀ w, Calls Tryd.prog 87 #[.string S, .int .i64 (k : Int)] w (PPost .atom S k w)) ∧ (∀ w, Calls Tryd.prog 71 #[.string S, .int .i64 (k : Int)] w (PPost .conj S k w)) ∧ (∀ w, Calls Tryd.prog 60 #[.string S, .int .i64 (k : Int)] w (PPost .disj S k w)) := by
  induction d with
  | zero =>
    have hA : ∀ k : Nat, k ≤ S.size → S.size - k ≤ 0 → ∀ w, Calls Tryd.prog 87 #[.string S, .int .i64 (k : Int)] w (PPost .atom S k w) := fun k hk h w => l9Atom_of S hS k hk (fun h2 => by omega) (fun h2 => by omega) w
    have hC : ∀ k : Nat, k ≤ S.size → S.size - k ≤ 0 → ∀ w, Calls Tryd.prog 71 #[.string S, .int .i64 (k : Int)] w (PPost .conj S k w) := fun k hk h w => l9And_of S hS k hk (fun k' h1 h2 w => hA k' h2 (by omega) w) w
    exact fun k hk h => ⟨hA k hk h, hC k hk h, fun w => l9Or_of S hS k hk (fun k' h1 h2 w => hC k' h2 (by omega) w) w⟩
  | succ d ih =>
    have hA : ∀ k : Nat, k ≤ S.size → S.size - k ≤ d + 1 → ∀ w, Calls Tryd.prog 87 #[.string S, .int .i64 (k : Int)] w (PPost .atom S k w) := fun k hk h w => l9Atom_of S hS k hk (fun h2 => (ih (k + 1) (by omega) (by omega)).1) (fun h2 => (ih (k + 1) (by omega) (by omega)).2.2) w
    have hC : ∀ k : Nat, k ≤ S.size → S.size - k ≤ d + 1 → ∀ w, Calls Tryd.prog 71 #[.string S, .int .i64 (k : Int)] w (PPost .conj S k w) := fun k hk h w => l9And_of S hS k hk (fun k' h1 h2 w => hA k' h2 (by omega) w) w
    exact fun k hk h => ⟨hA k hk h, hC k hk h, fun w => l9Or_of S hS k hk (fun k' h1 h2 w => hC k' h2 (by omega) w) w⟩

end Go.Proofs.YtfdlfgokoponmaaDoor
