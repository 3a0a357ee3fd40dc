/- The reading of terms: spec.l9Atom. Conditions: stated. -/
import Derived.Test.YtfdlfgokoponmaaDoorXk
import Derived.Laws.Strings
namespace Go.Proofs.YtfdlfgokoponmaaDoor
open Go.RowKit
set_option linter.unusedVariables false

/-- the bytes of a text -/
def bs (S : ByteArray) : List UInt8 := S.data.toList

theorem bs_len (S : ByteArray) : (bs S).length = S.size := by rw [bs, Array.length_toList]; rfl

theorem bs_drop (S : ByteArray) {k : Nat} (hk : k < S.size) : (bs S).drop k = S[k] :: (bs S).drop (k + 1) := by
  rw [List.drop_eq_getElem_cons (by rw [bs_len]; exact hk)]
  rfl

theorem bs_end (S : ByteArray) {k : Nat} (hk : S.size ≤ k) : (bs S).drop k = [] := List.drop_eq_nil_of_le (by rw [bs_len]; exact hk)

theorem u8_lit {c d : UInt8} (h : c.toNat = d.toNat) : c = d := UInt8.toNat_inj.1 h

/-- what is read from a place on -/
def Got (m : Md) (S : ByteArray) (k : Nat) (ms : List Mk) (nx : Int) : Prop :=
  (∃ (T : Tm) (j : Nat), Rds m ((bs S).drop k) T ((bs S).drop j) ∧ ms = encT T ∧ nx = (j : Int) ∧ k ≤ j ∧ j ≤ S.size) ∨ ((∀ T q, ¬ Rds m ((bs S).drop k) T q) ∧ nx = -1)

theorem got_no {S : ByteArray} {k : Nat} (hk : k < S.size) (h : (S[k]'hk).toNat = 33) {ms : List Mk} {nx : Int} (g : Got .atom S (k + 1) ms nx) : Got .atom S k (ms ++ [(1, 0)]) nx := by
  have hc : S[k]'hk = 33 := u8_lit (d := 33) h
  rcases g with ⟨T, j, h1, rfl, h3, h4, h5⟩ | ⟨h1, h2⟩
  · refine .inl ⟨.no T, j, ?_, rfl, h3, by omega, h5⟩
    rw [bs_drop S hk, hc, rds_no]
    exact ⟨T, h1, rfl⟩
  · refine .inr ⟨fun T q hr => ?_, h2⟩
    rw [bs_drop S hk, hc, rds_no] at hr
    obtain ⟨x, hx, -⟩ := hr
    exact h1 x q hx

theorem got_br {S : ByteArray} {k : Nat} (hk : k < S.size) (h : (S[k]'hk).toNat = 40) {T : Tm} {j : Nat} (hj : j < S.size) (h2 : (S[j]'hj).toNat = 41) (hkj : k + 1 ≤ j) (g : Rds .disj ((bs S).drop (k + 1)) T ((bs S).drop j)) : Got .atom S k (encT T) ((j : Int) + 1) := by
  have hc : S[k]'hk = 40 := u8_lit (d := 40) h
  have hd : S[j]'hj = 41 := u8_lit (d := 41) h2
  refine .inl ⟨T, j + 1, ?_, rfl, by omega, by omega, by omega⟩
  rw [bs_drop S hk, hc, rds_br]
  rwa [bs_drop S hj, hd] at g

theorem got_br_no {S : ByteArray} {k : Nat} (hk : k < S.size) (h : (S[k]'hk).toNat = 40) {T : Tm} {j : Nat} (g : Rds .disj ((bs S).drop (k + 1)) T ((bs S).drop j)) (hj : ∀ hj : j < S.size, (S[j]'hj).toNat ≠ 41) : ∀ U q, ¬ Rds .atom ((bs S).drop k) U q := by
  intro U q hr
  have hc : S[k]'hk = 40 := u8_lit (d := 40) h
  rw [bs_drop S hk, hc, rds_br] at hr
  have h3 := (g.det hr).2
  by_cases h4 : j < S.size
  · rw [bs_drop S h4] at h3
    injection h3 with h5 h6
    exact hj h4 (by rw [h5]; rfl)
  · rw [bs_end S (by omega)] at h3
    cases h3

theorem got_br_none {S : ByteArray} {k : Nat} (hk : k < S.size) (h : (S[k]'hk).toNat = 40) (g : ∀ T q, ¬ Rds .disj ((bs S).drop (k + 1)) T q) : ∀ U q, ¬ Rds .atom ((bs S).drop k) U q := by
  intro U q hr
  have hc : S[k]'hk = 40 := u8_lit (d := 40) h
  rw [bs_drop S hk, hc, rds_br] at hr
  exact g _ _ hr

theorem got_else {S : ByteArray} {k : Nat} (hk : k < S.size) (h1 : ¬ (S[k]'hk).toNat = 97) (h2 : ¬ (S[k]'hk).toNat = 98) (h3 : ¬ (S[k]'hk).toNat = 33) (h4 : ¬ (S[k]'hk).toNat = 40) : ∀ U q, ¬ Rds .atom ((bs S).drop k) U q := by
  intro U q hr
  rw [bs_drop S hk] at hr
  exact rds_else (fun e => h1 (by rw [e]; rfl)) (fun e => h2 (by rw [e]; rfl)) (fun e => h3 (by rw [e]; rfl)) (fun e => h4 (by rw [e]; rfl)) _ _ _ hr

def PPost (m : Md) (S : ByteArray) (k : Nat) (w : World) (e : Ending) (w' : World) : Prop :=
  ∃ g n c ms nx, e = .returned (.tuple #[.slice (some ⟨g, 0, none⟩) n c, .int .i64 nx]) ∧ MOwn w' w.heap.size (.slice (some ⟨g, 0, none⟩) n c) ms ∧ Below w.heap.size w w' ∧ ms.length ≤ S.size - k ∧ Got m S k ms nx

theorem mown_len {w : World} {base g n c : Nat} {ms : List Mk} (o : MOwn w base (.slice (some ⟨g, 0, none⟩) n c) ms) : n = ms.length := by
  obtain ⟨A, cp, e, -, -⟩ := (o.rd qC_len).form
  injection e

theorem pp_none {m : Md} {S : ByteArray} {k : Nat} {w w1 : World} (h : ∀ T q, ¬ Rds m ((bs S).drop k) T q) (b : Below w.heap.size w w1) :
    PPost m S k w (.returned (.tuple #[.slice (some ⟨w1.heap.size, 0, none⟩) 0 0, .int .i64 (-1)])) (w1.alloc (.cells #[] 59)) :=
  ⟨_, 0, 0, [], -1, rfl, mlit0 w1 w.heap.size b.size, b.alloc b.size _, Nat.zero_le _, .inr ⟨h, rfl⟩⟩

theorem pp_some {m : Md} {S : ByteArray} {k : Nat} {w w1 : World} {v : Value} {ms : List Mk} {nx : Int} (o : MOwn w1 w.heap.size v ms) (hv : v ≠ .slice none 0 0) (b : Below w.heap.size w w1) (hl : ms.length ≤ S.size - k) (h : Got m S k ms nx) :
    PPost m S k w (.returned (.tuple #[v, .int .i64 nx])) w1 := by
  rcases id o.2 with ⟨rfl, h0⟩ | ⟨g, cap, cur, rfl, -⟩
  · exact absurd rfl hv
  · exact ⟨g, ms.length, cap, ms, nx, rfl, o, b, hl, h⟩

theorem mlit1 (w : World) (base : Nat) (hb : base ≤ w.heap.size) (x y : Int) : MOwn (w.alloc (.cells #[.int .i64 x, .int .i64 y] 59)) base (.slice (some ⟨w.heap.size, 0, none⟩) 1 1) [(x, y)] :=
  World.ownsRow_lit w #[.int .i64 x, .int .i64 y] 1 hb (by unfold maxLen; omega) rfl

set_option maxHeartbeats 2000000 in
theorem l9Atom_of (S : ByteArray) (hS : S.size ≤ 100000) (k : Nat) (hk : k ≤ S.size)
    (ihA : k < S.size → ∀ w, Calls Tryd.prog 87 #[.string S, .int .i64 ((k + 1 : Nat) : Int)] w (PPost .atom S (k + 1) w))
    (ihD : k < S.size → ∀ w, Calls Tryd.prog 60 #[.string S, .int .i64 ((k + 1 : Nat) : Int)] w (PPost .disj S (k + 1) w)) (w : World) :
    Calls Tryd.prog 87 #[.string S, .int .i64 (k : Int)] w (PPost .atom S k w) := by
  have IA := Lib.hid ihA
  have ID := Lib.hid ihD
  clear ihA ihD
  by_cases hlt : k < S.size
  · have HD := Lib.hid (bs_drop S hlt)
    have hlt' : (k : Int) < (S.size : Int) := by omega
    by_cases h97 : (S[k]'hlt).toNat = 97
    · have HG : Hid (Got .atom S k [(0, 0)] ((k : Int) + 1)) := Lib.hid (.inl ⟨.lt false, k + 1, by rw [HD.out, u8_lit (d := 97) h97, rds_a]; exact ⟨rfl, rfl⟩, rfl, rfl, by omega, by omega⟩)
      go_enter Tryd.func87, Tryd.ntmps87
      go_wp2_with fail
      go_ret2
      exact ⟨_, 1, 1, [(0, 0)], _, rfl, mlit1 w w.heap.size (Nat.le_refl _) 0 0, (Below.refl _ _).alloc (Nat.le_refl _) _, by simp; omega, HG.out⟩
    by_cases h98 : (S[k]'hlt).toNat = 98
    · have HG : Hid (Got .atom S k [(0, 1)] ((k : Int) + 1)) := Lib.hid (.inl ⟨.lt true, k + 1, by rw [HD.out, u8_lit (d := 98) h98, rds_b]; exact ⟨rfl, rfl⟩, rfl, rfl, by omega, by omega⟩)
      clear h97
      go_enter Tryd.func87, Tryd.ntmps87
      go_wp2_with fail
      go_ret2
      exact ⟨_, 1, 1, [(0, 1)], _, rfl, mlit1 w w.heap.size (Nat.le_refl _) 0 1, (Below.refl _ _).alloc (Nat.le_refl _) _, by simp; omega, HG.out⟩
    by_cases h33 : (S[k]'hlt).toNat = 33
    · clear h97 h98
      go_enter Tryd.func87, Tryd.ntmps87
      go_wp2_with fail
      refine (IA.out hlt w).mono ?_
      rintro r w2 ⟨g, n, c, ms, nx, rfl, o2, b2, l2, G2⟩
      have HK : Hid (MOwn w2 w.heap.size (.slice (some ⟨g, 0, none⟩) n c) ms ∧ Below w.heap.size w w2 ∧ ms.length ≤ S.size - (k + 1) ∧ Got .atom S (k + 1) ms nx) := Lib.hid ⟨o2, b2, l2, G2⟩
      clear o2 b2 l2 G2
      have H3 : Hid (MOwn (w2.alloc (.cells #[] 59)) w.heap.size (.slice (some ⟨w2.heap.size, 0, none⟩) 0 0) [] ∧ QRd (w2.alloc (.cells #[] 59)) (.slice (some ⟨g, 0, none⟩) n c) ms ∧ Below w.heap.size w (w2.alloc (.cells #[] 59))) := Lib.hid ⟨mlit0 w2 w.heap.size HK.out.2.1.size, (HK.out.1.rd qC_len).keep (SameAt.of_below ((Below.refl _ w2).alloc (Nat.le_refl _) _)), HK.out.2.1.alloc HK.out.2.1.size _⟩
      go_wp2_with (at_builtin; refine wp_app_row rfl _ _ rfl _ w.heap.size _ [] _ _ _ _ ms (by rfl) H3.out.1 (by rfl) H3.out.2.1 ?a1 ?a2 ?a3 ?_)
      case a1 => simp
      case a2 => have := HK.out.2.2.1; omega
      case a3 => exact H3.out.2.2.size
      intro v4 w4 o4 g4 _ _
      have H4 : Hid (MOwn w4 w.heap.size v4 ms ∧ Below w.heap.size w w4) := Lib.hid ⟨by simpa using o4, H3.out.2.2.grown g4 H3.out.2.2.size (fun g hg => (H3.out.1.ge g hg).1)⟩
      clear o4 g4
      go_wp2_with (at_builtin; refine wp_app_mark rfl _ _ rfl _ w.heap.size _ _ _ _ (by rfl) H4.out.1 (by rfl) ?b1 ?b2 ?_)
      case b1 => have := HK.out.2.2.1; omega
      case b2 => exact H4.out.2.size
      intro v5 w5 o5 b5 nn5
      have H5 : Hid (MOwn w5 w.heap.size v5 (ms ++ [(1, 0)]) ∧ Below w.heap.size w w5 ∧ v5 ≠ .slice none 0 0) := Lib.hid ⟨o5, H4.out.2.trans b5, fun e => nn5 e⟩
      clear o5 b5 nn5
      go_wp2_with fail
      go_ret2
      exact pp_some H5.out.1 H5.out.2.2 H5.out.2.1 (by have := HK.out.2.2.1; simp; omega) (got_no hlt h33 HK.out.2.2.2)
    by_cases h40 : (S[k]'hlt).toNat = 40
    · clear h97 h98 h33
      go_enter Tryd.func87, Tryd.ntmps87
      go_wp2_with fail
      refine (ID.out hlt w).mono ?_
      rintro r w2 ⟨g, n, c, ms, nx, rfl, o2, b2, l2, G2⟩
      rcases G2 with ⟨T, j, h1, rfl, rfl, hj1, hj2⟩ | ⟨h1, rfl⟩
      · have HK : Hid (MOwn w2 w.heap.size (.slice (some ⟨g, 0, none⟩) n c) (encT T) ∧ Below w.heap.size w w2 ∧ (encT T).length ≤ S.size - (k + 1) ∧ Rds .disj ((bs S).drop (k + 1)) T ((bs S).drop j)) := Lib.hid ⟨o2, b2, l2, h1⟩
        clear o2 b2 l2 h1
        by_cases hj : j < S.size
        · have hj' : (j : Int) < (S.size : Int) := by omega
          by_cases h41 : (S[j]'hj).toNat = 41
          · go_wp2_with fail
            go_ret2
            exact ⟨g, n, c, encT T, _, rfl, HK.out.1, HK.out.2.1, by have := HK.out.2.2.1; omega, got_br hlt h40 hj h41 hj1 HK.out.2.2.2⟩
          · have H41 := Lib.hid h41
            have hb : (((S[j]'hj).toNat : Int) == 41) = false := by simp; omega
            have hb2 : (((S[j]'hj).toNat : Int) != 41) = true := by simp; omega
            clear h41
            go_wp2_with fail
            go_ret2
            exact pp_none (got_br_no hlt h40 HK.out.2.2.2 (fun _ => H41.out)) HK.out.2.1
        · have hj' : (S.size : Int) ≤ (j : Int) := by omega
          go_wp2_with fail
          go_ret2
          exact pp_none (got_br_no hlt h40 HK.out.2.2.2 (fun h => absurd h hj)) HK.out.2.1
      · have HK : Hid (Below w.heap.size w w2 ∧ ∀ T q, ¬ Rds .disj ((bs S).drop (k + 1)) T q) := Lib.hid ⟨b2, h1⟩
        clear o2 b2 l2 h1
        go_wp2_with fail
        go_ret2
        exact pp_none (got_br_none hlt h40 HK.out.2) HK.out.1
    · have HN := Lib.hid (got_else hlt h97 h98 h33 h40)
      have e1 : (((S[k]'hlt).toNat : Int) == 97) = false := by simp; omega
      have e2 : (((S[k]'hlt).toNat : Int) == 98) = false := by simp; omega
      have e3 : (((S[k]'hlt).toNat : Int) == 33) = false := by simp; omega
      have e4 : (((S[k]'hlt).toNat : Int) == 40) = false := by simp; omega
      go_enter Tryd.func87, Tryd.ntmps87
      go_wp2_with fail
      go_ret2
      exact pp_none HN.out (Below.refl _ _)
  · have HN : Hid (∀ T q, ¬ Rds .atom ((bs S).drop k) T q) := Lib.hid (fun T q => by rw [bs_end S (by omega)]; exact rds_nil T q)
    have hge : (S.size : Int) ≤ (k : Int) := by omega
    go_enter Tryd.func87, Tryd.ntmps87
    go_wp2_with fail
    go_ret2
    exact pp_none HN.out (Below.refl _ _)

end Go.Proofs.YtfdlfgokoponmaaDoor
