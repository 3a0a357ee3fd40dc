/- spec.ReadTerm. Conditions: none. -/
import Derived.Test.YtfdlfgokoponmaaDoorXm
import Derived.Test.YtfdlfgokoponmaaDoorXi
namespace Go.Proofs.YtfdlfgokoponmaaDoor
open Go.RowKit
set_option linter.unusedVariables false

/-- whether a text is read; the row that is read -/
noncomputable def rdB (S : ByteArray) : Bool := open Classical in decide (∃ T, ReadsB (bs S) T)

noncomputable def rdL (S : ByteArray) : List Mk := open Classical in if h : ∃ T, ReadsB (bs S) T then encT h.choose else []

theorem rd_yes {S : ByteArray} {T : Tm} (h : ReadsB (bs S) T) : rdB S = true ∧ rdL S = encT T := by
  have hx : ∃ T, ReadsB (bs S) T := ⟨T, h⟩
  refine ⟨by simp only [rdB, decide_eq_true_eq]; exact hx, ?_⟩
  unfold rdL
  rw [dif_pos hx, ReadsB.one hx.choose_spec h]

theorem rd_no {S : ByteArray} (h : ∀ T, ¬ ReadsB (bs S) T) : rdB S = false ∧ rdL S = [] := by
  have hx : ¬ ∃ T, ReadsB (bs S) T := fun ⟨T, hT⟩ => h T hT
  exact ⟨by simp only [rdB, decide_eq_false_iff_not]; exact hx, by unfold rdL; exact dif_neg hx⟩

theorem reads_rds {S : ByteArray} {T : Tm} (h : ReadsB (bs S) T) : Rds .disj ((bs S).drop 0) T [] := by
  rw [List.drop_zero, ← h.1]
  exact read_txt T

/-- a fresh row of marks, and whether it was read -/
def MRead (S : ByteArray) (w : World) (e : Ending) (w' : World) : Prop := ∃ v, e = .returned (.tuple #[v, .bool (rdB S)]) ∧ MOwn w' w.heap.size v (rdL S) ∧ Below w.heap.size w w'

theorem mread_no {S : ByteArray} {w w1 : World} (h : ∀ T, ¬ ReadsB (bs S) T) (b : Below w.heap.size w w1) : MRead S w (.returned (.tuple #[.slice (some ⟨w1.heap.size, 0, none⟩) 0 0, .bool false])) (w1.alloc (.cells #[] 59)) := by
  obtain ⟨h1, h2⟩ := rd_no h
  exact ⟨_, by rw [h1], by rw [h2]; exact mlit0 w1 w.heap.size b.size, b.alloc b.size _⟩

theorem mread_yes {S : ByteArray} {w w1 : World} {v : Value} {T : Tm} (h : rdB S = true ∧ rdL S = encT T) (o : MOwn w1 w.heap.size v (encT T)) (b : Below w.heap.size w w1) : MRead S w (.returned (.tuple #[v, .bool true])) w1 :=
  ⟨v, by rw [h.1], by rw [h.2]; exact o, b⟩

theorem bs_list (S : ByteArray) : S.toList = bs S := Go.ByteArray.toList_eq S

theorem bs_mk (l : List UInt8) : bs ⟨l.toArray⟩ = l := rfl

theorem bs_eq {S : ByteArray} {l : List UInt8} (h : l = bs S) : (⟨l.toArray⟩ : ByteArray) = S := by
  subst h
  apply ByteArray.ext
  simp [bs]

set_option maxHeartbeats 2000000 in
theorem specReadTerm_any (S : ByteArray) (hS : S.size ≤ 9223372036854775807) (w : World) :
    Calls Tryd.prog 37 #[.string S] w (MRead S w) := by
  by_cases h120 : S.size ≤ 120
  · have h120' : (S.size : Int) ≤ 120 := by omega
    go_enter Tryd.func37, Tryd.ntmps37
    go_wp2_with fail
    refine ((readers S (by omega) S.size 0 (by omega) (by omega)).2.2 w).mono ?_
    rintro r w2 ⟨g, n, c, ms, nx, rfl, o2, b2, l2, G2⟩
    rcases G2 with ⟨T, j, h1, rfl, rfl, h4, h5⟩ | ⟨h1, rfl⟩
    · have HK : Hid (MOwn w2 w.heap.size (.slice (some ⟨g, 0, none⟩) n c) (encT T) ∧ Below w.heap.size w w2 ∧ Rds .disj ((bs S).drop 0) T ((bs S).drop j)) := Lib.hid ⟨o2, b2, h1⟩
      clear o2 b2 l2 h1 h4
      by_cases hj : j = S.size
      · have hje : (j == S.size) = true := by simpa using hj
        have HJ : Hid ((bs S).drop j = []) := Lib.hid (bs_end S (by omega))
        subst hj
        have hone : ∀ U, ReadsB (bs S) U → U = T := fun U hU => ((reads_rds hU).det HK.out.2.2).1
        have HONE := Lib.hid hone
        clear hone
        rcases Bool.eq_false_or_eq_true (tmB (encT T)) with ht | ht
        · have h40 := ((tmB_iff _).1 ht).2
          have HS : Hid ((txtT T).length ≤ 1000000) := Lib.hid (by have := txt_len T; omega)
          have H40 := Lib.hid h40
          clear h40
          go_wp2_with fail
          refine (specTermOk_any w2 _ _ (HK.out.1.rd qC_len)).mono ?_
          rintro r w3 ⟨rfl, b3⟩
          rw [ht]
          have HB3 : Hid (Below w.heap.size w w3 ∧ MOwn w3 w.heap.size (.slice (some ⟨g, 0, none⟩) n c) (encT T)) := Lib.hid ⟨below_step HK.out.2.1 b3 HK.out.2.1.size, HK.out.1.keep (SameAt.of_below b3)⟩
          clear b3
          go_wp2_with fail
          refine (l9Text_any T HS.out w3 _ (HB3.out.2.rd qC_len)).mono ?_
          rintro r w4 ⟨rfl, b4⟩
          have HB4 : Hid (Below w.heap.size w w4 ∧ MOwn w4 w.heap.size (.slice (some ⟨g, 0, none⟩) n c) (encT T)) := Lib.hid ⟨below_step HB3.out.1 b4 HB3.out.1.size, HB3.out.2.keep (SameAt.of_below b4)⟩
          clear b4
          by_cases he : txtT T = bs S
          · have HR := Lib.hid (rd_yes (S := S) (T := T) ⟨he, H40.out, by rw [bs_len]; exact h120⟩)
            have hb3 : (txtT T == S.toList) = true := by rw [bs_list]; simpa using he
            clear he
            go_wp2_with fail
            go_ret2
            exact mread_yes HR.out HB4.out.2 HB4.out.1
          · have HN : Hid (∀ U, ¬ ReadsB (bs S) U) := Lib.hid (fun U hU => he (by rw [← HONE.out U hU]; exact hU.1))
            have hb3 : (txtT T == S.toList) = false := by rw [bs_list]; simpa using he
            clear he
            go_wp2_with fail
            go_ret2
            exact mread_no HN.out HB4.out.1
        · have HN : Hid (∀ U, ¬ ReadsB (bs S) U) := Lib.hid (fun U hU => by
            have := HONE.out U hU
            subst this
            rw [tree_tm hU.2.1] at ht
            cases ht)
          go_wp2_with fail
          refine (specTermOk_any w2 _ _ (HK.out.1.rd qC_len)).mono ?_
          rintro r w3 ⟨rfl, b3⟩
          rw [ht]
          have HB3 : Hid (Below w.heap.size w w3) := Lib.hid (below_step HK.out.2.1 b3 HK.out.2.1.size)
          clear b3
          go_wp2_with fail
          go_ret2
          exact mread_no HN.out HB3.out
      · have hji : ((j : Int) == (S.size : Int)) = false := by simp; omega
        have hji2 : ((j : Int) != (S.size : Int)) = true := by simp; omega
        have HN : Hid (∀ U, ¬ ReadsB (bs S) U) := Lib.hid (fun U hU => by
          have h6 := ((reads_rds hU).det HK.out.2.2).2
          rw [bs_drop S (by omega)] at h6
          cases h6)
        clear hj
        go_wp2_with fail
        go_ret2
        exact mread_no HN.out HK.out.2.1
    · have HN : Hid (∀ U, ¬ ReadsB (bs S) U) := Lib.hid (fun U hU => h1 _ _ (reads_rds hU))
      have HB2 := Lib.hid b2
      have hji : ((-1 : Int) == (S.size : Int)) = false := by first | (simp; done) | (simp; omega)
      have hji2 : ((-1 : Int) != (S.size : Int)) = true := by first | (simp; done) | (simp; omega)
      clear o2 b2 l2 h1
      go_wp2_with fail
      go_ret2
      exact mread_no HN.out HB2.out
  · have h120' : (120 : Int) < (S.size : Int) := by omega
    have HN : Hid (∀ U, ¬ ReadsB (bs S) U) := Lib.hid (fun U hU => by have := hU.2.2; rw [bs_len] at this; omega)
    go_enter Tryd.func37, Tryd.ntmps37
    go_wp2_with fail
    go_ret2
    exact mread_no HN.out (Below.refl _ _)

end Go.Proofs.YtfdlfgokoponmaaDoor
