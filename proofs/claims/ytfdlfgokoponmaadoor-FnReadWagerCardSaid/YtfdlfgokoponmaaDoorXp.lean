/- The program's contracts on terms: TermOk, EventOfTerm, TermText, ReadTerm, SumTerm (Xpj). Conditions: rows that read as lists of marks. -/
import Derived.Test.YtfdlfgokoponmaaDoorXpb
import Derived.Test.YtfdlfgokoponmaaDoorXph
import Derived.Test.YtfdlfgokoponmaaDoorXpi
import Derived.Test.YtfdlfgokoponmaaDoorXpj
namespace Go.Proofs.YtfdlfgokoponmaaDoor
open Go.RowKit
set_option linter.unusedVariables false
set_option linter.unusedSimpArgs false

set_option maxHeartbeats 2000000 in
theorem implTermOk_any (w : World) (v : Value) (t : List Mk) (hv : QRd w v t) :
    Calls Tryd.prog 29 #[v] w (BoolPost (tmB t) w) := by
  have HR := Lib.hid (runUn_any w v t hv)
  clear hv
  go_enter Tryd.func29, Tryd.ntmps29
  go_wp2_with fail
  refine HR.out.mono ?_
  rintro r w2 ⟨b2, ⟨ht, rfl⟩ | ⟨T, -, ht, rfl⟩⟩
  all_goals
    have HB := Lib.hid (b2.alloc b2.size (.cells #[] 78))
    have HT := Lib.hid ht
    clear b2 ht
    go_wp2_with fail
    go_ret
    exact ⟨ret_bool HT.out.symm, HB.out⟩

set_option maxHeartbeats 2000000 in
theorem implTermText_any (w : World) (v : Value) (t : List Mk) (hv : QRd w v t) :
    Calls Tryd.prog 24 #[v] w (TxtPost (txtI t) w) := by
  have HR := Lib.hid (runPh_any w v t hv)
  clear hv
  go_enter Tryd.func24, Tryd.ntmps24
  go_wp2_with fail
  refine HR.out.mono ?_
  rintro r w2 ⟨b2, ⟨ht, rfl⟩ | ⟨T, rfl, ht, rfl⟩⟩
  · have HB := Lib.hid (b2.alloc b2.size (.cells #[.string ⟨#[]⟩, .int .i64 0] 72))
    have HT := Lib.hid (txtI_no ht)
    clear b2 ht
    go_wp2_with fail
    go_ret
    exact ⟨ret_txt HT.out.symm, HB.out⟩
  · have HB := Lib.hid (b2.alloc b2.size (.cells #[.string ⟨(txtT T).toArray⟩, .int .i64 (lastM T).1] 72))
    have HT := Lib.hid (txtI_tree ((tmB_iff _).1 ht).2)
    clear b2 ht
    unfold phV
    go_wp2_with fail
    go_ret
    exact ⟨ret_txt HT.out.symm, HB.out⟩

theorem mread_nil {S : ByteArray} {w w1 : World} (h : ∀ T, ¬ ReadsB (bs S) T) (b : Below w.heap.size w w1) : MRead S w (.returned (.tuple #[.slice none 0 0, .bool false])) w1 := by
  obtain ⟨h1, h2⟩ := rd_no h
  exact ⟨_, by rw [h1], by rw [h2]; exact GOwn.nil _ _ _ _ _, b⟩

theorem reads_disj {S : ByteArray} {T : Tm} (h : ReadsB (bs S) T) : Rds .disj (bs S) T [] := by
  have := reads_rds h
  rwa [List.drop_zero] at this

theorem ba_len {R : ByteArray} : (bs R).length = R.size := bs_len R

set_option maxHeartbeats 4000000 in
theorem implReadTerm_any (S : ByteArray) (hS : S.size ≤ 9223372036854775807) (w : World) :
    Calls Tryd.prog 34 #[.string S] w (MRead S w) := by
  by_cases h120 : S.size ≤ 120
  · have h120' : (S.size : Int) ≤ 120 := by omega
    have HR := Lib.hid ((readers_any S.size (by omega) S (Nat.le_refl _)).2.2 w)
    go_enter Tryd.func34, Tryd.ntmps34
    go_wp2_with fail
    refine HR.out.mono ?_
    rintro r w2 ⟨A, n, c, ms, R, ok, rfl, o2, b2, l2, G2⟩
    rcases G2 with ⟨rfl, T, h1, rfl⟩ | ⟨rfl, h1⟩
    · have HK : Hid (MOwn w2 w.heap.size (.slice A n c) (encT T) ∧ Below w.heap.size w w2 ∧ Rds .disj (bs S) T (bs R)) := Lib.hid ⟨o2, b2, h1⟩
      have HONE : Hid (∀ U, ReadsB (bs S) U → U = T ∧ bs R = []) := Lib.hid (fun U hU => by
        obtain ⟨e1, e2⟩ := (reads_disj hU).det h1
        exact ⟨e1, e2.symm⟩)
      clear o2 b2 l2 h1
      by_cases hr : R.size = 0
      · have hre : (R.toList == []) = true := by rw [bs_list, bs_empty hr]; rfl
        have hr0 := bs_empty hr
        have HR0 := Lib.hid hr0
        have HPOS : Hid (bs S ≠ []) := Lib.hid (fun e => by
          have h4 := HK.out.2.2.len
          rw [HR0.out, e] at h4
          simp [wt] at h4)
        clear hr hr0
        obtain ⟨X, hX⟩ : ∃ X, txtI (encT T) = X := ⟨_, rfl⟩
        have HX := Lib.hid hX
        have HTT : Hid (Calls Tryd.prog 24 #[.slice A n c] w2 (TxtPost X w2)) := Lib.hid (by rw [← hX]; exact implTermText_any w2 _ _ (HK.out.1.rd qC_len))
        clear hX
        by_cases he : X = bs S
        · have HY : Hid (ReadsB (bs S) T) := Lib.hid (by
            rcases Bool.eq_false_or_eq_true (tmB (encT T)) with ht | ht
            · have h40 := ((tmB_iff _).1 ht).2
              have h5 := HX.out
              rw [txtI_tree h40, he] at h5
              exact ⟨h5, h40, by rw [bs_len]; exact h120⟩
            · have h5 := HX.out
              rw [txtI_no ht, he] at h5
              exact absurd h5.symm HPOS.out)
          have hb3 : (X == S.toList) = true := by rw [bs_list]; simpa using he
          clear he
          go_wp2_with fail
          refine HTT.out.mono ?_
          rintro r w3 ⟨rfl, b3⟩
          have HB3 : Hid (Below w.heap.size w w3 ∧ MOwn w3 w.heap.size (.slice A n c) (encT T)) := Lib.hid ⟨below_step HK.out.2.1 b3 HK.out.2.1.size, HK.out.1.keep (SameAt.of_below b3)⟩
          clear b3
          go_wp2_with fail
          go_ret2
          exact mread_yes (rd_yes HY.out) HB3.out.2 HB3.out.1
        · have HN : Hid (∀ U, ¬ ReadsB (bs S) U) := Lib.hid (fun U hU => by
            obtain ⟨rfl, -⟩ := HONE.out U hU
            refine he ?_
            rw [← HX.out, txtI_tree hU.2.1]
            exact hU.1)
          have hb3 : (X == S.toList) = false := by rw [bs_list]; simpa using he
          clear he
          go_wp2_with fail
          refine HTT.out.mono ?_
          rintro r w3 ⟨rfl, b3⟩
          have HB3 : Hid (Below w.heap.size w w3) := Lib.hid (below_step HK.out.2.1 b3 HK.out.2.1.size)
          clear b3
          go_wp2_with fail
          go_ret2
          exact mread_nil HN.out HB3.out
      · have hre : (R.toList == []) = false := by rw [bs_list, bs_head R (by omega)]; rfl
        have HN : Hid (∀ U, ¬ ReadsB (bs S) U) := Lib.hid (fun U hU => by
          have h4 := (HONE.out U hU).2
          have h5 := bs_len R
          rw [h4] at h5
          simp at h5
          omega)
        clear hr
        go_wp2_with fail
        go_ret2
        exact mread_nil HN.out HK.out.2.1
    · have HN : Hid (∀ U, ¬ ReadsB (bs S) U) := Lib.hid (fun U hU => h1 _ _ (reads_disj hU))
      have HB2 := Lib.hid b2
      clear o2 b2 l2 h1
      go_wp2_with fail
      go_ret2
      exact mread_nil HN.out HB2.out
  · have h120' : (120 : Int) < (S.size : Int) := by omega
    have HN : Hid (∀ U, ¬ ReadsB (bs S) U) := Lib.hid (fun U hU => by have := hU.2.2; rw [bs_len] at this; omega)
    go_enter Tryd.func34, Tryd.ntmps34
    go_wp2_with fail
    go_ret2
    exact mread_nil HN.out (Below.refl _ _)

end Go.Proofs.YtfdlfgokoponmaaDoor
