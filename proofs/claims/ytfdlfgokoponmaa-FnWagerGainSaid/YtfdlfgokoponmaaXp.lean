/- The program's contracts on terms: TermOk, EventOfTerm, TermText, ReadTerm, SumTerm (Xpj). Conditions: rows that read as lists of marks. -/
import Derived.Test.YtfdlfgokoponmaaXpb
import Derived.Test.YtfdlfgokoponmaaXph
import Derived.Test.YtfdlfgokoponmaaXpi
import Derived.Test.YtfdlfgokoponmaaXpj
namespace Go.Proofs.Ytfdlfgokoponmaa
open Go.RowKit
set_option linter.unusedVariables false
set_option linter.unusedSimpArgs false

set_option maxHeartbeats 2000000 in
theorem implTermOk_any (w : World) (v : Value) (t : List Mk) (hv : QRd w v t) :
    Calls Try.prog 28 #[v] w (BoolPost (tmB t) w) := by
  have HR := Lib.hid (runUn_any w v t hv)
  clear hv
  go_enter Try.func28, Try.ntmps28
  go_wp2_with fail
  refine HR.out.mono ?_
  rintro r w2 ⟨b2, ⟨ht, rfl⟩ | ⟨T, -, ht, rfl⟩⟩
  all_goals
    have HB := Lib.hid (b2.alloc b2.size (.cells #[] 68))
    have HT := Lib.hid ht
    clear b2 ht
    go_wp2_with fail
    go_ret
    exact ⟨ret_bool HT.out.symm, HB.out⟩

set_option maxHeartbeats 2000000 in
theorem implEventOfTerm_any (w : World) (v : Value) (t : List Mk) (hv : QRd w v t) :
    Calls Try.prog 17 #[v] w (NumP (evI t) w) := by
  have HR := Lib.hid (runEv_any w v t hv)
  clear hv
  go_enter Try.func17, Try.ntmps17
  go_wp2_with fail
  refine HR.out.mono ?_
  rintro r w2 ⟨b2, ⟨ht, rfl⟩ | ⟨T, rfl, ht, rfl⟩⟩
  · have HB := Lib.hid b2
    have HT := Lib.hid (evI_no ht)
    clear b2 ht
    go_wp2_with fail
    go_ret
    exact ⟨ret_int HT.out.symm, HB.out⟩
  · have HB := Lib.hid b2
    have HT := Lib.hid (evI_tree ((tmB_iff _).1 ht).2)
    clear b2 ht
    go_wp2_with fail
    go_ret
    exact ⟨ret_int HT.out.symm, HB.out⟩

theorem mread_nil {S : ByteArray} {w w1 : World} (h : ∀ T, ¬ ReadsB (bs S) T) (b : Below w.heap.size w w1) : MRead S w (.returned (.tuple #[.slice none 0 0, .bool false])) w1 := by
  obtain ⟨h1, h2⟩ := rd_no h
  exact ⟨_, by rw [h1], by rw [h2]; exact GOwn.nil _ _ _ _ _, b⟩

theorem reads_disj {S : ByteArray} {T : Tm} (h : ReadsB (bs S) T) : Rds .disj (bs S) T [] := by
  have := reads_rds h
  rwa [List.drop_zero] at this

theorem ba_len {R : ByteArray} : (bs R).length = R.size := bs_len R

end Go.Proofs.Ytfdlfgokoponmaa
