/- spec.l9Held, spec.l9Text, spec.TermText. Conditions: rows that read as lists of marks; texts of at most a million bytes. -/
import Derived.Test.YtfdlfgokoponmaaDoorXe
import Derived.Laws.Concat
namespace Go.Proofs.YtfdlfgokoponmaaDoor
open Go.RowKit
set_option linter.unusedVariables false

def TxtPost (s : List UInt8) (w : World) (e : Ending) (w' : World) : Prop := e = .returned (.string ⟨s.toArray⟩) ∧ Below w.heap.size w w'

theorem add_txt {P : Program} (x y : List UInt8) (h : x.length + y.length ≤ 9000000) (w : World) : (Op.stringOp .add ⟨x.toArray⟩ ⟨y.toArray⟩).run P w = .ok (.string ⟨(x ++ y).toArray⟩) w := by
  rw [run_string_add_sum w _ _ (by simp [ByteArray.size]; omega), ByteArray.mk_append_mk]

theorem enc_last (T : Tm) : encT T = flatR (kids T) ++ [lastM T] := by
  have h := flatR_kids T []
  rw [List.append_nil] at h
  rw [← h, flatR_cons]
  simp [flatR]

theorem brk_ge (b : Bool) (s : List UInt8) : s.length ≤ (brk b s).length := by
  unfold brk
  split <;> simp
  omega

theorem ret_txt {x y : List UInt8} (h : x = y) : Ending.returned (.string ⟨x.toArray⟩) = .returned (.string ⟨y.toArray⟩) := by rw [h]

set_option maxHeartbeats 2000000 in
theorem l9Held_of (T : Tm) (b : Nat) (hb : b ≤ 2) (hs : (txtT T).length ≤ 1000000) (ih : ∀ (w : World) (v : Value), QRd w v (encT T) → Calls Tryd.prog 27 #[v] w (TxtPost (txtT T) w))
    (w : World) (v : Value) (hv : QRd w v (encT T)) :
    Calls Tryd.prog 51 #[v, .int .i64 (b : Int)] w (TxtPost (heldT b T) w) := by
  obtain ⟨A, c, rfl, hl, hm⟩ := hv.form
  have HE := Lib.hid (enc_last T)
  obtain ⟨N, hN⟩ : ∃ N, (flatR (kids T)).length = N := ⟨_, rfl⟩
  have hlen : (encT T).length = N + 1 := by rw [HE.out, List.length_append, hN]; rfl
  rw [hlen] at hv hl ⊢
  obtain ⟨b', off, m, rfl, -, hx, hc0, hc1⟩ := QRd.at_ (k := N) hv (by omega)
  rw [HE.out, at_last hN] at hx
  obtain rfl := Option.some.inj hx
  have HV := Lib.hid hv
  have IH := Lib.hid ih
  have h1 : ∀ w : World, (Op.stringOp .add ⟨[40].toArray⟩ ⟨(txtT T).toArray⟩).run Tryd.prog w = .ok (.string ⟨(40 :: txtT T).toArray⟩) w := fun w => add_txt [40] _ (by simp; omega) w
  have h2 : ∀ w : World, (Op.stringOp .add ⟨(40 :: txtT T).toArray⟩ ⟨[41].toArray⟩).run Tryd.prog w = .ok (.string ⟨(40 :: (txtT T ++ [41])).toArray⟩) w := fun w => add_txt (40 :: txtT T) [41] (by simp; omega) w
  clear hv hx hlen hN ih hc1 HE hs
  have hb3 : b = 0 ∨ b = 1 ∨ b = 2 := by omega
  clear hb
  cases T with
  | lt b2 =>
    dsimp only [lastM, letM] at hc0
    rcases hb3 with rfl | rfl | rfl
    all_goals
      go_enter Tryd.func51, Tryd.ntmps51
      go_wp2_with fail
      refine (IH.out _ _ HV.out).mono ?_
      rintro r w2 ⟨rfl, hw2⟩
      go_wp2_with fail
      go_ret
      exact ⟨ret_txt rfl, hw2⟩
  | no x =>
    dsimp only [lastM] at hc0
    rcases hb3 with rfl | rfl | rfl
    all_goals
      go_enter Tryd.func51, Tryd.ntmps51
      go_wp2_with fail
      refine (IH.out _ _ HV.out).mono ?_
      rintro r w2 ⟨rfl, hw2⟩
      go_wp2_with fail
      go_ret
      exact ⟨ret_txt rfl, hw2⟩
  | an x y =>
    dsimp only [lastM] at hc0
    rcases hb3 with rfl | rfl | rfl
    all_goals
      go_enter Tryd.func51, Tryd.ntmps51
      go_wp2_with fail
      refine (IH.out _ _ HV.out).mono ?_
      rintro r w2 ⟨rfl, hw2⟩
      go_wp2_with fail
      go_ret
      exact ⟨ret_txt rfl, hw2⟩
  | vel x y =>
    dsimp only [lastM] at hc0
    rcases hb3 with rfl | rfl | rfl
    all_goals
      go_enter Tryd.func51, Tryd.ntmps51
      go_wp2_with fail
      refine (IH.out _ _ HV.out).mono ?_
      rintro r w2 ⟨rfl, hw2⟩
      go_wp2_with fail
      go_ret
      exact ⟨ret_txt rfl, hw2⟩

end Go.Proofs.YtfdlfgokoponmaaDoor
