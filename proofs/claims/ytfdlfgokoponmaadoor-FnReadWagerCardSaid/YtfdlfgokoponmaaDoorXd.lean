/- spec.l9Starts, spec.l9Event, spec.EventOfTerm. Conditions: rows that read as lists of marks. -/
import Derived.Test.YtfdlfgokoponmaaDoorXc
namespace Go.Proofs.YtfdlfgokoponmaaDoor
open Go.RowKit
set_option linter.unusedVariables false

/-- the parts of a term, the last one first -/
def kids : Tm → List Tm
  | .lt _ => []
  | .no x => [x]
  | .an x y => [y, x]
  | .vel x y => [y, x]

def lastM : Tm → Mk
  | .lt b => letM b
  | .no _ => (1, 0)
  | .an _ _ => (2, 0)
  | .vel _ _ => (3, 0)

theorem flatR_kids (p : Tm) (st : List Tm) : flatR (p :: st) = flatR (kids p ++ st) ++ [lastM p] := by
  cases p with
  | lt b => exact flatR_lt b st
  | no x => exact flatR_no x st
  | an x y => exact flatR_an x y st
  | vel x y => exact flatR_vel x y st

theorem take_snoc {t l : List Mk} {j : Nat} {m : Mk} (h : t.take (j + 1) = l ++ [m]) (hj : j < t.length) : t.take j = l ∧ t[j]? = some m := by
  rw [List.take_add_one, List.getElem?_eq_getElem hj] at h
  obtain ⟨h1, h2⟩ := List.append_inj' h (by simp)
  refine ⟨h1, ?_⟩
  rw [List.getElem?_eq_getElem hj]
  simpa using h2

theorem flatR_pos (p : Tm) (st : List Tm) : 1 ≤ (flatR (p :: st)).length := by rw [flatR_kids]; simp

theorem flatR_ge (P st : List Tm) : P.length ≤ (flatR (P ++ st)).length := by
  induction P with
  | nil => simp
  | cons p P ih =>
    rw [List.cons_append, flatR_cons, List.length_append, List.length_cons]
    have := enc_pos p
    omega

set_option maxHeartbeats 2000000 in
theorem l9Starts_any (w : World) (v : Value) (t : List Mk) (k : Nat) (T : Tm) (st : List Tm) (hv : QRd w v t) (hk : k < t.length) (h : t.take (k + 1) = flatR (T :: st)) :
    Calls Tryd.prog 52 #[v, .int .i64 (k : Int)] w fun e w' => e = .returned (.int .i64 ((flatR st).length : Int)) ∧ w = w' := by
  obtain ⟨A, c, rfl, hl, hm⟩ := hv.form
  have HV := Lib.hid hv
  have H := Lib.hid h
  clear hv h
  go_enter Tryd.func52, Tryd.ntmps52
  go_wp2_with fail
  go_loop [5, 6] (fun p i => ∃ (P : List Tm) (n j : Nat), p = .int .i64 (n : Int) ∧ i = .int .i64 ((j : Int) - 1) ∧ j ≤ t.length ∧ n ≤ j ∧ Hid (P.length = n) ∧ Hid (t.take j = flatR (P ++ st)) ∧ Hid ((flatR (P ++ st)).length = j)) (fun _ i => (intOf i + 1).toNat)
  case atStart => exact ⟨[T], 1, k + 1, rfl, by go_num, by omega, by omega, Lib.hid rfl, H, Lib.hid (by have := congrArg List.length H.out; rw [List.length_take] at this; simp only [List.singleton_append]; omega)⟩
  case round =>
    obtain ⟨P, n, j, rfl, rfl, hj, hn, HP, HT, HJ⟩ := hrel
    cases P with
    | nil =>
      have hn0 : n = 0 := by have := HP.out; simpa using this.symm
      subst hn0
      go_wp2_with fail
      go_ret
      exact ⟨ret_int (by have := HJ.out; simp only [List.nil_append] at this; omega), rfl⟩
    | cons p P =>
      obtain ⟨n, rfl⟩ : ∃ n' : Nat, n = n' + 1 := ⟨P.length, by have := HP.out; simpa using this.symm⟩
      obtain ⟨j, rfl⟩ : ∃ j' : Nat, j = j' + 1 := ⟨j - 1, by omega⟩
      have hj' : j < t.length := by omega
      have h1 := HT.out
      rw [List.cons_append, flatR_kids] at h1
      obtain ⟨h2, h3⟩ := take_snoc h1 hj'
      have h4 := HJ.out
      rw [List.cons_append, flatR_kids, List.length_append] at h4
      have HT2 : Hid (t.take j = flatR (kids p ++ (P ++ st))) := Lib.hid h2
      have HJ2 : Hid ((flatR (kids p ++ (P ++ st))).length = j) := Lib.hid (by simpa using h4)
      have HP2 : Hid (P.length = n) := Lib.hid (by have := HP.out; simpa using this)
      obtain ⟨b, off, x, rfl, -, hx, hc0, hc1⟩ := QRd.at_ HV.out hj'
      rw [h3] at hx
      obtain rfl := (Option.some.inj hx).symm
      have hge : (kids p).length + n ≤ j := by
        have h5 := flatR_ge (kids p ++ P) st
        rw [List.append_assoc, HJ2.out, List.length_append, HP2.out] at h5
        exact h5
      clear h1 h2 h3 h4 HT HJ HP hx hc1
      have hpos : (0 : Int) < ((n + 1 : Nat) : Int) := by omega
      have hidx : (((j + 1 : Nat) : Int) - 1) = (j : Int) := by omega
      rw [hidx]
      clear hidx
      cases p with
      | lt b' =>
        clear hge
        dsimp only [lastM, letM] at hc0
        go_wp2_with fail
        go_round
        case rel => exact ⟨P, n, j, by go_num, by go_num, by omega, by omega, HP2, HT2, HJ2⟩
        case measure => first | (simp [intOf]; done) | (simp [intOf]; omega)
      | no x =>
        have hge' : 1 + n ≤ j := hge
        clear hge
        dsimp only [lastM] at hc0
        go_wp2_with fail
        go_round
        case rel => exact ⟨x :: P, n + 1, j, by go_num, by go_num, by omega, by omega, Lib.hid (by rw [List.length_cons, HP2.out]), HT2, HJ2⟩
        case measure => first | (simp [intOf]; done) | (simp [intOf]; omega)
      | an x y =>
        have hge' : 2 + n ≤ j := hge
        clear hge
        dsimp only [lastM] at hc0
        go_wp2_with fail
        go_round
        case rel => exact ⟨y :: x :: P, n + 2, j, by go_num, by go_num, by omega, by omega, Lib.hid (by rw [List.length_cons, List.length_cons, HP2.out]), HT2, HJ2⟩
        case measure => first | (simp [intOf]; done) | (simp [intOf]; omega)
      | vel x y =>
        have hge' : 2 + n ≤ j := hge
        clear hge
        dsimp only [lastM] at hc0
        go_wp2_with fail
        go_round
        case rel => exact ⟨y :: x :: P, n + 2, j, by go_num, by go_num, by omega, by omega, Lib.hid (by rw [List.length_cons, List.length_cons, HP2.out]), HT2, HJ2⟩
        case measure => first | (simp [intOf]; done) | (simp [intOf]; omega)

end Go.Proofs.YtfdlfgokoponmaaDoor
