/- Contracts of the functions on gambles that return no row. Conditions: rows that read as lists. -/
import Derived.Test.YtfdgelikmhaagaaKit
import Derived.Test.YtfdgelikmhaagaaGm
namespace Go.Proofs.Ytfdgelikmhaagaa
open Go.RowKit
set_option linter.unusedVariables false

set_option maxHeartbeats 400000 in
theorem amountOk_any (x : Int) (W : World) :
    Calls Try.prog 78 #[.int .i64 x] W fun r W' => r = .returned (.bool (amB x)) ∧ W = W' := by
  by_cases h1 : -1000 ≤ x
  · by_cases h2 : x ≤ 1000
    · go_enter Try.func78, Try.ntmps78
      go_wp2
      go_ret
      exact ⟨ret_bool (by simp [amB, h1, h2]), rfl⟩
    · have h3 : decide (x ≤ 1000) = false := by simpa using h2
      go_enter Try.func78, Try.ntmps78
      go_wp2
      go_ret
      exact ⟨ret_bool (by rw [amB, h3]; simp), rfl⟩
  · have h3 : decide (-1000 ≤ x) = false := by simpa using h1
    go_enter Try.func78, Try.ntmps78
    go_wp2
    go_ret
    exact ⟨ret_bool (by rw [amB, h3]; simp), rfl⟩

theorem inB_amB (x : Int) : inB x (-1000) 1000 = amB x := bool_eq (by rw [inB_iff, amB_iff])

theorem gokB_no {xs : List Int} {k : Nat} {x : Int} (hx : xs[k]? = some x) (h : amB x = false) : gokB xs = false := by
  rw [← Bool.not_eq_true, gokB_iff]
  intro h2
  have := (amB_iff x).2 (h2.2.2 x (List.mem_of_getElem? hx))
  rw [h] at this; cases this

theorem all_take {xs : List Int} {k : Nat} {x : Int} (hx : xs[k]? = some x) (h : amB x = true) (ih : ∀ y ∈ xs.take k, amB y = true) : ∀ y ∈ xs.take (k + 1), amB y = true := by
  rw [List.take_add_one, hx]
  intro y hy
  rcases List.mem_append.1 hy with h1 | h1
  · exact ih y h1
  · simp at h1; subst h1; exact h

theorem gokB_all {xs : List Int} {k : Nat} (hk : xs.length ≤ k) (ih : ∀ y ∈ xs.take k, amB y = true) : gokB xs = wokB (xs.length : Int) := by
  rw [List.take_of_length_le hk] at ih
  apply bool_eq
  rw [gokB_iff, wokB_iff]
  constructor
  · rintro ⟨h1, h2, h3⟩; omega
  · rintro ⟨h1, h2⟩; exact ⟨by omega, by omega, fun x hx => (amB_iff x).1 (ih x hx)⟩

set_option maxHeartbeats 1000000 in
theorem implGambleOk_any (w : World) (v : Value) (xs : List Int) (hv : IRd w v xs) :
    Calls Try.prog 73 #[v] w fun r w' => r = .returned (.bool (gokB xs)) ∧ w = w' := by
  obtain ⟨A, c, rfl, hl, hm, -⟩ := id hv
  have HV := Lib.hid hv
  clear hv
  rcases Bool.eq_false_or_eq_true (wokB (xs.length : Int)) with hw | hw
  · have HW := Lib.hid hw
    go_enter Try.func73, Try.ntmps73
    go_wp2_with (go_at_call 65; refine (worldsOk_any _ _).mono ?_; rintro e w' ⟨rfl, rfl⟩)
    clear hw
    go_loop [11] (fun i => ∃ k : Nat, i = .int .i64 k ∧ k ≤ xs.length ∧ Hid (∀ x ∈ xs.take k, amB x = true)) (fun i => xs.length - (intOf i).toNat)
    case atStart => exact ⟨0, rfl, Nat.zero_le _, Lib.hid (by simp)⟩
    case round =>
      obtain ⟨k, rfl, hk, HE⟩ := hrel
      by_cases hlt : k < xs.length
      · obtain ⟨b, off, x, rfl, -, hx, hcx⟩ := HV.out.at_ hlt
        have HX := Lib.hid hx
        clear hx
        rcases Bool.eq_false_or_eq_true (amB x) with ha | ha
        · go_wp2_with (go_at_call 78; refine (amountOk_any _ _).mono ?_; rintro e w' ⟨rfl, rfl⟩)
          go_round
          case rel => exact ⟨k + 1, by go_num, by omega, Lib.hid (all_take HX.out ha HE.out)⟩
          case measure => simp [intOf]; omega
        · go_wp2_with (go_at_call 78; refine (amountOk_any _ _).mono ?_; rintro e w' ⟨rfl, rfl⟩)
          go_ret
          exact ⟨ret_bool (gokB_no HX.out ha).symm, rfl⟩
      · go_wp2_with fail
        go_ret
        exact ⟨ret_bool (by rw [gokB_all (by omega) HE.out, HW.out]), rfl⟩
  · have HG : Hid (gokB xs = false) := Lib.hid (by
      rw [← Bool.not_eq_true, wokB_iff] at hw
      rw [← Bool.not_eq_true, gokB_iff]; omega)
    go_enter Try.func73, Try.ntmps73
    go_wp2_with (go_at_call 65; refine (worldsOk_any _ _).mono ?_; rintro e w' ⟨rfl, rfl⟩)
    go_ret
    exact ⟨ret_bool HG.out.symm, rfl⟩

set_option maxHeartbeats 1000000 in
theorem specGambleOk_any (w : World) (v : Value) (xs : List Int) (hv : IRd w v xs) :
    Calls Try.prog 74 #[v] w fun r w' => r = .returned (.bool (gokB xs)) ∧ w = w' := by
  obtain ⟨A, c, rfl, hl, hm, -⟩ := id hv
  have HV := Lib.hid hv
  clear hv
  go_enter Try.func74, Try.ntmps74
  go_wp2_with fail
  go_loop [3] (fun i => ∃ k : Nat, i = .int .i64 k ∧ k ≤ xs.length ∧ Hid (∀ x ∈ xs.take k, amB x = true)) (fun i => xs.length - (intOf i).toNat)
  case atStart => exact ⟨0, rfl, Nat.zero_le _, Lib.hid (by simp)⟩
  case round =>
    obtain ⟨k, rfl, hk, HE⟩ := hrel
    by_cases hlt : k < xs.length
    · obtain ⟨b, off, x, rfl, -, hx, hcx⟩ := HV.out.at_ hlt
      have HX := Lib.hid hx
      clear hx
      rcases Bool.eq_false_or_eq_true (amB x) with ha | ha
      · have ha2 : inB x (-1000) 1000 = true := by rw [inB_amB]; exact ha
        go_wp2_with (go_at_call 66; refine (l1In_any _ _ _ _).mono ?_; rintro e w' ⟨rfl, rfl⟩)
        go_round
        case rel => exact ⟨k + 1, by go_num, by omega, Lib.hid (all_take HX.out ha HE.out)⟩
        case measure => simp [intOf]; omega
      · have ha2 : inB x (-1000) 1000 = false := by rw [inB_amB]; exact ha
        go_wp2_with (go_at_call 66; refine (l1In_any _ _ _ _).mono ?_; rintro e w' ⟨rfl, rfl⟩)
        go_ret
        exact ⟨ret_bool (gokB_no HX.out ha).symm, rfl⟩
    · go_wp2_with (go_at_call 66; refine (l1In_any _ _ _ _).mono ?_; rintro e w' ⟨rfl, rfl⟩)
      go_ret
      exact ⟨ret_bool (by rw [gokB_all (by omega) HE.out]; exact bool_eq (by rw [inB_iff, wokB_iff])), rfl⟩

theorem gok2_of {a b : List Int} {x y z : Bool} (h1 : gokB a = x) (h2 : gokB b = y) (h3 : decide (a.length = b.length) = z) : gok2 a b = (x && y && z) := by rw [gok2, h1, h2, h3]

end Go.Proofs.Ytfdgelikmhaagaa
