/- Contracts of the functions on gambles that return no row. Conditions: rows that read as lists. Contracts of WorstOf, BestOf, BetterOk, LosesOk. Conditions: rows that read as lists. Contracts of BetterOk. Conditions: rows that read as lists. Contracts of the functions on gambles that return a row: impl. Conditions: rows that read as lists. Contracts of the functions on gambles that return a row: spec. Conditions: rows that read as lists. The contract of spec.SumGamble. Conditions: rows that read as lists. -/
import Derived.Test.YteljcicdibbhdaaKit
import Derived.Test.YteljcicdibbhdaaGm
import Derived.BigRegion
import Derived.Deep.AppendLies
import Derived.Deep.RegionLaw
namespace Go.Proofs.Yteljcicdibbhdaa
open Go.RowKit
set_option linter.unusedVariables false

set_option maxHeartbeats 400000 in
theorem amountOk_any (x : Int) (W : World) :
    Calls Try.prog 100 #[.int .i64 x] W fun r W' => r = .returned (.bool (amB x)) ∧ W = W' := by
  by_cases h1 : -1000 ≤ x
  · by_cases h2 : x ≤ 1000
    · go_enter Try.func100, Try.ntmps100
      go_wp2
      go_ret
      exact ⟨ret_bool (by simp [amB, h1, h2]), rfl⟩
    · have h3 : decide (x ≤ 1000) = false := by simpa using h2
      go_enter Try.func100, Try.ntmps100
      go_wp2
      go_ret
      exact ⟨ret_bool (by rw [amB, h3]; simp), rfl⟩
  · have h3 : decide (-1000 ≤ x) = false := by simpa using h1
    go_enter Try.func100, Try.ntmps100
    go_wp2
    go_ret
    exact ⟨ret_bool (by rw [amB, h3]; simp), rfl⟩

theorem inB_amB (x : Int) : inB x (-1000) 1000 = amB x := bool_eq (by rw [inB_iff, amB_iff])

theorem gokB_no {xs : List Int} {k : Nat} {x : Int} (hx : xs[k]? = some x) (h : amB x = false) : gokB xs = false := by
  rw [← Bool.not_eq_true, gokB_iff]
  intro h2
  have := (amB_iff x).2 (h2.2.2 x (List.mem_of_getElem? hx))
  rw [h] at this; cases this

theorem all_take {xs : List Int} {k : Nat} {x : Int} (hx : xs[k]? = some x) (h : amB x = true) (ih : ∀ y ∈ xs.take k, amB y = true) : ∀ y ∈ xs.take (k + 1), amB y = true := by
  rw [List.take_add_one, hx]
  intro y hy
  rcases List.mem_append.1 hy with h1 | h1
  · exact ih y h1
  · simp at h1; subst h1; exact h

theorem gokB_all {xs : List Int} {k : Nat} (hk : xs.length ≤ k) (ih : ∀ y ∈ xs.take k, amB y = true) : gokB xs = wokB (xs.length : Int) := by
  rw [List.take_of_length_le hk] at ih
  apply bool_eq
  rw [gokB_iff, wokB_iff]
  constructor
  · rintro ⟨h1, h2, h3⟩; omega
  · rintro ⟨h1, h2⟩; exact ⟨by omega, by omega, fun x hx => (amB_iff x).1 (ih x hx)⟩

set_option maxHeartbeats 1000000 in
theorem implGambleOk_any (w : World) (v : Value) (xs : List Int) (hv : IRd w v xs) :
    Calls Try.prog 74 #[v] w fun r w' => r = .returned (.bool (gokB xs)) ∧ w = w' := by
  obtain ⟨A, c, rfl, hl, hm, -⟩ := id hv
  have HV := Lib.hid hv
  clear hv
  rcases Bool.eq_false_or_eq_true (wokB (xs.length : Int)) with hw | hw
  · have HW := Lib.hid hw
    go_enter Try.func74, Try.ntmps74
    go_wp2_with (go_at_call 91; refine (worldsOk_any _ _).mono ?_; rintro e w' ⟨rfl, rfl⟩)
    clear hw
    go_loop [11] (fun i => ∃ k : Nat, i = .int .i64 k ∧ k ≤ xs.length ∧ Hid (∀ x ∈ xs.take k, amB x = true)) (fun i => xs.length - (intOf i).toNat)
    case atStart => exact ⟨0, rfl, Nat.zero_le _, Lib.hid (by simp)⟩
    case round =>
      obtain ⟨k, rfl, hk, HE⟩ := hrel
      by_cases hlt : k < xs.length
      · obtain ⟨b, off, x, rfl, -, hx, hcx⟩ := HV.out.at_ hlt
        have HX := Lib.hid hx
        clear hx
        rcases Bool.eq_false_or_eq_true (amB x) with ha | ha
        · go_wp2_with (go_at_call 100; refine (amountOk_any _ _).mono ?_; rintro e w' ⟨rfl, rfl⟩)
          go_round
          case rel => exact ⟨k + 1, by go_num, by omega, Lib.hid (all_take HX.out ha HE.out)⟩
          case measure => simp [intOf]; omega
        · go_wp2_with (go_at_call 100; refine (amountOk_any _ _).mono ?_; rintro e w' ⟨rfl, rfl⟩)
          go_ret
          exact ⟨ret_bool (gokB_no HX.out ha).symm, rfl⟩
      · go_wp2_with fail
        go_ret
        exact ⟨ret_bool (by rw [gokB_all (by omega) HE.out, HW.out]), rfl⟩
  · have HG : Hid (gokB xs = false) := Lib.hid (by
      rw [← Bool.not_eq_true, wokB_iff] at hw
      rw [← Bool.not_eq_true, gokB_iff]; omega)
    go_enter Try.func74, Try.ntmps74
    go_wp2_with (go_at_call 91; refine (worldsOk_any _ _).mono ?_; rintro e w' ⟨rfl, rfl⟩)
    go_ret
    exact ⟨ret_bool HG.out.symm, rfl⟩

set_option maxHeartbeats 1000000 in
theorem specGambleOk_any (w : World) (v : Value) (xs : List Int) (hv : IRd w v xs) :
    Calls Try.prog 77 #[v] w fun r w' => r = .returned (.bool (gokB xs)) ∧ w = w' := by
  obtain ⟨A, c, rfl, hl, hm, -⟩ := id hv
  have HV := Lib.hid hv
  clear hv
  go_enter Try.func77, Try.ntmps77
  go_wp2_with fail
  go_loop [3] (fun i => ∃ k : Nat, i = .int .i64 k ∧ k ≤ xs.length ∧ Hid (∀ x ∈ xs.take k, amB x = true)) (fun i => xs.length - (intOf i).toNat)
  case atStart => exact ⟨0, rfl, Nat.zero_le _, Lib.hid (by simp)⟩
  case round =>
    obtain ⟨k, rfl, hk, HE⟩ := hrel
    by_cases hlt : k < xs.length
    · obtain ⟨b, off, x, rfl, -, hx, hcx⟩ := HV.out.at_ hlt
      have HX := Lib.hid hx
      clear hx
      rcases Bool.eq_false_or_eq_true (amB x) with ha | ha
      · have ha2 : inB x (-1000) 1000 = true := by rw [inB_amB]; exact ha
        go_wp2_with (go_at_call 63; refine (l1In_any _ _ _ _).mono ?_; rintro e w' ⟨rfl, rfl⟩)
        go_round
        case rel => exact ⟨k + 1, by go_num, by omega, Lib.hid (all_take HX.out ha HE.out)⟩
        case measure => simp [intOf]; omega
      · have ha2 : inB x (-1000) 1000 = false := by rw [inB_amB]; exact ha
        go_wp2_with (go_at_call 63; refine (l1In_any _ _ _ _).mono ?_; rintro e w' ⟨rfl, rfl⟩)
        go_ret
        exact ⟨ret_bool (gokB_no HX.out ha).symm, rfl⟩
    · go_wp2_with (go_at_call 63; refine (l1In_any _ _ _ _).mono ?_; rintro e w' ⟨rfl, rfl⟩)
      go_ret
      exact ⟨ret_bool (by rw [gokB_all (by omega) HE.out]; exact bool_eq (by rw [inB_iff, wokB_iff])), rfl⟩

theorem gok2_of {a b : List Int} {x y z : Bool} (h1 : gokB a = x) (h2 : gokB b = y) (h3 : decide (a.length = b.length) = z) : gok2 a b = (x && y && z) := by rw [gok2, h1, h2, h3]

end Go.Proofs.Yteljcicdibbhdaa

namespace Go.Proofs.Yteljcicdibbhdaa
open Go.RowKit
set_option linter.unusedVariables false

set_option maxHeartbeats 400000 in
theorem lesser_any (a b : Int) (W : World) :
    Calls Try.prog 80 #[.int .i64 a, .int .i64 b] W fun r W' => r = .returned (.int .i64 (minI a b)) ∧ W = W' := by
  by_cases h : b < a
  · go_enter Try.func80, Try.ntmps80
    go_wp2
    go_ret
    exact ⟨ret_int (by unfold minI; split <;> omega), rfl⟩
  · have h2 : a ≤ b := by omega
    go_enter Try.func80, Try.ntmps80
    go_wp2
    go_ret
    exact ⟨ret_int (by unfold minI; split <;> omega), rfl⟩

set_option maxHeartbeats 400000 in
theorem greater_any (a b : Int) (W : World) :
    Calls Try.prog 124 #[.int .i64 a, .int .i64 b] W fun r W' => r = .returned (.int .i64 (maxI a b)) ∧ W = W' := by
  by_cases h : a < b
  · go_enter Try.func124, Try.ntmps124
    go_wp2
    go_ret
    exact ⟨ret_int (by unfold maxI; split <;> omega), rfl⟩
  · have h2 : b ≤ a := by omega
    go_enter Try.func124, Try.ntmps124
    go_wp2
    go_ret
    exact ⟨ret_int (by unfold maxI; split <;> omega), rfl⟩

/-- the function value lesser -/
def lesserF : Value := .func (.func 80) #[] #[]

/-- the function value greater -/
def greaterF : Value := .func (.func 124) #[] #[]

set_option maxHeartbeats 1000000 in
theorem foldLesser_any (w : World) (v : Value) (xs : List Int) (s : Int) (hv : IRd w v xs) :
    Calls Try.prog 79 #[v, .int .i64 s, lesserF] w fun r w' => r = .returned (.int .i64 (xs.foldl minI s)) ∧ w = w' := by
  obtain ⟨A, c, rfl, hl, hm, -⟩ := id hv
  have HV := Lib.hid hv
  clear hv
  unfold lesserF
  go_enter Try.func79, Try.ntmps79
  go_wp2_with fail
  go_loop [1, 11] (fun t i => ∃ (k : Nat) (n : Int), i = .int .i64 k ∧ k ≤ xs.length ∧ t = .int .i64 n ∧ Hid (n = (xs.take k).foldl minI s)) (fun _ i => xs.length - (intOf i).toNat)
  case atStart => exact ⟨0, s, rfl, Nat.zero_le _, rfl, Lib.hid (by simp)⟩
  case round =>
    obtain ⟨k, n, rfl, hk, rfl, HN⟩ := hrel
    by_cases hlt : k < xs.length
    · obtain ⟨b, off, x, rfl, -, hx, hcx⟩ := HV.out.at_ hlt
      have HX := Lib.hid hx
      clear hx
      go_wp2_with (go_at_call 80; refine (lesser_any _ _ _).mono ?_; rintro e w' ⟨rfl, rfl⟩)
      go_round
      case rel => exact ⟨k + 1, _, by go_num, by omega, rfl, Lib.hid (by rw [foldl_take HX.out, ← HN.out])⟩
      case measure => simp [intOf]; omega
    · go_wp2_with fail
      go_ret
      exact ⟨ret_int (by rw [HN.out, List.take_of_length_le (by omega)]), rfl⟩

set_option maxHeartbeats 1000000 in
theorem foldGreater_any (w : World) (v : Value) (xs : List Int) (s : Int) (hv : IRd w v xs) :
    Calls Try.prog 79 #[v, .int .i64 s, greaterF] w fun r w' => r = .returned (.int .i64 (xs.foldl maxI s)) ∧ w = w' := by
  obtain ⟨A, c, rfl, hl, hm, -⟩ := id hv
  have HV := Lib.hid hv
  clear hv
  unfold greaterF
  go_enter Try.func79, Try.ntmps79
  go_wp2_with fail
  go_loop [1, 11] (fun t i => ∃ (k : Nat) (n : Int), i = .int .i64 k ∧ k ≤ xs.length ∧ t = .int .i64 n ∧ Hid (n = (xs.take k).foldl maxI s)) (fun _ i => xs.length - (intOf i).toNat)
  case atStart => exact ⟨0, s, rfl, Nat.zero_le _, rfl, Lib.hid (by simp)⟩
  case round =>
    obtain ⟨k, n, rfl, hk, rfl, HN⟩ := hrel
    by_cases hlt : k < xs.length
    · obtain ⟨b, off, x, rfl, -, hx, hcx⟩ := HV.out.at_ hlt
      have HX := Lib.hid hx
      clear hx
      go_wp2_with (go_at_call 124; refine (greater_any _ _ _).mono ?_; rintro e w' ⟨rfl, rfl⟩)
      go_round
      case rel => exact ⟨k + 1, _, by go_num, by omega, rfl, Lib.hid (by rw [foldl_take HX.out, ← HN.out])⟩
      case measure => simp [intOf]; omega
    · go_wp2_with fail
      go_ret
      exact ⟨ret_int (by rw [HN.out, List.take_of_length_le (by omega)]), rfl⟩

/-- a number and whether it is told -/
def NumOk (n : Int) (b : Bool) (w : World) (e : Ending) (w' : World) : Prop := e = .returned (.tuple #[.int .i64 n, .bool b]) ∧ w = w'

theorem numOk_ret {n m : Int} {b c : Bool} {w : World} (h : n = m) (k : b = c) : NumOk n b w (.returned (.tuple #[.int .i64 m, .bool c])) w := by subst h; subst k; exact ⟨rfl, rfl⟩

theorem worst_no {xs : List Int} (h : gokB xs = false) : worstI xs = 0 := by rw [worstI, h]; rfl

theorem best_no {xs : List Int} (h : gokB xs = false) : bestI xs = 0 := by rw [bestI, h]; rfl

theorem worst_yes {xs : List Int} (h : gokB xs = true) : worstI xs = xs.foldl minI 1000 := by rw [worstI, if_pos h]

theorem best_yes {xs : List Int} (h : gokB xs = true) : bestI xs = xs.foldl maxI (-1000) := by rw [bestI, if_pos h]

set_option maxHeartbeats 1000000 in
theorem implWorstOf_any (w : World) (v : Value) (xs : List Int) (hv : IRd w v xs) :
    Calls Try.prog 37 #[v] w (NumOk (worstI xs) (gokB xs) w) := by
  have HV := Lib.hid hv
  clear hv
  rcases Bool.eq_false_or_eq_true (gokB xs) with h | h
  · have H := Lib.hid h
    go_enter Try.func37, Try.ntmps37
    go_wp2_with fail
    refine (implGambleOk_any _ _ _ HV.out).mono ?_
    rintro e w' ⟨rfl, rfl⟩
    clear h
    rw [H.out]
    go_wp2_with fail
    refine (foldLesser_any _ _ _ _ HV.out).mono ?_
    rintro e w' ⟨rfl, rfl⟩
    go_wp2_with fail
    go_ret2
    exact numOk_ret (worst_yes H.out) H.out
  · have H := Lib.hid h
    go_enter Try.func37, Try.ntmps37
    go_wp2_with fail
    refine (implGambleOk_any _ _ _ HV.out).mono ?_
    rintro e w' ⟨rfl, rfl⟩
    clear h
    rw [H.out]
    go_wp2_with fail
    go_ret2
    exact numOk_ret (worst_no H.out) H.out

set_option maxHeartbeats 1000000 in
theorem implBestOf_any (w : World) (v : Value) (xs : List Int) (hv : IRd w v xs) :
    Calls Try.prog 123 #[v] w (NumOk (bestI xs) (gokB xs) w) := by
  have HV := Lib.hid hv
  clear hv
  rcases Bool.eq_false_or_eq_true (gokB xs) with h | h
  · have H := Lib.hid h
    go_enter Try.func123, Try.ntmps123
    go_wp2_with fail
    refine (implGambleOk_any _ _ _ HV.out).mono ?_
    rintro e w' ⟨rfl, rfl⟩
    clear h
    rw [H.out]
    go_wp2_with fail
    refine (foldGreater_any _ _ _ _ HV.out).mono ?_
    rintro e w' ⟨rfl, rfl⟩
    go_wp2_with fail
    go_ret2
    exact numOk_ret (best_yes H.out) H.out
  · have H := Lib.hid h
    go_enter Try.func123, Try.ntmps123
    go_wp2_with fail
    refine (implGambleOk_any _ _ _ HV.out).mono ?_
    rintro e w' ⟨rfl, rfl⟩
    clear h
    rw [H.out]
    go_wp2_with fail
    go_ret2
    exact numOk_ret (best_no H.out) H.out

set_option maxHeartbeats 1000000 in
theorem implLosesOk_any (w : World) (v : Value) (xs : List Int) (hv : IRd w v xs) :
    Calls Try.prog 116 #[v] w fun r w' => r = .returned (.bool (losesB xs)) ∧ w = w' := by
  have HV := Lib.hid hv
  clear hv
  rcases Bool.eq_false_or_eq_true (gokB xs) with h | h
  · have H := Lib.hid h
    go_enter Try.func116, Try.ntmps116
    go_wp2_with fail
    refine (implBestOf_any _ _ _ HV.out).mono ?_
    rintro e w' ⟨rfl, rfl⟩
    clear h
    rw [H.out]
    go_wp2_with fail
    go_ret
    exact ⟨ret_bool (by rw [losesB, H.out]; rfl), rfl⟩
  · have H := Lib.hid h
    go_enter Try.func116, Try.ntmps116
    go_wp2_with fail
    refine (implBestOf_any _ _ _ HV.out).mono ?_
    rintro e w' ⟨rfl, rfl⟩
    clear h
    rw [H.out]
    go_wp2_with fail
    go_ret
    exact ⟨ret_bool (by rw [losesB, H.out]; rfl), rfl⟩

end Go.Proofs.Yteljcicdibbhdaa

namespace Go.Proofs.Yteljcicdibbhdaa
open Go.RowKit
set_option linter.unusedVariables false

/-- a Bool is told, and nothing is turned but the tape -/
def BoolQ (b : Bool) (w : World) (e : Ending) (w' : World) : Prop := ∃ n, e = .returned (.bool b) ∧ w' = w.drewN n

theorem boolQ_ret {b c : Bool} {w : World} {n : Nat} (h : b = c) : BoolQ b w (.returned (.bool c)) (w.drewN n) := by subst h; exact ⟨n, rfl, rfl⟩

theorem boolQ_same {b c : Bool} {w : World} (h : b = c) : BoolQ b w (.returned (.bool c)) w := by subst h; exact ⟨0, rfl, rfl⟩

theorem boolQ_more {b c : Bool} {w : World} {n m : Nat} (h : b = c) : BoolQ b w (.returned (.bool c)) ((w.drewN n).drewN m) := by subst h; exact ⟨n + m, rfl, World.drewN_drewN _ _ _⟩

/-- up to place k the first list is at least the second one -/
def geUpto (xs ys : List Int) (k : Nat) : Prop := ∀ (j : Nat) (x y : Int), j < k → xs[j]? = some x → ys[j]? = some y → y ≤ x

theorem geUpto_succ {xs ys : List Int} {k : Nat} {x y : Int} (h : geUpto xs ys k) (hx : xs[k]? = some x) (hy : ys[k]? = some y) (hle : y ≤ x) : geUpto xs ys (k + 1) := by
  intro j u v hj hu hv
  rcases Nat.lt_succ_iff_lt_or_eq.1 hj with h1 | h1
  · exact h j u v h1 hu hv
  · subst h1
    rw [hx] at hu; rw [hy] at hv
    obtain rfl := Option.some.inj hu
    obtain rfl := Option.some.inj hv
    exact hle

theorem better_yes {xs ys : List Int} (h : gok2 xs ys = true) {k : Nat} (hk : xs.length ≤ k) (hg : geUpto xs ys k) : betterB xs ys = true := by
  rw [betterB_iff]
  refine ⟨h, fun j x y hx hy => hg j x y ?_ hx hy⟩
  rcases Nat.lt_or_ge j xs.length with h1 | h1
  · omega
  · rw [List.getElem?_eq_none h1] at hx; cases hx

theorem better_no {xs ys : List Int} {k : Nat} {x y : Int} (hx : xs[k]? = some x) (hy : ys[k]? = some y) (h : x < y) : betterB xs ys = false := by
  rw [← Bool.not_eq_true, betterB_iff]
  rintro ⟨-, h2⟩
  have := h2 k x y hx hy
  omega

theorem better_none {xs ys : List Int} (h : gok2 xs ys = false) : betterB xs ys = false := by rw [betterB, h]; rfl

theorem len_ne {xs ys : List Int} {t : Bool} (h : decide (xs.length = ys.length) = t) : ((xs.length : Int) != (ys.length : Int)) = !t := by
  subst h
  rw [Bool.eq_iff_iff]
  simp only [bne_iff_ne, Bool.not_eq_true', decide_eq_false_iff_not]
  omega

end Go.Proofs.Yteljcicdibbhdaa

namespace Go.Proofs.Yteljcicdibbhdaa
open Go.RowKit
set_option linter.unusedVariables false

/-- a row and whether it is told -/
def RowOk (base : Nat) (xs : List Int) (b : Bool) (w : World) (e : Ending) (w' : World) : Prop := ∃ v, e = .returned (.tuple #[v, .bool b]) ∧ IOwn w' base v xs ∧ Below w.heap.size w w'

theorem rowOk_ret {base : Nat} {xs ys : List Int} {b c : Bool} {w w' : World} {v : Value} (h : b = c) (k : xs = ys) (o : IOwn w' base v ys) (hb : Below w.heap.size w w') : RowOk base xs b w (.returned (.tuple #[v, .bool c])) w' := by
  subst h; subst k; exact ⟨v, rfl, o, hb⟩

/-- up to place k the fresh row is filled -/
def FillRel (w : World) (zs : List Int) (n k : Nat) (wr : World) : Prop :=
  wr.ownsRow w.heap.size 3 1 (.slice (some ⟨w.heap.size, 0, none⟩) n n) n (copied zs k) ∧ Below w.heap.size w wr

theorem FillRel.step {w wr : World} {zs : List Int} {n k : Nat} {x : Int} (h : FillRel w zs n k wr) (hx : zs[k]? = some x) : FillRel w zs n (k + 1) (wr.setCell ⟨w.heap.size, k, none⟩ (.int .i64 x)) := by
  obtain ⟨h1, h2⟩ := h
  obtain ⟨h3, h4⟩ := h1.stored k (.int .i64 x)
  rw [copied_set hx] at h3
  exact ⟨h3, h2.setCell (Nat.le_refl _) _⟩

theorem FillRel.drew {w wr : World} {zs : List Int} {n k : Nat} (h : FillRel w zs n k wr) (q : Nat) : FillRel w zs n k (wr.drewN q) := ⟨h.1, below_drewN h.2 q⟩

theorem FillRel.drew1 {w wr : World} {zs : List Int} {n k : Nat} (h : FillRel w zs n k wr) : FillRel w zs n k wr.drew := ⟨h.1, below_drewN h.2 1⟩

theorem FillRel.all {w wr : World} {zs : List Int} {n k : Nat} (h : FillRel w zs n k wr) (hn : zs.length = n) (hk : k = n) : IOwn wr w.heap.size (.slice (some ⟨w.heap.size, 0, none⟩) n n) zs ∧ Below w.heap.size w wr := by
  subst hk
  subst hn
  obtain ⟨h1, h2⟩ := h
  rw [copied_all] at h1
  exact ⟨h1, h2⟩

def Small3 (xs : List Int) : Prop := xs.length ≤ 4 ∧ ∀ (k : Nat) (x : Int), xs[k]? = some x → -1000 ≤ x ∧ x ≤ 1000

theorem small3_of {xs : List Int} (h : gokB xs = true) : Small3 xs := ⟨((gokB_iff xs).1 h).2.1, fun k x hx => gokB_at h hx⟩

set_option maxHeartbeats 2000000 in
theorem addRows_any (w : World) (v u : Value) (xs ys : List Int) (hv : IRd w v xs) (hu : IRd w u ys) (hl : xs.length = ys.length) (hx : Small3 xs) (hy : Small3 ys) :
    Calls Try.prog 122 #[v, u] w (NewInts (sumL xs ys) w) := by
  obtain ⟨A, c, rfl, hlc, hm, -⟩ := id hv
  obtain ⟨A', c', rfl, hlc', hm', -⟩ := id hu
  have hn4 := hx.1
  have HV := Lib.hid hv
  have HU := Lib.hid hu
  have HL := Lib.hid hl
  have HZ := Lib.hid (sumL_len xs ys hl)
  have HX := Lib.hid hx
  have HY := Lib.hid hy
  clear hv hu hl hx hy
  obtain ⟨i0, hi, hz0, hz1, hz2⟩ := info_parts Try_intinfo
  go_enter Try.func122, Try.ntmps122
  go_wp2_with (at_make; refine wpList_make_full _ rfl _ _ 41 rfl w.heap.size 3 i0 (.int .i64 0) 1 Try.underlying41 hi hz0 hz1 .i64 .i64 _ _ xs.length rfl rfl rfl rfl ?b2 ?b3 (Nat.le_refl _) ?_)
  case b2 => rw [hz2]; omega
  case b3 => unfold maxLen; omega
  intro w0 hown0 hgrow0
  have H0 : Hid (FillRel w (sumL xs ys) xs.length 0 w0) := Lib.hid ⟨by rw [copied_zero, HZ.out]; simpa [toList_madeCells_one, Value.cells] using hown0, (Below.refl _ _).grown hgrow0 (Nat.le_refl _) (fun k hk => by cases hk)⟩
  clear hown0 hgrow0 hi hz0 hz1 hz2
  go_wp2_with fail
  go_loopw [12] (fun i wr => ∃ k : Nat, i = .int .i64 k ∧ k ≤ xs.length ∧ Hid (FillRel w (sumL xs ys) xs.length k wr)) (fun i _ => xs.length - (intOf i).toNat)
  case atStart => exact ⟨0, rfl, Nat.zero_le _, H0⟩
  case round =>
    obtain ⟨k, rfl, hk, H⟩ := hrel
    clear H0
    by_cases hlt : k < xs.length
    · have hlt' : k < ys.length := by have := HL.out; omega
      obtain ⟨b, off, x, rfl, -, hx, hcx⟩ := (HV.out.keep (SameAt.of_below H.out.2)).at_ hlt
      obtain ⟨b', off', y, rfl, -, hy, hcy⟩ := (HU.out.keep (SameAt.of_below H.out.2)).at_ hlt'
      obtain ⟨hx1, hx2⟩ := HX.out.2 k x hx
      obtain ⟨hy1, hy2⟩ := HY.out.2 k y hy
      have hfz := H.out.1.frozenAt k
      obtain ⟨old, hold⟩ := some_cell H.out.1 (k := k) (by omega)
      have HS := Lib.hid (sumL_at xs ys hx hy)
      clear hx hy
      go_wp2_with fail
      go_region
      go_wp2_with fail
      go_roundw
      case rel => exact ⟨k + 1, by go_num, by omega, (show Hid _ from (H.out.step HS.out).drew1)⟩
      case measure => simp [intOf]; omega
    · go_wp2_with fail
      go_ret
      obtain ⟨h1, h2⟩ := H.out.all HZ.out (by omega)
      exact ⟨_, rfl, h1, h2⟩

def IfOk (base : Nat) (xs : List Int) (w : World) (e : Ending) (w' : World) : Prop := ∃ v, e = .returned (.tuple #[v, .bool (gokB xs)]) ∧ IOwn w base v (if gokB xs = true then xs else []) ∧ w = w'

theorem ifOk_ret {base : Nat} {xs ys : List Int} {c : Bool} {w : World} {v : Value} (h : gokB xs = c) (k : (if c = true then xs else []) = ys) (o : IOwn w base v ys) : IfOk base xs w (.returned (.tuple #[v, .bool c])) w := by
  subst h; subst k; exact ⟨v, rfl, o, rfl⟩

theorem mul_1000 {x t : Int} (hx : -1000 ≤ x ∧ x ≤ 1000) (ht : -1000 ≤ t ∧ t ≤ 1000) : -1000000 ≤ x * t ∧ x * t ≤ 1000000 := by
  have h1 : 0 ≤ (1000 - x) * (1000 + t) := Int.mul_nonneg (by omega) (by omega)
  have h2 : 0 ≤ (1000 + x) * (1000 - t) := Int.mul_nonneg (by omega) (by omega)
  have h3 : 0 ≤ (1000 + x) * (1000 + t) := Int.mul_nonneg (by omega) (by omega)
  have h4 : 0 ≤ (1000 - x) * (1000 - t) := Int.mul_nonneg (by omega) (by omega)
  simp only [Int.sub_mul, Int.add_mul, Int.mul_add, Int.mul_sub] at h1 h2 h3 h4
  omega

theorem mulL_small {g : List Int} {t : Int} (hg : gokB g = true) (ht : amB t = true) : (mulL g t).length ≤ 4 := by
  rw [mulL_len]; exact ((gokB_iff g).1 hg).2.1

theorem times_no1 {g : List Int} {t : Int} (h : gokB g = false) : timesB g t = false ∧ timesR g t = [] := by
  have : timesB g t = false := by rw [timesB, h]; rfl
  exact ⟨this, by rw [timesR, this]; rfl⟩

theorem times_no2 {g : List Int} {t : Int} (h : amB t = false) : timesB g t = false ∧ timesR g t = [] := by
  have : timesB g t = false := by rw [timesB, h]; simp
  exact ⟨this, by rw [timesR, this]; rfl⟩

theorem times_yes {g : List Int} {t : Int} (h : gokB g = true) (h2 : amB t = true) : timesB g t = gokB (mulL g t) := by rw [timesB, h, h2]; rfl

end Go.Proofs.Yteljcicdibbhdaa

namespace Go.Proofs.Yteljcicdibbhdaa
open Go.RowKit
set_option linter.unusedVariables false

/-- the row p holds the first k of zs -/
def AppRel (w : World) (zs : List Int) (k : Nat) (p : Value) (wr : World) : Prop := IOwn wr w.heap.size p (zs.take k) ∧ Below w.heap.size w wr

theorem AppRel.step {w wr w' : World} {zs : List Int} {k : Nat} {p p' : Value} {x : Int} (h : AppRel w zs k p wr) (hx : zs[k]? = some x) (ho : IOwn w' w.heap.size p' (zs.take k ++ [x])) (hg : wr.grownBy w' p.ownBlock) : AppRel w zs (k + 1) p' w' := by
  obtain ⟨h1, h2⟩ := h
  refine ⟨?_, below_grown h2 hg h1 (Nat.le_refl _) h2.size⟩
  rw [List.take_add_one, hx]; exact ho

theorem AppRel.all {w wr : World} {zs : List Int} {k : Nat} {p : Value} (h : AppRel w zs k p wr) (hk : zs.length ≤ k) : IOwn wr w.heap.size p zs ∧ Below w.heap.size w wr := by
  obtain ⟨h1, h2⟩ := h
  rw [List.take_of_length_le hk] at h1
  exact ⟨h1, h2⟩

theorem app_start (w : World) (zs : List Int) : AppRel w zs 0 (.slice (some ⟨w.heap.size, 0, none⟩) 0 0) (w.alloc (.cells #[] 3)) :=
  ⟨World.ownsRow_lit w #[] 0 (Nat.le_refl _) (by unfold maxLen; omega) rfl, (Below.refl _ _).alloc (Nat.le_refl _) _⟩

theorem lit_own (w : World) (base : Nat) (hb : base ≤ w.heap.size) : IOwn (w.alloc (.cells #[] 3)) base (.slice (some ⟨w.heap.size, 0, none⟩) 0 0) [] :=
  World.ownsRow_lit w #[] 0 hb (by unfold maxLen; omega) rfl

theorem AppRel.below {w wr : World} {zs : List Int} {k : Nat} {p : Value} (h : AppRel w zs k p wr) : Below w.heap.size w wr := h.2

end Go.Proofs.Yteljcicdibbhdaa

namespace Go.Proofs.Yteljcicdibbhdaa
open Go.RowKit
set_option linter.unusedVariables false

end Go.Proofs.Yteljcicdibbhdaa
