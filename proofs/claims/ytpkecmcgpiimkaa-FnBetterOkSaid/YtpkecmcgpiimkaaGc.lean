/- Contracts of BetterOk. Conditions: rows that read as lists. -/
import Derived.Test.YtpkecmcgpiimkaaGb
namespace Go.Proofs.Ytpkecmcgpiimkaa
open Go.RowKit
set_option linter.unusedVariables false

/-- a Bool is told, and nothing is turned but the tape -/
def BoolQ (b : Bool) (w : World) (e : Ending) (w' : World) : Prop := ∃ n, e = .returned (.bool b) ∧ w' = w.drewN n

theorem boolQ_ret {b c : Bool} {w : World} {n : Nat} (h : b = c) : BoolQ b w (.returned (.bool c)) (w.drewN n) := by subst h; exact ⟨n, rfl, rfl⟩

theorem boolQ_same {b c : Bool} {w : World} (h : b = c) : BoolQ b w (.returned (.bool c)) w := by subst h; exact ⟨0, rfl, rfl⟩

theorem boolQ_more {b c : Bool} {w : World} {n m : Nat} (h : b = c) : BoolQ b w (.returned (.bool c)) ((w.drewN n).drewN m) := by subst h; exact ⟨n + m, rfl, World.drewN_drewN _ _ _⟩

/-- up to place k the first list is at least the second one -/
def geUpto (xs ys : List Int) (k : Nat) : Prop := ∀ (j : Nat) (x y : Int), j < k → xs[j]? = some x → ys[j]? = some y → y ≤ x

theorem geUpto_succ {xs ys : List Int} {k : Nat} {x y : Int} (h : geUpto xs ys k) (hx : xs[k]? = some x) (hy : ys[k]? = some y) (hle : y ≤ x) : geUpto xs ys (k + 1) := by
  intro j u v hj hu hv
  rcases Nat.lt_succ_iff_lt_or_eq.1 hj with h1 | h1
  · exact h j u v h1 hu hv
  · subst h1
    rw [hx] at hu; rw [hy] at hv
    obtain rfl := Option.some.inj hu
    obtain rfl := Option.some.inj hv
    exact hle

theorem better_yes {xs ys : List Int} (h : gok2 xs ys = true) {k : Nat} (hk : xs.length ≤ k) (hg : geUpto xs ys k) : betterB xs ys = true := by
  rw [betterB_iff]
  refine ⟨h, fun j x y hx hy => hg j x y ?_ hx hy⟩
  rcases Nat.lt_or_ge j xs.length with h1 | h1
  · omega
  · rw [List.getElem?_eq_none h1] at hx; cases hx

theorem better_no {xs ys : List Int} {k : Nat} {x y : Int} (hx : xs[k]? = some x) (hy : ys[k]? = some y) (h : x < y) : betterB xs ys = false := by
  rw [← Bool.not_eq_true, betterB_iff]
  rintro ⟨-, h2⟩
  have := h2 k x y hx hy
  omega

theorem better_none {xs ys : List Int} (h : gok2 xs ys = false) : betterB xs ys = false := by rw [betterB, h]; rfl

set_option maxHeartbeats 1000000 in
theorem implBetterOk_any (w : World) (v u : Value) (xs ys : List Int) (hv : IRd w v xs) (hu : IRd w u ys) :
    Calls Try.prog 36 #[v, u] w (BoolQ (betterB xs ys) w) := by
  obtain ⟨A, c, rfl, hl, hm, -⟩ := id hv
  obtain ⟨A', c', rfl, hl', hm', -⟩ := id hu
  have HV := Lib.hid hv
  have HU := Lib.hid hu
  clear hv hu
  rcases Bool.eq_false_or_eq_true (gok2 xs ys) with h | h
  · have H := Lib.hid h
    have HL := Lib.hid ((gok2_iff xs ys).1 h).2.2
    clear h
    go_enter Try.func36, Try.ntmps36
    go_wp2_with fail
    refine (gamblesOk_any _ _ _ _ _ HV.out HU.out).mono ?_
    rintro e w' ⟨rfl, rfl⟩
    rw [H.out]
    go_wp2_with fail
    go_loopw [12] (fun i wr => ∃ k n : Nat, i = .int .i64 k ∧ k ≤ xs.length ∧ Hid (geUpto xs ys k) ∧ wr = w.drewN n) (fun i _ => xs.length - (intOf i).toNat)
    case atStart => exact ⟨0, 0, rfl, Nat.zero_le _, Lib.hid (fun j _ _ hj => absurd hj (Nat.not_lt_zero _)), rfl⟩
    case round =>
      obtain ⟨k, n, rfl, hk, HA, rfl⟩ := hrel
      by_cases hlt : k < xs.length
      · obtain ⟨b, off, x, rfl, -, hx, hcx⟩ := HV.out.at_ hlt
        obtain ⟨b', off', y, rfl, -, hy, hcy⟩ := HU.out.at_ (k := k) (by have := HL.out; omega)
        have hlt' : k < ys.length := by have := HL.out; omega
        have HX := Lib.hid hx
        have HY := Lib.hid hy
        clear hx hy
        by_cases hxy : x < y
        · go_wp2_with fail
          go_quiet (fail)
          go_wp2_with fail
          go_ret
          exact boolQ_more (better_no HX.out HY.out hxy)
        · have hxy' : y ≤ x := by omega
          go_wp2_with fail
          go_quiet (fail)
          go_wp2_with fail
          go_roundw
          case rel => exact ⟨k + 1, _, by go_num, by omega, Lib.hid (geUpto_succ HA.out HX.out HY.out hxy'), rfl⟩
          case measure => simp [intOf]; omega
      · go_wp2_with fail
        go_ret
        exact boolQ_ret (better_yes H.out (by omega) HA.out)
  · have H := Lib.hid h
    clear h
    go_enter Try.func36, Try.ntmps36
    go_wp2_with fail
    refine (gamblesOk_any _ _ _ _ _ HV.out HU.out).mono ?_
    rintro e w' ⟨rfl, rfl⟩
    rw [H.out]
    go_wp2_with fail
    go_ret
    exact boolQ_same (better_none H.out)

theorem len_ne {xs ys : List Int} {t : Bool} (h : decide (xs.length = ys.length) = t) : ((xs.length : Int) != (ys.length : Int)) = !t := by
  subst h
  rw [Bool.eq_iff_iff]
  simp only [bne_iff_ne, Bool.not_eq_true', decide_eq_false_iff_not]
  omega

set_option maxHeartbeats 1000000 in
theorem specBetterOk_any (w : World) (v u : Value) (xs ys : List Int) (hv : IRd w v xs) (hu : IRd w u ys) :
    Calls Try.prog 37 #[v, u] w (BoolQ (betterB xs ys) w) := by
  obtain ⟨A, c, rfl, hl, hm, -⟩ := id hv
  obtain ⟨A', c', rfl, hl', hm', -⟩ := id hu
  have HV := Lib.hid hv
  have HU := Lib.hid hu
  clear hv hu
  rcases Bool.eq_false_or_eq_true (gokB xs) with h1 | h1
  · rcases Bool.eq_false_or_eq_true (gokB ys) with h2 | h2
    · rcases Bool.eq_false_or_eq_true (decide (xs.length = ys.length)) with h3 | h3
      · have H : Hid (gok2 xs ys = true) := Lib.hid (by rw [gok2_of h1 h2 h3]; rfl)
        have HL := Lib.hid ((gok2_iff xs ys).1 H.out).2.2
        have hne := len_ne h3
        clear h3
        go_enter Try.func37, Try.ntmps37
        go_wp2_with fail
        refine (specGambleOk_any _ _ _ HV.out).mono ?_
        rintro e w' ⟨rfl, rfl⟩
        go_wp2_with fail
        refine (specGambleOk_any _ _ _ HU.out).mono ?_
        rintro e w' ⟨rfl, rfl⟩
        go_wp2_with fail
        clear h1 h2 hne
        go_loopw [5] (fun i wr => ∃ k n : Nat, i = .int .i64 k ∧ k ≤ xs.length ∧ Hid (geUpto xs ys k) ∧ wr = w.drewN n) (fun i _ => xs.length - (intOf i).toNat)
        case atStart => exact ⟨0, 0, rfl, Nat.zero_le _, Lib.hid (fun j _ _ hj => absurd hj (Nat.not_lt_zero _)), rfl⟩
        case round =>
          obtain ⟨k, n, rfl, hk, HA, rfl⟩ := hrel
          by_cases hlt : k < xs.length
          · obtain ⟨b, off, x, rfl, -, hx, hcx⟩ := HV.out.at_ hlt
            obtain ⟨b', off', y, rfl, -, hy, hcy⟩ := HU.out.at_ (k := k) (by have := HL.out; omega)
            have hlt' : k < ys.length := by have := HL.out; omega
            have HX := Lib.hid hx
            have HY := Lib.hid hy
            clear hx hy
            by_cases hxy : x < y
            · go_wp2_with fail
              go_quiet (fail)
              go_wp2_with fail
              go_ret
              exact boolQ_more (better_no HX.out HY.out hxy)
            · have hxy' : y ≤ x := by omega
              go_wp2_with fail
              go_quiet (fail)
              go_wp2_with fail
              go_roundw
              case rel => exact ⟨k + 1, _, by go_num, by omega, Lib.hid (geUpto_succ HA.out HX.out HY.out hxy'), rfl⟩
              case measure => simp [intOf]; omega
          · go_wp2_with fail
            go_ret
            exact boolQ_ret (better_yes H.out (by omega) HA.out)
      · have H : Hid (gok2 xs ys = false) := Lib.hid (by rw [gok2_of h1 h2 h3]; rfl)
        have hne := len_ne h3
        clear h3
        go_enter Try.func37, Try.ntmps37
        go_wp2_with fail
        refine (specGambleOk_any _ _ _ HV.out).mono ?_
        rintro e w' ⟨rfl, rfl⟩
        go_wp2_with fail
        refine (specGambleOk_any _ _ _ HU.out).mono ?_
        rintro e w' ⟨rfl, rfl⟩
        go_wp2_with fail
        go_ret
        exact boolQ_same (better_none H.out)
    · have H : Hid (gok2 xs ys = false) := Lib.hid (by rw [gok2_of h1 h2 rfl]; rfl)
      go_enter Try.func37, Try.ntmps37
      go_wp2_with fail
      refine (specGambleOk_any _ _ _ HV.out).mono ?_
      rintro e w' ⟨rfl, rfl⟩
      go_wp2_with fail
      refine (specGambleOk_any _ _ _ HU.out).mono ?_
      rintro e w' ⟨rfl, rfl⟩
      go_wp2_with fail
      go_ret
      exact boolQ_same (better_none H.out)
  · have H : Hid (gok2 xs ys = false) := Lib.hid (by rw [gok2_of h1 rfl rfl]; rfl)
    go_enter Try.func37, Try.ntmps37
    go_wp2_with fail
    refine (specGambleOk_any _ _ _ HV.out).mono ?_
    rintro e w' ⟨rfl, rfl⟩
    go_wp2_with fail
    go_ret
    exact boolQ_same (better_none H.out)

end Go.Proofs.Ytpkecmcgpiimkaa
