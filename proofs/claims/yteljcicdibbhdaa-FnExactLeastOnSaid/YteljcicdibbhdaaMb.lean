/- Contracts of the functions on measures: spec. Conditions: stated at each. Contracts of the functions on measures: spec: BringsBy, l4Fits, FitsOk. Conditions: stated at each. -/
import Derived.Test.YteljcicdibbhdaaMw
import Derived.Test.YteljcicdibbhdaaQd
import Derived.Deep.RegionHeld3
import Derived.Handy
import Derived.Test.YteljcicdibbhdaaGf
namespace Go.Proofs.Yteljcicdibbhdaa
open Go.RowKit
set_option linter.unusedVariables false

theorem inB_no {xs : List Int} {k : Nat} {x : Int} (hx : xs[k]? = some x) (h : inB x 0 36 = false) : meaB xs = false := by
  rw [← Bool.not_eq_true, meaB_iff]
  intro h2
  have := (inB_iff x 0 36).2 (h2.1 x (List.mem_of_getElem? hx))
  rw [h] at this; cases this

theorem allm_take {xs : List Int} {k : Nat} {x : Int} (hx : xs[k]? = some x) (h : inB x 0 36 = true) (ih : ∀ y ∈ xs.take k, 0 ≤ y ∧ y ≤ 36) : ∀ y ∈ xs.take (k + 1), 0 ≤ y ∧ y ≤ 36 := by
  rw [List.take_add_one, hx]
  intro y hy
  rcases List.mem_append.1 hy with h1 | h1
  · exact ih y h1
  · simp at h1; subst h1; exact (inB_iff _ _ _).1 h

theorem sum_le {xs : List Int} (h : ∀ y ∈ xs, 0 ≤ y ∧ y ≤ 36) : 0 ≤ xs.sum ∧ xs.sum ≤ 36 * (xs.length : Int) := by
  induction xs with
  | nil => simp
  | cons x xs ih =>
    have h1 := ih (fun y hy => h y (by simp [hy]))
    have h2 := h x (by simp)
    simp only [List.sum_cons, List.length_cons]
    omega

theorem sum_take {xs : List Int} {k : Nat} {x : Int} (hx : xs[k]? = some x) : (xs.take (k + 1)).sum = (xs.take k).sum + x := by
  rw [List.take_add_one, hx]
  simp

/-- the sum so far, as long as there are no more than four -/
def SumIs (xs : List Int) (k : Nat) (n : Int) : Prop := (∀ y ∈ xs.take k, 0 ≤ y ∧ y ≤ 36) ∧ (k ≤ 4 → n = (xs.take k).sum)

theorem SumIs.step {xs : List Int} {k : Nat} {n x : Int} (h : SumIs xs k n) (hx : xs[k]? = some x) (hi : inB x 0 36 = true) : SumIs xs (k + 1) (IntKind.i64.wrap (n + x)) ∧ SumIs xs (k + 1) (wrap64 (n + x)) := by
  have h2 := (inB_iff _ _ _).1 hi
  have key : k + 1 ≤ 4 → n + x = (xs.take (k + 1)).sum ∧ 0 ≤ n + x ∧ n + x ≤ 144 := by
    intro h4
    have hn := h.2 (by omega)
    have hb := sum_le h.1
    have hl : (xs.take k).length ≤ 3 := by simp; omega
    rw [sum_take hx]
    omega
  refine ⟨⟨allm_take hx hi h.1, fun h4 => ?_⟩, ⟨allm_take hx hi h.1, fun h4 => ?_⟩⟩
  · obtain ⟨k1, k2, k3⟩ := key h4
    rw [IntWalk.i64_in _ (by omega)]; exact k1
  · obtain ⟨k1, k2, k3⟩ := key h4
    rw [IntWalk.wrap64_in _ (by omega)]; exact k1

theorem SumIs.mea {xs : List Int} {n : Int} (h : SumIs xs xs.length n) : meaB xs = (inB (xs.length : Int) 1 4 && decide (n = 36)) := by
  have h1 := h.1
  rw [List.take_length] at h1
  apply bool_eq
  rw [meaB_iff, Bool.and_eq_true, inB_iff, decide_eq_true_eq]
  constructor
  · rintro ⟨-, a, b, c⟩
    refine ⟨by omega, ?_⟩
    rw [h.2 b, List.take_length]; exact c
  · rintro ⟨⟨a, b⟩, c⟩
    have h4 : xs.length ≤ 4 := by omega
    have := h.2 h4
    rw [List.take_length] at this
    exact ⟨h1, by omega, h4, by omega⟩

set_option maxHeartbeats 1000000 in
theorem specMeasureOk_any (w : World) (v : Value) (xs : List Int) (hv : IRd w v xs) :
    Calls Try.prog 101 #[v] w fun r w' => r = .returned (.bool (meaB xs)) ∧ w = w' := by
  obtain ⟨A, c, rfl, hl, hm, -⟩ := id hv
  have HV := Lib.hid hv
  clear hv
  go_enter Try.func101, Try.ntmps101
  go_wp2_with fail
  go_loop [3, 4] (fun t i => ∃ (k : Nat) (n : Int), i = .int .i64 (k : Int) ∧ k ≤ xs.length ∧ t = .int .i64 n ∧ Hid (SumIs xs k n)) (fun _ i => xs.length - (intOf i).toNat)
  case atStart => exact ⟨0, 0, rfl, Nat.zero_le _, rfl, Lib.hid ⟨by simp, fun _ => by simp⟩⟩
  case round =>
    obtain ⟨k, n, rfl, hk, rfl, HS⟩ := hrel
    by_cases hlt : k < xs.length
    · obtain ⟨b, off, x, rfl, -, hx, hcx⟩ := HV.out.at_ hlt
      rcases Bool.eq_false_or_eq_true (inB x 0 36) with hs | hs
      · have HN := Lib.hid (HS.out.step hx hs)
        clear hx
        go_wp2_with fail
        refine (l1In_any x _ _ _).mono ?_
        rintro r w' ⟨rfl, rfl⟩
        rw [hs]
        clear hs
        go_wp2_with fail
        go_round
        case rel => exact ⟨k + 1, _, by go_num, by omega, rfl, by first | exact Lib.hid HN.out.1 | exact Lib.hid HN.out.2⟩
        case measure => simp [intOf]; omega
      · have HN := Lib.hid (inB_no hx hs)
        clear hx
        go_wp2_with fail
        refine (l1In_any x _ _ _).mono ?_
        rintro r w' ⟨rfl, rfl⟩
        rw [hs]
        go_wp2_with fail
        go_ret
        exact ⟨ret_bool HN.out.symm, rfl⟩
    · obtain rfl : k = xs.length := by omega
      have HM := Lib.hid HS.out.mea
      obtain ⟨t, ht⟩ : ∃ t, inB (xs.length : Int) 1 4 = t := ⟨_, rfl⟩
      go_wp2_with fail
      refine (l1In_any _ _ _ _).mono ?_
      rintro r w' ⟨rfl, rfl⟩
      rw [ht]
      cases t
      · go_wp2_with fail
        go_ret
        exact ⟨ret_bool (by rw [HM.out, ht]; rfl), rfl⟩
      · go_wp2_with fail
        go_ret
        exact ⟨ret_bool (by rw [HM.out, ht, Bool.true_and]; rfl), rfl⟩

/-- grains, and not many worlds -/
def Grs (m : List Int) : Prop := (∀ x ∈ m, 0 ≤ x ∧ x ≤ 36) ∧ m.length ≤ 4

theorem grs_of {m : List Int} (h : meaB m = true) : Grs m := ⟨((meaB_iff m).1 h).1, ((meaB_iff m).1 h).2.2.1⟩

theorem grs_on {m : List Int} (h : Grs m) (e : Int) (k : Nat) : 0 ≤ onI (m.take k) e ∧ onI (m.take k) e ≤ 144 := by
  have h1 := onI_bound (m := m.take k) (fun x hx => (h.1 x (List.mem_of_mem_take hx)).1) e
  have h2 := sum_le (xs := m.take k) (fun y hy => h.1 y (List.mem_of_mem_take hy))
  have h3 : (m.take k).length ≤ 4 := by simp; have := h.2; omega
  omega

def IntPost (n : Int) (w : World) (e : Ending) (w' : World) : Prop := e = .returned (.int .i64 n) ∧ Below w.heap.size w w'

def BoolPost (b : Bool) (w : World) (e : Ending) (w' : World) : Prop := e = .returned (.bool b) ∧ Below w.heap.size w w'

set_option maxHeartbeats 2000000 in
theorem l4On_any (w : World) (v : Value) (m : List Int) (e : Int) (hv : IRd w v m) (hm : Grs m) (e1 : 0 ≤ e) (e2 : e ≤ 15) :
    Calls Try.prog 61 #[v, .int .i64 e] w (IntPost (onI m e) w) := by
  obtain ⟨A, c, rfl, hl, hmx, -⟩ := id hv
  have HV := Lib.hid hv
  have HM := Lib.hid hm
  have hm4 := hm.2
  clear hv hm
  go_enter Try.func61, Try.ntmps61
  go_wp2_with fail
  go_loopw [5, 6] (fun t i wr => ∃ (k : Nat) (n : Int), i = .int .i64 (k : Int) ∧ k ≤ m.length ∧ t = .int .i64 n ∧ Hid (n = onI (m.take k) e) ∧ Hid (Below w.heap.size w wr)) (fun _ i _ => m.length - (intOf i).toNat)
  case atStart => exact ⟨0, 0, rfl, Nat.zero_le _, rfl, Lib.hid (by simp [onI]), Lib.hid (Below.refl _ _)⟩
  case round =>
    obtain ⟨k, n, rfl, hk, rfl, HN, HB⟩ := hrel
    by_cases hlt : k < m.length
    · obtain ⟨b, off, x, rfl, -, hx, hcx⟩ := (HV.out.keep (SameAt.of_below HB.out)).at_ hlt
      have HX := Lib.hid (onI_take hx e)
      obtain ⟨x1, x2⟩ := HM.out.1 x (List.mem_of_getElem? hx)
      obtain ⟨n1, n2⟩ : 0 ≤ n ∧ n ≤ 144 := by rw [HN.out]; exact grs_on HM.out e k
      clear hx
      obtain rfl | rfl | rfl | rfl : k = 0 ∨ k = 1 ∨ k = 2 ∨ k = 3 := by omega
      · rw [Nat.add_zero] at hcx
        rcases bitI_01 e 0 with hb | hb
        · have HBit := Lib.hid hb
          have hb' : e % 2 = 0 := by simpa [bitI] using hb
          clear hb
          go_wp2_with fail
          go_region
          all_goals
            go_wp2_with fail
            go_roundw
            case rel => exact ⟨0 + 1, n, by first | rfl | go_num, by omega, rfl, Lib.hid (by rw [HX.out, HBit.out, ← HN.out]; simp), Lib.hid HB.out.drew⟩
            case measure => simp [intOf]; omega
        · have HBit := Lib.hid hb
          have hb' : e % 2 = 1 := by simpa [bitI] using hb
          clear hb
          go_wp2_with fail
          go_region
          all_goals
            go_wp2_with fail
            go_roundw
            case rel => exact ⟨0 + 1, n + x, by first | rfl | go_num, by omega, rfl, Lib.hid (by rw [HX.out, HBit.out, ← HN.out]; simp), Lib.hid HB.out.drew⟩
            case measure => simp [intOf]; omega
      · rcases bitI_01 e 1 with hb | hb
        · have HBit := Lib.hid hb
          have hb' : e / 2 % 2 = 0 := by simpa [bitI] using hb
          clear hb
          go_wp2_with fail
          go_region
          all_goals
            go_wp2_with fail
            go_roundw
            case rel => exact ⟨1 + 1, n, by first | rfl | go_num, by omega, rfl, Lib.hid (by rw [HX.out, HBit.out, ← HN.out]; simp), Lib.hid HB.out.drew⟩
            case measure => simp [intOf]; omega
        · have HBit := Lib.hid hb
          have hb' : e / 2 % 2 = 1 := by simpa [bitI] using hb
          clear hb
          go_wp2_with fail
          go_region
          all_goals
            go_wp2_with fail
            go_roundw
            case rel => exact ⟨1 + 1, n + x, by first | rfl | go_num, by omega, rfl, Lib.hid (by rw [HX.out, HBit.out, ← HN.out]; simp), Lib.hid HB.out.drew⟩
            case measure => simp [intOf]; omega
      · rcases bitI_01 e 2 with hb | hb
        · have HBit := Lib.hid hb
          have hb' : e / 4 % 2 = 0 := by simpa [bitI] using hb
          clear hb
          go_wp2_with fail
          go_region
          all_goals
            go_wp2_with fail
            go_roundw
            case rel => exact ⟨2 + 1, n, by first | rfl | go_num, by omega, rfl, Lib.hid (by rw [HX.out, HBit.out, ← HN.out]; simp), Lib.hid HB.out.drew⟩
            case measure => simp [intOf]; omega
        · have HBit := Lib.hid hb
          have hb' : e / 4 % 2 = 1 := by simpa [bitI] using hb
          clear hb
          go_wp2_with fail
          go_region
          all_goals
            go_wp2_with fail
            go_roundw
            case rel => exact ⟨2 + 1, n + x, by first | rfl | go_num, by omega, rfl, Lib.hid (by rw [HX.out, HBit.out, ← HN.out]; simp), Lib.hid HB.out.drew⟩
            case measure => simp [intOf]; omega
      · rcases bitI_01 e 3 with hb | hb
        · have HBit := Lib.hid hb
          have hb' : e / 8 % 2 = 0 := by simpa [bitI] using hb
          clear hb
          go_wp2_with fail
          go_region
          all_goals
            go_wp2_with fail
            go_roundw
            case rel => exact ⟨3 + 1, n, by first | rfl | go_num, by omega, rfl, Lib.hid (by rw [HX.out, HBit.out, ← HN.out]; simp), Lib.hid HB.out.drew⟩
            case measure => simp [intOf]; omega
        · have HBit := Lib.hid hb
          have hb' : e / 8 % 2 = 1 := by simpa [bitI] using hb
          clear hb
          go_wp2_with fail
          go_region
          all_goals
            go_wp2_with fail
            go_roundw
            case rel => exact ⟨3 + 1, n + x, by first | rfl | go_num, by omega, rfl, Lib.hid (by rw [HX.out, HBit.out, ← HN.out]; simp), Lib.hid HB.out.drew⟩
            case measure => simp [intOf]; omega
    · go_wp2_with fail
      go_ret
      exact ⟨ret_int (by rw [HN.out, List.take_of_length_le (by omega)]), HB.out⟩

/-- the grains on an event; -1 for others -/
def grI (m : List Int) (e : Int) : Int := if meaB m = true ∧ evB (m.length : Int) e = true then onI m e else -1

end Go.Proofs.Yteljcicdibbhdaa

namespace Go.Proofs.Yteljcicdibbhdaa
open Go.RowKit
set_option linter.unusedVariables false

def brB (m g : List Int) : Bool := meaB m && (gokB g && decide (m.length = g.length))

def brR (m g : List Int) : Int := if brB m g = true then brI m g else 0

theorem br_take_bound {m g : List Int} (hm : Grs m) (hg : gokB g = true) (h : m.length = g.length) (k : Nat) : -144000 ≤ brI (m.take k) (g.take k) ∧ brI (m.take k) (g.take k) ≤ 144000 := by
  have hg' := (gokB_iff g).1 hg
  have h1 := brI_bounds (m.take k) (g.take k) (by simp [h]) (fun x hx => (hm.1 x (List.mem_of_mem_take hx)).1) (-1000) 1000 (fun y hy => (hg'.2.2 y (List.mem_of_mem_take hy)).1) (fun y hy => (hg'.2.2 y (List.mem_of_mem_take hy)).2)
  have h2 := sum_le (xs := m.take k) (fun y hy => hm.1 y (List.mem_of_mem_take hy))
  have h3 : (m.take k).length ≤ 4 := by simp; have := hm.2; omega
  omega

theorem br_next {m g : List Int} (hm : Grs m) (hg : gokB g = true) (h : m.length = g.length) {k : Nat} {x y : Int} (hx : m[k]? = some x) (hy : g[k]? = some y) :
    brI (m.take k) (g.take k) + x * y = brI (m.take (k + 1)) (g.take (k + 1)) ∧ wrap64 (brI (m.take k) (g.take k) + x * y) = brI (m.take (k + 1)) (g.take (k + 1)) ∧ IntKind.i64.wrap (brI (m.take k) (g.take k) + x * y) = brI (m.take (k + 1)) (g.take (k + 1)) := by
  have h1 := brI_take hx hy h
  have h2 := br_take_bound hm hg h (k + 1)
  rw [h1] at h2 ⊢
  refine ⟨rfl, IntWalk.wrap64_in _ (by omega), IntWalk.i64_in _ (by omega)⟩

theorem mul_36 {x y : Int} (hx : 0 ≤ x ∧ x ≤ 36) (hy : -1000 ≤ y ∧ y ≤ 1000) : -36000 ≤ x * y ∧ x * y ≤ 36000 := by
  have h1 : 0 ≤ x * (1000 - y) := Int.mul_nonneg (by omega) (by omega)
  have h2 : 0 ≤ x * (1000 + y) := Int.mul_nonneg (by omega) (by omega)
  rw [Int.mul_sub] at h1
  rw [Int.mul_add] at h2
  omega

def NumPost (n : Int) (b : Bool) (w : World) (e : Ending) (w' : World) : Prop := e = .returned (.tuple #[.int .i64 n, .bool b]) ∧ Below w.heap.size w w'

theorem numPost_ret {n m : Int} {b c : Bool} {w w' : World} (h : n = m) (k : b = c) (hb : Below w.heap.size w w') : NumPost n b w (.returned (.tuple #[.int .i64 m, .bool c])) w' := by subst h; subst k; exact ⟨rfl, hb⟩

theorem br_no {m g : List Int} (h : brB m g = false) : brR m g = 0 := by rw [brR, h]; rfl

theorem br_yes {m g : List Int} (h : brB m g = true) : brR m g = brI m g := by rw [brR, if_pos h]

set_option maxHeartbeats 4000000 in
theorem specBringsBy_any (w : World) (v u : Value) (m g : List Int) (hv : IRd w v m) (hu : IRd w u g) :
    Calls Try.prog 78 #[v, u] w (NumPost (brR m g) (brB m g) w) := by
  obtain ⟨A, c, rfl, hl, hmx, -⟩ := id hv
  obtain ⟨A', c', rfl, hl', hmx', -⟩ := id hu
  have HV := Lib.hid hv
  have HU := Lib.hid hu
  clear hv hu
  rcases Bool.eq_false_or_eq_true (meaB m) with h | h
  · rcases Bool.eq_false_or_eq_true (gokB g) with k | k
    · by_cases hlen : m.length = g.length
      · have HG := Lib.hid (grs_of h)
        have HK := Lib.hid k
        have HL := Lib.hid hlen
        have HB : Hid (brB m g = true) := Lib.hid (by rw [brB, h, k, decide_eq_true hlen]; rfl)
        have hs1 : ((m.length : Int) == (g.length : Int)) = true := by simp; omega
        have hs2 : ((m.length : Int) != (g.length : Int)) = false := by simp; omega
        clear hlen
        go_enter Try.func78, Try.ntmps78
        go_wp2_with fail
        refine (specMeasureOk_any _ _ _ HV.out).mono ?_
        rintro r w' ⟨rfl, rfl⟩
        rw [h]
        go_wp2_with fail
        refine (specGambleOk_any _ _ _ HU.out).mono ?_
        rintro r w' ⟨rfl, rfl⟩
        rw [k]
        clear h k
        go_wp2_with fail
        clear hs1 hs2
        go_loopw [6, 7] (fun t i wr => ∃ (k : Nat) (n : Int), i = .int .i64 (k : Int) ∧ k ≤ m.length ∧ t = .int .i64 n ∧ Hid (n = brI (m.take k) (g.take k)) ∧ Hid (Below w.heap.size w wr)) (fun _ i _ => m.length - (intOf i).toNat)
        case atStart => exact ⟨0, 0, rfl, Nat.zero_le _, rfl, Lib.hid (by simp [brI]), Lib.hid (Below.refl _ _)⟩
        case round =>
          obtain ⟨k, n, rfl, hk, rfl, HN, HW⟩ := hrel
          by_cases hlt : k < m.length
          · have hlt2 : k < g.length := by have := HL.out; omega
            obtain ⟨b, off, x, rfl, -, hx, hcx⟩ := (HV.out.keep (SameAt.of_below HW.out)).at_ hlt
            obtain ⟨b', off', y, rfl, -, hy, hcy⟩ := (HU.out.keep (SameAt.of_below HW.out)).at_ hlt2
            have HX := Lib.hid (br_next HG.out HK.out HL.out hx hy)
            obtain ⟨p1, p2⟩ := mul_36 (HG.out.1 x (List.mem_of_getElem? hx)) (gokB_at HK.out hy)
            obtain ⟨n1, n2⟩ : -144000 ≤ n ∧ n ≤ 144000 := by rw [HN.out]; exact br_take_bound HG.out HK.out HL.out k
            have hw1 : IntKind.i64.wrap (x * y) = x * y := IntWalk.i64_in _ (by omega)
            have hw2 : wrap64 (x * y) = x * y := IntWalk.wrap64_in _ (by omega)
            clear hx hy
            go_wp2_with fail
            go_region
            all_goals
              go_wp2_with fail
              go_roundw
              case rel => exact ⟨k + 1, _, by go_num, by omega, rfl, by first | exact Lib.hid (by rw [HN.out]; exact HX.out.1) | exact Lib.hid (by rw [HN.out]; exact HX.out.2.1) | exact Lib.hid (by rw [HN.out]; exact HX.out.2.2), Lib.hid HW.out.drew⟩
              case measure => simp [intOf]; omega
          · go_wp2_with fail
            go_ret2
            have hkm : k = m.length := by omega
            exact numPost_ret (by rw [br_yes HB.out, HN.out, hkm, List.take_length, HL.out, List.take_length]) HB.out HW.out
      · have HB : Hid (brB m g = false) := Lib.hid (by rw [brB, decide_eq_false hlen]; simp)
        have hs1 : ((m.length : Int) == (g.length : Int)) = false := by simp; omega
        have hs2 : ((m.length : Int) != (g.length : Int)) = true := by simp; omega
        clear hlen
        go_enter Try.func78, Try.ntmps78
        go_wp2_with fail
        refine (specMeasureOk_any _ _ _ HV.out).mono ?_
        rintro r w' ⟨rfl, rfl⟩
        rw [h]
        go_wp2_with fail
        refine (specGambleOk_any _ _ _ HU.out).mono ?_
        rintro r w' ⟨rfl, rfl⟩
        rw [k]
        go_wp2_with fail
        go_ret2
        exact numPost_ret (br_no HB.out) HB.out (Below.refl _ _)
    · have HB : Hid (brB m g = false) := Lib.hid (by rw [brB, k]; simp)
      go_enter Try.func78, Try.ntmps78
      go_wp2_with fail
      refine (specMeasureOk_any _ _ _ HV.out).mono ?_
      rintro r w' ⟨rfl, rfl⟩
      rw [h]
      go_wp2_with fail
      refine (specGambleOk_any _ _ _ HU.out).mono ?_
      rintro r w' ⟨rfl, rfl⟩
      rw [k]
      go_wp2_with fail
      go_ret2
      exact numPost_ret (br_no HB.out) HB.out (Below.refl _ _)
  · have HB : Hid (brB m g = false) := Lib.hid (by rw [brB, h]; rfl)
    go_enter Try.func78, Try.ntmps78
    go_wp2_with fail
    refine (specMeasureOk_any _ _ _ HV.out).mono ?_
    rintro r w' ⟨rfl, rfl⟩
    rw [h]
    go_wp2_with fail
    go_ret2
    exact numPost_ret (br_no HB.out) HB.out (Below.refl _ _)

/-- quotes within bounds -/
def Qts (qs : List Qt) : Prop := ∀ q ∈ qs, (0 ≤ q.1 ∧ q.1 ≤ 15) ∧ 0 ≤ q.2 ∧ q.2 ≤ 6

theorem qts_of {w : Int} {qs : List Qt} (h : bokB w qs = true) : Qts qs := fun q hq => by
  have h1 := ((bokB_iff _ _).1 h).2.2 q hq
  obtain ⟨-, h2, h3, -, -, h4, h5⟩ := qok_true (w := w) (e := q.1) (p := q.2) h1
  exact ⟨⟨h4, h5⟩, h2, h3⟩

theorem fit_no {m : List Int} {qs : List Qt} {k : Nat} {q : Qt} (hx : qs[k]? = some q) (h : (onI m q.1 * 6 == q.2 * 36) = false) : fitI m qs = false := by
  rw [← Bool.not_eq_true, fitI, List.all_eq_true]
  intro h2
  have := h2 q (List.mem_of_getElem? hx)
  rw [h] at this; cases this

theorem fit_take {m : List Int} {qs : List Qt} {k : Nat} {q : Qt} (hx : qs[k]? = some q) (h : (onI m q.1 * 6 == q.2 * 36) = true) (ih : fitI m (qs.take k) = true) : fitI m (qs.take (k + 1)) = true := by
  rw [fitI, List.all_eq_true] at ih ⊢
  rw [List.take_add_one, hx]
  intro y hy
  rcases List.mem_append.1 hy with h1 | h1
  · exact ih y h1
  · simp at h1; subst h1; exact h

set_option maxHeartbeats 4000000 in
theorem l4Fits_any (w : World) (v u : Value) (m : List Int) (qs : List Qt) (hv : IRd w v m) (hu : QRd w u qs) (hm : Grs m) (hq : Qts qs) :
    Calls Try.prog 62 #[v, u] w (BoolPost (fitI m qs) w) := by
  obtain ⟨A, c, rfl, hl, hmx⟩ := hu.form
  have HV := Lib.hid hv
  have HU := Lib.hid hu
  have HM := Lib.hid hm
  have HQ := Lib.hid hq
  clear hv hu hm hq
  go_enter Try.func62, Try.ntmps62
  go_wp2_with fail
  go_loopw [5] (fun i wr => ∃ k : Nat, i = .int .i64 (k : Int) ∧ k ≤ qs.length ∧ Hid (fitI m (qs.take k) = true) ∧ Hid (Below w.heap.size w wr)) (fun i _ => qs.length - (intOf i).toNat)
  case atStart => exact ⟨0, rfl, Nat.zero_le _, Lib.hid (by simp [fitI]), Lib.hid (Below.refl _ _)⟩
  case round =>
    obtain ⟨k, rfl, hk, HA, HW⟩ := hrel
    by_cases hlt : k < qs.length
    · have hk0 : (0 : Int) ≤ (k : Int) := by omega
      have hk1 : (k : Int) < (qs.length : Int) := by omega
      obtain ⟨b, off, ⟨e, p⟩, rfl, -, hx, hc0, hc1⟩ := QRd.at_ (HU.out.keep (SameAt.of_below HW.out)) hlt
      obtain ⟨⟨e1, e2⟩, p1, p2⟩ := HQ.out _ (List.mem_of_getElem? hx)
      have e1 : 0 ≤ e := e1
      have e2 : e ≤ 15 := e2
      have p1 : 0 ≤ p := p1
      have p2 : p ≤ 6 := p2
      have HX := Lib.hid hx
      clear hx
      obtain ⟨N, hN⟩ : ∃ N, onI m e = N := ⟨_, rfl⟩
      obtain ⟨n1, n2⟩ : 0 ≤ N ∧ N ≤ 144 := by
        have := grs_on HM.out e m.length
        rw [List.take_length, hN] at this
        exact this
      have HNN := Lib.hid hN
      clear hN
      have HVW := Lib.hid (HV.out.keep (SameAt.of_below HW.out))
      have hne0 : ∀ t : Bool, (N * 6 == p * 36) = t → (N * 6 != p * 36) = !t := fun t ht => by simp [bne, ht]
      have HNE := Lib.hid hne0
      have hw6 : IntKind.i64.wrap (N * 6) = N * 6 := IntWalk.i64_in _ (by omega)
      have hw36 : IntKind.i64.wrap (p * 36) = p * 36 := IntWalk.i64_in _ (by omega)
      clear hne0
      rcases Bool.eq_false_or_eq_true (N * 6 == p * 36) with ht | ht
      · have HT := Lib.hid ht
        have ht2 := HNE.out _ ht
        simp only [Bool.not_true] at ht2
        have ht3 := ht2
        rw [← hw6, ← hw36] at ht3
        go_wp2_with fail
        go_region_held3 (fun w' => w'.cell? ⟨b, off + k * 2, none⟩ = some (.int .i64 e) ∧ w'.cell? ⟨b, off + k * 2 + 1, none⟩ = some (.int .i64 p)) (first | exact QRd.cell (HU.out.keep (SameAt.of_below HW3.out)) HX.out | exact QRd.cell (w := wr) (HU.out.keep (SameAt.of_below HW.out)) HX.out) (first
          | (go_at_call 61; refine (l4On_any wr.drew _ m e HVW.out HM.out e1 e2).mono ?_; rintro r w3 ⟨rfl, b3⟩; rw [HNN.out]; have HW3 := Lib.hid (below_step HW.out.drew b3 HW.out.drew.size); clear b3))
        all_goals
          go_wp2_with fail
          go_roundw
          case rel => exact ⟨k + 1, by go_num, by omega, Lib.hid (fit_take HX.out (by show (onI m e * 6 == p * 36) = true; rw [HNN.out]; exact HT.out) HA.out), HW3⟩
          case measure => simp [intOf]; omega
      · have HT := Lib.hid ht
        have ht2 := HNE.out _ ht
        simp only [Bool.not_false] at ht2
        have ht3 := ht2
        rw [← hw6, ← hw36] at ht3
        go_wp2_with fail
        go_region_held3 (fun w' => w'.cell? ⟨b, off + k * 2, none⟩ = some (.int .i64 e) ∧ w'.cell? ⟨b, off + k * 2 + 1, none⟩ = some (.int .i64 p)) (first | exact QRd.cell (HU.out.keep (SameAt.of_below HW3.out)) HX.out | exact QRd.cell (w := wr) (HU.out.keep (SameAt.of_below HW.out)) HX.out) (first
          | (go_at_call 61; refine (l4On_any wr.drew _ m e HVW.out HM.out e1 e2).mono ?_; rintro r w3 ⟨rfl, b3⟩; rw [HNN.out]; have HW3 := Lib.hid (below_step HW.out.drew b3 HW.out.drew.size); clear b3))
        all_goals
          go_wp2_with fail
          go_ret
          exact ⟨ret_bool (fit_no HX.out (by show (onI m e * 6 == p * 36) = false; rw [HNN.out]; exact HT.out)).symm, HW3.out⟩
    · go_wp2_with fail
      go_ret
      exact ⟨ret_bool (by have := HA.out; rw [List.take_of_length_le (by omega)] at this; exact this.symm), HW.out⟩

/-- whether a measure fits a book -/
def fitB (m : List Int) (qs : List Qt) : Bool := meaB m && (bokB (m.length : Int) qs && fitI m qs)

end Go.Proofs.Yteljcicdibbhdaa
