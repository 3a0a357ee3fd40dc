/- Contracts of the functions on measures: spec. Conditions: stated at each. Contracts of the functions on measures: spec: BringsBy, l4Fits, FitsOk. Conditions: stated at each. -/
import Derived.Test.YtodmgcbcacblbaaMw
import Derived.Test.YtodmgcbcacblbaaQd
import Derived.Deep.RegionHeld3
import Derived.Handy
import Derived.Test.YtodmgcbcacblbaaGf
namespace Go.Proofs.Ytodmgcbcacblbaa
open Go.RowKit
set_option linter.unusedVariables false

theorem inB_no {xs : List Int} {k : Nat} {x : Int} (hx : xs[k]? = some x) (h : inB x 0 36 = false) : meaB xs = false := by
  rw [← Bool.not_eq_true, meaB_iff]
  intro h2
  have := (inB_iff x 0 36).2 (h2.1 x (List.mem_of_getElem? hx))
  rw [h] at this; cases this

theorem allm_take {xs : List Int} {k : Nat} {x : Int} (hx : xs[k]? = some x) (h : inB x 0 36 = true) (ih : ∀ y ∈ xs.take k, 0 ≤ y ∧ y ≤ 36) : ∀ y ∈ xs.take (k + 1), 0 ≤ y ∧ y ≤ 36 := by
  rw [List.take_add_one, hx]
  intro y hy
  rcases List.mem_append.1 hy with h1 | h1
  · exact ih y h1
  · simp at h1; subst h1; exact (inB_iff _ _ _).1 h

theorem sum_le {xs : List Int} (h : ∀ y ∈ xs, 0 ≤ y ∧ y ≤ 36) : 0 ≤ xs.sum ∧ xs.sum ≤ 36 * (xs.length : Int) := by
  induction xs with
  | nil => simp
  | cons x xs ih =>
    have h1 := ih (fun y hy => h y (by simp [hy]))
    have h2 := h x (by simp)
    simp only [List.sum_cons, List.length_cons]
    omega

theorem sum_take {xs : List Int} {k : Nat} {x : Int} (hx : xs[k]? = some x) : (xs.take (k + 1)).sum = (xs.take k).sum + x := by
  rw [List.take_add_one, hx]
  simp

/-- the sum so far, as long as there are no more than four -/
def SumIs (xs : List Int) (k : Nat) (n : Int) : Prop := (∀ y ∈ xs.take k, 0 ≤ y ∧ y ≤ 36) ∧ (k ≤ 4 → n = (xs.take k).sum)

theorem SumIs.step {xs : List Int} {k : Nat} {n x : Int} (h : SumIs xs k n) (hx : xs[k]? = some x) (hi : inB x 0 36 = true) : SumIs xs (k + 1) (IntKind.i64.wrap (n + x)) ∧ SumIs xs (k + 1) (wrap64 (n + x)) := by
  have h2 := (inB_iff _ _ _).1 hi
  have key : k + 1 ≤ 4 → n + x = (xs.take (k + 1)).sum ∧ 0 ≤ n + x ∧ n + x ≤ 144 := by
    intro h4
    have hn := h.2 (by omega)
    have hb := sum_le h.1
    have hl : (xs.take k).length ≤ 3 := by simp; omega
    rw [sum_take hx]
    omega
  refine ⟨⟨allm_take hx hi h.1, fun h4 => ?_⟩, ⟨allm_take hx hi h.1, fun h4 => ?_⟩⟩
  · obtain ⟨k1, k2, k3⟩ := key h4
    rw [IntWalk.i64_in _ (by omega)]; exact k1
  · obtain ⟨k1, k2, k3⟩ := key h4
    rw [IntWalk.wrap64_in _ (by omega)]; exact k1

theorem SumIs.mea {xs : List Int} {n : Int} (h : SumIs xs xs.length n) : meaB xs = (inB (xs.length : Int) 1 4 && decide (n = 36)) := by
  have h1 := h.1
  rw [List.take_length] at h1
  apply bool_eq
  rw [meaB_iff, Bool.and_eq_true, inB_iff, decide_eq_true_eq]
  constructor
  · rintro ⟨-, a, b, c⟩
    refine ⟨by omega, ?_⟩
    rw [h.2 b, List.take_length]; exact c
  · rintro ⟨⟨a, b⟩, c⟩
    have h4 : xs.length ≤ 4 := by omega
    have := h.2 h4
    rw [List.take_length] at this
    exact ⟨h1, by omega, h4, by omega⟩

set_option maxHeartbeats 1000000 in
theorem specMeasureOk_any (w : World) (v : Value) (xs : List Int) (hv : IRd w v xs) :
    Calls Try.prog 68 #[v] w fun r w' => r = .returned (.bool (meaB xs)) ∧ w = w' := by
  obtain ⟨A, c, rfl, hl, hm, -⟩ := id hv
  have HV := Lib.hid hv
  clear hv
  go_enter Try.func68, Try.ntmps68
  go_wp2_with fail
  go_loop [3, 4] (fun t i => ∃ (k : Nat) (n : Int), i = .int .i64 (k : Int) ∧ k ≤ xs.length ∧ t = .int .i64 n ∧ Hid (SumIs xs k n)) (fun _ i => xs.length - (intOf i).toNat)
  case atStart => exact ⟨0, 0, rfl, Nat.zero_le _, rfl, Lib.hid ⟨by simp, fun _ => by simp⟩⟩
  case round =>
    obtain ⟨k, n, rfl, hk, rfl, HS⟩ := hrel
    by_cases hlt : k < xs.length
    · obtain ⟨b, off, x, rfl, -, hx, hcx⟩ := HV.out.at_ hlt
      rcases Bool.eq_false_or_eq_true (inB x 0 36) with hs | hs
      · have HN := Lib.hid (HS.out.step hx hs)
        clear hx
        go_wp2_with fail
        refine (l1In_any x _ _ _).mono ?_
        rintro r w' ⟨rfl, rfl⟩
        rw [hs]
        clear hs
        go_wp2_with fail
        go_round
        case rel => exact ⟨k + 1, _, by go_num, by omega, rfl, by first | exact Lib.hid HN.out.1 | exact Lib.hid HN.out.2⟩
        case measure => simp [intOf]; omega
      · have HN := Lib.hid (inB_no hx hs)
        clear hx
        go_wp2_with fail
        refine (l1In_any x _ _ _).mono ?_
        rintro r w' ⟨rfl, rfl⟩
        rw [hs]
        go_wp2_with fail
        go_ret
        exact ⟨ret_bool HN.out.symm, rfl⟩
    · obtain rfl : k = xs.length := by omega
      have HM := Lib.hid HS.out.mea
      obtain ⟨t, ht⟩ : ∃ t, inB (xs.length : Int) 1 4 = t := ⟨_, rfl⟩
      go_wp2_with fail
      refine (l1In_any _ _ _ _).mono ?_
      rintro r w' ⟨rfl, rfl⟩
      rw [ht]
      cases t
      · go_wp2_with fail
        go_ret
        exact ⟨ret_bool (by rw [HM.out, ht]; rfl), rfl⟩
      · go_wp2_with fail
        go_ret
        exact ⟨ret_bool (by rw [HM.out, ht, Bool.true_and]; rfl), rfl⟩

/-- grains, and not many worlds -/
def Grs (m : List Int) : Prop := (∀ x ∈ m, 0 ≤ x ∧ x ≤ 36) ∧ m.length ≤ 4

theorem grs_of {m : List Int} (h : meaB m = true) : Grs m := ⟨((meaB_iff m).1 h).1, ((meaB_iff m).1 h).2.2.1⟩

theorem grs_on {m : List Int} (h : Grs m) (e : Int) (k : Nat) : 0 ≤ onI (m.take k) e ∧ onI (m.take k) e ≤ 144 := by
  have h1 := onI_bound (m := m.take k) (fun x hx => (h.1 x (List.mem_of_mem_take hx)).1) e
  have h2 := sum_le (xs := m.take k) (fun y hy => h.1 y (List.mem_of_mem_take hy))
  have h3 : (m.take k).length ≤ 4 := by simp; have := h.2; omega
  omega

def IntPost (n : Int) (w : World) (e : Ending) (w' : World) : Prop := e = .returned (.int .i64 n) ∧ Below w.heap.size w w'

def BoolPost (b : Bool) (w : World) (e : Ending) (w' : World) : Prop := e = .returned (.bool b) ∧ Below w.heap.size w w'

set_option maxHeartbeats 2000000 in
theorem l4On_any (w : World) (v : Value) (m : List Int) (e : Int) (hv : IRd w v m) (hm : Grs m) (e1 : 0 ≤ e) (e2 : e ≤ 15) :
    Calls Try.prog 91 #[v, .int .i64 e] w (IntPost (onI m e) w) := by
  obtain ⟨A, c, rfl, hl, hmx, -⟩ := id hv
  have HV := Lib.hid hv
  have HM := Lib.hid hm
  have hm4 := hm.2
  clear hv hm
  go_enter Try.func91, Try.ntmps91
  go_wp2_with fail
  go_loopw [5, 6] (fun t i wr => ∃ (k : Nat) (n : Int), i = .int .i64 (k : Int) ∧ k ≤ m.length ∧ t = .int .i64 n ∧ Hid (n = onI (m.take k) e) ∧ Hid (Below w.heap.size w wr)) (fun _ i _ => m.length - (intOf i).toNat)
  case atStart => exact ⟨0, 0, rfl, Nat.zero_le _, rfl, Lib.hid (by simp [onI]), Lib.hid (Below.refl _ _)⟩
  case round =>
    obtain ⟨k, n, rfl, hk, rfl, HN, HB⟩ := hrel
    by_cases hlt : k < m.length
    · obtain ⟨b, off, x, rfl, -, hx, hcx⟩ := (HV.out.keep (SameAt.of_below HB.out)).at_ hlt
      have HX := Lib.hid (onI_take hx e)
      obtain ⟨x1, x2⟩ := HM.out.1 x (List.mem_of_getElem? hx)
      obtain ⟨n1, n2⟩ : 0 ≤ n ∧ n ≤ 144 := by rw [HN.out]; exact grs_on HM.out e k
      clear hx
      obtain rfl | rfl | rfl | rfl : k = 0 ∨ k = 1 ∨ k = 2 ∨ k = 3 := by omega
      · rw [Nat.add_zero] at hcx
        rcases bitI_01 e 0 with hb | hb
        · have HBit := Lib.hid hb
          have hb' : e % 2 = 0 := by simpa [bitI] using hb
          clear hb
          go_wp2_with fail
          go_region
          all_goals
            go_wp2_with fail
            go_roundw
            case rel => exact ⟨0 + 1, n, by first | rfl | go_num, by omega, rfl, Lib.hid (by rw [HX.out, HBit.out, ← HN.out]; simp), Lib.hid HB.out.drew⟩
            case measure => simp [intOf]; omega
        · have HBit := Lib.hid hb
          have hb' : e % 2 = 1 := by simpa [bitI] using hb
          clear hb
          go_wp2_with fail
          go_region
          all_goals
            go_wp2_with fail
            go_roundw
            case rel => exact ⟨0 + 1, n + x, by first | rfl | go_num, by omega, rfl, Lib.hid (by rw [HX.out, HBit.out, ← HN.out]; simp), Lib.hid HB.out.drew⟩
            case measure => simp [intOf]; omega
      · rcases bitI_01 e 1 with hb | hb
        · have HBit := Lib.hid hb
          have hb' : e / 2 % 2 = 0 := by simpa [bitI] using hb
          clear hb
          go_wp2_with fail
          go_region
          all_goals
            go_wp2_with fail
            go_roundw
            case rel => exact ⟨1 + 1, n, by first | rfl | go_num, by omega, rfl, Lib.hid (by rw [HX.out, HBit.out, ← HN.out]; simp), Lib.hid HB.out.drew⟩
            case measure => simp [intOf]; omega
        · have HBit := Lib.hid hb
          have hb' : e / 2 % 2 = 1 := by simpa [bitI] using hb
          clear hb
          go_wp2_with fail
          go_region
          all_goals
            go_wp2_with fail
            go_roundw
            case rel => exact ⟨1 + 1, n + x, by first | rfl | go_num, by omega, rfl, Lib.hid (by rw [HX.out, HBit.out, ← HN.out]; simp), Lib.hid HB.out.drew⟩
            case measure => simp [intOf]; omega
      · rcases bitI_01 e 2 with hb | hb
        · have HBit := Lib.hid hb
          have hb' : e / 4 % 2 = 0 := by simpa [bitI] using hb
          clear hb
          go_wp2_with fail
          go_region
          all_goals
            go_wp2_with fail
            go_roundw
            case rel => exact ⟨2 + 1, n, by first | rfl | go_num, by omega, rfl, Lib.hid (by rw [HX.out, HBit.out, ← HN.out]; simp), Lib.hid HB.out.drew⟩
            case measure => simp [intOf]; omega
        · have HBit := Lib.hid hb
          have hb' : e / 4 % 2 = 1 := by simpa [bitI] using hb
          clear hb
          go_wp2_with fail
          go_region
          all_goals
            go_wp2_with fail
            go_roundw
            case rel => exact ⟨2 + 1, n + x, by first | rfl | go_num, by omega, rfl, Lib.hid (by rw [HX.out, HBit.out, ← HN.out]; simp), Lib.hid HB.out.drew⟩
            case measure => simp [intOf]; omega
      · rcases bitI_01 e 3 with hb | hb
        · have HBit := Lib.hid hb
          have hb' : e / 8 % 2 = 0 := by simpa [bitI] using hb
          clear hb
          go_wp2_with fail
          go_region
          all_goals
            go_wp2_with fail
            go_roundw
            case rel => exact ⟨3 + 1, n, by first | rfl | go_num, by omega, rfl, Lib.hid (by rw [HX.out, HBit.out, ← HN.out]; simp), Lib.hid HB.out.drew⟩
            case measure => simp [intOf]; omega
        · have HBit := Lib.hid hb
          have hb' : e / 8 % 2 = 1 := by simpa [bitI] using hb
          clear hb
          go_wp2_with fail
          go_region
          all_goals
            go_wp2_with fail
            go_roundw
            case rel => exact ⟨3 + 1, n + x, by first | rfl | go_num, by omega, rfl, Lib.hid (by rw [HX.out, HBit.out, ← HN.out]; simp), Lib.hid HB.out.drew⟩
            case measure => simp [intOf]; omega
    · go_wp2_with fail
      go_ret
      exact ⟨ret_int (by rw [HN.out, List.take_of_length_le (by omega)]), HB.out⟩

/-- the grains on an event; -1 for others -/
def grI (m : List Int) (e : Int) : Int := if meaB m = true ∧ evB (m.length : Int) e = true then onI m e else -1

end Go.Proofs.Ytodmgcbcacblbaa

namespace Go.Proofs.Ytodmgcbcacblbaa
open Go.RowKit
set_option linter.unusedVariables false

def brB (m g : List Int) : Bool := meaB m && (gokB g && decide (m.length = g.length))

def brR (m g : List Int) : Int := if brB m g = true then brI m g else 0

theorem br_take_bound {m g : List Int} (hm : Grs m) (hg : gokB g = true) (h : m.length = g.length) (k : Nat) : -144000 ≤ brI (m.take k) (g.take k) ∧ brI (m.take k) (g.take k) ≤ 144000 := by
  have hg' := (gokB_iff g).1 hg
  have h1 := brI_bounds (m.take k) (g.take k) (by simp [h]) (fun x hx => (hm.1 x (List.mem_of_mem_take hx)).1) (-1000) 1000 (fun y hy => (hg'.2.2 y (List.mem_of_mem_take hy)).1) (fun y hy => (hg'.2.2 y (List.mem_of_mem_take hy)).2)
  have h2 := sum_le (xs := m.take k) (fun y hy => hm.1 y (List.mem_of_mem_take hy))
  have h3 : (m.take k).length ≤ 4 := by simp; have := hm.2; omega
  omega

theorem br_next {m g : List Int} (hm : Grs m) (hg : gokB g = true) (h : m.length = g.length) {k : Nat} {x y : Int} (hx : m[k]? = some x) (hy : g[k]? = some y) :
    brI (m.take k) (g.take k) + x * y = brI (m.take (k + 1)) (g.take (k + 1)) ∧ wrap64 (brI (m.take k) (g.take k) + x * y) = brI (m.take (k + 1)) (g.take (k + 1)) ∧ IntKind.i64.wrap (brI (m.take k) (g.take k) + x * y) = brI (m.take (k + 1)) (g.take (k + 1)) := by
  have h1 := brI_take hx hy h
  have h2 := br_take_bound hm hg h (k + 1)
  rw [h1] at h2 ⊢
  refine ⟨rfl, IntWalk.wrap64_in _ (by omega), IntWalk.i64_in _ (by omega)⟩

theorem mul_36 {x y : Int} (hx : 0 ≤ x ∧ x ≤ 36) (hy : -1000 ≤ y ∧ y ≤ 1000) : -36000 ≤ x * y ∧ x * y ≤ 36000 := by
  have h1 : 0 ≤ x * (1000 - y) := Int.mul_nonneg (by omega) (by omega)
  have h2 : 0 ≤ x * (1000 + y) := Int.mul_nonneg (by omega) (by omega)
  rw [Int.mul_sub] at h1
  rw [Int.mul_add] at h2
  omega

def NumPost (n : Int) (b : Bool) (w : World) (e : Ending) (w' : World) : Prop := e = .returned (.tuple #[.int .i64 n, .bool b]) ∧ Below w.heap.size w w'

theorem numPost_ret {n m : Int} {b c : Bool} {w w' : World} (h : n = m) (k : b = c) (hb : Below w.heap.size w w') : NumPost n b w (.returned (.tuple #[.int .i64 m, .bool c])) w' := by subst h; subst k; exact ⟨rfl, hb⟩

theorem br_no {m g : List Int} (h : brB m g = false) : brR m g = 0 := by rw [brR, h]; rfl

theorem br_yes {m g : List Int} (h : brB m g = true) : brR m g = brI m g := by rw [brR, if_pos h]

/-- quotes within bounds -/
def Qts (qs : List Qt) : Prop := ∀ q ∈ qs, (0 ≤ q.1 ∧ q.1 ≤ 15) ∧ 0 ≤ q.2 ∧ q.2 ≤ 6

theorem qts_of {w : Int} {qs : List Qt} (h : bokB w qs = true) : Qts qs := fun q hq => by
  have h1 := ((bokB_iff _ _).1 h).2.2 q hq
  obtain ⟨-, h2, h3, -, -, h4, h5⟩ := qok_true (w := w) (e := q.1) (p := q.2) h1
  exact ⟨⟨h4, h5⟩, h2, h3⟩

theorem fit_no {m : List Int} {qs : List Qt} {k : Nat} {q : Qt} (hx : qs[k]? = some q) (h : (onI m q.1 * 6 == q.2 * 36) = false) : fitI m qs = false := by
  rw [← Bool.not_eq_true, fitI, List.all_eq_true]
  intro h2
  have := h2 q (List.mem_of_getElem? hx)
  rw [h] at this; cases this

theorem fit_take {m : List Int} {qs : List Qt} {k : Nat} {q : Qt} (hx : qs[k]? = some q) (h : (onI m q.1 * 6 == q.2 * 36) = true) (ih : fitI m (qs.take k) = true) : fitI m (qs.take (k + 1)) = true := by
  rw [fitI, List.all_eq_true] at ih ⊢
  rw [List.take_add_one, hx]
  intro y hy
  rcases List.mem_append.1 hy with h1 | h1
  · exact ih y h1
  · simp at h1; subst h1; exact h

/-- whether a measure fits a book -/
def fitB (m : List Int) (qs : List Qt) : Bool := meaB m && (bokB (m.length : Int) qs && fitI m qs)

end Go.Proofs.Ytodmgcbcacblbaa
