/- Contracts on the way to PartsOf: the search, the insertion. Conditions: stated at each. -/
import Derived.Test.YtnleljofoljdkaaDoorParts1
namespace Go.Proofs.YtnleljofoljdkaaDoor
open Go.RowKit
set_option linter.unusedVariables false

def cmpI (x y : Int) : Int := if x < y then -1 else if y < x then 1 else 0

set_option maxHeartbeats 1000000 in
theorem compare_any (x y : Int) (w : World) : Calls Tryd.prog 30 #[.int .i64 x, .int .i64 y] w fun r w' => r = .returned (.int .i64 (cmpI x y)) ∧ w = w' := by
  by_cases h1 : x < y
  · go_enter Tryd.func30, Tryd.ntmps30
    go_wp2
    go_ret
    exact ⟨ret_int (by rw [cmpI, if_pos h1]), rfl⟩
  · by_cases h2 : y < x
    · go_enter Tryd.func30, Tryd.ntmps30
      go_wp2
      go_ret
      exact ⟨ret_int (by rw [cmpI, if_neg (by omega), if_pos h2]), rfl⟩
    · go_enter Tryd.func30, Tryd.ntmps30
      go_wp2
      go_ret
      exact ⟨ret_int (by rw [cmpI, if_neg (by omega), if_neg (by omega)]), rfl⟩

theorem cmp_eq (a b : Nat) : (cmpI (a : Int) (b : Int) == 0) = (a == b) := by
  rw [Bool.eq_iff_iff]
  simp only [beq_iff_eq, cmpI]
  split
  · constructor <;> intro h <;> omega
  · split <;> constructor <;> intro h <;> omega

theorem ret_pair {a : Int} {b c : Bool} (h : b = c) : Ending.returned (.tuple #[.int .i64 a, .bool b]) = .returned (.tuple #[.int .i64 a, .bool c]) := by rw [h]

/-- the function value leastWorld -/
def lwF : Value := .func (.func 24) #[] #[]

set_option maxHeartbeats 1000000 in
theorem closure_any (p t R : Nat) (h1 : 1 ≤ p) (h2 : p ≤ 15) (w : World) (ht : Tab w) (hb : w.cell? ⟨R, 0, none⟩ = some lwF) :
    Calls Tryd.prog 29 #[.int .i64 (p : Int), .int .i64 (t : Int), .pointer (some ⟨R, 0, none⟩)] w
      fun r w' => r = .returned (.int .i64 (cmpI (lwN p : Int) (t : Int))) ∧ w = w' := by
  unfold lwF at hb
  go_enter Tryd.func29, Tryd.ntmps29
  go_wp2_with (first
    | (go_at_call 24; refine (leastWorld_any p h1 h2 _ ht).mono ?_; rintro e w' ⟨rfl, rfl⟩)
    | (go_at_call 30; refine (compare_any _ _ _).mono ?_; rintro e w' ⟨rfl, rfl⟩))
  go_ret
  exact ⟨rfl, rfl⟩

def natI (l : List Nat) : List Int := l.map Int.ofNat

theorem natI_len (l : List Nat) : (natI l).length = l.length := by simp [natI]

theorem natI_at {l : List Nat} {k : Nat} {x : Int} (h : (natI l)[k]? = some x) : ∃ y : Nat, l[k]? = some y ∧ x = (y : Int) := by
  unfold natI at h
  rw [List.getElem?_map, Option.map_eq_some_iff] at h
  obtain ⟨y, h1, h2⟩ := h
  exact ⟨y, h1, h2.symm⟩

/-- all are parts of at most four worlds -/
def Parts (l : List Nat) : Prop := l.length ≤ 4 ∧ ∀ x ∈ l, 1 ≤ x ∧ x ≤ 15

/-- place q is where a part of the least world t stands, or would stand -/
def Place (l : List Nat) (t q : Nat) : Prop := q ≤ l.length ∧ (∀ i y, l[i]? = some y → i < q → lwN y < t) ∧ (∀ i y, l[i]? = some y → q ≤ i → t ≤ lwN y)

def foundB (l : List Nat) (t q : Nat) : Bool := match l[q]? with | some y => lwN y == t | none => false

def clF (R : Nat) : Value := .func (.func 29) #[] #[.pointer (some ⟨R, 0, none⟩)]

def BsPost (l : List Nat) (t q : Nat) (w : World) (e : Ending) (w' : World) : Prop := e = .returned (.tuple #[.int .i64 (q : Int), .bool (foundB l t q)]) ∧ w = w'

set_option maxHeartbeats 2000000 in
theorem bs_any (w : World) (v : Value) (l : List Nat) (t q R : Nat) (hv : IRd w v (natI l)) (hl : Parts l) (ht : Tab w) (hb : w.cell? ⟨R, 0, none⟩ = some lwF) (hq : Place l t q) :
    Calls Tryd.prog 28 #[v, .int .i64 (t : Int), clF R] w (BsPost l t q w) := by
  obtain ⟨A, c, rfl, hlc, hm, hc⟩ := id hv
  rw [natI_len] at hv hlc ⊢
  clear hc
  have HV := Lib.hid hv
  have HL := Lib.hid hl
  have HQ := Lib.hid hq
  have hl4 := hl.1
  have hql := hq.1
  have HB := Lib.hid hb
  have HT := Lib.hid ht
  clear hv hl hq hb ht
  unfold clF
  go_enter Tryd.func28, Tryd.ntmps28
  go_wp2_with fail
  go_loop [9, 10] (fun si sj => ∃ i j : Nat, si = .int .i64 i ∧ sj = .int .i64 j ∧ i ≤ q ∧ q ≤ j ∧ j ≤ l.length) (fun si sj => (intOf sj).toNat - (intOf si).toNat)
  case atStart => exact ⟨0, l.length, rfl, rfl, Nat.zero_le _, hql, Nat.le_refl _⟩
  case round =>
    obtain ⟨i, j, rfl, rfl, hi, hj, hjl⟩ := hrel
    by_cases hij : i < j
    · have hmid : (i + j) / 2 < l.length := by omega
      obtain ⟨b, off, x, rfl, -, hx, hcx⟩ := HV.out.at_ hmid
      obtain ⟨y, hy, rfl⟩ := natI_at hx
      obtain ⟨hy1, hy2⟩ := HL.out.2 y (List.mem_of_getElem? hy)
      have HY := Lib.hid hy
      clear hx hy
      have m0 : (0 : Int) ≤ ((i : Int) + (j : Int)) / 2 := by omega
      have m1 : ((i : Int) + (j : Int)) / 2 < (l.length : Int) := by omega
      by_cases hlt : lwN y < t
      · have hmq : (i + j) / 2 < q := by
          rcases Nat.lt_or_ge ((i + j) / 2) q with h | h
          · exact h
          · have := HQ.out.2.2 _ y HY.out h; omega
        have hcm : cmpI (lwN y : Int) (t : Int) = -1 := by rw [cmpI, if_pos (by omega)]
        go_wp2_with (go_at_call 29; refine (closure_any y t R hy1 hy2 _ HT.out HB.out).mono ?_; rintro e w' ⟨rfl, rfl⟩)
        go_round
        case rel => exact ⟨(i + j) / 2 + 1, j, by go_num, rfl, by omega, hj, hjl⟩
        case measure => simp [intOf]; omega
      · have hmq : q ≤ (i + j) / 2 := by
          rcases Nat.lt_or_ge ((i + j) / 2) q with h | h
          · have := HQ.out.2.1 _ y HY.out h; omega
          · exact h
        have hcm : 0 ≤ cmpI (lwN y : Int) (t : Int) := by rw [cmpI, if_neg (by omega)]; split <;> omega
        go_wp2_with (go_at_call 29; refine (closure_any y t R hy1 hy2 _ HT.out HB.out).mono ?_; rintro e w' ⟨rfl, rfl⟩)
        go_round
        case rel => exact ⟨i, (i + j) / 2, rfl, by go_num, hi, hmq, by omega⟩
        case measure => simp [intOf]; omega
    · have hiq : i = q := by omega
      have hjq : j = q := by omega
      clear hi hj hij
      subst hiq
      subst hjq
      by_cases hlt : j < l.length
      · obtain ⟨b, off, x, rfl, -, hx, hcx⟩ := HV.out.at_ hlt
        obtain ⟨y, hy, rfl⟩ := natI_at hx
        obtain ⟨hy1, hy2⟩ := HL.out.2 y (List.mem_of_getElem? hy)
        have hfd : foundB l t j = (lwN y == t) := by unfold foundB; rw [hy]
        have HF := Lib.hid hfd
        clear hx hy hfd
        have hlt' : (j : Int) < (l.length : Int) := by omega
        go_wp2_with (go_at_call 29; refine (closure_any y t R hy1 hy2 _ HT.out HB.out).mono ?_; rintro e w' ⟨rfl, rfl⟩)
        go_ret2
        exact ⟨ret_pair ((cmp_eq _ _).trans HF.out.symm), rfl⟩
      · have hge : (l.length : Int) ≤ (j : Int) := by omega
        have hfd : foundB l t j = false := by unfold foundB; rw [List.getElem?_eq_none (by omega)]
        have HF := Lib.hid hfd
        clear hfd
        go_wp2_with fail
        go_ret2
        exact ⟨ret_pair HF.out.symm, rfl⟩

end Go.Proofs.YtnleljofoljdkaaDoor
