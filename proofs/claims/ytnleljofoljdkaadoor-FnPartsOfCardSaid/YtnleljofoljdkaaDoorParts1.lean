/- Contracts on the way to PartsOf: hasWorld, keyOf, partOf, leastWorld, the closure of insertBy. Conditions: stated at each. -/
import Derived.Test.YtnleljofoljdkaaDoorPmath
import Derived.Test.YtnleljofoljdkaaDoorInts
namespace Go.Proofs.YtnleljofoljdkaaDoor
open Go.RowKit
set_option linter.unusedVariables false

theorem has_tab : ∀ e : Fin 16, ∀ a : Fin 4, (bits BinOp.and IntKind.i64 (((e : Nat) : Int) / 2 ^ (a : Nat)) 1 == 1) = bitB ((e : Nat) : Int) (a : Nat) := by decide +kernel

set_option maxHeartbeats 1000000 in
theorem hasWorld_any (e : Int) (a : Nat) (h0 : 0 ≤ e) (h1 : e ≤ 15) (ha : a < 4) (W : World) :
    Calls Tryd.prog 37 #[.int .i64 e, .int .i64 (a : Int)] W fun r W' => r = .returned (.bool (bitB e a)) ∧ W = W' := by
  obtain ⟨k, rfl⟩ := fin16 h0 h1
  have ht := has_tab k ⟨a, ha⟩
  have H := Lib.hid ht
  clear ht
  obtain rfl | rfl | rfl | rfl : a = 0 ∨ a = 1 ∨ a = 2 ∨ a = 3 := by omega
  all_goals
    go_enter Tryd.func37, Tryd.ntmps37
    go_wp2
    go_ret
    exact ⟨ret_bool (by have := H.out; simpa using this), rfl⟩

theorem or_pow (n k : Nat) (hn : n < 2 ^ k) (hk : k < 60) : bits BinOp.or IntKind.i64 (n : Int) ((2 ^ k : Nat) : Int) = ((n + 2 ^ k : Nat) : Int) := by
  have h60 : 2 ^ k < 2 ^ 60 := Nat.pow_lt_pow_right (by omega) hk
  have h2 : (2 : Nat) ^ 60 = 1152921504606846976 := by decide
  have e1 : (BitVec.ofInt 64 (n : Int)).toNat = n := by
    rw [BitVec.ofInt_natCast, BitVec.toNat_ofNat]; exact Nat.mod_eq_of_lt (by omega)
  have e2 : (BitVec.ofInt 64 ((2 ^ k : Nat) : Int)).toNat = 2 ^ k := by
    rw [BitVec.ofInt_natCast, BitVec.toNat_ofNat]; exact Nat.mod_eq_of_lt (by omega)
  have e3 : n ||| 2 ^ k = n + 2 ^ k := by
    have := Nat.two_pow_add_eq_or_of_lt hn 1
    rw [Nat.mul_one] at this
    rw [Nat.or_comm, ← this, Nat.add_comm]
  show IntKind.i64.wrap ((BitVec.ofInt 64 (n : Int) ||| BitVec.ofInt 64 ((2 ^ k : Nat) : Int)).toNat : Int) = _
  rw [BitVec.toNat_or, e1, e2, e3]
  exact IntWalk.i64_in _ (by omega)

theorem or_pow' (n k : Nat) (hn : n < 2 ^ k) (hk : k < 60) : bits BinOp.or IntKind.i64 (n : Int) (wrap64 (2 ^ k)) = ((n + 2 ^ k : Nat) : Int) := by
  have h60 : 2 ^ k < 2 ^ 60 := Nat.pow_lt_pow_right (by omega) hk
  have h2 : (2 : Nat) ^ 60 = 1152921504606846976 := by decide
  have e : (2 : Int) ^ k = ((2 ^ k : Nat) : Int) := by rw [Int.natCast_pow]; rfl
  rw [e, IntWalk.wrap64_in _ (by omega)]
  exact or_pow n k hn hk

/-- all are events of at most four worlds -/
def Small (xs : List Int) : Prop := xs.length ≤ 8 ∧ ∀ x ∈ xs, 0 ≤ x ∧ x ≤ 15

def ActAt (n : Nat) (w : World) (e : Ending) (w' : World) : Prop := e = .returned (.int .i64 (n : Int)) ∧ w = w'

set_option maxHeartbeats 1000000 in
theorem keyOf_any (w : World) (v : Value) (xs : List Int) (a : Nat) (ha : a < 4) (hv : IRd w v xs) (hs : Small xs) :
    Calls Tryd.prog 32 #[v, .int .i64 (a : Int)] w (ActAt (keyN xs a) w) := by
  obtain ⟨A, c, rfl, hl, hm, hc⟩ := id hv
  clear hc
  have HV := Lib.hid hv
  have HS := Lib.hid hs
  have h8 := hs.1
  clear hv hs
  go_enter Tryd.func32, Tryd.ntmps32
  go_wp2_with fail
  go_loop [5, 10] (fun t i => ∃ k n : Nat, i = .int .i64 k ∧ k ≤ xs.length ∧ t = .int .i64 (n : Int) ∧ Hid (n = keyN (xs.take k) a)) (fun _ i => xs.length - (intOf i).toNat)
  case atStart => exact ⟨0, 0, rfl, Nat.zero_le _, rfl, Lib.hid (by simp [keyN])⟩
  case round =>
    obtain ⟨k, n, rfl, hk, rfl, HN⟩ := hrel
    by_cases hlt : k < xs.length
    · obtain ⟨b, off, x, rfl, -, hx, hcx⟩ := HV.out.at_ hlt
      have hx' : xs.take (k + 1) = xs.take k ++ [x] := by
        rw [List.take_add_one, hx]; rfl
      have hlk : (xs.take k).length = k := by simp; omega
      have hsm := HS.out.2 x (List.mem_of_getElem? hx)
      have hnl : n < 2 ^ k := by
        have h1 := HN.out
        have h2 := keyN_lt (xs.take k) a
        rw [hlk] at h2; omega
      have HX : Hid (keyN (xs.take (k + 1)) a = n + (if bitB x a then 2 ^ k else 0)) := Lib.hid (by rw [hx', keyN_snoc, hlk, ← HN.out])
      have HOR := Lib.hid (or_pow' n k hnl (by omega))
      obtain ⟨hs1, hs2⟩ := hsm
      have hkk : k = 0 ∨ k = 1 ∨ k = 2 ∨ k = 3 ∨ k = 4 ∨ k = 5 ∨ k = 6 ∨ k = 7 := by omega
      clear hx hx' hlk hnl
      rcases Bool.eq_false_or_eq_true (bitB x a) with hbit | hbit
      · clear hkk
        have hk7 : (k : Int) ≤ 7 := by omega
        go_wp2_with (go_at_call 37; refine (hasWorld_any _ _ hs1 hs2 ha _).mono ?_; rintro e w' ⟨rfl, rfl⟩)
        go_round
        case rel => exact ⟨k + 1, _, by go_num, by omega, congrArg (Value.int .i64) HOR.out, Lib.hid (by rw [HX.out, hbit]; rfl)⟩
        case measure => simp [intOf]; omega
      · clear hkk HOR
        go_wp2_with (go_at_call 37; refine (hasWorld_any _ _ hs1 hs2 ha _).mono ?_; rintro e w' ⟨rfl, rfl⟩)
        go_round
        case rel => exact ⟨k + 1, n, by go_num, by omega, rfl, Lib.hid (by rw [HX.out, hbit]; rfl)⟩
        case measure => simp [intOf]; omega
    · go_wp2_with fail
      go_ret
      exact ⟨ret_int (by rw [HN.out, List.take_of_length_le (by omega)]), rfl⟩

set_option maxHeartbeats 1000000 in
theorem partOf_any (w : World) (v : Value) (xs : List Int) (n a : Nat) (hn : n ≤ 4) (ha : a < 4) (hv : IRd w v xs) (hs : Small xs) :
    Calls Tryd.prog 23 #[.int .i64 (n : Int), v, .int .i64 (a : Int)] w (ActAt (partN (fun i => keyN xs i == keyN xs a) n) w) := by
  go_enter Tryd.func23, Tryd.ntmps23
  go_wp2_with (go_at_call 32; refine (keyOf_any _ v xs a ha hv hs).mono ?_; rintro e w' ⟨rfl, rfl⟩)
  go_loop [8, 14] (fun t i => ∃ k m : Nat, i = .int .i64 k ∧ k ≤ n ∧ t = .int .i64 (m : Int) ∧ Hid (m = partN (fun i => keyN xs i == keyN xs a) k)) (fun _ i => n - (intOf i).toNat)
  case atStart => exact ⟨0, 0, rfl, Nat.zero_le _, rfl, Lib.hid rfl⟩
  case round =>
    obtain ⟨k, m, rfl, hk, rfl, HN⟩ := hrel
    by_cases hlt : k < n
    · have hlt' : (k : Int) < (n : Int) := by omega
      have hk4 : (k : Int) ≤ 3 := by omega
      have hml : m < 2 ^ k := by rw [HN.out]; exact partN_lt _ _
      have HOR := Lib.hid (or_pow' m k hml (by omega))
      have HS : Hid (partN (fun i => keyN xs i == keyN xs a) (k + 1) = m + if (keyN xs k == keyN xs a) = true then 2 ^ k else 0) := Lib.hid (by rw [HN.out]; rfl)
      clear hml
      have hv' := Lib.hid hv
      clear hv
      rcases Bool.eq_false_or_eq_true (keyN xs k == keyN xs a) with hb | hb
      · have hb' : (((keyN xs k : Nat) : Int) == ((keyN xs a : Nat) : Int)) = true := by
          rw [beq_iff_eq] at hb ⊢; omega
        have HB := Lib.hid hb
        clear hb
        go_wp2_with (go_at_call 32; refine (keyOf_any _ v xs k (by omega) hv'.out hs).mono ?_; rintro e w' ⟨rfl, rfl⟩)
        go_round
        case rel => exact ⟨k + 1, _, by go_num, by omega, congrArg (Value.int .i64) HOR.out, Lib.hid (by rw [HS.out, HB.out]; rfl)⟩
        case measure => simp [intOf]; omega
      · have hb' : (((keyN xs k : Nat) : Int) == ((keyN xs a : Nat) : Int)) = false := by
          rw [beq_eq_false_iff_ne] at hb ⊢; omega
        have HB := Lib.hid hb
        clear hb
        go_wp2_with (go_at_call 32; refine (keyOf_any _ v xs k (by omega) hv'.out hs).mono ?_; rintro e w' ⟨rfl, rfl⟩)
        go_round
        case rel => exact ⟨k + 1, m, by go_num, by omega, rfl, Lib.hid (by rw [HS.out, HB.out]; rfl)⟩
        case measure => simp [intOf]; omega
    · have hge : (n : Int) ≤ (k : Int) := by omega
      go_wp2_with fail
      go_ret
      exact ⟨ret_int (by rw [HN.out, show k = n from by omega]), rfl⟩

/-- the cells of the table of package math/bits that small numbers lead to -/
def Tab (w : World) : Prop := w.cell? ⟨1, 0, none⟩ = some (.int .u8 0) ∧ w.cell? ⟨1, 1, none⟩ = some (.int .u8 1) ∧
  w.cell? ⟨1, 3, none⟩ = some (.int .u8 2) ∧ w.cell? ⟨1, 7, none⟩ = some (.int .u8 3)

theorem lt_of_tab {w : World} (h : Tab w) : 1 < w.heap.size := World.block_lt_of_cell? w _ h.1

theorem Tab.below {B : Nat} {w w' : World} (h : Tab w) (hb : Below B w w') (hB : 1 < B) : Tab w' :=
  ⟨(hb.cell (p := ⟨_, _, none⟩) hB).trans h.1, (hb.cell (p := ⟨_, _, none⟩) hB).trans h.2.1, (hb.cell (p := ⟨_, _, none⟩) hB).trans h.2.2.1, (hb.cell (p := ⟨_, _, none⟩) hB).trans h.2.2.2⟩

set_option maxHeartbeats 1000000 in
theorem tz64_core (x k idx : Nat) (w : World) (hx0 : ((x : Int) == 0) = false)
    (key : IntKind.u64.wrap (bits BinOp.and IntKind.u64 (x : Int) (IntKind.u64.wrap (-(x : Int))) * 285870213051353865) / 288230376151711744 = (idx : Int))
    (hi : idx < 64) (hk : k < 64) (hcell : w.cell? ⟨1, idx, none⟩ = some (.int .u8 k)) :
    Calls Tryd.prog 39 #[.int .u64 x] w (ActAt k w) := by
  go_enter Tryd.func39, Tryd.ntmps39
  go_wp2_with (simp only [key])
  go_ret
  exact ⟨rfl, rfl⟩

def idxN (p : Nat) : Nat := match lwN p with | 0 => 0 | 1 => 1 | 2 => 3 | _ => 7

theorem tz_keys : ∀ p : Fin 16, 1 ≤ p.val → IntKind.u64.wrap (bits BinOp.and IntKind.u64 ((p.val : Nat) : Int) (IntKind.u64.wrap (-((p.val : Nat) : Int))) * 285870213051353865) / 288230376151711744 = ((idxN p.val : Nat) : Int) := by decide +kernel

theorem lwN_lt (p : Nat) : lwN p < 4 := by unfold lwN; repeat (first | omega | split)

theorem tab_at {w : World} (ht : Tab w) (p : Nat) : w.cell? ⟨1, idxN p, none⟩ = some (.int .u8 (lwN p : Int)) := by
  obtain ⟨t0, t1, t2, t3⟩ := ht
  have h := lwN_lt p
  unfold idxN
  obtain e | e | e | e : lwN p = 0 ∨ lwN p = 1 ∨ lwN p = 2 ∨ lwN p = 3 := by omega
  all_goals (rw [e]; assumption)

theorem tz64_any (p : Nat) (h1 : 1 ≤ p) (h2 : p ≤ 15) (w : World) (ht : Tab w) : Calls Tryd.prog 39 #[.int .u64 (p : Int)] w (ActAt (lwN p) w) :=
  tz64_core p (lwN p) (idxN p) w (by simp; omega) (tz_keys ⟨p, by omega⟩ h1) (by unfold idxN; split <;> omega) (by have := lwN_lt p; omega) (tab_at ht p)

set_option maxHeartbeats 1000000 in
theorem tz_any (p : Nat) (h1 : 1 ≤ p) (h2 : p ≤ 15) (w : World) (ht : Tab w) : Calls Tryd.prog 33 #[.int .u64 (p : Int)] w (ActAt (lwN p) w) := by
  have hw : IntKind.u64.wrap (p : Int) = (p : Int) := by rw [IntKind.wrap_u64]; omega
  go_enter Tryd.func33, Tryd.ntmps33
  go_wp2_with (go_at_call 39; refine (tz64_any p h1 h2 _ ht).mono ?_; rintro e w' ⟨rfl, rfl⟩)
  go_ret
  exact ⟨rfl, rfl⟩

set_option maxHeartbeats 1000000 in
theorem leastWorld_any (p : Nat) (h1 : 1 ≤ p) (h2 : p ≤ 15) (w : World) (ht : Tab w) :
    Calls Tryd.prog 24 #[.int .i64 (p : Int)] w (ActAt (lwN p) w) := by
  have hw : IntKind.u64.wrap (p : Int) = (p : Int) := by rw [IntKind.wrap_u64]; omega
  go_enter Tryd.func24, Tryd.ntmps24
  go_wp2_with (go_at_call 33; refine (tz_any p h1 h2 _ ht).mono ?_; rintro e w' ⟨rfl, rfl⟩)
  go_ret
  exact ⟨rfl, rfl⟩

end Go.Proofs.YtnleljofoljdkaaDoor
