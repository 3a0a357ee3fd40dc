/- Contracts, facts and walks that the laws of this seat lean on, laid together by a program of ours (mkmerge.py) out of: Mb Xb Xa Xl Xi Za Ka Me Mg Kb Rh Zb. Conditions: stated at each. -/
import Derived.Deep.RegionHeld3
import Derived.Handy
import Derived.Laws.Strings
import Derived.Deep.LoopGhost
import Derived.Maps.AppendAt
import Derived.Laws.AppendOwnNone
import Derived.Test.YtebebcomhdjihaaRows
import Derived.Laws.IdiomStrings
import Derived.Test.YtebebcomhdjihaaD1
namespace Go.Proofs.Ytebebcomhdjihaa
open Go.RowKit
set_option linter.unusedVariables false

theorem allm_take {xs : List Int} {k : Nat} {x : Int} (hx : xs[k]? = some x) (h : inB x 0 36 = true) (ih : ∀ y ∈ xs.take k, 0 ≤ y ∧ y ≤ 36) : ∀ y ∈ xs.take (k + 1), 0 ≤ y ∧ y ≤ 36 := by
  rw [List.take_add_one, hx]
  intro y hy
  rcases List.mem_append.1 hy with h1 | h1
  · exact ih y h1
  · simp at h1; subst h1; exact (inB_iff _ _ _).1 h

theorem sum_le {xs : List Int} (h : ∀ y ∈ xs, 0 ≤ y ∧ y ≤ 36) : 0 ≤ xs.sum ∧ xs.sum ≤ 36 * (xs.length : Int) := by
  induction xs with
  | nil => simp
  | cons x xs ih =>
    have h1 := ih (fun y hy => h y (by simp [hy]))
    have h2 := h x (by simp)
    simp only [List.sum_cons, List.length_cons]
    omega

theorem sum_take {xs : List Int} {k : Nat} {x : Int} (hx : xs[k]? = some x) : (xs.take (k + 1)).sum = (xs.take k).sum + x := by
  rw [List.take_add_one, hx]
  simp

def SumIs (xs : List Int) (k : Nat) (n : Int) : Prop := (∀ y ∈ xs.take k, 0 ≤ y ∧ y ≤ 36) ∧ (k ≤ 4 → n = (xs.take k).sum)

theorem SumIs.step {xs : List Int} {k : Nat} {n x : Int} (h : SumIs xs k n) (hx : xs[k]? = some x) (hi : inB x 0 36 = true) : SumIs xs (k + 1) (IntKind.i64.wrap (n + x)) ∧ SumIs xs (k + 1) (wrap64 (n + x)) := by
  have h2 := (inB_iff _ _ _).1 hi
  have key : k + 1 ≤ 4 → n + x = (xs.take (k + 1)).sum ∧ 0 ≤ n + x ∧ n + x ≤ 144 := by
    intro h4
    have hn := h.2 (by omega)
    have hb := sum_le h.1
    have hl : (xs.take k).length ≤ 3 := by simp; omega
    rw [sum_take hx]
    omega
  refine ⟨⟨allm_take hx hi h.1, fun h4 => ?_⟩, ⟨allm_take hx hi h.1, fun h4 => ?_⟩⟩
  · obtain ⟨k1, k2, k3⟩ := key h4
    rw [IntWalk.i64_in _ (by omega)]; exact k1
  · obtain ⟨k1, k2, k3⟩ := key h4
    rw [IntWalk.wrap64_in _ (by omega)]; exact k1

def Grs (m : List Int) : Prop := (∀ x ∈ m, 0 ≤ x ∧ x ≤ 36) ∧ m.length ≤ 4

theorem grs_of {m : List Int} (h : meaB m = true) : Grs m := ⟨((meaB_iff m).1 h).1, ((meaB_iff m).1 h).2.2.1⟩

theorem grs_on {m : List Int} (h : Grs m) (e : Int) (k : Nat) : 0 ≤ onI (m.take k) e ∧ onI (m.take k) e ≤ 144 := by
  have h1 := onI_bound (m := m.take k) (fun x hx => (h.1 x (List.mem_of_mem_take hx)).1) e
  have h2 := sum_le (xs := m.take k) (fun y hy => h.1 y (List.mem_of_mem_take hy))
  have h3 : (m.take k).length ≤ 4 := by simp; have := h.2; omega
  omega

def IntPost (n : Int) (w : World) (e : Ending) (w' : World) : Prop := e = .returned (.int .i64 n) ∧ Below w.heap.size w w'

def BoolPost (b : Bool) (w : World) (e : Ending) (w' : World) : Prop := e = .returned (.bool b) ∧ Below w.heap.size w w'

set_option maxHeartbeats 2000000 in
theorem l4On_any (w : World) (v : Value) (m : List Int) (e : Int) (hv : IRd w v m) (hm : Grs m) (e1 : 0 ≤ e) (e2 : e ≤ 15) :
    Calls Try.prog 82 #[v, .int .i64 e] w (IntPost (onI m e) w) := by
  obtain ⟨A, c, rfl, hl, hmx, -⟩ := id hv
  have HV := Lib.hid hv
  have HM := Lib.hid hm
  have hm4 := hm.2
  clear hv hm
  go_enter Try.func82, Try.ntmps82
  go_wp2_with fail
  go_loopw [5, 6] (fun t i wr => ∃ (k : Nat) (n : Int), i = .int .i64 (k : Int) ∧ k ≤ m.length ∧ t = .int .i64 n ∧ Hid (n = onI (m.take k) e) ∧ Hid (Below w.heap.size w wr)) (fun _ i _ => m.length - (intOf i).toNat)
  case atStart => exact ⟨0, 0, rfl, Nat.zero_le _, rfl, Lib.hid (by simp [onI]), Lib.hid (Below.refl _ _)⟩
  case round =>
    obtain ⟨k, n, rfl, hk, rfl, HN, HB⟩ := hrel
    by_cases hlt : k < m.length
    · obtain ⟨b, off, x, rfl, -, hx, hcx⟩ := (HV.out.keep (SameAt.of_below HB.out)).at_ hlt
      have HX := Lib.hid (onI_take hx e)
      obtain ⟨x1, x2⟩ := HM.out.1 x (List.mem_of_getElem? hx)
      obtain ⟨n1, n2⟩ : 0 ≤ n ∧ n ≤ 144 := by rw [HN.out]; exact grs_on HM.out e k
      clear hx
      obtain rfl | rfl | rfl | rfl : k = 0 ∨ k = 1 ∨ k = 2 ∨ k = 3 := by omega
      · rw [Nat.add_zero] at hcx
        rcases bitI_01 e 0 with hb | hb
        · have HBit := Lib.hid hb
          have hb' : e % 2 = 0 := by simpa [bitI] using hb
          clear hb
          go_wp2_with fail
          go_region
          all_goals
            go_wp2_with fail
            go_roundw
            case rel => exact ⟨0 + 1, n, by first | rfl | go_num, by omega, rfl, Lib.hid (by rw [HX.out, HBit.out, ← HN.out]; simp), Lib.hid HB.out.drew⟩
            case measure => simp [intOf]; omega
        · have HBit := Lib.hid hb
          have hb' : e % 2 = 1 := by simpa [bitI] using hb
          clear hb
          go_wp2_with fail
          go_region
          all_goals
            go_wp2_with fail
            go_roundw
            case rel => exact ⟨0 + 1, n + x, by first | rfl | go_num, by omega, rfl, Lib.hid (by rw [HX.out, HBit.out, ← HN.out]; simp), Lib.hid HB.out.drew⟩
            case measure => simp [intOf]; omega
      · rcases bitI_01 e 1 with hb | hb
        · have HBit := Lib.hid hb
          have hb' : e / 2 % 2 = 0 := by simpa [bitI] using hb
          clear hb
          go_wp2_with fail
          go_region
          all_goals
            go_wp2_with fail
            go_roundw
            case rel => exact ⟨1 + 1, n, by first | rfl | go_num, by omega, rfl, Lib.hid (by rw [HX.out, HBit.out, ← HN.out]; simp), Lib.hid HB.out.drew⟩
            case measure => simp [intOf]; omega
        · have HBit := Lib.hid hb
          have hb' : e / 2 % 2 = 1 := by simpa [bitI] using hb
          clear hb
          go_wp2_with fail
          go_region
          all_goals
            go_wp2_with fail
            go_roundw
            case rel => exact ⟨1 + 1, n + x, by first | rfl | go_num, by omega, rfl, Lib.hid (by rw [HX.out, HBit.out, ← HN.out]; simp), Lib.hid HB.out.drew⟩
            case measure => simp [intOf]; omega
      · rcases bitI_01 e 2 with hb | hb
        · have HBit := Lib.hid hb
          have hb' : e / 4 % 2 = 0 := by simpa [bitI] using hb
          clear hb
          go_wp2_with fail
          go_region
          all_goals
            go_wp2_with fail
            go_roundw
            case rel => exact ⟨2 + 1, n, by first | rfl | go_num, by omega, rfl, Lib.hid (by rw [HX.out, HBit.out, ← HN.out]; simp), Lib.hid HB.out.drew⟩
            case measure => simp [intOf]; omega
        · have HBit := Lib.hid hb
          have hb' : e / 4 % 2 = 1 := by simpa [bitI] using hb
          clear hb
          go_wp2_with fail
          go_region
          all_goals
            go_wp2_with fail
            go_roundw
            case rel => exact ⟨2 + 1, n + x, by first | rfl | go_num, by omega, rfl, Lib.hid (by rw [HX.out, HBit.out, ← HN.out]; simp), Lib.hid HB.out.drew⟩
            case measure => simp [intOf]; omega
      · rcases bitI_01 e 3 with hb | hb
        · have HBit := Lib.hid hb
          have hb' : e / 8 % 2 = 0 := by simpa [bitI] using hb
          clear hb
          go_wp2_with fail
          go_region
          all_goals
            go_wp2_with fail
            go_roundw
            case rel => exact ⟨3 + 1, n, by first | rfl | go_num, by omega, rfl, Lib.hid (by rw [HX.out, HBit.out, ← HN.out]; simp), Lib.hid HB.out.drew⟩
            case measure => simp [intOf]; omega
        · have HBit := Lib.hid hb
          have hb' : e / 8 % 2 = 1 := by simpa [bitI] using hb
          clear hb
          go_wp2_with fail
          go_region
          all_goals
            go_wp2_with fail
            go_roundw
            case rel => exact ⟨3 + 1, n + x, by first | rfl | go_num, by omega, rfl, Lib.hid (by rw [HX.out, HBit.out, ← HN.out]; simp), Lib.hid HB.out.drew⟩
            case measure => simp [intOf]; omega
    · go_wp2_with fail
      go_ret
      exact ⟨ret_int (by rw [HN.out, List.take_of_length_le (by omega)]), HB.out⟩

end Go.Proofs.Ytebebcomhdjihaa

namespace Go.Proofs.Ytebebcomhdjihaa
open Go.RowKit
set_option linter.unusedVariables false

def Qts (qs : List Qt) : Prop := ∀ q ∈ qs, (0 ≤ q.1 ∧ q.1 ≤ 15) ∧ 0 ≤ q.2 ∧ q.2 ≤ 6

theorem qts_of {w : Int} {qs : List Qt} (h : bokB w qs = true) : Qts qs := fun q hq => by
  have h1 := ((bokB_iff _ _).1 h).2.2 q hq
  obtain ⟨-, h2, h3, -, -, h4, h5⟩ := qok_true (w := w) (e := q.1) (p := q.2) h1
  exact ⟨⟨h4, h5⟩, h2, h3⟩

end Go.Proofs.Ytebebcomhdjihaa

namespace Go.Proofs.Ytebebcomhdjihaa
open Go.RowKit
set_option linter.unusedVariables false

abbrev MOwn (w : World) (base : Nat) (v : Value) (qs : List Qt) : Prop := GOwn 112 2 qC w base v qs

end Go.Proofs.Ytebebcomhdjihaa

namespace Go.Proofs.Ytebebcomhdjihaa
open Go.RowKit
set_option linter.unusedVariables false

def mUp (q : Int) (xs : List Qt) (k : Nat) : List Qt := (List.range k).map (fun i : Nat => (q + 2 * (i : Int), q + 2 * (i : Int) + 1)) ++ xs.drop k

theorem mUp_len (q : Int) (xs : List Qt) {k : Nat} (hk : k ≤ xs.length) : (mUp q xs k).length = xs.length := by simp [mUp]; omega

theorem mUp_set (q : Int) (xs : List Qt) {k : Nat} (hk : k < xs.length) : (mUp q xs k).set k (q + 2 * (k : Int), q + 2 * (k : Int) + 1) = mUp q xs (k + 1) := by
  unfold mUp
  rw [List.set_append_right _ _ (by simp), List.length_map, List.length_range, Nat.sub_self, List.drop_eq_getElem_cons hk, List.set_cons_zero, List.range_succ, List.map_append, List.append_assoc]
  rfl

def MMarkRel (w : World) (base : Nat) (q : Int) (v : Value) (xs : List Qt) (k : Nat) (wr : World) : Prop :=
  MOwn wr base v (mUp q xs k) ∧ w.grownBy wr v.ownBlock ∧ wr.heap.size = w.heap.size

theorem MMarkRel.step {w wr : World} {base g cap n : Nat} {q : Int} {xs : List Qt} {k : Nat} (h : MMarkRel w base q (.slice (some ⟨g, 0, none⟩) n cap) xs k wr) (hn : xs.length = n) (hk : k < n) :
    MMarkRel w base q (.slice (some ⟨g, 0, none⟩) n cap) xs (k + 1) ((wr.setCell ⟨g, k * 2, none⟩ (.int .i64 (q + 2 * (k : Int)))).setCell ⟨g, k * 2 + 1, none⟩ (.int .i64 (q + 2 * (k : Int) + 1))) := by
  subst hn
  obtain ⟨h1, h2, h5⟩ := h
  have hl := mUp_len q xs (Nat.le_of_lt hk)
  rw [← hl] at h1
  obtain ⟨h3, h4⟩ := GOwn.set2 (cp := cap) (x := (q + 2 * (k : Int), q + 2 * (k : Int) + 1)) qC_len h1 (by rw [hl]; exact hk) rfl
  rw [mUp_set q xs hk, hl] at h3
  exact ⟨h3, ⟨h4.os.trans h2.os, h4.tape.trans h2.tape, h4.output.trans h2.output, Nat.le_trans h2.size h4.size, fun i hi hne => (h4.block i (by omega) hne).trans (h2.block i hi hne)⟩, by simpa using h5⟩

end Go.Proofs.Ytebebcomhdjihaa

namespace Go.Proofs.Ytebebcomhdjihaa
set_option linter.unusedVariables false

abbrev Mk := Int × Int

inductive Tm where
  | lt (b : Bool)
  | no (t : Tm)
  | an (x y : Tm)
  | vel (x y : Tm)

def letM (b : Bool) : Mk := (0, if b = true then 1 else 0)

def encT : Tm → List Mk
  | .lt b => [letM b]
  | .no t => encT t ++ [(1, 0)]
  | .an x y => encT x ++ encT y ++ [(2, 0)]
  | .vel x y => encT x ++ encT y ++ [(3, 0)]

def cntS (p : Option Nat) (m : Mk) : Option Nat :=
  match p with
  | none => none
  | some n => if m = (0, 0) ∨ m = (0, 1) then some (n + 1) else if m = (1, 0) then (if 1 ≤ n then some n else none) else if m = (2, 0) ∨ m = (3, 0) then (if 2 ≤ n then some (n - 1) else none) else none

def cnt (l : List Mk) : Option Nat := l.foldl cntS (some 0)

def tmB (l : List Mk) : Bool := decide (cnt l = some 1) && decide (l.length ≤ 40)

theorem tmB_iff (l : List Mk) : tmB l = true ↔ cnt l = some 1 ∧ l.length ≤ 40 := by simp [tmB]

def stepM (st : List Tm) (m : Mk) : Option (List Tm) :=
  if m = (0, 0) then some (.lt false :: st)
  else if m = (0, 1) then some (.lt true :: st)
  else if m = (1, 0) then (match st with | x :: st => some (.no x :: st) | _ => none)
  else if m = (2, 0) then (match st with | y :: x :: st => some (.an x y :: st) | _ => none)
  else if m = (3, 0) then (match st with | y :: x :: st => some (.vel x y :: st) | _ => none)
  else none

def run : List Tm → List Mk → Option (List Tm)
  | st, [] => some st
  | st, m :: l => (stepM st m).bind fun st' => run st' l

theorem run_enc (T : Tm) (st : List Tm) (l : List Mk) : run st (encT T ++ l) = run (T :: st) l := by
  induction T generalizing st l with
  | lt b => cases b <;> simp [encT, letM, run, stepM]
  | no t ih => rw [encT, List.append_assoc, ih]; simp [run, stepM]
  | an x y ihx ihy => rw [encT, List.append_assoc, List.append_assoc, ihx, ihy]; simp [run, stepM]
  | vel x y ihx ihy => rw [encT, List.append_assoc, List.append_assoc, ihx, ihy]; simp [run, stepM]

def flatR (st : List Tm) : List Mk := st.reverse.flatMap encT

theorem flatR_cons (T : Tm) (st : List Tm) : flatR (T :: st) = flatR st ++ encT T := by
  unfold flatR
  rw [List.reverse_cons, List.flatMap_append]
  simp

theorem flatR_lt (b : Bool) (st : List Tm) : flatR (.lt b :: st) = flatR st ++ [letM b] := by rw [flatR_cons]; rfl

theorem flatR_no (x : Tm) (st : List Tm) : flatR (.no x :: st) = flatR (x :: st) ++ [(1, 0)] := by rw [flatR_cons, flatR_cons, encT, List.append_assoc]

theorem flatR_an (x y : Tm) (st : List Tm) : flatR (.an x y :: st) = flatR (y :: x :: st) ++ [(2, 0)] := by rw [flatR_cons, flatR_cons, flatR_cons, encT]; simp only [List.append_assoc]

theorem flatR_vel (x y : Tm) (st : List Tm) : flatR (.vel x y :: st) = flatR (y :: x :: st) ++ [(3, 0)] := by rw [flatR_cons, flatR_cons, flatR_cons, encT]; simp only [List.append_assoc]

theorem step_flat {st st' : List Tm} {m : Mk} (h : stepM st m = some st') : flatR st ++ [m] = flatR st' ∧ cntS (some st.length) m = some st'.length := by
  unfold stepM at h
  split at h
  · next e => subst e; obtain rfl := Option.some.inj h; exact ⟨by rw [flatR_lt]; rfl, by simp [cntS]⟩
  split at h
  · next e => subst e; obtain rfl := Option.some.inj h; exact ⟨by rw [flatR_lt]; rfl, by simp [cntS]⟩
  split at h
  · next e =>
    subst e
    match st, h with
    | x :: st, h => obtain rfl := Option.some.inj h; exact ⟨by rw [flatR_no], by simp [cntS]⟩
  split at h
  · next e =>
    subst e
    match st, h with
    | y :: x :: st, h => obtain rfl := Option.some.inj h; exact ⟨by rw [flatR_an], by simp [cntS]⟩
  split at h
  · next e =>
    subst e
    match st, h with
    | y :: x :: st, h => obtain rfl := Option.some.inj h; exact ⟨by rw [flatR_vel], by simp [cntS]⟩
  · cases h

theorem run_flat {l : List Mk} {st st' : List Tm} (h : run st l = some st') : flatR st ++ l = flatR st' ∧ l.foldl cntS (some st.length) = some st'.length := by
  induction l generalizing st with
  | nil => obtain rfl := Option.some.inj h; exact ⟨by simp, rfl⟩
  | cons m l ih =>
    rw [run] at h
    cases hs : stepM st m with
    | none => rw [hs] at h; cases h
    | some s1 =>
      rw [hs] at h
      obtain ⟨h1, h2⟩ := step_flat hs
      obtain ⟨h3, h4⟩ := ih h
      refine ⟨?_, ?_⟩
      · rw [← h3, ← h1]; simp
      · rw [List.foldl_cons, h2]; exact h4

theorem tree_cnt (T : Tm) : cnt (encT T) = some 1 := by
  have h := run_enc T [] []
  rw [List.append_nil] at h
  exact (run_flat (st := []) (st' := [T]) h).2

theorem enc_inj {T U : Tm} (h : encT T = encT U) : T = U := by
  have h1 := run_enc T [] []
  have h2 := run_enc U [] []
  rw [h, h2] at h1
  have h3 := Option.some.inj h1
  injection h3 with h3
  exact h3.symm

theorem tree_tm {T : Tm} (h : (encT T).length ≤ 40) : tmB (encT T) = true := (tmB_iff _).2 ⟨tree_cnt T, h⟩

def ownT : Tm → Nat
  | .vel _ _ => 0
  | .an _ _ => 1
  | _ => 2

def brk (b : Bool) (s : List UInt8) : List UInt8 := if b = true then 40 :: (s ++ [41]) else s

def txtT : Tm → List UInt8
  | .lt b => [if b = true then 98 else 97]
  | .no t => 33 :: brk (decide (ownT t < 2)) (txtT t)
  | .an x y => brk (decide (ownT x < 1)) (txtT x) ++ 38 :: brk (decide (ownT y < 2)) (txtT y)
  | .vel x y => txtT x ++ 124 :: brk (decide (ownT y < 1)) (txtT y)

def heldT (b : Nat) (t : Tm) : List UInt8 := brk (decide (ownT t < b)) (txtT t)

inductive Md where
  | atom
  | conj
  | conjL (t : Tm)
  | disj
  | disjL (t : Tm)

def prs : Nat → Md → List UInt8 → Option (Tm × List UInt8)
  | 0, _, _ => none
  | f + 1, .atom, [] => none
  | f + 1, .atom, c :: r =>
    if c = 97 then some (.lt false, r)
    else if c = 98 then some (.lt true, r)
    else if c = 33 then (prs f .atom r).map fun p => (.no p.1, p.2)
    else if c = 40 then (match prs f .disj r with | some (t, d :: r') => if d = 41 then some (t, r') else none | _ => none)
    else none
  | f + 1, .conj, s => (prs f .atom s).bind fun p => prs f (.conjL p.1) p.2
  | f + 1, .conjL t, [] => some (t, [])
  | f + 1, .conjL t, c :: r => if c = 38 then (prs f .atom r).bind fun p => prs f (.conjL (.an t p.1)) p.2 else some (t, c :: r)
  | f + 1, .disj, s => (prs f .conj s).bind fun p => prs f (.disjL p.1) p.2
  | f + 1, .disjL t, [] => some (t, [])
  | f + 1, .disjL t, c :: r => if c = 124 then (prs f .conj r).bind fun p => prs f (.disjL (.vel t p.1)) p.2 else some (t, c :: r)

theorem prs_more (f : Nat) : ∀ (m : Md) (s : List UInt8) (x : Tm × List UInt8), prs f m s = some x → prs (f + 1) m s = some x := by
  induction f with
  | zero => intro m s x h; simp [prs] at h
  | succ f ih =>
    intro m s x h
    match m, s, h with
    | .atom, [], h => simp [prs] at h
    | .atom, c :: r, h =>
      rw [prs] at h ⊢
      split at h
      · next e => rw [if_pos e]; exact h
      next e1 =>
      rw [if_neg e1]
      split at h
      · next e => rw [if_pos e]; exact h
      next e2 =>
      rw [if_neg e2]
      split at h
      · next e =>
        rw [if_pos e]
        cases hp : prs f .atom r with
        | none => rw [hp] at h; cases h
        | some p => rw [hp] at h; rw [ih _ _ _ hp]; exact h
      next e3 =>
      rw [if_neg e3]
      split at h
      · next e =>
        rw [if_pos e]
        cases hp : prs f .disj r with
        | none => rw [hp] at h; cases h
        | some p => rw [hp] at h; rw [ih _ _ _ hp]; exact h
      · cases h
    | .conj, s, h =>
      rw [prs] at h ⊢
      cases hp : prs f .atom s with
      | none => rw [hp] at h; cases h
      | some p => rw [hp] at h; rw [ih _ _ _ hp]; exact ih _ _ _ h
    | .conjL t, [], h => rw [prs] at h ⊢; exact h
    | .conjL t, c :: r, h =>
      rw [prs] at h ⊢
      split at h
      · next e =>
        rw [if_pos e]
        cases hp : prs f .atom r with
        | none => rw [hp] at h; cases h
        | some p => rw [hp] at h; rw [ih _ _ _ hp]; exact ih _ _ _ h
      · next e => rw [if_neg e]; exact h
    | .disj, s, h =>
      rw [prs] at h ⊢
      cases hp : prs f .conj s with
      | none => rw [hp] at h; cases h
      | some p => rw [hp] at h; rw [ih _ _ _ hp]; exact ih _ _ _ h
    | .disjL t, [], h => rw [prs] at h ⊢; exact h
    | .disjL t, c :: r, h =>
      rw [prs] at h ⊢
      split at h
      · next e =>
        rw [if_pos e]
        cases hp : prs f .conj r with
        | none => rw [hp] at h; cases h
        | some p => rw [hp] at h; rw [ih _ _ _ hp]; exact ih _ _ _ h
      · next e => rw [if_neg e]; exact h

theorem prs_mono {f g : Nat} {m : Md} {s : List UInt8} {x : Tm × List UInt8} (h : prs f m s = some x) (hfg : f ≤ g) : prs g m s = some x := by
  obtain ⟨d, rfl⟩ : ∃ d, g = f + d := ⟨g - f, by omega⟩
  clear hfg
  induction d with
  | zero => exact h
  | succ d ih => exact prs_more _ _ _ _ ih

def Rds (m : Md) (s : List UInt8) (T : Tm) (r : List UInt8) : Prop := ∃ f, prs f m s = some (T, r)

theorem rds_a (s : List UInt8) (T : Tm) (r : List UInt8) : Rds .atom (97 :: s) T r ↔ T = .lt false ∧ r = s := by
  constructor
  · rintro ⟨f, hf⟩
    cases f with
    | zero => simp [prs] at hf
    | succ f => simp [prs] at hf; exact ⟨hf.1.symm, hf.2.symm⟩
  · rintro ⟨rfl, rfl⟩; exact ⟨1, by simp [prs]⟩

theorem rds_b (s : List UInt8) (T : Tm) (r : List UInt8) : Rds .atom (98 :: s) T r ↔ T = .lt true ∧ r = s := by
  constructor
  · rintro ⟨f, hf⟩
    cases f with
    | zero => simp [prs] at hf
    | succ f => simp [prs] at hf; exact ⟨hf.1.symm, hf.2.symm⟩
  · rintro ⟨rfl, rfl⟩; exact ⟨1, by simp [prs]⟩

theorem rds_no (s : List UInt8) (T : Tm) (r : List UInt8) : Rds .atom (33 :: s) T r ↔ ∃ x, Rds .atom s x r ∧ T = .no x := by
  constructor
  · rintro ⟨f, hf⟩
    cases f with
    | zero => simp [prs] at hf
    | succ f =>
      simp [prs] at hf
      obtain ⟨x, hx, h2⟩ := hf
      exact ⟨x, ⟨f, hx⟩, h2.symm⟩
  · rintro ⟨x, ⟨f, hf⟩, rfl⟩
    exact ⟨f + 1, by simp [prs, hf]⟩

theorem rds_br (s : List UInt8) (T : Tm) (r : List UInt8) : Rds .atom (40 :: s) T r ↔ Rds .disj s T (41 :: r) := by
  constructor
  · rintro ⟨f, hf⟩
    cases f with
    | zero => simp [prs] at hf
    | succ f =>
      rw [prs] at hf
      simp only [show ((40 : UInt8) = 97) = False from by decide, show ((40 : UInt8) = 98) = False from by decide, show ((40 : UInt8) = 33) = False from by decide, if_false, if_true] at hf
      split at hf
      · next t d r' hp =>
        split at hf
        · next e =>
          subst e
          have h3 := Option.some.inj hf
          injection h3 with h4 h5
          subst h4 h5
          exact ⟨f, hp⟩
        · cases hf
      · cases hf
  · rintro ⟨f, hf⟩
    refine ⟨f + 1, ?_⟩
    rw [prs]
    simp only [show ((40 : UInt8) = 97) = False from by decide, show ((40 : UInt8) = 98) = False from by decide, show ((40 : UInt8) = 33) = False from by decide, if_false, if_true, hf]

theorem rds_conj (s : List UInt8) (T : Tm) (r : List UInt8) : Rds .conj s T r ↔ ∃ x q, Rds .atom s x q ∧ Rds (.conjL x) q T r := by
  constructor
  · rintro ⟨f, hf⟩
    cases f with
    | zero => simp [prs] at hf
    | succ f =>
      rw [prs] at hf
      cases hp : prs f .atom s with
      | none => rw [hp] at hf; cases hf
      | some p => rw [hp] at hf; exact ⟨p.1, p.2, ⟨f, hp⟩, ⟨f, hf⟩⟩
  · rintro ⟨x, q, ⟨f, hf⟩, ⟨g, hg⟩⟩
    refine ⟨max f g + 1, ?_⟩
    rw [prs, prs_mono hf (Nat.le_max_left f g)]
    exact prs_mono hg (Nat.le_max_right f g)

theorem rds_disj (s : List UInt8) (T : Tm) (r : List UInt8) : Rds .disj s T r ↔ ∃ x q, Rds .conj s x q ∧ Rds (.disjL x) q T r := by
  constructor
  · rintro ⟨f, hf⟩
    cases f with
    | zero => simp [prs] at hf
    | succ f =>
      rw [prs] at hf
      cases hp : prs f .conj s with
      | none => rw [hp] at hf; cases hf
      | some p => rw [hp] at hf; exact ⟨p.1, p.2, ⟨f, hp⟩, ⟨f, hf⟩⟩
  · rintro ⟨x, q, ⟨f, hf⟩, ⟨g, hg⟩⟩
    refine ⟨max f g + 1, ?_⟩
    rw [prs, prs_mono hf (Nat.le_max_left f g)]
    exact prs_mono hg (Nat.le_max_right f g)

theorem rds_conjL (t : Tm) (s : List UInt8) (T : Tm) (r : List UInt8) : Rds (.conjL t) (38 :: s) T r ↔ ∃ x q, Rds .atom s x q ∧ Rds (.conjL (.an t x)) q T r := by
  constructor
  · rintro ⟨f, hf⟩
    cases f with
    | zero => simp [prs] at hf
    | succ f =>
      rw [prs, if_pos rfl] at hf
      cases hp : prs f .atom s with
      | none => rw [hp] at hf; cases hf
      | some p => rw [hp] at hf; exact ⟨p.1, p.2, ⟨f, hp⟩, ⟨f, hf⟩⟩
  · rintro ⟨x, q, ⟨f, hf⟩, ⟨g, hg⟩⟩
    refine ⟨max f g + 1, ?_⟩
    rw [prs, if_pos rfl, prs_mono hf (Nat.le_max_left f g)]
    exact prs_mono hg (Nat.le_max_right f g)

theorem rds_disjL (t : Tm) (s : List UInt8) (T : Tm) (r : List UInt8) : Rds (.disjL t) (124 :: s) T r ↔ ∃ x q, Rds .conj s x q ∧ Rds (.disjL (.vel t x)) q T r := by
  constructor
  · rintro ⟨f, hf⟩
    cases f with
    | zero => simp [prs] at hf
    | succ f =>
      rw [prs, if_pos rfl] at hf
      cases hp : prs f .conj s with
      | none => rw [hp] at hf; cases hf
      | some p => rw [hp] at hf; exact ⟨p.1, p.2, ⟨f, hp⟩, ⟨f, hf⟩⟩
  · rintro ⟨x, q, ⟨f, hf⟩, ⟨g, hg⟩⟩
    refine ⟨max f g + 1, ?_⟩
    rw [prs, if_pos rfl, prs_mono hf (Nat.le_max_left f g)]
    exact prs_mono hg (Nat.le_max_right f g)

theorem rds_conj_stop {t : Tm} {s : List UInt8} (h : s.head? ≠ some 38) (T : Tm) (r : List UInt8) : Rds (.conjL t) s T r ↔ T = t ∧ r = s := by
  have hv : ∀ f, prs (f + 1) (.conjL t) s = some (t, s) := by
    intro f
    cases s with
    | nil => rfl
    | cons c s =>
      rw [prs, if_neg]
      intro e; subst e; exact h rfl
  constructor
  · rintro ⟨f, hf⟩
    have := prs_more _ _ _ _ hf
    rw [hv] at this
    have h3 := Option.some.inj this
    injection h3 with h4 h5
    exact ⟨h4.symm, h5.symm⟩
  · rintro ⟨rfl, rfl⟩; exact ⟨1, hv 0⟩

theorem rds_disj_stop {t : Tm} {s : List UInt8} (h : s.head? ≠ some 124) (T : Tm) (r : List UInt8) : Rds (.disjL t) s T r ↔ T = t ∧ r = s := by
  have hv : ∀ f, prs (f + 1) (.disjL t) s = some (t, s) := by
    intro f
    cases s with
    | nil => rfl
    | cons c s =>
      rw [prs, if_neg]
      intro e; subst e; exact h rfl
  constructor
  · rintro ⟨f, hf⟩
    have := prs_more _ _ _ _ hf
    rw [hv] at this
    have h3 := Option.some.inj this
    injection h3 with h4 h5
    exact ⟨h4.symm, h5.symm⟩
  · rintro ⟨rfl, rfl⟩; exact ⟨1, hv 0⟩

theorem reads (T : Tm) : (∀ r, Rds .atom (heldT 2 T ++ r) T r) ∧ (∀ r U q, Rds (.conjL T) r U q → Rds .conj (heldT 1 T ++ r) U q) ∧ (∀ r U q, r.head? ≠ some 38 → Rds (.disjL T) r U q → Rds .disj (txtT T ++ r) U q) := by
  have conjOf : ∀ T : Tm, heldT 1 T = heldT 2 T → (∀ r, Rds .atom (heldT 2 T ++ r) T r) → ∀ r U q, Rds (.conjL T) r U q → Rds .conj (heldT 1 T ++ r) U q := by
    intro T he h2 r U q h
    rw [he, rds_conj]
    exact ⟨T, r, h2 r, h⟩
  have disjOf : ∀ T : Tm, heldT 1 T = txtT T → (∀ r U q, Rds (.conjL T) r U q → Rds .conj (heldT 1 T ++ r) U q) → ∀ r U q, r.head? ≠ some 38 → Rds (.disjL T) r U q → Rds .disj (txtT T ++ r) U q := by
    intro T he h1 r U q hr h
    rw [rds_disj]
    refine ⟨T, r, ?_, h⟩
    rw [← he]
    exact h1 r T r ((rds_conj_stop hr _ _).2 ⟨rfl, rfl⟩)
  have atomOf : ∀ T : Tm, heldT 2 T = 40 :: (txtT T ++ [41]) → (∀ r U q, r.head? ≠ some 38 → Rds (.disjL T) r U q → Rds .disj (txtT T ++ r) U q) → ∀ r, Rds .atom (heldT 2 T ++ r) T r := by
    intro T he h0 r
    rw [he, List.cons_append, List.append_assoc, rds_br]
    exact h0 ([41] ++ r) T (41 :: r) (by simp) ((rds_disj_stop (by simp) _ _).2 ⟨rfl, rfl⟩)
  induction T with
  | lt b =>
    have a : ∀ r, Rds .atom (heldT 2 (.lt b) ++ r) (.lt b) r := by
      intro r
      cases b
      · exact (rds_a r _ _).2 ⟨rfl, rfl⟩
      · exact (rds_b r _ _).2 ⟨rfl, rfl⟩
    have c := conjOf (.lt b) rfl a
    exact ⟨a, c, disjOf (.lt b) rfl c⟩
  | no t ih =>
    have a : ∀ r, Rds .atom (heldT 2 (.no t) ++ r) (.no t) r := by
      intro r
      show Rds .atom (33 :: (heldT 2 t ++ r)) (.no t) r
      rw [rds_no]
      exact ⟨t, ih.1 r, rfl⟩
    have c := conjOf (.no t) rfl a
    exact ⟨a, c, disjOf (.no t) rfl c⟩
  | an x y ihx ihy =>
    have c : ∀ r U q, Rds (.conjL (.an x y)) r U q → Rds .conj (heldT 1 (.an x y) ++ r) U q := by
      intro r U q h
      show Rds .conj ((heldT 1 x ++ 38 :: heldT 2 y) ++ r) U q
      rw [List.append_assoc, List.cons_append]
      apply ihx.2.1
      rw [rds_conjL]
      exact ⟨y, r, ihy.1 r, h⟩
    have d := disjOf (.an x y) rfl c
    exact ⟨atomOf (.an x y) rfl d, c, d⟩
  | vel x y ihx ihy =>
    have d : ∀ r U q, r.head? ≠ some 38 → Rds (.disjL (.vel x y)) r U q → Rds .disj (txtT (.vel x y) ++ r) U q := by
      intro r U q hr h
      show Rds .disj ((txtT x ++ 124 :: heldT 1 y) ++ r) U q
      rw [List.append_assoc, List.cons_append]
      apply ihx.2.2 _ _ _ (by simp)
      rw [rds_disjL]
      refine ⟨y, r, ?_, h⟩
      exact ihy.2.1 r y r ((rds_conj_stop hr _ _).2 ⟨rfl, rfl⟩)
    have a := atomOf (.vel x y) rfl d
    exact ⟨a, conjOf (.vel x y) rfl a, d⟩

end Go.Proofs.Ytebebcomhdjihaa

namespace Go.Proofs.Ytebebcomhdjihaa
open Go.RowKit
set_option linter.unusedVariables false

def bs (S : ByteArray) : List UInt8 := S.data.toList

theorem bs_len (S : ByteArray) : (bs S).length = S.size := by rw [bs, Array.length_toList]; rfl

end Go.Proofs.Ytebebcomhdjihaa

namespace Go.Proofs.Ytebebcomhdjihaa
open Go.RowKit
set_option linter.unusedVariables false

noncomputable def txtI (t : List Mk) : List UInt8 := open Classical in if h : ∃ T, encT T = t ∧ t.length ≤ 40 then txtT h.choose else []

theorem txtI_tree {T : Tm} (h : (encT T).length ≤ 40) : txtI (encT T) = txtT T := by
  have hx : ∃ U, encT U = encT T ∧ (encT T).length ≤ 40 := ⟨T, rfl, h⟩
  unfold txtI
  rw [dif_pos hx, enc_inj hx.choose_spec.1]

end Go.Proofs.Ytebebcomhdjihaa

namespace Go.Proofs.Ytebebcomhdjihaa
open Go.RowKit
set_option linter.unusedVariables false

def dg (n : Nat) : UInt8 := UInt8.ofNat (48 + n)

def num (n : Int) : List UInt8 := if n < 0 then [45, dg (-n).toNat] else [dg n.toNat]

theorem dg_ne {n : Nat} (hn : n ≤ 9) : dg n ≠ 42 ∧ dg n ≠ 64 ∧ dg n ≠ 45 ∧ (dg n).toNat = 48 + n := by
  have : ∀ a : Fin 10, dg a ≠ 42 ∧ dg a ≠ 64 ∧ dg a ≠ 45 ∧ (dg a).toNat = 48 + a := by decide
  exact this ⟨n, by omega⟩

def wgB (s : Int) (t : List Mk) (p : Int) : Bool := inB s (-9) 9 && (tmB t && inB p 0 6)

theorem wgB_iff (s : Int) (t : List Mk) (p : Int) : wgB s t p = true ↔ (-9 ≤ s ∧ s ≤ 9) ∧ tmB t = true ∧ 0 ≤ p ∧ p ≤ 6 := by
  rw [wgB, Bool.and_eq_true, Bool.and_eq_true, inB_iff, inB_iff]

def wtx (s : Int) (l : List UInt8) (p : Int) : List UInt8 := num s ++ 42 :: (l ++ 64 :: num p)

noncomputable def wgT (s : Int) (t : List Mk) (p : Int) : List UInt8 := if wgB s t p = true then wtx s (txtI t) p else []

theorem wgT_yes {s : Int} {t : List Mk} {p : Int} (h : wgB s t p = true) : wgT s t p = wtx s (txtI t) p := by rw [wgT, if_pos h]

def pstep (c : UInt8) (l : List UInt8) (st : List (List UInt8) × Nat) (k : Nat) : List (List UInt8) × Nat := if l[k]? = some c then (st.1 ++ [(l.drop st.2).take (k - st.2)], k + 1) else st

def pcs (c : UInt8) (l : List UInt8) (k : Nat) : List (List UInt8) × Nat := (List.range k).foldl (pstep c l) ([], 0)

def cutF (c : UInt8) (l : List UInt8) : List (List UInt8) := (pcs c l l.length).1 ++ [l.drop (pcs c l l.length).2]

theorem pcs_zero (c : UInt8) (l : List UInt8) : pcs c l 0 = ([], 0) := rfl

theorem pcs_succ (c : UInt8) (l : List UInt8) (k : Nat) : pcs c l (k + 1) = pstep c l (pcs c l k) k := by
  unfold pcs
  rw [List.range_succ, List.foldl_append]; rfl

theorem pcs_le (c : UInt8) (l : List UInt8) (k : Nat) : (pcs c l k).2 ≤ k ∧ (pcs c l k).1.length ≤ k := by
  induction k with
  | zero => simp [pcs_zero]
  | succ k ih =>
    rw [pcs_succ, pstep]
    split
    · simp only [List.length_append, List.length_singleton]; omega
    · omega

theorem cut_len (c : UInt8) (l : List UInt8) : 1 ≤ (cutF c l).length ∧ (cutF c l).length ≤ l.length + 1 := by
  have := (pcs_le c l l.length).2
  simp only [cutF, List.length_append, List.length_singleton]; omega

def WReadsB (l : List UInt8) (s : Int) (T : Tm) (p : Int) : Prop := wtx s (txtT T) p = l ∧ (-9 ≤ s ∧ s ≤ 9) ∧ (0 ≤ p ∧ p ≤ 6) ∧ (encT T).length ≤ 40

theorem WReadsB.ok {l : List UInt8} {s : Int} {T : Tm} {p : Int} (h : WReadsB l s T p) : wgB s (encT T) p = true ∧ wgT s (encT T) p = l := by
  have hb : wgB s (encT T) p = true := (wgB_iff _ _ _).2 ⟨h.2.1, tree_tm h.2.2.2, h.2.2.1⟩
  exact ⟨hb, by rw [wgT_yes hb, txtI_tree h.2.2.2]; exact h.1⟩

end Go.Proofs.Ytebebcomhdjihaa

namespace Go.Proofs.Ytebebcomhdjihaa
set_option linter.unusedVariables false

def decN (n : Nat) : List UInt8 := if h : n < 10 then [dg n] else decN (n / 10) ++ [dg (n % 10)]
termination_by n
decreasing_by omega

def dec (n : Int) : List UInt8 := if n < 0 then 45 :: decN (-n).toNat else decN n.toNat

theorem decN_lt {n : Nat} (h : n < 10) : decN n = [dg n] := by rw [decN, dif_pos h]

theorem decN_ge {n : Nat} (h : 10 ≤ n) : decN n = decN (n / 10) ++ [dg (n % 10)] := by rw [decN, dif_neg (by omega)]

theorem dec_pos {n : Int} (h : 0 ≤ n) : dec n = decN n.toNat := by rw [dec, if_neg (by omega)]

theorem dec_neg {n : Int} (h : n < 0) : dec n = 45 :: decN (-n).toNat := by rw [dec, if_pos h]

theorem dg_nat {n : Nat} (h : n ≤ 9) : (dg n).toNat = 48 + n := (dg_ne h).2.2.2

theorem decN_dg (n : Nat) : ∀ c ∈ decN n, 48 ≤ c.toNat ∧ c.toNat ≤ 57 := by
  induction n using Nat.strongRecOn with
  | _ n ih =>
    intro c hc
    by_cases h : n < 10
    · rw [decN_lt h, List.mem_singleton] at hc
      subst hc
      rw [dg_nat (by omega)]
      omega
    · rw [decN_ge (by omega), List.mem_append, List.mem_singleton] at hc
      rcases hc with hc | rfl
      · exact ih (n / 10) (by omega) c hc
      · rw [dg_nat (by omega)]
        omega

def valN (l : List UInt8) : Nat := l.foldl (fun n c => 10 * n + (c.toNat - 48)) 0

theorem val_snoc (l : List UInt8) (c : UInt8) : valN (l ++ [c]) = 10 * valN l + (c.toNat - 48) := by simp [valN]

theorem dec_not {n : Int} {c : UInt8} (h : c.toNat < 45 ∨ (45 < c.toNat ∧ c.toNat < 48) ∨ 57 < c.toNat) : c ∉ dec n := by
  intro hc
  by_cases h0 : n < 0
  · rw [dec_neg h0, List.mem_cons] at hc
    rcases hc with rfl | hc
    · have : (45 : UInt8).toNat = 45 := rfl
      omega
    · have := decN_dg _ c hc
      omega
  · rw [dec_pos (by omega)] at hc
    have := decN_dg _ c hc
    omega

theorem pcs_front {c : UInt8} {A B : List UInt8} (hA : c ∉ A) : ∀ k, k ≤ A.length → pcs c (A ++ c :: B) k = ([], 0) := by
  intro k
  induction k with
  | zero => intro _; rfl
  | succ k ih =>
    intro hk
    rw [pcs_succ, pstep, ih (by omega), if_neg]
    rw [List.getElem?_append_left (by omega)]
    exact fun e => hA (List.mem_of_getElem? e)

theorem pcs_behind {c : UInt8} {A B : List UInt8} (hA : c ∉ A) : ∀ k, pcs c (A ++ c :: B) (A.length + 1 + k) = (A :: (pcs c B k).1, A.length + 1 + (pcs c B k).2) := by
  intro k
  induction k with
  | zero =>
    rw [Nat.add_zero, pcs_succ, pcs_front hA _ (Nat.le_refl _), pstep, if_pos (by simp)]
    simp [pcs_zero]
  | succ k ih =>
    rw [show A.length + 1 + (k + 1) = A.length + 1 + k + 1 from by omega, pcs_succ, ih, pcs_succ]
    have he : (A ++ c :: B)[A.length + 1 + k]? = B[k]? := by
      rw [List.getElem?_append_right (by omega), show A.length + 1 + k - A.length = k + 1 from by omega, List.getElem?_cons_succ]
    unfold pstep
    rw [he]
    split
    · have hd : (A ++ c :: B).drop (A.length + 1 + (pcs c B k).2) = B.drop (pcs c B k).2 := by
        rw [List.drop_append]
        have h1 : A.drop (A.length + 1 + (pcs c B k).2) = [] := List.drop_eq_nil_of_le (by omega)
        rw [h1, List.nil_append, show A.length + 1 + (pcs c B k).2 - A.length = (pcs c B k).2 + 1 from by omega, List.drop_succ_cons]
      show (A :: (pcs c B k).1 ++ [((A ++ c :: B).drop (A.length + 1 + (pcs c B k).2)).take (A.length + 1 + k - (A.length + 1 + (pcs c B k).2))], A.length + 1 + k + 1) = (A :: ((pcs c B k).1 ++ [(B.drop (pcs c B k).2).take (k - (pcs c B k).2)]), A.length + 1 + (k + 1))
      rw [hd, show A.length + 1 + k - (A.length + 1 + (pcs c B k).2) = k - (pcs c B k).2 from by omega]
      rfl
    · rfl

theorem cut_cons {c : UInt8} {A : List UInt8} (hA : c ∉ A) (B : List UInt8) : cutF c (A ++ c :: B) = A :: cutF c B := by
  have hl : (A ++ c :: B).length = A.length + 1 + B.length := by simp; omega
  unfold cutF
  rw [hl, pcs_behind hA]
  have hd : (A ++ c :: B).drop (A.length + 1 + (pcs c B B.length).2) = B.drop (pcs c B B.length).2 := by
    rw [List.drop_append]
    have h1 : A.drop (A.length + 1 + (pcs c B B.length).2) = [] := List.drop_eq_nil_of_le (by omega)
    rw [h1, List.nil_append, show A.length + 1 + (pcs c B B.length).2 - A.length = (pcs c B B.length).2 + 1 from by omega, List.drop_succ_cons]
  show A :: (pcs c B B.length).1 ++ [(A ++ c :: B).drop (A.length + 1 + (pcs c B B.length).2)] = _
  rw [hd]
  rfl

theorem cut_one {c : UInt8} {A : List UInt8} (hA : c ∉ A) : cutF c A = [A] := by
  have hk : ∀ k, pcs c A k = ([], 0) := by
    intro k
    induction k with
    | zero => rfl
    | succ k ih => rw [pcs_succ, pstep, ih, if_neg (fun e => hA (List.mem_of_getElem? e))]
  rw [cutF, hk]
  simp

def joinC (c : UInt8) : List (List UInt8) → List UInt8
  | [] => []
  | [a] => a
  | a :: b :: l => a ++ c :: joinC c (b :: l)

theorem cut_join {c : UInt8} {rows : List (List UInt8)} (h0 : rows ≠ []) (h : ∀ r ∈ rows, c ∉ r) : cutF c (joinC c rows) = rows := by
  induction rows with
  | nil => exact absurd rfl h0
  | cons a l ih =>
    cases l with
    | nil => exact cut_one (h a (by simp))
    | cons b l =>
      show cutF c (a ++ c :: joinC c (b :: l)) = _
      rw [cut_cons (h a (by simp)), ih (by simp) (fun r hr => h r (by simp [hr]))]

end Go.Proofs.Ytebebcomhdjihaa

namespace Go.Proofs.Ytebebcomhdjihaa
open Go.RowKit
set_option linter.unusedVariables false

theorem IOwn.cellk {w : World} {base g n cap : Nat} {xs : List Int} (h : IOwn w base (.slice (some ⟨g, 0, none⟩) n cap) xs) {k : Nat} {x : Int} (hx : xs[k]? = some x) : w.cell? ⟨g, k, none⟩ = some (.int .i64 x) := by
  have := IRd.cellk h.rd hx
  rwa [Nat.zero_add] at this

theorem IOwn.frz {w : World} {base g n cap : Nat} {xs : List Int} (h : IOwn w base (.slice (some ⟨g, 0, none⟩) n cap) xs) (hn : xs.length = n) (k : Nat) : w.frozen? ⟨g, k, none⟩ = false := by
  subst hn
  unfold IOwn at h
  exact h.frozenAt k

theorem IOwn.set_ {w : World} {base g n cap : Nat} {xs : List Int} (h : IOwn w base (.slice (some ⟨g, 0, none⟩) n cap) xs) (hn : xs.length = n) (k : Nat) (x : Int) :
    IOwn (w.setCell ⟨g, k, none⟩ (.int .i64 x)) base (.slice (some ⟨g, 0, none⟩) n cap) (xs.set k x) ∧ w.grownBy (w.setCell ⟨g, k, none⟩ (.int .i64 x)) (some g) := by
  subst hn
  unfold IOwn at h ⊢
  obtain ⟨h1, h2⟩ := h.stored k (.int .i64 x)
  refine ⟨?_, h2⟩
  rw [List.length_set, List.map_set]
  exact h1

theorem IOwn.form {w : World} {base : Nat} {v : Value} {xs : List Int} (h : IOwn w base v xs) (hn : 0 < xs.length) : ∃ g cap, v = .slice (some ⟨g, 0, none⟩) xs.length cap ∧ xs.length ≤ cap ∧ cap ≤ 9223372036854775807 := by
  rcases h.2 with ⟨rfl, h0⟩ | ⟨g, cap, cur, rfl, -, -, h1, h2, -, -⟩
  · omega
  · exact ⟨g, cap, rfl, h1, by rw [maxLen_is] at h2; exact h2⟩

theorem grown_grown {w w1 w2 : World} {r : Option Nat} (h : w.grownBy w1 r) (k : w1.grownBy w2 r) : w.grownBy w2 r :=
  ⟨k.os.trans h.os, k.tape.trans h.tape, k.output.trans h.output, Nat.le_trans h.size k.size, fun i hi hne => (k.block i (by have := h.size; omega) hne).trans (h.block i hi hne)⟩

set_option maxHeartbeats 2000000 in
theorem l4First_any (w : World) (n g : Nat) (h1 : 1 ≤ n) (h4 : n ≤ 4) :
    Calls Try.prog 80 #[.int .i64 (n : Int), .int .i64 (g : Int)] w (NewInts (natL (firstL n g)) w) := by
  obtain ⟨i0, hi, hz0, hz1, hz2⟩ := info_parts Try_intinfo
  obtain rfl | rfl | rfl | rfl : n = 1 ∨ n = 2 ∨ n = 3 ∨ n = 4 := by omega
  · have hmk : ∀ w : World, (Instr.makeSlice 24 (.int .i64 1) (.int .i64 1)).run Try.prog w = .ok (.slice (some ⟨w.heap.size, 0, none⟩) 1 1) (w.alloc (.cells #[.int .i64 0] 3)) := by
      intro w
      have h := run_make (P := Try.prog) w 24 3 i0 (.int .i64 0) Try.underlying24 hi hz0 .i64 .i64 1 1 (by omega) (Int.le_refl _) (by rw [hz2]; omega) (by omega)
      rw [hz1] at h
      have e : madeCells (Value.int .i64 0).cells (Int.toNat 1 * 1) = #[.int .i64 0] := by kernel_rfl
      rw [e] at h
      exact h
    go_enter Try.func80, Try.ntmps80
    go_wp2
    go_ret
    refine ⟨_, rfl, ?_, by go_grown⟩
    exact World.ownsRow_lit w #[.int .i64 (g : Int)] 1 (Nat.le_refl _) (by unfold maxLen; omega) rfl
  · have hmk : ∀ w : World, (Instr.makeSlice 24 (.int .i64 2) (.int .i64 2)).run Try.prog w = .ok (.slice (some ⟨w.heap.size, 0, none⟩) 2 2) (w.alloc (.cells #[.int .i64 0, .int .i64 0] 3)) := by
      intro w
      have h := run_make (P := Try.prog) w 24 3 i0 (.int .i64 0) Try.underlying24 hi hz0 .i64 .i64 2 2 (by omega) (Int.le_refl _) (by rw [hz2]; omega) (by omega)
      rw [hz1] at h
      have e : madeCells (Value.int .i64 0).cells (Int.toNat 2 * 1) = #[.int .i64 0, .int .i64 0] := by kernel_rfl
      rw [e] at h
      exact h
    go_enter Try.func80, Try.ntmps80
    go_wp2
    go_ret
    refine ⟨_, rfl, ?_, by go_grown⟩
    exact World.ownsRow_lit w #[.int .i64 0, .int .i64 (g : Int)] 2 (Nat.le_refl _) (by unfold maxLen; omega) rfl
  · have hmk : ∀ w : World, (Instr.makeSlice 24 (.int .i64 3) (.int .i64 3)).run Try.prog w = .ok (.slice (some ⟨w.heap.size, 0, none⟩) 3 3) (w.alloc (.cells #[.int .i64 0, .int .i64 0, .int .i64 0] 3)) := by
      intro w
      have h := run_make (P := Try.prog) w 24 3 i0 (.int .i64 0) Try.underlying24 hi hz0 .i64 .i64 3 3 (by omega) (Int.le_refl _) (by rw [hz2]; omega) (by omega)
      rw [hz1] at h
      have e : madeCells (Value.int .i64 0).cells (Int.toNat 3 * 1) = #[.int .i64 0, .int .i64 0, .int .i64 0] := by kernel_rfl
      rw [e] at h
      exact h
    go_enter Try.func80, Try.ntmps80
    go_wp2
    go_ret
    refine ⟨_, rfl, ?_, by go_grown⟩
    exact World.ownsRow_lit w #[.int .i64 0, .int .i64 0, .int .i64 (g : Int)] 3 (Nat.le_refl _) (by unfold maxLen; omega) rfl
  · have hmk : ∀ w : World, (Instr.makeSlice 24 (.int .i64 4) (.int .i64 4)).run Try.prog w = .ok (.slice (some ⟨w.heap.size, 0, none⟩) 4 4) (w.alloc (.cells #[.int .i64 0, .int .i64 0, .int .i64 0, .int .i64 0] 3)) := by
      intro w
      have h := run_make (P := Try.prog) w 24 3 i0 (.int .i64 0) Try.underlying24 hi hz0 .i64 .i64 4 4 (by omega) (Int.le_refl _) (by rw [hz2]; omega) (by omega)
      rw [hz1] at h
      have e : madeCells (Value.int .i64 0).cells (Int.toNat 4 * 1) = #[.int .i64 0, .int .i64 0, .int .i64 0, .int .i64 0] := by kernel_rfl
      rw [e] at h
      exact h
    go_enter Try.func80, Try.ntmps80
    go_wp2
    go_ret
    refine ⟨_, rfl, ?_, by go_grown⟩
    exact World.ownsRow_lit w #[.int .i64 0, .int .i64 0, .int .i64 0, .int .i64 (g : Int)] 4 (Nat.le_refl _) (by unfold maxLen; omega) rfl

def StepPost (base : Nat) (v : Value) (l : List Nat) (w : World) (e : Ending) (w' : World) : Prop :=
  ∃ (t : Bool) (l' : List Nat), e = .returned (.bool t) ∧ stepL l = (if t = true then some l' else none) ∧ (t = false → l' = l) ∧ IOwn w' base v (natL l') ∧ w.grownBy w' v.ownBlock ∧ w'.heap.size = w.heap.size

theorem step_yes {base g n cap : Nat} {l l' : List Nat} {w w1 w2 w3 : World} {xs : List Int} (hs : stepL l = some l') (g1 : w.grownBy w1 (some g)) (g2 : w1.grownBy w2 (some g)) (g3 : w2.grownBy w3 (some g)) (o : IOwn w3 base (.slice (some ⟨g, 0, none⟩) n cap) xs) (hx : xs = natL l') (hz : w3.heap.size = w.heap.size) :
    StepPost base (.slice (some ⟨g, 0, none⟩) n cap) l w (.returned (.bool true)) w3 := by
  subst hx
  exact ⟨true, l', rfl, hs, (fun h => by cases h), o, grown_grown (grown_grown g1 g2) g3, hz⟩

theorem step_no {base : Nat} {v : Value} {l : List Nat} {w : World} (hs : stepL l = none) (o : IOwn w base v (natL l)) : StepPost base v l w (.returned (.bool false)) w :=
  ⟨false, l, rfl, hs, fun _ => rfl, o, World.grownBy.refl _ _, rfl⟩

set_option maxHeartbeats 2000000 in
theorem step_1_0 (w : World) (base : Nat) (v : Value) (a : Nat) (ha : a ≤ 36) (hv : IOwn w base v (natL [a])) :
    Calls Try.prog 81 #[v] w (StepPost base v [a] w) := by
  obtain ⟨g, cap, rfl, hc1, hc2⟩ := hv.form (by simp [natL])
  have hn : (natL [a]).length = 1 := rfl
  rw [hn] at hc1 ⊢
  rw [hn] at hv
  have hc3 : (1 : Int) ≤ (cap : Int) := by omega
  have k0 : w.cell? ⟨g, 0, none⟩ = some (.int .i64 ((a : Nat) : Int)) := hv.cellk rfl
  have f0 : w.frozen? ⟨g, 0, none⟩ = false := hv.frz rfl 0
  have HR := Lib.hid (step_no (l := [a]) (by simp [stepL]) hv)
  clear hv
  go_enter Try.func81, Try.ntmps81
  go_wp2_with fail
  go_rounds 6
  go_ret
  exact HR.out

set_option maxHeartbeats 2000000 in
theorem step_2_1 (w : World) (base : Nat) (v : Value) (a b : Nat) (ha : a ≤ 36) (hb : b ≤ 36) (hv : IOwn w base v (natL [a, b + 1])) :
    Calls Try.prog 81 #[v] w (StepPost base v [a, b + 1] w) := by
  obtain ⟨g, cap, rfl, hc1, hc2⟩ := hv.form (by simp [natL])
  have hn : (natL [a, b + 1]).length = 2 := rfl
  rw [hn] at hc1 ⊢
  rw [hn] at hv
  have hc3 : (2 : Int) ≤ (cap : Int) := by omega
  have k0 : w.cell? ⟨g, 0, none⟩ = some (.int .i64 ((a : Nat) : Int)) := hv.cellk rfl
  have f0 : w.frozen? ⟨g, 0, none⟩ = false := hv.frz rfl 0
  have k1 : w.cell? ⟨g, 1, none⟩ = some (.int .i64 ((b + 1 : Nat) : Int)) := hv.cellk rfl
  have f1 : w.frozen? ⟨g, 1, none⟩ = false := hv.frz rfl 1
  obtain ⟨o1, g1⟩ := hv.set_ rfl 1 0
  obtain ⟨o2, g2⟩ := o1.set_ rfl 0 ((a : Int) + 1)
  obtain ⟨o3, g3⟩ := o2.set_ rfl 1 (b : Int)
  have HR := Lib.hid (step_yes (l := [a, b + 1]) (l' := [a + 1, b]) (by simp [stepL, firstL]) g1 g2 g3 o3 (by simp [natL]) (by simp [World.setCell]))
  have hne : (((b + 1 : Nat) : Int) == 0) = false := by rw [beq_eq_false_iff_ne]; omega
  have hne2 : (((b : Int) + 1) == 0) = false := by rw [beq_eq_false_iff_ne]; omega
  clear o1 o2 o3 g1 g2 g3 hv
  go_enter Try.func81, Try.ntmps81
  go_wp2_with fail
  go_rounds 6
  go_ret
  have h := HR.out
  simpa using h

set_option maxHeartbeats 2000000 in
theorem step_2_0 (w : World) (base : Nat) (v : Value) (a : Nat) (ha : a ≤ 36) (hv : IOwn w base v (natL [a, 0])) :
    Calls Try.prog 81 #[v] w (StepPost base v [a, 0] w) := by
  obtain ⟨g, cap, rfl, hc1, hc2⟩ := hv.form (by simp [natL])
  have hn : (natL [a, 0]).length = 2 := rfl
  rw [hn] at hc1 ⊢
  rw [hn] at hv
  have hc3 : (2 : Int) ≤ (cap : Int) := by omega
  have k0 : w.cell? ⟨g, 0, none⟩ = some (.int .i64 ((a : Nat) : Int)) := hv.cellk rfl
  have f0 : w.frozen? ⟨g, 0, none⟩ = false := hv.frz rfl 0
  have k1 : w.cell? ⟨g, 1, none⟩ = some (.int .i64 0) := hv.cellk rfl
  have f1 : w.frozen? ⟨g, 1, none⟩ = false := hv.frz rfl 1
  have HR := Lib.hid (step_no (l := [a, 0]) (by simp [stepL]) hv)
  clear hv
  go_enter Try.func81, Try.ntmps81
  go_wp2_with fail
  go_rounds 6
  go_ret
  exact HR.out

set_option maxHeartbeats 2000000 in
theorem step_3_2 (w : World) (base : Nat) (v : Value) (a b c : Nat) (ha : a ≤ 36) (hb : b ≤ 36) (hc : c ≤ 36) (hv : IOwn w base v (natL [a, b, c + 1])) :
    Calls Try.prog 81 #[v] w (StepPost base v [a, b, c + 1] w) := by
  obtain ⟨g, cap, rfl, hc1, hc2⟩ := hv.form (by simp [natL])
  have hn : (natL [a, b, c + 1]).length = 3 := rfl
  rw [hn] at hc1 ⊢
  rw [hn] at hv
  have hc3 : (3 : Int) ≤ (cap : Int) := by omega
  have k0 : w.cell? ⟨g, 0, none⟩ = some (.int .i64 ((a : Nat) : Int)) := hv.cellk rfl
  have f0 : w.frozen? ⟨g, 0, none⟩ = false := hv.frz rfl 0
  have k1 : w.cell? ⟨g, 1, none⟩ = some (.int .i64 ((b : Nat) : Int)) := hv.cellk rfl
  have f1 : w.frozen? ⟨g, 1, none⟩ = false := hv.frz rfl 1
  have k2 : w.cell? ⟨g, 2, none⟩ = some (.int .i64 ((c + 1 : Nat) : Int)) := hv.cellk rfl
  have f2 : w.frozen? ⟨g, 2, none⟩ = false := hv.frz rfl 2
  obtain ⟨o1, g1⟩ := hv.set_ rfl 2 0
  obtain ⟨o2, g2⟩ := o1.set_ rfl 1 ((b : Int) + 1)
  obtain ⟨o3, g3⟩ := o2.set_ rfl 2 (c : Int)
  have HR := Lib.hid (step_yes (l := [a, b, c + 1]) (l' := [a, b + 1, c]) (by simp [stepL, firstL]) g1 g2 g3 o3 (by simp [natL]) (by simp [World.setCell]))
  have hne : (((c + 1 : Nat) : Int) == 0) = false := by rw [beq_eq_false_iff_ne]; omega
  have hne2 : (((c : Int) + 1) == 0) = false := by rw [beq_eq_false_iff_ne]; omega
  clear o1 o2 o3 g1 g2 g3 hv
  go_enter Try.func81, Try.ntmps81
  go_wp2_with fail
  go_rounds 6
  go_ret
  have h := HR.out
  simpa using h

set_option maxHeartbeats 2000000 in
theorem step_3_1 (w : World) (base : Nat) (v : Value) (a b : Nat) (ha : a ≤ 36) (hb : b ≤ 36) (hv : IOwn w base v (natL [a, b + 1, 0])) :
    Calls Try.prog 81 #[v] w (StepPost base v [a, b + 1, 0] w) := by
  obtain ⟨g, cap, rfl, hc1, hc2⟩ := hv.form (by simp [natL])
  have hn : (natL [a, b + 1, 0]).length = 3 := rfl
  rw [hn] at hc1 ⊢
  rw [hn] at hv
  have hc3 : (3 : Int) ≤ (cap : Int) := by omega
  have k0 : w.cell? ⟨g, 0, none⟩ = some (.int .i64 ((a : Nat) : Int)) := hv.cellk rfl
  have f0 : w.frozen? ⟨g, 0, none⟩ = false := hv.frz rfl 0
  have k1 : w.cell? ⟨g, 1, none⟩ = some (.int .i64 ((b + 1 : Nat) : Int)) := hv.cellk rfl
  have f1 : w.frozen? ⟨g, 1, none⟩ = false := hv.frz rfl 1
  have k2 : w.cell? ⟨g, 2, none⟩ = some (.int .i64 0) := hv.cellk rfl
  have f2 : w.frozen? ⟨g, 2, none⟩ = false := hv.frz rfl 2
  obtain ⟨o1, g1⟩ := hv.set_ rfl 1 0
  obtain ⟨o2, g2⟩ := o1.set_ rfl 0 ((a : Int) + 1)
  obtain ⟨o3, g3⟩ := o2.set_ rfl 2 (b : Int)
  have HR := Lib.hid (step_yes (l := [a, b + 1, 0]) (l' := [a + 1, 0, b]) (by simp [stepL, firstL]) g1 g2 g3 o3 (by simp [natL]) (by simp [World.setCell]))
  have hne : (((b + 1 : Nat) : Int) == 0) = false := by rw [beq_eq_false_iff_ne]; omega
  have hne2 : (((b : Int) + 1) == 0) = false := by rw [beq_eq_false_iff_ne]; omega
  clear o1 o2 o3 g1 g2 g3 hv
  go_enter Try.func81, Try.ntmps81
  go_wp2_with fail
  go_rounds 6
  go_ret
  have h := HR.out
  simpa using h

set_option maxHeartbeats 2000000 in
theorem step_3_0 (w : World) (base : Nat) (v : Value) (a : Nat) (ha : a ≤ 36) (hv : IOwn w base v (natL [a, 0, 0])) :
    Calls Try.prog 81 #[v] w (StepPost base v [a, 0, 0] w) := by
  obtain ⟨g, cap, rfl, hc1, hc2⟩ := hv.form (by simp [natL])
  have hn : (natL [a, 0, 0]).length = 3 := rfl
  rw [hn] at hc1 ⊢
  rw [hn] at hv
  have hc3 : (3 : Int) ≤ (cap : Int) := by omega
  have k0 : w.cell? ⟨g, 0, none⟩ = some (.int .i64 ((a : Nat) : Int)) := hv.cellk rfl
  have f0 : w.frozen? ⟨g, 0, none⟩ = false := hv.frz rfl 0
  have k1 : w.cell? ⟨g, 1, none⟩ = some (.int .i64 0) := hv.cellk rfl
  have f1 : w.frozen? ⟨g, 1, none⟩ = false := hv.frz rfl 1
  have k2 : w.cell? ⟨g, 2, none⟩ = some (.int .i64 0) := hv.cellk rfl
  have f2 : w.frozen? ⟨g, 2, none⟩ = false := hv.frz rfl 2
  have HR := Lib.hid (step_no (l := [a, 0, 0]) (by simp [stepL]) hv)
  clear hv
  go_enter Try.func81, Try.ntmps81
  go_wp2_with fail
  go_rounds 6
  go_ret
  exact HR.out

set_option maxHeartbeats 2000000 in
theorem step_4_3 (w : World) (base : Nat) (v : Value) (a b c d : Nat) (ha : a ≤ 36) (hb : b ≤ 36) (hc : c ≤ 36) (hd : d ≤ 36) (hv : IOwn w base v (natL [a, b, c, d + 1])) :
    Calls Try.prog 81 #[v] w (StepPost base v [a, b, c, d + 1] w) := by
  obtain ⟨g, cap, rfl, hc1, hc2⟩ := hv.form (by simp [natL])
  have hn : (natL [a, b, c, d + 1]).length = 4 := rfl
  rw [hn] at hc1 ⊢
  rw [hn] at hv
  have hc3 : (4 : Int) ≤ (cap : Int) := by omega
  have k0 : w.cell? ⟨g, 0, none⟩ = some (.int .i64 ((a : Nat) : Int)) := hv.cellk rfl
  have f0 : w.frozen? ⟨g, 0, none⟩ = false := hv.frz rfl 0
  have k1 : w.cell? ⟨g, 1, none⟩ = some (.int .i64 ((b : Nat) : Int)) := hv.cellk rfl
  have f1 : w.frozen? ⟨g, 1, none⟩ = false := hv.frz rfl 1
  have k2 : w.cell? ⟨g, 2, none⟩ = some (.int .i64 ((c : Nat) : Int)) := hv.cellk rfl
  have f2 : w.frozen? ⟨g, 2, none⟩ = false := hv.frz rfl 2
  have k3 : w.cell? ⟨g, 3, none⟩ = some (.int .i64 ((d + 1 : Nat) : Int)) := hv.cellk rfl
  have f3 : w.frozen? ⟨g, 3, none⟩ = false := hv.frz rfl 3
  obtain ⟨o1, g1⟩ := hv.set_ rfl 3 0
  obtain ⟨o2, g2⟩ := o1.set_ rfl 2 ((c : Int) + 1)
  obtain ⟨o3, g3⟩ := o2.set_ rfl 3 (d : Int)
  have HR := Lib.hid (step_yes (l := [a, b, c, d + 1]) (l' := [a, b, c + 1, d]) (by simp [stepL, firstL]) g1 g2 g3 o3 (by simp [natL]) (by simp [World.setCell]))
  have hne : (((d + 1 : Nat) : Int) == 0) = false := by rw [beq_eq_false_iff_ne]; omega
  have hne2 : (((d : Int) + 1) == 0) = false := by rw [beq_eq_false_iff_ne]; omega
  clear o1 o2 o3 g1 g2 g3 hv
  go_enter Try.func81, Try.ntmps81
  go_wp2_with fail
  go_rounds 6
  go_ret
  have h := HR.out
  simpa using h

set_option maxHeartbeats 2000000 in
theorem step_4_2 (w : World) (base : Nat) (v : Value) (a b c : Nat) (ha : a ≤ 36) (hb : b ≤ 36) (hc : c ≤ 36) (hv : IOwn w base v (natL [a, b, c + 1, 0])) :
    Calls Try.prog 81 #[v] w (StepPost base v [a, b, c + 1, 0] w) := by
  obtain ⟨g, cap, rfl, hc1, hc2⟩ := hv.form (by simp [natL])
  have hn : (natL [a, b, c + 1, 0]).length = 4 := rfl
  rw [hn] at hc1 ⊢
  rw [hn] at hv
  have hc3 : (4 : Int) ≤ (cap : Int) := by omega
  have k0 : w.cell? ⟨g, 0, none⟩ = some (.int .i64 ((a : Nat) : Int)) := hv.cellk rfl
  have f0 : w.frozen? ⟨g, 0, none⟩ = false := hv.frz rfl 0
  have k1 : w.cell? ⟨g, 1, none⟩ = some (.int .i64 ((b : Nat) : Int)) := hv.cellk rfl
  have f1 : w.frozen? ⟨g, 1, none⟩ = false := hv.frz rfl 1
  have k2 : w.cell? ⟨g, 2, none⟩ = some (.int .i64 ((c + 1 : Nat) : Int)) := hv.cellk rfl
  have f2 : w.frozen? ⟨g, 2, none⟩ = false := hv.frz rfl 2
  have k3 : w.cell? ⟨g, 3, none⟩ = some (.int .i64 0) := hv.cellk rfl
  have f3 : w.frozen? ⟨g, 3, none⟩ = false := hv.frz rfl 3
  obtain ⟨o1, g1⟩ := hv.set_ rfl 2 0
  obtain ⟨o2, g2⟩ := o1.set_ rfl 1 ((b : Int) + 1)
  obtain ⟨o3, g3⟩ := o2.set_ rfl 3 (c : Int)
  have HR := Lib.hid (step_yes (l := [a, b, c + 1, 0]) (l' := [a, b + 1, 0, c]) (by simp [stepL, firstL]) g1 g2 g3 o3 (by simp [natL]) (by simp [World.setCell]))
  have hne : (((c + 1 : Nat) : Int) == 0) = false := by rw [beq_eq_false_iff_ne]; omega
  have hne2 : (((c : Int) + 1) == 0) = false := by rw [beq_eq_false_iff_ne]; omega
  clear o1 o2 o3 g1 g2 g3 hv
  go_enter Try.func81, Try.ntmps81
  go_wp2_with fail
  go_rounds 6
  go_ret
  have h := HR.out
  simpa using h

set_option maxHeartbeats 2000000 in
theorem step_4_1 (w : World) (base : Nat) (v : Value) (a b : Nat) (ha : a ≤ 36) (hb : b ≤ 36) (hv : IOwn w base v (natL [a, b + 1, 0, 0])) :
    Calls Try.prog 81 #[v] w (StepPost base v [a, b + 1, 0, 0] w) := by
  obtain ⟨g, cap, rfl, hc1, hc2⟩ := hv.form (by simp [natL])
  have hn : (natL [a, b + 1, 0, 0]).length = 4 := rfl
  rw [hn] at hc1 ⊢
  rw [hn] at hv
  have hc3 : (4 : Int) ≤ (cap : Int) := by omega
  have k0 : w.cell? ⟨g, 0, none⟩ = some (.int .i64 ((a : Nat) : Int)) := hv.cellk rfl
  have f0 : w.frozen? ⟨g, 0, none⟩ = false := hv.frz rfl 0
  have k1 : w.cell? ⟨g, 1, none⟩ = some (.int .i64 ((b + 1 : Nat) : Int)) := hv.cellk rfl
  have f1 : w.frozen? ⟨g, 1, none⟩ = false := hv.frz rfl 1
  have k2 : w.cell? ⟨g, 2, none⟩ = some (.int .i64 0) := hv.cellk rfl
  have f2 : w.frozen? ⟨g, 2, none⟩ = false := hv.frz rfl 2
  have k3 : w.cell? ⟨g, 3, none⟩ = some (.int .i64 0) := hv.cellk rfl
  have f3 : w.frozen? ⟨g, 3, none⟩ = false := hv.frz rfl 3
  obtain ⟨o1, g1⟩ := hv.set_ rfl 1 0
  obtain ⟨o2, g2⟩ := o1.set_ rfl 0 ((a : Int) + 1)
  obtain ⟨o3, g3⟩ := o2.set_ rfl 3 (b : Int)
  have HR := Lib.hid (step_yes (l := [a, b + 1, 0, 0]) (l' := [a + 1, 0, 0, b]) (by simp [stepL, firstL]) g1 g2 g3 o3 (by simp [natL]) (by simp [World.setCell]))
  have hne : (((b + 1 : Nat) : Int) == 0) = false := by rw [beq_eq_false_iff_ne]; omega
  have hne2 : (((b : Int) + 1) == 0) = false := by rw [beq_eq_false_iff_ne]; omega
  clear o1 o2 o3 g1 g2 g3 hv
  go_enter Try.func81, Try.ntmps81
  go_wp2_with fail
  go_rounds 6
  go_ret
  have h := HR.out
  simpa using h

set_option maxHeartbeats 2000000 in
theorem step_4_0 (w : World) (base : Nat) (v : Value) (a : Nat) (ha : a ≤ 36) (hv : IOwn w base v (natL [a, 0, 0, 0])) :
    Calls Try.prog 81 #[v] w (StepPost base v [a, 0, 0, 0] w) := by
  obtain ⟨g, cap, rfl, hc1, hc2⟩ := hv.form (by simp [natL])
  have hn : (natL [a, 0, 0, 0]).length = 4 := rfl
  rw [hn] at hc1 ⊢
  rw [hn] at hv
  have hc3 : (4 : Int) ≤ (cap : Int) := by omega
  have k0 : w.cell? ⟨g, 0, none⟩ = some (.int .i64 ((a : Nat) : Int)) := hv.cellk rfl
  have f0 : w.frozen? ⟨g, 0, none⟩ = false := hv.frz rfl 0
  have k1 : w.cell? ⟨g, 1, none⟩ = some (.int .i64 0) := hv.cellk rfl
  have f1 : w.frozen? ⟨g, 1, none⟩ = false := hv.frz rfl 1
  have k2 : w.cell? ⟨g, 2, none⟩ = some (.int .i64 0) := hv.cellk rfl
  have f2 : w.frozen? ⟨g, 2, none⟩ = false := hv.frz rfl 2
  have k3 : w.cell? ⟨g, 3, none⟩ = some (.int .i64 0) := hv.cellk rfl
  have f3 : w.frozen? ⟨g, 3, none⟩ = false := hv.frz rfl 3
  have HR := Lib.hid (step_no (l := [a, 0, 0, 0]) (by simp [stepL]) hv)
  clear hv
  go_enter Try.func81, Try.ntmps81
  go_wp2_with fail
  go_rounds 6
  go_ret
  exact HR.out

end Go.Proofs.Ytebebcomhdjihaa

namespace Go.Proofs.Ytebebcomhdjihaa
open Go.RowKit
set_option linter.unusedVariables false

theorem l4Step_any (w : World) (base : Nat) (v : Value) (l : List Nat) (h1 : 1 ≤ l.length) (h4 : l.length ≤ 4) (hs : l.sum ≤ 36) (hv : IOwn w base v (natL l)) :
    Calls Try.prog 81 #[v] w (StepPost base v l w) := by
  match l, h1, h4, hs, hv with
  | [a], h1, h4, hs, hv =>
    simp only [List.sum_cons, List.sum_nil] at hs
    exact step_1_0 w base v a (by omega) hv
  | [a, b], h1, h4, hs, hv =>
    simp only [List.sum_cons, List.sum_nil] at hs
    cases b with
    | zero =>
      exact step_2_0 w base v a (by omega) hv
    | succ b => exact step_2_1 w base v a b (by omega) (by omega) hv
  | [a, b, c], h1, h4, hs, hv =>
    simp only [List.sum_cons, List.sum_nil] at hs
    cases c with
    | zero =>
      cases b with
      | zero =>
        exact step_3_0 w base v a (by omega) hv
      | succ b => exact step_3_1 w base v a b (by omega) (by omega) hv
    | succ c => exact step_3_2 w base v a b c (by omega) (by omega) (by omega) hv
  | [a, b, c, d], h1, h4, hs, hv =>
    simp only [List.sum_cons, List.sum_nil] at hs
    cases d with
    | zero =>
      cases c with
      | zero =>
        cases b with
        | zero =>
          exact step_4_0 w base v a (by omega) hv
        | succ b => exact step_4_1 w base v a b (by omega) (by omega) hv
      | succ c => exact step_4_2 w base v a b c (by omega) (by omega) (by omega) hv
    | succ d => exact step_4_3 w base v a b c d (by omega) (by omega) (by omega) (by omega) hv

def WkRel (B : World) (n g : Nat) (v : Value) (d : Nat) (t : Bool) (wr : World) : Prop :=
  Below B.heap.size B wr ∧ ∃ l, IOwn wr B.heap.size v (natL l) ∧ (t = true → (lay n g)[d]? = some l) ∧ (t = false → (lay n g).length = d)

theorem lay_facts {n g d : Nat} {l : List Nat} (h1 : 1 ≤ n) (h : (lay n g)[d]? = some l) : l.length = n ∧ l.sum = g := by
  obtain ⟨k, rfl⟩ : ∃ k, n = k + 1 := ⟨n - 1, by omega⟩
  exact (mem_lay k g l).1 (List.mem_of_getElem? h)

theorem WkRel.keep {B wr w' : World} {n g d : Nat} {v : Value} {t : Bool} (h : WkRel B n g v d t wr) (hb : Below wr.heap.size wr w') : WkRel B n g v d t w' := by
  obtain ⟨h1, l, h2, h3, h4⟩ := h
  exact ⟨below_step h1 hb h1.size, l, h2.keep (SameAt.of_below hb), h3, h4⟩

theorem WkRel.start {B w' : World} {n g : Nat} {v : Value} (h1 : 1 ≤ n) (o : IOwn w' B.heap.size v (natL (firstL n g))) (hb : Below B.heap.size B w') : WkRel B n g v 0 true w' := by
  obtain ⟨k, rfl⟩ : ∃ k, n = k + 1 := ⟨n - 1, by omega⟩
  exact ⟨hb, _, o, fun _ => lay_first k g, fun h => by cases h⟩

theorem WkRel.step {B wr w' : World} {n g d : Nat} {v : Value} {l : List Nat} {e : Ending} (h1 : 1 ≤ n) (h4 : n ≤ 4) (hg : g = 36 ∨ g = 18 ∨ g = 12 ∨ g = 6) (hb : Below B.heap.size B wr) (hd : (lay n g)[d]? = some l)
    (h : StepPost B.heap.size v l wr e w') : ∃ t, e = .returned (.bool t) ∧ WkRel B n g v (d + 1) t w' := by
  obtain ⟨t, l', rfl, hs, -, o, hgr, hz⟩ := h
  have hc := chain_at (chain_of h1 h4 hg) hd
  have hlt : d < (lay n g).length := (List.getElem?_eq_some_iff.1 hd).1
  refine ⟨t, rfl, hb.grown hgr hb.size (fun k hk => (o.ge k hk).1), l', o, fun ht => ?_, fun ht => ?_⟩
  · subst ht; rw [← hc]; exact hs
  · subst ht
    have : (lay n g)[d + 1]? = none := by rw [← hc]; exact hs
    have := List.getElem?_eq_none_iff.1 this
    omega

def firstB (n : Int) (qs : List Qt) : Bool := bokB n qs && (firstFit n.toNat qs).isSome

def firstR (n : Int) (qs : List Qt) : List Int := if bokB n qs = true then ((firstFit n.toNat qs).map natL).getD [] else []

theorem first_no {n : Int} {qs : List Qt} (h : bokB n qs = false) : firstB n qs = false ∧ firstR n qs = [] := by
  constructor
  · rw [firstB, h]; rfl
  · rw [firstR, h]; rfl

end Go.Proofs.Ytebebcomhdjihaa

namespace Go.Proofs.Ytebebcomhdjihaa
open Go.RowKit
set_option linter.unusedVariables false

end Go.Proofs.Ytebebcomhdjihaa

namespace Go.Proofs.Ytebebcomhdjihaa
open Go.RowKit
set_option linter.unusedVariables false

def unitFit (u : Int) (c : List Nat) (qs : List Qt) : Bool := qs.all fun q => onI (natL c) q.1 * u * 6 == q.2 * 36

theorem unit_step {u : Int} {c : List Nat} {qs : List Qt} {k : Nat} {q : Qt} (hx : qs[k]? = some q) : unitFit u c (qs.take (k + 1)) = (unitFit u c (qs.take k) && (onI (natL c) q.1 * u * 6 == q.2 * 36)) := by
  rw [unitFit, unitFit, List.take_add_one, hx]
  simp

theorem unit_any_at {n u d : Nat} {qs : List Qt} {l : List Nat} (hd : (lay n (36 / u))[d]? = some l) (h : unitFit u l qs = true) : anyUnit n u qs = true := by
  rw [anyUnit, List.any_eq_true]; exact ⟨l, List.mem_of_getElem? hd, h⟩

theorem unit_any_none {n u : Nat} {qs : List Qt} (h : ∀ j, j < (lay n (36 / u)).length → ∀ x, (lay n (36 / u))[j]? = some x → unitFit u x qs = false) : anyUnit n u qs = false := by
  rw [← Bool.not_eq_true, anyUnit, List.any_eq_true]
  rintro ⟨x, hx, hf⟩
  obtain ⟨j, hj, e⟩ := List.getElem_of_mem hx
  have := h j hj x (by rw [← e]; exact List.getElem?_eq_getElem hj)
  rw [unitFit] at this
  rw [this] at hf; cases hf

theorem lay_grs {n g d : Nat} {l : List Nat} (h1 : 1 ≤ n) (h4 : n ≤ 4) (hg : g ≤ 36) (h : (lay n g)[d]? = some l) : Grs (natL l) := by
  obtain ⟨a, b⟩ := lay_facts h1 h
  refine ⟨fun x hx => ?_, by rw [natL_len]; omega⟩
  obtain ⟨y, hy, rfl⟩ := List.mem_map.1 hx
  have h2 : y ≤ l.sum := by
    clear hx a b h
    induction l with
    | nil => simp at hy
    | cons z l ih =>
      rcases List.mem_cons.1 hy with rfl | h3
      · simp
      · have := ih h3; simp; omega
  constructor
  · exact Int.natCast_nonneg _
  · show (y : Int) ≤ 36
    omega

set_option maxHeartbeats 8000000 in
theorem l4Units_6 (w : World) (n : Nat) (v : Value) (qs : List Qt) (hv : QRd w v qs) (hq : Qts qs) (h1 : 1 ≤ n) (h4 : n ≤ 4) :
    Calls Try.prog 67 #[.int .i64 (n : Int), .int .i64 6, v] w (BoolPost (anyUnit n 6 qs) w) := by
  obtain ⟨A, c, rfl, hl, hmx⟩ := hv.form
  have HV := Lib.hid hv
  have HQ := Lib.hid hq
  clear hv hq
  go_enter Try.func67, Try.ntmps67
  go_wp2_with fail
  refine (l4First_any w n 6 h1 h4).mono ?_
  rintro r w3 ⟨u, rfl, o3, b3⟩
  have H0 := Lib.hid (WkRel.start h1 o3 b3)
  clear o3 b3
  obtain ⟨L, hL⟩ : ∃ L, (lay n 6).length = L := ⟨_, rfl⟩
  have HL := Lib.hid hL
  clear hL
  go_wp2_with fail
  go_loopg [8] (L + 1) (fun gk s wr => ∃ (d : Nat) (t : Bool), gk = L + 1 - d ∧ d ≤ L ∧ s = .bool t ∧ Hid (WkRel w n 6 u d t wr) ∧ Hid (∀ j, j < d → ∀ x, (lay n 6)[j]? = some x → unitFit 6 x qs = false))
  case atStart => exact ⟨0, true, by omega, Nat.zero_le _, rfl, H0, Lib.hid (fun j hj => absurd hj (Nat.not_lt_zero _))⟩
  case round =>
    obtain ⟨d, t, hgk, hd, rfl, HW, HN⟩ := hrel
    clear H0
    cases t
    · have HF : Hid (anyUnit n 6 qs = false) := Lib.hid (unit_any_none (u := 6) (by have h1 := HN.out; obtain ⟨-, l, -, -, h2⟩ := HW.out; show ∀ j, j < (lay n 6).length → _; rw [h2 rfl]; exact h1))
      go_wp2_with fail
      go_ret
      exact ⟨ret_bool HF.out.symm, HW.out.1⟩
    · obtain ⟨-, l, ol, hl, -⟩ := id HW.out
      have hl := hl rfl
      have HLL := Lib.hid hl
      have hdL : d < L := by rw [← HL.out]; exact (List.getElem?_eq_some_iff.1 hl).1
      obtain ⟨hf1, hf2⟩ := lay_facts h1 hl
      have HOL := Lib.hid ol
      have HG : Hid (Grs (natL l)) := Lib.hid (lay_grs h1 h4 (by omega) hl)
      clear hl ol
      go_wp2_with fail
      go_loopw [9, 10] (fun f i wq => ∃ (k : Nat) (b : Bool), i = .int .i64 (k : Int) ∧ k ≤ qs.length ∧ f = .bool b ∧ Hid (b = unitFit 6 l (qs.take k)) ∧ Hid (WkRel w n 6 u d true wq) ∧ Hid (IOwn wq w.heap.size u (natL l))) (fun _ i _ => qs.length - (intOf i).toNat)
      case atStart => exact ⟨0, true, rfl, Nat.zero_le _, rfl, Lib.hid (by simp [unitFit]), HW, HOL⟩
      case round =>
        obtain ⟨k, b, rfl, hk, rfl, HB, HW, HOL⟩ := hrel
        by_cases hlt : k < qs.length
        · have hk0 : (0 : Int) ≤ (k : Int) := by omega
          have hk1 : (k : Int) < (qs.length : Int) := by omega
          obtain ⟨B, off, ⟨e, p⟩, rfl, -, hx, hc0, hc1⟩ := QRd.at_ (HV.out.keep (SameAt.of_below HW.out.1)) hlt
          obtain ⟨⟨e1, e2⟩, p1, p2⟩ := HQ.out _ (List.mem_of_getElem? hx)
          have e1 : 0 ≤ e := e1
          have e2 : e ≤ 15 := e2
          have p1 : 0 ≤ p := p1
          have p2 : p ≤ 6 := p2
          have HX := Lib.hid hx
          have HUS : Hid (unitFit 6 l (qs.take (k + 1)) = (unitFit 6 l (qs.take k) && (onI (natL l) e * 6 * 6 == p * 36))) := Lib.hid (unit_step hx)
          clear hx
          cases b
          · go_wp2_with fail
            go_region
            all_goals
              go_wp2_with fail
              go_roundw
              case rel => exact ⟨k + 1, false, by go_num, by omega, rfl, Lib.hid (by rw [HUS.out, ← HB.out]; rfl), Lib.hid (HW.out.keep ((Below.refl _ _).drew)), Lib.hid (HOL.out.keep (SameAt.of_below ((Below.refl _ _).drew)))⟩
              case measure => simp [intOf]; omega
          · obtain ⟨N, hN⟩ : ∃ N, onI (natL l) e = N := ⟨_, rfl⟩
            obtain ⟨n1, n2⟩ : 0 ≤ N ∧ N ≤ 144 := by
              have := grs_on HG.out e (natL l).length
              rw [List.take_length, hN] at this
              exact this
            have HNN := Lib.hid hN
            rw [hN] at HUS
            clear hN
            have HVW := Lib.hid (HOL.out.rd)
            have hw1 : IntKind.i64.wrap (N * 6) = N * 6 := IntWalk.i64_in _ (by omega)
            have hw2 : IntKind.i64.wrap (N * 6 * 6) = N * 6 * 6 := IntWalk.i64_in _ (by omega)
            have hw36 : IntKind.i64.wrap (p * 36) = p * 36 := IntWalk.i64_in _ (by omega)
            obtain ⟨tt, htt⟩ : ∃ tt, (N * 6 * 6 == p * 36) = tt := ⟨_, rfl⟩
            rw [htt] at HUS
            have ht3 : (IntKind.i64.wrap (IntKind.i64.wrap (N * 6) * 6) == IntKind.i64.wrap (p * 36)) = tt := by rw [hw1, hw2, hw36]; exact htt
            have HWD := Lib.hid (HW.out.keep ((Below.refl _ _).drew))
            have HOD := Lib.hid (HOL.out.keep (SameAt.of_below ((Below.refl _ _).drew)))
            go_wp2_with fail
            go_region_held3 (fun w' => w'.cell? ⟨B, off + k * 2, none⟩ = some (.int .i64 e) ∧ w'.cell? ⟨B, off + k * 2 + 1, none⟩ = some (.int .i64 p)) (first | exact QRd.cell (HV.out.keep (SameAt.of_below HW3.out.1)) HX.out | exact QRd.cell (w := wr) (HV.out.keep (SameAt.of_below HW.out.1)) HX.out) (first
              | (go_at_call 82; refine (l4On_any wr.drew _ (natL l) e HVW.out HG.out e1 e2).mono ?_; rintro r w3 ⟨rfl, b3⟩; rw [HNN.out]; have HW3 := Lib.hid (HWD.out.keep b3); have HO3 := Lib.hid (HOD.out.keep (SameAt.of_below b3)); clear b3))
            all_goals
              go_wp2_with fail
              go_roundw
              case rel => exact ⟨k + 1, tt, by go_num, by omega, rfl, Lib.hid (by rw [HUS.out, ← HB.out]; rfl), HW3, HO3⟩
              case measure => simp [intOf]; omega
        · have HBB : Hid (b = unitFit 6 l qs) := Lib.hid (by have := HB.out; rwa [List.take_of_length_le (by omega)] at this)
          cases b
          · go_wp2_with fail
            refine (l4Step_any wr w.heap.size u l (by omega) (by omega) (by omega) HOL.out).mono ?_
            intro r w6 hstep
            obtain ⟨t', rfl, hW6⟩ := WkRel.step h1 h4 (.inr (.inr (.inr rfl))) HW.out.1 HLL.out hstep
            have HW6 := Lib.hid hW6
            clear hW6 hstep
            go_wp2_with fail
            go_roundg (L + 1 - (d + 1))
            case measure => omega
            case rel => exact ⟨d + 1, t', by omega, by omega, rfl, HW6, Lib.hid (fun j hj x hx => by
              rcases Nat.lt_succ_iff_lt_or_eq.1 hj with h1 | h1
              · exact HN.out j h1 x hx
              · subst h1
                rw [HLL.out] at hx
                obtain rfl := Option.some.inj hx
                exact HBB.out.symm)⟩
          · have HF : Hid (anyUnit n 6 qs = true) := Lib.hid (unit_any_at (u := 6) HLL.out HBB.out.symm)
            go_wp2_with fail
            go_ret
            exact ⟨ret_bool HF.out.symm, HW.out.1⟩

set_option maxHeartbeats 8000000 in
theorem l4Units_3 (w : World) (n : Nat) (v : Value) (qs : List Qt) (hv : QRd w v qs) (hq : Qts qs) (h1 : 1 ≤ n) (h4 : n ≤ 4) :
    Calls Try.prog 67 #[.int .i64 (n : Int), .int .i64 3, v] w (BoolPost (anyUnit n 3 qs) w) := by
  obtain ⟨A, c, rfl, hl, hmx⟩ := hv.form
  have HV := Lib.hid hv
  have HQ := Lib.hid hq
  clear hv hq
  go_enter Try.func67, Try.ntmps67
  go_wp2_with fail
  refine (l4First_any w n 12 h1 h4).mono ?_
  rintro r w3 ⟨u, rfl, o3, b3⟩
  have H0 := Lib.hid (WkRel.start h1 o3 b3)
  clear o3 b3
  obtain ⟨L, hL⟩ : ∃ L, (lay n 12).length = L := ⟨_, rfl⟩
  have HL := Lib.hid hL
  clear hL
  go_wp2_with fail
  go_loopg [8] (L + 1) (fun gk s wr => ∃ (d : Nat) (t : Bool), gk = L + 1 - d ∧ d ≤ L ∧ s = .bool t ∧ Hid (WkRel w n 12 u d t wr) ∧ Hid (∀ j, j < d → ∀ x, (lay n 12)[j]? = some x → unitFit 3 x qs = false))
  case atStart => exact ⟨0, true, by omega, Nat.zero_le _, rfl, H0, Lib.hid (fun j hj => absurd hj (Nat.not_lt_zero _))⟩
  case round =>
    obtain ⟨d, t, hgk, hd, rfl, HW, HN⟩ := hrel
    clear H0
    cases t
    · have HF : Hid (anyUnit n 3 qs = false) := Lib.hid (unit_any_none (u := 3) (by have h1 := HN.out; obtain ⟨-, l, -, -, h2⟩ := HW.out; show ∀ j, j < (lay n 12).length → _; rw [h2 rfl]; exact h1))
      go_wp2_with fail
      go_ret
      exact ⟨ret_bool HF.out.symm, HW.out.1⟩
    · obtain ⟨-, l, ol, hl, -⟩ := id HW.out
      have hl := hl rfl
      have HLL := Lib.hid hl
      have hdL : d < L := by rw [← HL.out]; exact (List.getElem?_eq_some_iff.1 hl).1
      obtain ⟨hf1, hf2⟩ := lay_facts h1 hl
      have HOL := Lib.hid ol
      have HG : Hid (Grs (natL l)) := Lib.hid (lay_grs h1 h4 (by omega) hl)
      clear hl ol
      go_wp2_with fail
      go_loopw [9, 10] (fun f i wq => ∃ (k : Nat) (b : Bool), i = .int .i64 (k : Int) ∧ k ≤ qs.length ∧ f = .bool b ∧ Hid (b = unitFit 3 l (qs.take k)) ∧ Hid (WkRel w n 12 u d true wq) ∧ Hid (IOwn wq w.heap.size u (natL l))) (fun _ i _ => qs.length - (intOf i).toNat)
      case atStart => exact ⟨0, true, rfl, Nat.zero_le _, rfl, Lib.hid (by simp [unitFit]), HW, HOL⟩
      case round =>
        obtain ⟨k, b, rfl, hk, rfl, HB, HW, HOL⟩ := hrel
        by_cases hlt : k < qs.length
        · have hk0 : (0 : Int) ≤ (k : Int) := by omega
          have hk1 : (k : Int) < (qs.length : Int) := by omega
          obtain ⟨B, off, ⟨e, p⟩, rfl, -, hx, hc0, hc1⟩ := QRd.at_ (HV.out.keep (SameAt.of_below HW.out.1)) hlt
          obtain ⟨⟨e1, e2⟩, p1, p2⟩ := HQ.out _ (List.mem_of_getElem? hx)
          have e1 : 0 ≤ e := e1
          have e2 : e ≤ 15 := e2
          have p1 : 0 ≤ p := p1
          have p2 : p ≤ 6 := p2
          have HX := Lib.hid hx
          have HUS : Hid (unitFit 3 l (qs.take (k + 1)) = (unitFit 3 l (qs.take k) && (onI (natL l) e * 3 * 6 == p * 36))) := Lib.hid (unit_step hx)
          clear hx
          cases b
          · go_wp2_with fail
            go_region
            all_goals
              go_wp2_with fail
              go_roundw
              case rel => exact ⟨k + 1, false, by go_num, by omega, rfl, Lib.hid (by rw [HUS.out, ← HB.out]; rfl), Lib.hid (HW.out.keep ((Below.refl _ _).drew)), Lib.hid (HOL.out.keep (SameAt.of_below ((Below.refl _ _).drew)))⟩
              case measure => simp [intOf]; omega
          · obtain ⟨N, hN⟩ : ∃ N, onI (natL l) e = N := ⟨_, rfl⟩
            obtain ⟨n1, n2⟩ : 0 ≤ N ∧ N ≤ 144 := by
              have := grs_on HG.out e (natL l).length
              rw [List.take_length, hN] at this
              exact this
            have HNN := Lib.hid hN
            rw [hN] at HUS
            clear hN
            have HVW := Lib.hid (HOL.out.rd)
            have hw1 : IntKind.i64.wrap (N * 3) = N * 3 := IntWalk.i64_in _ (by omega)
            have hw2 : IntKind.i64.wrap (N * 3 * 6) = N * 3 * 6 := IntWalk.i64_in _ (by omega)
            have hw36 : IntKind.i64.wrap (p * 36) = p * 36 := IntWalk.i64_in _ (by omega)
            obtain ⟨tt, htt⟩ : ∃ tt, (N * 3 * 6 == p * 36) = tt := ⟨_, rfl⟩
            rw [htt] at HUS
            have ht3 : (IntKind.i64.wrap (IntKind.i64.wrap (N * 3) * 6) == IntKind.i64.wrap (p * 36)) = tt := by rw [hw1, hw2, hw36]; exact htt
            have HWD := Lib.hid (HW.out.keep ((Below.refl _ _).drew))
            have HOD := Lib.hid (HOL.out.keep (SameAt.of_below ((Below.refl _ _).drew)))
            go_wp2_with fail
            go_region_held3 (fun w' => w'.cell? ⟨B, off + k * 2, none⟩ = some (.int .i64 e) ∧ w'.cell? ⟨B, off + k * 2 + 1, none⟩ = some (.int .i64 p)) (first | exact QRd.cell (HV.out.keep (SameAt.of_below HW3.out.1)) HX.out | exact QRd.cell (w := wr) (HV.out.keep (SameAt.of_below HW.out.1)) HX.out) (first
              | (go_at_call 82; refine (l4On_any wr.drew _ (natL l) e HVW.out HG.out e1 e2).mono ?_; rintro r w3 ⟨rfl, b3⟩; rw [HNN.out]; have HW3 := Lib.hid (HWD.out.keep b3); have HO3 := Lib.hid (HOD.out.keep (SameAt.of_below b3)); clear b3))
            all_goals
              go_wp2_with fail
              go_roundw
              case rel => exact ⟨k + 1, tt, by go_num, by omega, rfl, Lib.hid (by rw [HUS.out, ← HB.out]; rfl), HW3, HO3⟩
              case measure => simp [intOf]; omega
        · have HBB : Hid (b = unitFit 3 l qs) := Lib.hid (by have := HB.out; rwa [List.take_of_length_le (by omega)] at this)
          cases b
          · go_wp2_with fail
            refine (l4Step_any wr w.heap.size u l (by omega) (by omega) (by omega) HOL.out).mono ?_
            intro r w6 hstep
            obtain ⟨t', rfl, hW6⟩ := WkRel.step h1 h4 (.inr (.inr (.inl rfl))) HW.out.1 HLL.out hstep
            have HW6 := Lib.hid hW6
            clear hW6 hstep
            go_wp2_with fail
            go_roundg (L + 1 - (d + 1))
            case measure => omega
            case rel => exact ⟨d + 1, t', by omega, by omega, rfl, HW6, Lib.hid (fun j hj x hx => by
              rcases Nat.lt_succ_iff_lt_or_eq.1 hj with h1 | h1
              · exact HN.out j h1 x hx
              · subst h1
                rw [HLL.out] at hx
                obtain rfl := Option.some.inj hx
                exact HBB.out.symm)⟩
          · have HF : Hid (anyUnit n 3 qs = true) := Lib.hid (unit_any_at (u := 3) HLL.out HBB.out.symm)
            go_wp2_with fail
            go_ret
            exact ⟨ret_bool HF.out.symm, HW.out.1⟩

set_option maxHeartbeats 8000000 in
theorem l4Units_2 (w : World) (n : Nat) (v : Value) (qs : List Qt) (hv : QRd w v qs) (hq : Qts qs) (h1 : 1 ≤ n) (h4 : n ≤ 4) :
    Calls Try.prog 67 #[.int .i64 (n : Int), .int .i64 2, v] w (BoolPost (anyUnit n 2 qs) w) := by
  obtain ⟨A, c, rfl, hl, hmx⟩ := hv.form
  have HV := Lib.hid hv
  have HQ := Lib.hid hq
  clear hv hq
  go_enter Try.func67, Try.ntmps67
  go_wp2_with fail
  refine (l4First_any w n 18 h1 h4).mono ?_
  rintro r w3 ⟨u, rfl, o3, b3⟩
  have H0 := Lib.hid (WkRel.start h1 o3 b3)
  clear o3 b3
  obtain ⟨L, hL⟩ : ∃ L, (lay n 18).length = L := ⟨_, rfl⟩
  have HL := Lib.hid hL
  clear hL
  go_wp2_with fail
  go_loopg [8] (L + 1) (fun gk s wr => ∃ (d : Nat) (t : Bool), gk = L + 1 - d ∧ d ≤ L ∧ s = .bool t ∧ Hid (WkRel w n 18 u d t wr) ∧ Hid (∀ j, j < d → ∀ x, (lay n 18)[j]? = some x → unitFit 2 x qs = false))
  case atStart => exact ⟨0, true, by omega, Nat.zero_le _, rfl, H0, Lib.hid (fun j hj => absurd hj (Nat.not_lt_zero _))⟩
  case round =>
    obtain ⟨d, t, hgk, hd, rfl, HW, HN⟩ := hrel
    clear H0
    cases t
    · have HF : Hid (anyUnit n 2 qs = false) := Lib.hid (unit_any_none (u := 2) (by have h1 := HN.out; obtain ⟨-, l, -, -, h2⟩ := HW.out; show ∀ j, j < (lay n 18).length → _; rw [h2 rfl]; exact h1))
      go_wp2_with fail
      go_ret
      exact ⟨ret_bool HF.out.symm, HW.out.1⟩
    · obtain ⟨-, l, ol, hl, -⟩ := id HW.out
      have hl := hl rfl
      have HLL := Lib.hid hl
      have hdL : d < L := by rw [← HL.out]; exact (List.getElem?_eq_some_iff.1 hl).1
      obtain ⟨hf1, hf2⟩ := lay_facts h1 hl
      have HOL := Lib.hid ol
      have HG : Hid (Grs (natL l)) := Lib.hid (lay_grs h1 h4 (by omega) hl)
      clear hl ol
      go_wp2_with fail
      go_loopw [9, 10] (fun f i wq => ∃ (k : Nat) (b : Bool), i = .int .i64 (k : Int) ∧ k ≤ qs.length ∧ f = .bool b ∧ Hid (b = unitFit 2 l (qs.take k)) ∧ Hid (WkRel w n 18 u d true wq) ∧ Hid (IOwn wq w.heap.size u (natL l))) (fun _ i _ => qs.length - (intOf i).toNat)
      case atStart => exact ⟨0, true, rfl, Nat.zero_le _, rfl, Lib.hid (by simp [unitFit]), HW, HOL⟩
      case round =>
        obtain ⟨k, b, rfl, hk, rfl, HB, HW, HOL⟩ := hrel
        by_cases hlt : k < qs.length
        · have hk0 : (0 : Int) ≤ (k : Int) := by omega
          have hk1 : (k : Int) < (qs.length : Int) := by omega
          obtain ⟨B, off, ⟨e, p⟩, rfl, -, hx, hc0, hc1⟩ := QRd.at_ (HV.out.keep (SameAt.of_below HW.out.1)) hlt
          obtain ⟨⟨e1, e2⟩, p1, p2⟩ := HQ.out _ (List.mem_of_getElem? hx)
          have e1 : 0 ≤ e := e1
          have e2 : e ≤ 15 := e2
          have p1 : 0 ≤ p := p1
          have p2 : p ≤ 6 := p2
          have HX := Lib.hid hx
          have HUS : Hid (unitFit 2 l (qs.take (k + 1)) = (unitFit 2 l (qs.take k) && (onI (natL l) e * 2 * 6 == p * 36))) := Lib.hid (unit_step hx)
          clear hx
          cases b
          · go_wp2_with fail
            go_region
            all_goals
              go_wp2_with fail
              go_roundw
              case rel => exact ⟨k + 1, false, by go_num, by omega, rfl, Lib.hid (by rw [HUS.out, ← HB.out]; rfl), Lib.hid (HW.out.keep ((Below.refl _ _).drew)), Lib.hid (HOL.out.keep (SameAt.of_below ((Below.refl _ _).drew)))⟩
              case measure => simp [intOf]; omega
          · obtain ⟨N, hN⟩ : ∃ N, onI (natL l) e = N := ⟨_, rfl⟩
            obtain ⟨n1, n2⟩ : 0 ≤ N ∧ N ≤ 144 := by
              have := grs_on HG.out e (natL l).length
              rw [List.take_length, hN] at this
              exact this
            have HNN := Lib.hid hN
            rw [hN] at HUS
            clear hN
            have HVW := Lib.hid (HOL.out.rd)
            have hw1 : IntKind.i64.wrap (N * 2) = N * 2 := IntWalk.i64_in _ (by omega)
            have hw2 : IntKind.i64.wrap (N * 2 * 6) = N * 2 * 6 := IntWalk.i64_in _ (by omega)
            have hw36 : IntKind.i64.wrap (p * 36) = p * 36 := IntWalk.i64_in _ (by omega)
            obtain ⟨tt, htt⟩ : ∃ tt, (N * 2 * 6 == p * 36) = tt := ⟨_, rfl⟩
            rw [htt] at HUS
            have ht3 : (IntKind.i64.wrap (IntKind.i64.wrap (N * 2) * 6) == IntKind.i64.wrap (p * 36)) = tt := by rw [hw1, hw2, hw36]; exact htt
            have HWD := Lib.hid (HW.out.keep ((Below.refl _ _).drew))
            have HOD := Lib.hid (HOL.out.keep (SameAt.of_below ((Below.refl _ _).drew)))
            go_wp2_with fail
            go_region_held3 (fun w' => w'.cell? ⟨B, off + k * 2, none⟩ = some (.int .i64 e) ∧ w'.cell? ⟨B, off + k * 2 + 1, none⟩ = some (.int .i64 p)) (first | exact QRd.cell (HV.out.keep (SameAt.of_below HW3.out.1)) HX.out | exact QRd.cell (w := wr) (HV.out.keep (SameAt.of_below HW.out.1)) HX.out) (first
              | (go_at_call 82; refine (l4On_any wr.drew _ (natL l) e HVW.out HG.out e1 e2).mono ?_; rintro r w3 ⟨rfl, b3⟩; rw [HNN.out]; have HW3 := Lib.hid (HWD.out.keep b3); have HO3 := Lib.hid (HOD.out.keep (SameAt.of_below b3)); clear b3))
            all_goals
              go_wp2_with fail
              go_roundw
              case rel => exact ⟨k + 1, tt, by go_num, by omega, rfl, Lib.hid (by rw [HUS.out, ← HB.out]; rfl), HW3, HO3⟩
              case measure => simp [intOf]; omega
        · have HBB : Hid (b = unitFit 2 l qs) := Lib.hid (by have := HB.out; rwa [List.take_of_length_le (by omega)] at this)
          cases b
          · go_wp2_with fail
            refine (l4Step_any wr w.heap.size u l (by omega) (by omega) (by omega) HOL.out).mono ?_
            intro r w6 hstep
            obtain ⟨t', rfl, hW6⟩ := WkRel.step h1 h4 (.inr (.inl rfl)) HW.out.1 HLL.out hstep
            have HW6 := Lib.hid hW6
            clear hW6 hstep
            go_wp2_with fail
            go_roundg (L + 1 - (d + 1))
            case measure => omega
            case rel => exact ⟨d + 1, t', by omega, by omega, rfl, HW6, Lib.hid (fun j hj x hx => by
              rcases Nat.lt_succ_iff_lt_or_eq.1 hj with h1 | h1
              · exact HN.out j h1 x hx
              · subst h1
                rw [HLL.out] at hx
                obtain rfl := Option.some.inj hx
                exact HBB.out.symm)⟩
          · have HF : Hid (anyUnit n 2 qs = true) := Lib.hid (unit_any_at (u := 2) HLL.out HBB.out.symm)
            go_wp2_with fail
            go_ret
            exact ⟨ret_bool HF.out.symm, HW.out.1⟩

def fairB (n : Int) (qs : List Qt) : Bool := bokB n qs && anyFit n.toNat qs

theorem fair_of {n : Nat} {qs : List Qt} (h : bokB (n : Int) qs = true) {a b c : Bool} (ha : anyUnit n 6 qs = a) (hb : anyUnit n 3 qs = b) (hc : anyUnit n 2 qs = c) : fairB n qs = (a || (b || c)) := by
  rw [fairB, h, Int.toNat_natCast, ← fair_units h, ha, hb, hc]; rfl

theorem fair_no {n : Int} {qs : List Qt} (h : bokB n qs = false) : fairB n qs = false := by rw [fairB, h]; rfl

set_option maxHeartbeats 4000000 in
theorem specFairOk_any (w : World) (n : Int) (v : Value) (qs : List Qt) (hv : QRd w v qs) :
    Calls Try.prog 41 #[.int .i64 n, v] w (BoolPost (fairB n qs) w) := by
  have HV := Lib.hid hv
  clear hv
  rcases Bool.eq_false_or_eq_true (bokB n qs) with h | h
  · have HQ := Lib.hid (qts_of h)
    have hw1 : 1 ≤ n := ((bokB_iff _ _).1 h).1.1
    have hw2 : n ≤ 4 := ((bokB_iff _ _).1 h).1.2
    obtain ⟨m, rfl⟩ : ∃ m : Nat, n = m := ⟨n.toNat, by omega⟩
    have hm1 : 1 ≤ m := by omega
    have hm4 : m ≤ 4 := by omega
    obtain ⟨a, ha⟩ : ∃ a, anyUnit m 6 qs = a := ⟨_, rfl⟩
    obtain ⟨b, hb⟩ : ∃ b, anyUnit m 3 qs = b := ⟨_, rfl⟩
    obtain ⟨c, hc⟩ : ∃ c, anyUnit m 2 qs = c := ⟨_, rfl⟩
    have HF := Lib.hid (fair_of h ha hb hc)
    have HA := Lib.hid ha
    have HB := Lib.hid hb
    have HC := Lib.hid hc
    clear ha hb hc
    go_enter Try.func41, Try.ntmps41
    go_wp2_with fail
    refine (specBookOk_any _ _ _ _ HV.out).mono ?_
    rintro r w2 ⟨rfl, b2⟩
    rw [h]
    have HB2 := Lib.hid b2
    have HV2 := Lib.hid (HV.out.keep (SameAt.of_below b2))
    clear b2 h
    go_wp2_with fail
    refine (l4Units_6 w2 m v qs HV2.out HQ.out hm1 hm4).mono ?_
    rintro r w3 ⟨rfl, b3⟩
    rw [HA.out]
    have HB3 := Lib.hid (below_step HB2.out b3 HB2.out.size)
    have HV3 := Lib.hid (HV2.out.keep (SameAt.of_below b3))
    clear b3
    cases a
    · go_wp2_with fail
      refine (l4Units_3 w3 m v qs HV3.out HQ.out hm1 hm4).mono ?_
      rintro r w4 ⟨rfl, b4⟩
      rw [HB.out]
      have HB4 := Lib.hid (below_step HB3.out b4 HB3.out.size)
      have HV4 := Lib.hid (HV3.out.keep (SameAt.of_below b4))
      clear b4
      cases b
      · go_wp2_with fail
        refine (l4Units_2 w4 m v qs HV4.out HQ.out hm1 hm4).mono ?_
        rintro r w5 ⟨rfl, b5⟩
        rw [HC.out]
        have HB5 := Lib.hid (below_step HB4.out b5 HB4.out.size)
        clear b5
        go_wp2_with fail
        go_ret
        exact ⟨ret_bool (by rw [HF.out]; rfl), HB5.out⟩
      · go_wp2_with fail
        go_ret
        exact ⟨ret_bool (by rw [HF.out]; rfl), HB4.out⟩
    · go_wp2_with fail
      go_ret
      exact ⟨ret_bool (by rw [HF.out]; rfl), HB3.out⟩
  · have HN := Lib.hid (fair_no h)
    go_enter Try.func41, Try.ntmps41
    go_wp2_with fail
    refine (specBookOk_any _ _ _ _ HV.out).mono ?_
    rintro r w2 ⟨rfl, b2⟩
    rw [h]
    have HB2 := Lib.hid b2
    clear b2
    go_wp2_with fail
    go_ret
    exact ⟨ret_bool HN.out.symm, HB2.out⟩

end Go.Proofs.Ytebebcomhdjihaa

namespace Go.Proofs.Ytebebcomhdjihaa
open Go.RowKit
set_option linter.unusedVariables false

abbrev Pl := List Qt × List Int

def plB (p : Pl) : Bool := p.2.all stB && (decide (p.2.length = p.1.length) && fairB 4 p.1)

theorem plB_iff (p : Pl) : plB p = true ↔ (∀ s ∈ p.2, -9 ≤ s ∧ s ≤ 9) ∧ p.2.length = p.1.length ∧ fairB 4 p.1 = true := by
  simp only [plB, Bool.and_eq_true, List.all_eq_true, decide_eq_true_eq, stB_iff]

theorem pl_bok {p : Pl} (h : plB p = true) : bokB 4 p.1 = true := by
  have := ((plB_iff p).1 h).2.2
  rw [fairB, Bool.and_eq_true] at this
  exact this.1

theorem pl_len {p : Pl} (h : plB p = true) : p.1.length ≤ 3 ∧ p.2.length = p.1.length :=
  ⟨((bokB_iff _ _).1 (pl_bok h)).2.1, ((plB_iff p).1 h).2.1⟩

def qTx (q : Qt) (s : Int) : List UInt8 := joinC 58 [dec q.1, dec q.2, dec s]

abbrev Dk := Pl × List Pl

abbrev Dd := Int × Int × Int × ByteArray

end Go.Proofs.Ytebebcomhdjihaa

namespace Go.Proofs.Ytebebcomhdjihaa
set_option linter.unusedVariables false

section
variable {P : Program} {ops : Array Oper} {Q : Exit → Act → World → Prop} {md : Region.Mode} {S : World → Prop}

theorem take_in {i : Nat} {oi : Oper} {v : Value} {fuel : Nat} {listed : Array Bool} {a : Act} {w : World} (hi : ops.toList[i]? = some oi)
    (hk : (Region.noSelect ops && Region.free md ops listed i && (Region.ready md ops listed).contains i) = true)
    (hQ : ∀ c a w, Q (.panic c) (a.put oi.dst v) w → Q (.panic c) a w) (hw : Region.wanted oi (yielded ops a.tmps) = true) (hy : ∀ w, S w → (execOp a.eval oi).run P w = .ok (.value v) w) (hS : S w)
    (h : wpAnyH P md ops Q S fuel (listed.setIfInBounds i true) (a.put oi.dst v) w) : wpAnyH P md ops Q S (fuel + 1) listed a w := by
  simp only [Bool.and_eq_true] at hk
  exact wpAnyH_take (by rwa [Array.getElem?_toList] at hi) hk.1.1 hk.1.2 hk.2 hQ (.inl ⟨hw, hy⟩) hS h

end

section
variable {P : Program} {ops : Array Oper} {Q : Exit → Act → World → Prop} {md : Region.Mode} {S : World → Prop}

theorem ready_one {i : Nat} {oi : Oper} {fuel : Nat} {listed : Array Bool} {a : Act} {w : World} (hi : ops.toList[i]? = some oi) (hr : Region.ready md ops listed = [i])
    (h : ∀ K' : Act → World → Prop, Shut (∀ a w, S w → (S w → wpAnyH P md ops Q S fuel (listed.setIfInBounds i true) a w) → K' a w) → if Region.wanted oi (yielded ops a.tmps) = true then Oper.wp P oi a w K' Q else K' (a.put oi.dst undef) w) :
    wpAnyH P md ops Q S (fuel + 1) listed a w :=
  wpAnyH_ready hr (by simp) (AllReadyH.cons (by rwa [Array.getElem?_toList] at hi) h AllReadyH.nil)

theorem ready_two {i j : Nat} {oi oj : Oper} {fuel : Nat} {listed : Array Bool} {a : Act} {w : World} (hi : ops.toList[i]? = some oi) (hj : ops.toList[j]? = some oj) (hr : Region.ready md ops listed = [i, j])
    (h : ∀ K' : Act → World → Prop, Shut (∀ a w, S w → (S w → wpAnyH P md ops Q S fuel (listed.setIfInBounds i true) a w) → K' a w) → if Region.wanted oi (yielded ops a.tmps) = true then Oper.wp P oi a w K' Q else K' (a.put oi.dst undef) w)
    (k : ∀ K' : Act → World → Prop, Shut (∀ a w, S w → (S w → wpAnyH P md ops Q S fuel (listed.setIfInBounds j true) a w) → K' a w) → if Region.wanted oj (yielded ops a.tmps) = true then Oper.wp P oj a w K' Q else K' (a.put oj.dst undef) w) :
    wpAnyH P md ops Q S (fuel + 1) listed a w :=
  wpAnyH_ready hr (by simp) (AllReadyH.cons (by rwa [Array.getElem?_toList] at hi) h (AllReadyH.cons (by rwa [Array.getElem?_toList] at hj) k AllReadyH.nil))

theorem step_append {o : Oper} {a : Act} {w w' : World} {v : Value} {K : Act → World → Prop} {E : Prop} {s x : Operand} {t : TypeId} (hgd : o.guard = none)
    (ho : o.op = .call { callee := .builtin .append, args := #[s, x], argTypes := #[t, t] }) (hr : (Builtin.append_ #[t, t] o.type #[a.eval s, a.eval x]).run P w = .ok v w') (h : K (a.put o.dst v) w') :
    if Region.wanted o (yielded ops a.tmps) = true then Oper.wp P o a w K Q else E := by
  rw [if_pos (by simp [Region.wanted, hgd])]
  unfold Oper.wp execOp
  simp only [ho, resolve, invoke, builtin, Sem.run_bind, Sem.run_pure, Result.andThen_ok, List.map_toArray, List.map_cons, List.map_nil, hr]
  exact h

end

end Go.Proofs.Ytebebcomhdjihaa

namespace Go.Proofs.Ytebebcomhdjihaa
open Go.RowKit
set_option linter.unusedVariables false

theorem bs_at {S : ByteArray} {k : Nat} (hk : k < S.size) : (bs S)[k]? = some (S[k]'hk) := by
  rw [List.getElem?_eq_getElem (by rw [bs_len]; exact hk)]; rfl

def TOwn (w : World) (base : Nat) (v : Value) (ps : List ByteArray) : Prop := w.ownsRow base 9 1 v ps.length (ps.map Value.string)

end Go.Proofs.Ytebebcomhdjihaa
