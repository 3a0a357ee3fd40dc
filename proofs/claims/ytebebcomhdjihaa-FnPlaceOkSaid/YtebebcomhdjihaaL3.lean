/- Contracts, facts and walks that the laws of this seat lean on, laid together by a program of ours (mkmerge.py) out of: Mg Kb Rh Zb Kf Kg Kp Di Dt Zd. Conditions: stated at each. -/
import Derived.Deep.RegionHeld3
import Derived.Maps.AppendAt
import Derived.Laws.AppendOwnNone
import Derived.Test.YtebebcomhdjihaaRows
import Derived.Laws.IdiomStrings
import Derived.BigQuiet
import Derived.Deep.AppendLies
import Derived.Deep.RegionWith
import Derived.Handy
import Derived.Test.YtebebcomhdjihaaL2
namespace Go.Proofs.Ytebebcomhdjihaa
open Go.RowKit
set_option linter.unusedVariables false

def unitFit (u : Int) (c : List Nat) (qs : List Qt) : Bool := qs.all fun q => onI (natL c) q.1 * u * 6 == q.2 * 36

theorem unit_step {u : Int} {c : List Nat} {qs : List Qt} {k : Nat} {q : Qt} (hx : qs[k]? = some q) : unitFit u c (qs.take (k + 1)) = (unitFit u c (qs.take k) && (onI (natL c) q.1 * u * 6 == q.2 * 36)) := by
  rw [unitFit, unitFit, List.take_add_one, hx]
  simp

theorem unit_any_at {n u d : Nat} {qs : List Qt} {l : List Nat} (hd : (lay n (36 / u))[d]? = some l) (h : unitFit u l qs = true) : anyUnit n u qs = true := by
  rw [anyUnit, List.any_eq_true]; exact ⟨l, List.mem_of_getElem? hd, h⟩

theorem unit_any_none {n u : Nat} {qs : List Qt} (h : ∀ j, j < (lay n (36 / u)).length → ∀ x, (lay n (36 / u))[j]? = some x → unitFit u x qs = false) : anyUnit n u qs = false := by
  rw [← Bool.not_eq_true, anyUnit, List.any_eq_true]
  rintro ⟨x, hx, hf⟩
  obtain ⟨j, hj, e⟩ := List.getElem_of_mem hx
  have := h j hj x (by rw [← e]; exact List.getElem?_eq_getElem hj)
  rw [unitFit] at this
  rw [this] at hf; cases hf

theorem lay_grs {n g d : Nat} {l : List Nat} (h1 : 1 ≤ n) (h4 : n ≤ 4) (hg : g ≤ 36) (h : (lay n g)[d]? = some l) : Grs (natL l) := by
  obtain ⟨a, b⟩ := lay_facts h1 h
  refine ⟨fun x hx => ?_, by rw [natL_len]; omega⟩
  obtain ⟨y, hy, rfl⟩ := List.mem_map.1 hx
  have h2 : y ≤ l.sum := by
    clear hx a b h
    induction l with
    | nil => simp at hy
    | cons z l ih =>
      rcases List.mem_cons.1 hy with rfl | h3
      · simp
      · have := ih h3; simp; omega
  constructor
  · exact Int.natCast_nonneg _
  · show (y : Int) ≤ 36
    omega

set_option maxHeartbeats 8000000 in
theorem l4Units_6 (w : World) (n : Nat) (v : Value) (qs : List Qt) (hv : QRd w v qs) (hq : Qts qs) (h1 : 1 ≤ n) (h4 : n ≤ 4) :
    Calls Try.prog 67 #[.int .i64 (n : Int), .int .i64 6, v] w (BoolPost (anyUnit n 6 qs) w) := by
  obtain ⟨A, c, rfl, hl, hmx⟩ := hv.form
  have HV := Lib.hid hv
  have HQ := Lib.hid hq
  clear hv hq
  go_enter Try.func67, Try.ntmps67
  go_wp2_with fail
  refine (l4First_any w n 6 h1 h4).mono ?_
  rintro r w3 ⟨u, rfl, o3, b3⟩
  have H0 := Lib.hid (WkRel.start h1 o3 b3)
  clear o3 b3
  obtain ⟨L, hL⟩ : ∃ L, (lay n 6).length = L := ⟨_, rfl⟩
  have HL := Lib.hid hL
  clear hL
  go_wp2_with fail
  go_loopg [8] (L + 1) (fun gk s wr => ∃ (d : Nat) (t : Bool), gk = L + 1 - d ∧ d ≤ L ∧ s = .bool t ∧ Hid (WkRel w n 6 u d t wr) ∧ Hid (∀ j, j < d → ∀ x, (lay n 6)[j]? = some x → unitFit 6 x qs = false))
  case atStart => exact ⟨0, true, by omega, Nat.zero_le _, rfl, H0, Lib.hid (fun j hj => absurd hj (Nat.not_lt_zero _))⟩
  case round =>
    obtain ⟨d, t, hgk, hd, rfl, HW, HN⟩ := hrel
    clear H0
    cases t
    · have HF : Hid (anyUnit n 6 qs = false) := Lib.hid (unit_any_none (u := 6) (by have h1 := HN.out; obtain ⟨-, l, -, -, h2⟩ := HW.out; show ∀ j, j < (lay n 6).length → _; rw [h2 rfl]; exact h1))
      go_wp2_with fail
      go_ret
      exact ⟨ret_bool HF.out.symm, HW.out.1⟩
    · obtain ⟨-, l, ol, hl, -⟩ := id HW.out
      have hl := hl rfl
      have HLL := Lib.hid hl
      have hdL : d < L := by rw [← HL.out]; exact (List.getElem?_eq_some_iff.1 hl).1
      obtain ⟨hf1, hf2⟩ := lay_facts h1 hl
      have HOL := Lib.hid ol
      have HG : Hid (Grs (natL l)) := Lib.hid (lay_grs h1 h4 (by omega) hl)
      clear hl ol
      go_wp2_with fail
      go_loopw [9, 10] (fun f i wq => ∃ (k : Nat) (b : Bool), i = .int .i64 (k : Int) ∧ k ≤ qs.length ∧ f = .bool b ∧ Hid (b = unitFit 6 l (qs.take k)) ∧ Hid (WkRel w n 6 u d true wq) ∧ Hid (IOwn wq w.heap.size u (natL l))) (fun _ i _ => qs.length - (intOf i).toNat)
      case atStart => exact ⟨0, true, rfl, Nat.zero_le _, rfl, Lib.hid (by simp [unitFit]), HW, HOL⟩
      case round =>
        obtain ⟨k, b, rfl, hk, rfl, HB, HW, HOL⟩ := hrel
        by_cases hlt : k < qs.length
        · have hk0 : (0 : Int) ≤ (k : Int) := by omega
          have hk1 : (k : Int) < (qs.length : Int) := by omega
          obtain ⟨B, off, ⟨e, p⟩, rfl, -, hx, hc0, hc1⟩ := QRd.at_ (HV.out.keep (SameAt.of_below HW.out.1)) hlt
          obtain ⟨⟨e1, e2⟩, p1, p2⟩ := HQ.out _ (List.mem_of_getElem? hx)
          have e1 : 0 ≤ e := e1
          have e2 : e ≤ 15 := e2
          have p1 : 0 ≤ p := p1
          have p2 : p ≤ 6 := p2
          have HX := Lib.hid hx
          have HUS : Hid (unitFit 6 l (qs.take (k + 1)) = (unitFit 6 l (qs.take k) && (onI (natL l) e * 6 * 6 == p * 36))) := Lib.hid (unit_step hx)
          clear hx
          cases b
          · go_wp2_with fail
            go_region
            all_goals
              go_wp2_with fail
              go_roundw
              case rel => exact ⟨k + 1, false, by go_num, by omega, rfl, Lib.hid (by rw [HUS.out, ← HB.out]; rfl), Lib.hid (HW.out.keep ((Below.refl _ _).drew)), Lib.hid (HOL.out.keep (SameAt.of_below ((Below.refl _ _).drew)))⟩
              case measure => simp [intOf]; omega
          · obtain ⟨N, hN⟩ : ∃ N, onI (natL l) e = N := ⟨_, rfl⟩
            obtain ⟨n1, n2⟩ : 0 ≤ N ∧ N ≤ 144 := by
              have := grs_on HG.out e (natL l).length
              rw [List.take_length, hN] at this
              exact this
            have HNN := Lib.hid hN
            rw [hN] at HUS
            clear hN
            have HVW := Lib.hid (HOL.out.rd)
            have hw1 : IntKind.i64.wrap (N * 6) = N * 6 := IntWalk.i64_in _ (by omega)
            have hw2 : IntKind.i64.wrap (N * 6 * 6) = N * 6 * 6 := IntWalk.i64_in _ (by omega)
            have hw36 : IntKind.i64.wrap (p * 36) = p * 36 := IntWalk.i64_in _ (by omega)
            obtain ⟨tt, htt⟩ : ∃ tt, (N * 6 * 6 == p * 36) = tt := ⟨_, rfl⟩
            rw [htt] at HUS
            have ht3 : (IntKind.i64.wrap (IntKind.i64.wrap (N * 6) * 6) == IntKind.i64.wrap (p * 36)) = tt := by rw [hw1, hw2, hw36]; exact htt
            have HWD := Lib.hid (HW.out.keep ((Below.refl _ _).drew))
            have HOD := Lib.hid (HOL.out.keep (SameAt.of_below ((Below.refl _ _).drew)))
            go_wp2_with fail
            go_region_held3 (fun w' => w'.cell? ⟨B, off + k * 2, none⟩ = some (.int .i64 e) ∧ w'.cell? ⟨B, off + k * 2 + 1, none⟩ = some (.int .i64 p)) (first | exact QRd.cell (HV.out.keep (SameAt.of_below HW3.out.1)) HX.out | exact QRd.cell (w := wr) (HV.out.keep (SameAt.of_below HW.out.1)) HX.out) (first
              | (go_at_call 82; refine (l4On_any wr.drew _ (natL l) e HVW.out HG.out e1 e2).mono ?_; rintro r w3 ⟨rfl, b3⟩; rw [HNN.out]; have HW3 := Lib.hid (HWD.out.keep b3); have HO3 := Lib.hid (HOD.out.keep (SameAt.of_below b3)); clear b3))
            all_goals
              go_wp2_with fail
              go_roundw
              case rel => exact ⟨k + 1, tt, by go_num, by omega, rfl, Lib.hid (by rw [HUS.out, ← HB.out]; rfl), HW3, HO3⟩
              case measure => simp [intOf]; omega
        · have HBB : Hid (b = unitFit 6 l qs) := Lib.hid (by have := HB.out; rwa [List.take_of_length_le (by omega)] at this)
          cases b
          · go_wp2_with fail
            refine (l4Step_any wr w.heap.size u l (by omega) (by omega) (by omega) HOL.out).mono ?_
            intro r w6 hstep
            obtain ⟨t', rfl, hW6⟩ := WkRel.step h1 h4 (.inr (.inr (.inr rfl))) HW.out.1 HLL.out hstep
            have HW6 := Lib.hid hW6
            clear hW6 hstep
            go_wp2_with fail
            go_roundg (L + 1 - (d + 1))
            case measure => omega
            case rel => exact ⟨d + 1, t', by omega, by omega, rfl, HW6, Lib.hid (fun j hj x hx => by
              rcases Nat.lt_succ_iff_lt_or_eq.1 hj with h1 | h1
              · exact HN.out j h1 x hx
              · subst h1
                rw [HLL.out] at hx
                obtain rfl := Option.some.inj hx
                exact HBB.out.symm)⟩
          · have HF : Hid (anyUnit n 6 qs = true) := Lib.hid (unit_any_at (u := 6) HLL.out HBB.out.symm)
            go_wp2_with fail
            go_ret
            exact ⟨ret_bool HF.out.symm, HW.out.1⟩

set_option maxHeartbeats 8000000 in
theorem l4Units_3 (w : World) (n : Nat) (v : Value) (qs : List Qt) (hv : QRd w v qs) (hq : Qts qs) (h1 : 1 ≤ n) (h4 : n ≤ 4) :
    Calls Try.prog 67 #[.int .i64 (n : Int), .int .i64 3, v] w (BoolPost (anyUnit n 3 qs) w) := by
  obtain ⟨A, c, rfl, hl, hmx⟩ := hv.form
  have HV := Lib.hid hv
  have HQ := Lib.hid hq
  clear hv hq
  go_enter Try.func67, Try.ntmps67
  go_wp2_with fail
  refine (l4First_any w n 12 h1 h4).mono ?_
  rintro r w3 ⟨u, rfl, o3, b3⟩
  have H0 := Lib.hid (WkRel.start h1 o3 b3)
  clear o3 b3
  obtain ⟨L, hL⟩ : ∃ L, (lay n 12).length = L := ⟨_, rfl⟩
  have HL := Lib.hid hL
  clear hL
  go_wp2_with fail
  go_loopg [8] (L + 1) (fun gk s wr => ∃ (d : Nat) (t : Bool), gk = L + 1 - d ∧ d ≤ L ∧ s = .bool t ∧ Hid (WkRel w n 12 u d t wr) ∧ Hid (∀ j, j < d → ∀ x, (lay n 12)[j]? = some x → unitFit 3 x qs = false))
  case atStart => exact ⟨0, true, by omega, Nat.zero_le _, rfl, H0, Lib.hid (fun j hj => absurd hj (Nat.not_lt_zero _))⟩
  case round =>
    obtain ⟨d, t, hgk, hd, rfl, HW, HN⟩ := hrel
    clear H0
    cases t
    · have HF : Hid (anyUnit n 3 qs = false) := Lib.hid (unit_any_none (u := 3) (by have h1 := HN.out; obtain ⟨-, l, -, -, h2⟩ := HW.out; show ∀ j, j < (lay n 12).length → _; rw [h2 rfl]; exact h1))
      go_wp2_with fail
      go_ret
      exact ⟨ret_bool HF.out.symm, HW.out.1⟩
    · obtain ⟨-, l, ol, hl, -⟩ := id HW.out
      have hl := hl rfl
      have HLL := Lib.hid hl
      have hdL : d < L := by rw [← HL.out]; exact (List.getElem?_eq_some_iff.1 hl).1
      obtain ⟨hf1, hf2⟩ := lay_facts h1 hl
      have HOL := Lib.hid ol
      have HG : Hid (Grs (natL l)) := Lib.hid (lay_grs h1 h4 (by omega) hl)
      clear hl ol
      go_wp2_with fail
      go_loopw [9, 10] (fun f i wq => ∃ (k : Nat) (b : Bool), i = .int .i64 (k : Int) ∧ k ≤ qs.length ∧ f = .bool b ∧ Hid (b = unitFit 3 l (qs.take k)) ∧ Hid (WkRel w n 12 u d true wq) ∧ Hid (IOwn wq w.heap.size u (natL l))) (fun _ i _ => qs.length - (intOf i).toNat)
      case atStart => exact ⟨0, true, rfl, Nat.zero_le _, rfl, Lib.hid (by simp [unitFit]), HW, HOL⟩
      case round =>
        obtain ⟨k, b, rfl, hk, rfl, HB, HW, HOL⟩ := hrel
        by_cases hlt : k < qs.length
        · have hk0 : (0 : Int) ≤ (k : Int) := by omega
          have hk1 : (k : Int) < (qs.length : Int) := by omega
          obtain ⟨B, off, ⟨e, p⟩, rfl, -, hx, hc0, hc1⟩ := QRd.at_ (HV.out.keep (SameAt.of_below HW.out.1)) hlt
          obtain ⟨⟨e1, e2⟩, p1, p2⟩ := HQ.out _ (List.mem_of_getElem? hx)
          have e1 : 0 ≤ e := e1
          have e2 : e ≤ 15 := e2
          have p1 : 0 ≤ p := p1
          have p2 : p ≤ 6 := p2
          have HX := Lib.hid hx
          have HUS : Hid (unitFit 3 l (qs.take (k + 1)) = (unitFit 3 l (qs.take k) && (onI (natL l) e * 3 * 6 == p * 36))) := Lib.hid (unit_step hx)
          clear hx
          cases b
          · go_wp2_with fail
            go_region
            all_goals
              go_wp2_with fail
              go_roundw
              case rel => exact ⟨k + 1, false, by go_num, by omega, rfl, Lib.hid (by rw [HUS.out, ← HB.out]; rfl), Lib.hid (HW.out.keep ((Below.refl _ _).drew)), Lib.hid (HOL.out.keep (SameAt.of_below ((Below.refl _ _).drew)))⟩
              case measure => simp [intOf]; omega
          · obtain ⟨N, hN⟩ : ∃ N, onI (natL l) e = N := ⟨_, rfl⟩
            obtain ⟨n1, n2⟩ : 0 ≤ N ∧ N ≤ 144 := by
              have := grs_on HG.out e (natL l).length
              rw [List.take_length, hN] at this
              exact this
            have HNN := Lib.hid hN
            rw [hN] at HUS
            clear hN
            have HVW := Lib.hid (HOL.out.rd)
            have hw1 : IntKind.i64.wrap (N * 3) = N * 3 := IntWalk.i64_in _ (by omega)
            have hw2 : IntKind.i64.wrap (N * 3 * 6) = N * 3 * 6 := IntWalk.i64_in _ (by omega)
            have hw36 : IntKind.i64.wrap (p * 36) = p * 36 := IntWalk.i64_in _ (by omega)
            obtain ⟨tt, htt⟩ : ∃ tt, (N * 3 * 6 == p * 36) = tt := ⟨_, rfl⟩
            rw [htt] at HUS
            have ht3 : (IntKind.i64.wrap (IntKind.i64.wrap (N * 3) * 6) == IntKind.i64.wrap (p * 36)) = tt := by rw [hw1, hw2, hw36]; exact htt
            have HWD := Lib.hid (HW.out.keep ((Below.refl _ _).drew))
            have HOD := Lib.hid (HOL.out.keep (SameAt.of_below ((Below.refl _ _).drew)))
            go_wp2_with fail
            go_region_held3 (fun w' => w'.cell? ⟨B, off + k * 2, none⟩ = some (.int .i64 e) ∧ w'.cell? ⟨B, off + k * 2 + 1, none⟩ = some (.int .i64 p)) (first | exact QRd.cell (HV.out.keep (SameAt.of_below HW3.out.1)) HX.out | exact QRd.cell (w := wr) (HV.out.keep (SameAt.of_below HW.out.1)) HX.out) (first
              | (go_at_call 82; refine (l4On_any wr.drew _ (natL l) e HVW.out HG.out e1 e2).mono ?_; rintro r w3 ⟨rfl, b3⟩; rw [HNN.out]; have HW3 := Lib.hid (HWD.out.keep b3); have HO3 := Lib.hid (HOD.out.keep (SameAt.of_below b3)); clear b3))
            all_goals
              go_wp2_with fail
              go_roundw
              case rel => exact ⟨k + 1, tt, by go_num, by omega, rfl, Lib.hid (by rw [HUS.out, ← HB.out]; rfl), HW3, HO3⟩
              case measure => simp [intOf]; omega
        · have HBB : Hid (b = unitFit 3 l qs) := Lib.hid (by have := HB.out; rwa [List.take_of_length_le (by omega)] at this)
          cases b
          · go_wp2_with fail
            refine (l4Step_any wr w.heap.size u l (by omega) (by omega) (by omega) HOL.out).mono ?_
            intro r w6 hstep
            obtain ⟨t', rfl, hW6⟩ := WkRel.step h1 h4 (.inr (.inr (.inl rfl))) HW.out.1 HLL.out hstep
            have HW6 := Lib.hid hW6
            clear hW6 hstep
            go_wp2_with fail
            go_roundg (L + 1 - (d + 1))
            case measure => omega
            case rel => exact ⟨d + 1, t', by omega, by omega, rfl, HW6, Lib.hid (fun j hj x hx => by
              rcases Nat.lt_succ_iff_lt_or_eq.1 hj with h1 | h1
              · exact HN.out j h1 x hx
              · subst h1
                rw [HLL.out] at hx
                obtain rfl := Option.some.inj hx
                exact HBB.out.symm)⟩
          · have HF : Hid (anyUnit n 3 qs = true) := Lib.hid (unit_any_at (u := 3) HLL.out HBB.out.symm)
            go_wp2_with fail
            go_ret
            exact ⟨ret_bool HF.out.symm, HW.out.1⟩

set_option maxHeartbeats 8000000 in
theorem l4Units_2 (w : World) (n : Nat) (v : Value) (qs : List Qt) (hv : QRd w v qs) (hq : Qts qs) (h1 : 1 ≤ n) (h4 : n ≤ 4) :
    Calls Try.prog 67 #[.int .i64 (n : Int), .int .i64 2, v] w (BoolPost (anyUnit n 2 qs) w) := by
  obtain ⟨A, c, rfl, hl, hmx⟩ := hv.form
  have HV := Lib.hid hv
  have HQ := Lib.hid hq
  clear hv hq
  go_enter Try.func67, Try.ntmps67
  go_wp2_with fail
  refine (l4First_any w n 18 h1 h4).mono ?_
  rintro r w3 ⟨u, rfl, o3, b3⟩
  have H0 := Lib.hid (WkRel.start h1 o3 b3)
  clear o3 b3
  obtain ⟨L, hL⟩ : ∃ L, (lay n 18).length = L := ⟨_, rfl⟩
  have HL := Lib.hid hL
  clear hL
  go_wp2_with fail
  go_loopg [8] (L + 1) (fun gk s wr => ∃ (d : Nat) (t : Bool), gk = L + 1 - d ∧ d ≤ L ∧ s = .bool t ∧ Hid (WkRel w n 18 u d t wr) ∧ Hid (∀ j, j < d → ∀ x, (lay n 18)[j]? = some x → unitFit 2 x qs = false))
  case atStart => exact ⟨0, true, by omega, Nat.zero_le _, rfl, H0, Lib.hid (fun j hj => absurd hj (Nat.not_lt_zero _))⟩
  case round =>
    obtain ⟨d, t, hgk, hd, rfl, HW, HN⟩ := hrel
    clear H0
    cases t
    · have HF : Hid (anyUnit n 2 qs = false) := Lib.hid (unit_any_none (u := 2) (by have h1 := HN.out; obtain ⟨-, l, -, -, h2⟩ := HW.out; show ∀ j, j < (lay n 18).length → _; rw [h2 rfl]; exact h1))
      go_wp2_with fail
      go_ret
      exact ⟨ret_bool HF.out.symm, HW.out.1⟩
    · obtain ⟨-, l, ol, hl, -⟩ := id HW.out
      have hl := hl rfl
      have HLL := Lib.hid hl
      have hdL : d < L := by rw [← HL.out]; exact (List.getElem?_eq_some_iff.1 hl).1
      obtain ⟨hf1, hf2⟩ := lay_facts h1 hl
      have HOL := Lib.hid ol
      have HG : Hid (Grs (natL l)) := Lib.hid (lay_grs h1 h4 (by omega) hl)
      clear hl ol
      go_wp2_with fail
      go_loopw [9, 10] (fun f i wq => ∃ (k : Nat) (b : Bool), i = .int .i64 (k : Int) ∧ k ≤ qs.length ∧ f = .bool b ∧ Hid (b = unitFit 2 l (qs.take k)) ∧ Hid (WkRel w n 18 u d true wq) ∧ Hid (IOwn wq w.heap.size u (natL l))) (fun _ i _ => qs.length - (intOf i).toNat)
      case atStart => exact ⟨0, true, rfl, Nat.zero_le _, rfl, Lib.hid (by simp [unitFit]), HW, HOL⟩
      case round =>
        obtain ⟨k, b, rfl, hk, rfl, HB, HW, HOL⟩ := hrel
        by_cases hlt : k < qs.length
        · have hk0 : (0 : Int) ≤ (k : Int) := by omega
          have hk1 : (k : Int) < (qs.length : Int) := by omega
          obtain ⟨B, off, ⟨e, p⟩, rfl, -, hx, hc0, hc1⟩ := QRd.at_ (HV.out.keep (SameAt.of_below HW.out.1)) hlt
          obtain ⟨⟨e1, e2⟩, p1, p2⟩ := HQ.out _ (List.mem_of_getElem? hx)
          have e1 : 0 ≤ e := e1
          have e2 : e ≤ 15 := e2
          have p1 : 0 ≤ p := p1
          have p2 : p ≤ 6 := p2
          have HX := Lib.hid hx
          have HUS : Hid (unitFit 2 l (qs.take (k + 1)) = (unitFit 2 l (qs.take k) && (onI (natL l) e * 2 * 6 == p * 36))) := Lib.hid (unit_step hx)
          clear hx
          cases b
          · go_wp2_with fail
            go_region
            all_goals
              go_wp2_with fail
              go_roundw
              case rel => exact ⟨k + 1, false, by go_num, by omega, rfl, Lib.hid (by rw [HUS.out, ← HB.out]; rfl), Lib.hid (HW.out.keep ((Below.refl _ _).drew)), Lib.hid (HOL.out.keep (SameAt.of_below ((Below.refl _ _).drew)))⟩
              case measure => simp [intOf]; omega
          · obtain ⟨N, hN⟩ : ∃ N, onI (natL l) e = N := ⟨_, rfl⟩
            obtain ⟨n1, n2⟩ : 0 ≤ N ∧ N ≤ 144 := by
              have := grs_on HG.out e (natL l).length
              rw [List.take_length, hN] at this
              exact this
            have HNN := Lib.hid hN
            rw [hN] at HUS
            clear hN
            have HVW := Lib.hid (HOL.out.rd)
            have hw1 : IntKind.i64.wrap (N * 2) = N * 2 := IntWalk.i64_in _ (by omega)
            have hw2 : IntKind.i64.wrap (N * 2 * 6) = N * 2 * 6 := IntWalk.i64_in _ (by omega)
            have hw36 : IntKind.i64.wrap (p * 36) = p * 36 := IntWalk.i64_in _ (by omega)
            obtain ⟨tt, htt⟩ : ∃ tt, (N * 2 * 6 == p * 36) = tt := ⟨_, rfl⟩
            rw [htt] at HUS
            have ht3 : (IntKind.i64.wrap (IntKind.i64.wrap (N * 2) * 6) == IntKind.i64.wrap (p * 36)) = tt := by rw [hw1, hw2, hw36]; exact htt
            have HWD := Lib.hid (HW.out.keep ((Below.refl _ _).drew))
            have HOD := Lib.hid (HOL.out.keep (SameAt.of_below ((Below.refl _ _).drew)))
            go_wp2_with fail
            go_region_held3 (fun w' => w'.cell? ⟨B, off + k * 2, none⟩ = some (.int .i64 e) ∧ w'.cell? ⟨B, off + k * 2 + 1, none⟩ = some (.int .i64 p)) (first | exact QRd.cell (HV.out.keep (SameAt.of_below HW3.out.1)) HX.out | exact QRd.cell (w := wr) (HV.out.keep (SameAt.of_below HW.out.1)) HX.out) (first
              | (go_at_call 82; refine (l4On_any wr.drew _ (natL l) e HVW.out HG.out e1 e2).mono ?_; rintro r w3 ⟨rfl, b3⟩; rw [HNN.out]; have HW3 := Lib.hid (HWD.out.keep b3); have HO3 := Lib.hid (HOD.out.keep (SameAt.of_below b3)); clear b3))
            all_goals
              go_wp2_with fail
              go_roundw
              case rel => exact ⟨k + 1, tt, by go_num, by omega, rfl, Lib.hid (by rw [HUS.out, ← HB.out]; rfl), HW3, HO3⟩
              case measure => simp [intOf]; omega
        · have HBB : Hid (b = unitFit 2 l qs) := Lib.hid (by have := HB.out; rwa [List.take_of_length_le (by omega)] at this)
          cases b
          · go_wp2_with fail
            refine (l4Step_any wr w.heap.size u l (by omega) (by omega) (by omega) HOL.out).mono ?_
            intro r w6 hstep
            obtain ⟨t', rfl, hW6⟩ := WkRel.step h1 h4 (.inr (.inl rfl)) HW.out.1 HLL.out hstep
            have HW6 := Lib.hid hW6
            clear hW6 hstep
            go_wp2_with fail
            go_roundg (L + 1 - (d + 1))
            case measure => omega
            case rel => exact ⟨d + 1, t', by omega, by omega, rfl, HW6, Lib.hid (fun j hj x hx => by
              rcases Nat.lt_succ_iff_lt_or_eq.1 hj with h1 | h1
              · exact HN.out j h1 x hx
              · subst h1
                rw [HLL.out] at hx
                obtain rfl := Option.some.inj hx
                exact HBB.out.symm)⟩
          · have HF : Hid (anyUnit n 2 qs = true) := Lib.hid (unit_any_at (u := 2) HLL.out HBB.out.symm)
            go_wp2_with fail
            go_ret
            exact ⟨ret_bool HF.out.symm, HW.out.1⟩

def fairB (n : Int) (qs : List Qt) : Bool := bokB n qs && anyFit n.toNat qs

theorem fair_of {n : Nat} {qs : List Qt} (h : bokB (n : Int) qs = true) {a b c : Bool} (ha : anyUnit n 6 qs = a) (hb : anyUnit n 3 qs = b) (hc : anyUnit n 2 qs = c) : fairB n qs = (a || (b || c)) := by
  rw [fairB, h, Int.toNat_natCast, ← fair_units h, ha, hb, hc]; rfl

theorem fair_no {n : Int} {qs : List Qt} (h : bokB n qs = false) : fairB n qs = false := by rw [fairB, h]; rfl

set_option maxHeartbeats 4000000 in
theorem specFairOk_any (w : World) (n : Int) (v : Value) (qs : List Qt) (hv : QRd w v qs) :
    Calls Try.prog 41 #[.int .i64 n, v] w (BoolPost (fairB n qs) w) := by
  have HV := Lib.hid hv
  clear hv
  rcases Bool.eq_false_or_eq_true (bokB n qs) with h | h
  · have HQ := Lib.hid (qts_of h)
    have hw1 : 1 ≤ n := ((bokB_iff _ _).1 h).1.1
    have hw2 : n ≤ 4 := ((bokB_iff _ _).1 h).1.2
    obtain ⟨m, rfl⟩ : ∃ m : Nat, n = m := ⟨n.toNat, by omega⟩
    have hm1 : 1 ≤ m := by omega
    have hm4 : m ≤ 4 := by omega
    obtain ⟨a, ha⟩ : ∃ a, anyUnit m 6 qs = a := ⟨_, rfl⟩
    obtain ⟨b, hb⟩ : ∃ b, anyUnit m 3 qs = b := ⟨_, rfl⟩
    obtain ⟨c, hc⟩ : ∃ c, anyUnit m 2 qs = c := ⟨_, rfl⟩
    have HF := Lib.hid (fair_of h ha hb hc)
    have HA := Lib.hid ha
    have HB := Lib.hid hb
    have HC := Lib.hid hc
    clear ha hb hc
    go_enter Try.func41, Try.ntmps41
    go_wp2_with fail
    refine (specBookOk_any _ _ _ _ HV.out).mono ?_
    rintro r w2 ⟨rfl, b2⟩
    rw [h]
    have HB2 := Lib.hid b2
    have HV2 := Lib.hid (HV.out.keep (SameAt.of_below b2))
    clear b2 h
    go_wp2_with fail
    refine (l4Units_6 w2 m v qs HV2.out HQ.out hm1 hm4).mono ?_
    rintro r w3 ⟨rfl, b3⟩
    rw [HA.out]
    have HB3 := Lib.hid (below_step HB2.out b3 HB2.out.size)
    have HV3 := Lib.hid (HV2.out.keep (SameAt.of_below b3))
    clear b3
    cases a
    · go_wp2_with fail
      refine (l4Units_3 w3 m v qs HV3.out HQ.out hm1 hm4).mono ?_
      rintro r w4 ⟨rfl, b4⟩
      rw [HB.out]
      have HB4 := Lib.hid (below_step HB3.out b4 HB3.out.size)
      have HV4 := Lib.hid (HV3.out.keep (SameAt.of_below b4))
      clear b4
      cases b
      · go_wp2_with fail
        refine (l4Units_2 w4 m v qs HV4.out HQ.out hm1 hm4).mono ?_
        rintro r w5 ⟨rfl, b5⟩
        rw [HC.out]
        have HB5 := Lib.hid (below_step HB4.out b5 HB4.out.size)
        clear b5
        go_wp2_with fail
        go_ret
        exact ⟨ret_bool (by rw [HF.out]; rfl), HB5.out⟩
      · go_wp2_with fail
        go_ret
        exact ⟨ret_bool (by rw [HF.out]; rfl), HB4.out⟩
    · go_wp2_with fail
      go_ret
      exact ⟨ret_bool (by rw [HF.out]; rfl), HB3.out⟩
  · have HN := Lib.hid (fair_no h)
    go_enter Try.func41, Try.ntmps41
    go_wp2_with fail
    refine (specBookOk_any _ _ _ _ HV.out).mono ?_
    rintro r w2 ⟨rfl, b2⟩
    rw [h]
    have HB2 := Lib.hid b2
    clear b2
    go_wp2_with fail
    go_ret
    exact ⟨ret_bool HN.out.symm, HB2.out⟩

end Go.Proofs.Ytebebcomhdjihaa

namespace Go.Proofs.Ytebebcomhdjihaa
open Go.RowKit
set_option linter.unusedVariables false

abbrev Pl := List Qt × List Int

def plB (p : Pl) : Bool := p.2.all stB && (decide (p.2.length = p.1.length) && fairB 4 p.1)

theorem plB_iff (p : Pl) : plB p = true ↔ (∀ s ∈ p.2, -9 ≤ s ∧ s ≤ 9) ∧ p.2.length = p.1.length ∧ fairB 4 p.1 = true := by
  simp only [plB, Bool.and_eq_true, List.all_eq_true, decide_eq_true_eq, stB_iff]

theorem pl_bok {p : Pl} (h : plB p = true) : bokB 4 p.1 = true := by
  have := ((plB_iff p).1 h).2.2
  rw [fairB, Bool.and_eq_true] at this
  exact this.1

theorem pl_len {p : Pl} (h : plB p = true) : p.1.length ≤ 3 ∧ p.2.length = p.1.length :=
  ⟨((bokB_iff _ _).1 (pl_bok h)).2.1, ((plB_iff p).1 h).2.1⟩

theorem pl_nil : plB ([], []) = true := by
  refine (plB_iff _).2 ⟨fun s hs => (by cases hs), rfl, ?_⟩
  have hb : bokB 4 [] = true := (bokB_iff _ _).2 ⟨by omega, by simp, fun q hq => (by cases hq)⟩
  show (bokB 4 [] && anyFit 4 []) = true
  rw [hb, Bool.true_and]
  exact List.any_eq_true.2 ⟨[36, 0, 0, 0], (mem_lay 3 36 _).2 ⟨rfl, rfl⟩, (fitI_iff _ _).2 (fun q hq => by cases hq)⟩

abbrev Dk := Pl × List Pl

def dkB (d : Dk) : Bool := d.2.all plB && (plB d.1 && decide (d.2.length ≤ 8))

theorem dkB_iff (d : Dk) : dkB d = true ↔ (∀ p ∈ d.2, plB p = true) ∧ plB d.1 = true ∧ d.2.length ≤ 8 := by
  simp only [dkB, Bool.and_eq_true, List.all_eq_true, decide_eq_true_eq]

end Go.Proofs.Ytebebcomhdjihaa

namespace Go.Proofs.Ytebebcomhdjihaa
set_option linter.unusedVariables false

section
variable {P : Program} {ops : Array Oper} {Q : Exit → Act → World → Prop} {md : Region.Mode} {S : World → Prop}

theorem take_in {i : Nat} {oi : Oper} {v : Value} {fuel : Nat} {listed : Array Bool} {a : Act} {w : World} (hi : ops.toList[i]? = some oi)
    (hk : (Region.noSelect ops && Region.free md ops listed i && (Region.ready md ops listed).contains i) = true)
    (hQ : ∀ c a w, Q (.panic c) (a.put oi.dst v) w → Q (.panic c) a w) (hw : Region.wanted oi (yielded ops a.tmps) = true) (hy : ∀ w, S w → (execOp a.eval oi).run P w = .ok (.value v) w) (hS : S w)
    (h : wpAnyH P md ops Q S fuel (listed.setIfInBounds i true) (a.put oi.dst v) w) : wpAnyH P md ops Q S (fuel + 1) listed a w := by
  simp only [Bool.and_eq_true] at hk
  exact wpAnyH_take (by rwa [Array.getElem?_toList] at hi) hk.1.1 hk.1.2 hk.2 hQ (.inl ⟨hw, hy⟩) hS h

theorem take_out {i : Nat} {oi : Oper} {fuel : Nat} {listed : Array Bool} {a : Act} {w : World} (hi : ops.toList[i]? = some oi)
    (hk : (Region.noSelect ops && Region.free md ops listed i && (Region.ready md ops listed).contains i) = true)
    (hQ : ∀ c a w, Q (.panic c) (a.put oi.dst undef) w → Q (.panic c) a w) (hw : Region.wanted oi (yielded ops a.tmps) = false) (hS : S w)
    (h : wpAnyH P md ops Q S fuel (listed.setIfInBounds i true) (a.put oi.dst undef) w) : wpAnyH P md ops Q S (fuel + 1) listed a w := by
  simp only [Bool.and_eq_true] at hk
  exact wpAnyH_take (by rwa [Array.getElem?_toList] at hi) hk.1.1 hk.1.2 hk.2 hQ (.inr ⟨hw, rfl⟩) hS h

end

section
variable {P : Program} {ops : Array Oper} {Q : Exit → Act → World → Prop} {md : Region.Mode} {S : World → Prop}

theorem ready_one {i : Nat} {oi : Oper} {fuel : Nat} {listed : Array Bool} {a : Act} {w : World} (hi : ops.toList[i]? = some oi) (hr : Region.ready md ops listed = [i])
    (h : ∀ K' : Act → World → Prop, Shut (∀ a w, S w → (S w → wpAnyH P md ops Q S fuel (listed.setIfInBounds i true) a w) → K' a w) → if Region.wanted oi (yielded ops a.tmps) = true then Oper.wp P oi a w K' Q else K' (a.put oi.dst undef) w) :
    wpAnyH P md ops Q S (fuel + 1) listed a w :=
  wpAnyH_ready hr (by simp) (AllReadyH.cons (by rwa [Array.getElem?_toList] at hi) h AllReadyH.nil)

theorem ready_two {i j : Nat} {oi oj : Oper} {fuel : Nat} {listed : Array Bool} {a : Act} {w : World} (hi : ops.toList[i]? = some oi) (hj : ops.toList[j]? = some oj) (hr : Region.ready md ops listed = [i, j])
    (h : ∀ K' : Act → World → Prop, Shut (∀ a w, S w → (S w → wpAnyH P md ops Q S fuel (listed.setIfInBounds i true) a w) → K' a w) → if Region.wanted oi (yielded ops a.tmps) = true then Oper.wp P oi a w K' Q else K' (a.put oi.dst undef) w)
    (k : ∀ K' : Act → World → Prop, Shut (∀ a w, S w → (S w → wpAnyH P md ops Q S fuel (listed.setIfInBounds j true) a w) → K' a w) → if Region.wanted oj (yielded ops a.tmps) = true then Oper.wp P oj a w K' Q else K' (a.put oj.dst undef) w) :
    wpAnyH P md ops Q S (fuel + 1) listed a w :=
  wpAnyH_ready hr (by simp) (AllReadyH.cons (by rwa [Array.getElem?_toList] at hi) h (AllReadyH.cons (by rwa [Array.getElem?_toList] at hj) k AllReadyH.nil))

theorem step_append {o : Oper} {a : Act} {w w' : World} {v : Value} {K : Act → World → Prop} {E : Prop} {s x : Operand} {t : TypeId} (hgd : o.guard = none)
    (ho : o.op = .call { callee := .builtin .append, args := #[s, x], argTypes := #[t, t] }) (hr : (Builtin.append_ #[t, t] o.type #[a.eval s, a.eval x]).run P w = .ok v w') (h : K (a.put o.dst v) w') :
    if Region.wanted o (yielded ops a.tmps) = true then Oper.wp P o a w K Q else E := by
  rw [if_pos (by simp [Region.wanted, hgd])]
  unfold Oper.wp execOp
  simp only [ho, resolve, invoke, builtin, Sem.run_bind, Sem.run_pure, Result.andThen_ok, List.map_toArray, List.map_cons, List.map_nil, hr]
  exact h

end

end Go.Proofs.Ytebebcomhdjihaa

namespace Go.Proofs.Ytebebcomhdjihaa
open Go.RowKit
set_option linter.unusedVariables false

theorem bs_at {S : ByteArray} {k : Nat} (hk : k < S.size) : (bs S)[k]? = some (S[k]'hk) := by
  rw [List.getElem?_eq_getElem (by rw [bs_len]; exact hk)]; rfl

def TOwn (w : World) (base : Nat) (v : Value) (ps : List ByteArray) : Prop := w.ownsRow base 9 1 v ps.length (ps.map Value.string)

end Go.Proofs.Ytebebcomhdjihaa

namespace Go.Proofs.Ytebebcomhdjihaa
open Go.RowKit
set_option linter.unusedVariables false

theorem val_from (l : List UInt8) (h : ∀ c ∈ l, 48 ≤ c.toNat ∧ c.toNat ≤ 57) (n : Nat) : l.foldl (fun n c => 10 * n + (c.toNat - 48)) n + 1 ≤ (n + 1) * 10 ^ l.length := by
  induction l generalizing n with
  | nil => simp
  | cons c l ih =>
    have h1 := ih (fun d hd => h d (by simp [hd])) (10 * n + (c.toNat - 48))
    have h2 := h c (by simp)
    have h3 : (10 * n + (c.toNat - 48) + 1) * 10 ^ l.length ≤ (10 * (n + 1)) * 10 ^ l.length := Nat.mul_le_mul_right _ (by omega)
    have h4 : (n + 1) * 10 ^ (c :: l).length = (10 * (n + 1)) * 10 ^ l.length := by
      rw [List.length_cons, Nat.pow_succ, Nat.mul_comm 10 (n + 1), Nat.mul_assoc, Nat.mul_comm 10 (10 ^ l.length)]
    rw [List.foldl_cons, h4]
    exact Nat.le_trans h1 h3

theorem val_lt (l : List UInt8) (h : ∀ c ∈ l, 48 ≤ c.toNat ∧ c.toNat ≤ 57) : valN l < 10 ^ l.length := by
  have := val_from l h 0
  unfold valN
  omega

def DigRel (S : ByteArray) (k n : Nat) : Prop := n = valN ((bs S).take k) ∧ ∀ c ∈ (bs S).take k, 48 ≤ c.toNat ∧ c.toNat ≤ 57

theorem DigRel.step {S : ByteArray} {k n b : Nat} (h : DigRel S k n) (hk : k < S.size) (hb : (S[k]'hk).toNat = b) (h1 : 48 ≤ b) (h2 : b ≤ 57) : DigRel S (k + 1) (10 * n + (b - 48)) := by
  refine ⟨?_, fun c hc => ?_⟩
  · rw [List.take_add_one, bs_at hk, Option.toList_some, val_snoc, ← h.1, hb]
  · rw [List.take_add_one, bs_at hk, Option.toList_some, List.mem_append, List.mem_singleton] at hc
    rcases hc with hc | rfl
    · exact h.2 c hc
    · omega

theorem DigRel.lt {S : ByteArray} {k n : Nat} (h : DigRel S k n) (hk : k ≤ 6) : n < 1000000 := by
  have h1 := val_lt _ h.2
  rw [← h.1] at h1
  have h2 : ((bs S).take k).length ≤ 6 := by rw [List.length_take]; omega
  have h3 : 10 ^ ((bs S).take k).length ≤ 10 ^ 6 := Nat.pow_le_pow_right (by omega) h2
  omega

end Go.Proofs.Ytebebcomhdjihaa

namespace Go.Proofs.Ytebebcomhdjihaa
open Go.RowKit
set_option linter.unusedVariables false

theorem pl_cells (w : World) (v u : Value) (wr : World) (h : Below (w.alloc (.cells #[v, u] 26)).heap.size (w.alloc (.cells #[v, u] 26)) wr) :
    wr.cell? ⟨w.heap.size, 0, none⟩ = some v ∧ wr.cell? ⟨w.heap.size, 1, none⟩ = some u := by
  have h1 : Blk (w.alloc (.cells #[v, u] 26)) w.heap.size 26 #[v, u] := heap_alloc_new w _
  have h2 : Blk wr w.heap.size 26 #[v, u] := (h.block w.heap.size (by simp)).trans h1
  exact ⟨h2.cell 0, h2.cell 1⟩

set_option maxRecDepth 100000 in
set_option maxHeartbeats 4000000 in
theorem specPlaceOk_any (w : World) (v u : Value) (qs : List Qt) (ss : List Int) (hv : QRd w v qs) (hu : IRd w u ss) :
    Calls Try.prog 21 #[.agg #[v, u]] w (BoolPost (plB (qs, ss)) w) := by
  obtain ⟨A, c, rfl, hl, hm⟩ := hv.form
  obtain ⟨A', c', rfl, hl', hm', -⟩ := id hu
  obtain ⟨V, hV⟩ : ∃ V, (Value.slice A qs.length c) = V := ⟨_, rfl⟩
  obtain ⟨c0, c1⟩ := pl_cells w (.slice A qs.length c) (.slice A' ss.length c') _ (Below.refl _ _)
  have HB : Hid (Below w.heap.size w (w.alloc (.cells #[.slice A qs.length c, .slice A' ss.length c'] 26))) := Lib.hid ((Below.refl _ _).alloc (Nat.le_refl _) _)
  have HV := Lib.hid (hv.keep (SameAt.of_below HB.out))
  have HU := Lib.hid (hu.keep (SameAt.of_below HB.out))
  clear hv hu hV
  go_enter Try.func21, Try.ntmps21
  go_wp2_with fail
  go_loopw [3] (fun i wr => ∃ k : Nat, i = .int .i64 (k : Int) ∧ k ≤ ss.length ∧ Hid (∀ s ∈ ss.take k, stB s = true) ∧ wr = w.alloc (.cells #[.slice A qs.length c, .slice A' ss.length c'] 26)) (fun i _ => ss.length - (intOf i).toNat)
  case atStart => exact ⟨0, rfl, Nat.zero_le _, Lib.hid (by simp), rfl⟩
  case round =>
    obtain ⟨k, rfl, hk, HS, rfl⟩ := hrel
    by_cases hlt : k < ss.length
    · have hlt' : (k : Int) < (ss.length : Int) := by omega
      have hk0 : (0 : Int) ≤ (k : Int) := by omega
      obtain ⟨G, o, s, rfl, -, hx, hcx⟩ := HU.out.at_ hlt
      have HX := Lib.hid hx
      clear hx
      rcases Bool.eq_false_or_eq_true (stB s) with h1 | h1
      · have HN : Hid (∀ s ∈ ss.take (k + 1), stB s = true) := Lib.hid (fun t ht => by
          rw [List.take_add_one, HX.out, Option.toList_some, List.mem_append, List.mem_singleton] at ht
          rcases ht with ht | rfl
          · exact HS.out t ht
          · exact h1)
        go_wp2_with fail
        refine (l1In_any _ _ _ _).mono ?_
        rintro r w' ⟨rfl, rfl⟩
        rw [show inB s (-9) 9 = true from h1]
        go_wp2_with fail
        go_roundw
        case rel => exact ⟨k + 1, by go_num, by omega, HN, trivial⟩
        case measure => simp [intOf]; omega
      · have HN : Hid (plB (qs, ss) = false) := Lib.hid (by
          rw [plB, Bool.and_eq_false_iff]
          refine .inl ?_
          rw [← Bool.not_eq_true]
          intro h
          have := List.all_eq_true.1 h s (List.mem_of_getElem? HX.out)
          rw [h1] at this
          cases this)
        go_wp2_with fail
        refine (l1In_any _ _ _ _).mono ?_
        rintro r w' ⟨rfl, rfl⟩
        rw [show inB s (-9) 9 = false from h1]
        go_wp2_with fail
        go_ret
        exact ⟨ret_bool HN.out.symm, HB.out⟩
    · obtain rfl : k = ss.length := by omega
      have HA : Hid (ss.all stB = true) := Lib.hid (List.all_eq_true.2 (by have := HS.out; rwa [List.take_length] at this))
      have hlt' : decide ((ss.length : Int) < (ss.length : Int)) = false := by simp
      by_cases he : ss.length = qs.length
      · have HN : Hid (plB (qs, ss) = fairB 4 qs) := Lib.hid (by
          rw [plB, HA.out, Bool.true_and]
          show (decide (ss.length = qs.length) && fairB 4 qs) = _
          rw [decide_eq_true he, Bool.true_and])
        have he' : ((ss.length : Int) == (qs.length : Int)) = true := by rw [he]; simp
        clear he
        go_wp2_with fail
        refine (specFairOk_any _ 4 _ qs HV.out).mono ?_
        rintro r w3 ⟨rfl, b3⟩
        have HB3 := Lib.hid (below_step HB.out b3 HB.out.size)
        clear b3
        go_wp2_with fail
        go_ret
        exact ⟨ret_bool HN.out.symm, HB3.out⟩
      · have HN : Hid (plB (qs, ss) = false) := Lib.hid (by
          rw [plB, HA.out, Bool.true_and]
          show (decide (ss.length = qs.length) && fairB 4 qs) = _
          rw [decide_eq_false he, Bool.false_and])
        have he' : ((ss.length : Int) == (qs.length : Int)) = false := by rw [beq_eq_false_iff_ne]; omega
        clear he
        go_wp2_with fail
        go_ret
        exact ⟨ret_bool HN.out.symm, HB.out⟩

end Go.Proofs.Ytebebcomhdjihaa

namespace Go.Proofs.Ytebebcomhdjihaa
open Go.RowKit
set_option linter.unusedVariables false

def Sane (v : Value) : Prop := v = .slice none 0 0 ∨ ∃ ad n c, v = .slice (some ad) n c

section
variable {α : Type}

theorem flat_get {enc : α → List Value} {c : Nat} (he : ∀ x, (enc x).length = c) (hc : 0 < c) (xs : List α) (j : Nat) : (xs.flatMap enc)[j]? = (xs[j / c]?).bind fun b => (enc b)[j % c]? := by
  induction xs generalizing j with
  | nil => simp
  | cons b bs ih =>
    rw [List.flatMap_cons]
    rcases Nat.lt_or_ge j c with h | h
    · rw [List.getElem?_append_left (by rw [he]; exact h), Nat.div_eq_of_lt h, Nat.mod_eq_of_lt h]; rfl
    · rw [List.getElem?_append_right (by rw [he]; exact h), he, ih]
      have h1 : j / c = (j - c) / c + 1 := by rw [Nat.div_eq_sub_div hc h]
      have h2 : j % c = (j - c) % c := by rw [Nat.mod_eq_sub_mod h]
      rw [h1, h2]; rfl

theorem GRd.src {enc : α → List Value} {c : Nat} {w : World} {u : Value} {ys : List α} (he : ∀ x, (enc x).length = c) (hc : 0 < c) (h : GRd c enc w u ys) (hs : Sane u) :
    (u = .slice none 0 0 ∧ ys = []) ∨ ∃ ad cp, u = .slice (some ad) ys.length cp ∧ ∀ j x, (ys.flatMap enc)[j]? = some x → w.cell? (ad.add j) = some x := by
  obtain ⟨A, cp, rfl, hl, hm, hcell⟩ := h
  rcases Nat.eq_zero_or_pos ys.length with h0 | h0
  · have hy := List.eq_nil_of_length_eq_zero h0
    subst hy
    rcases hs with hs | ⟨ad, n, c', hs⟩
    · exact .inl ⟨hs, rfl⟩
    · injection hs with e1 e2 e3
      subst e1
      exact .inr ⟨ad, cp, rfl, fun j x hx => by simp at hx⟩
  · obtain ⟨b, off, rfl, hb, hcl⟩ := hcell h0
    refine .inr ⟨_, cp, rfl, fun j x hx => ?_⟩
    rw [flat_get he hc] at hx
    cases hq : ys[j / c]? with
    | none => rw [hq] at hx; cases hx
    | some q =>
      rw [hq] at hx
      have := hcl (j / c) q hq (j % c) x hx
      rw [addr_add]
      rw [show off + j = off + j / c * c + j % c from by have := Nat.div_add_mod j c; rw [Nat.mul_comm] at this; omega]
      exact this

theorem GOwn.sane {e : TypeId} {enc : α → List Value} {c : Nat} {w : World} {base : Nat} {v : Value} {xs : List α} (h : GOwn e c enc w base v xs) : Sane v := by
  rcases h.2 with ⟨rfl, h0⟩ | ⟨g, cap, cur, rfl, -⟩
  · exact .inl rfl
  · exact .inr ⟨_, _, _, rfl⟩

theorem run_app_g {e t ty : TypeId} {c bytes : Nat} {enc : α → List Value} {i : TypeInfo} {z : Value} (ht : Try.prog.underlying t = some (.slice e)) (hi : Try.prog.info? e = some i) (hz : i.zero = some z) (hsize : i.size = c) (hby : i.bytes = bytes) (hzs : z.cells.size = c)
    (hc : 0 < c) (he : ∀ x, (enc x).length = c) {w : World} {base : Nat} {v u : Value} {xs ys : List α} (hown : GOwn e c enc w base v xs) (hr : GRd c enc w u ys) (hs : Sane u) (h1 : ∀ y ∈ ys, ∀ x ∈ enc y, x.oneCell' = true)
    (hl : xs.length + ys.length ≤ 4000000) (hb1 : bytes ≤ 1000) (hbase : base ≤ w.heap.size) :
    ∃ v' w', (Builtin.append_ #[t, t] ty #[v, u]).run Try.prog w = .ok v' w' ∧ GOwn e c enc w' base v' (xs ++ ys) ∧ w.grownBy w' v.ownBlock ∧ (v'.ownBlock = v.ownBlock ∨ v'.ownBlock = some w.heap.size) := by
  rcases hr.src he hc hs with ⟨rfl, rfl⟩ | ⟨ad, cp, rfl, hn⟩
  · refine ⟨v, w, run_append_owned_none (P := Try.prog) w base t ty e i c ht hi v xs.length (xs.flatMap enc) hown, by rw [List.append_nil]; exact hown, World.grownBy.refl w _, .inl rfl⟩
  · have hone : ∀ x ∈ ys.flatMap enc, x.oneCell' = true := fun x hx => by
      obtain ⟨y, hy, hxy⟩ := List.mem_flatMap.1 hx
      exact h1 y hy x hxy
    have hbb : (xs.length + ys.length) * bytes ≤ 140737488355328 := Nat.le_trans (Nat.mul_le_mul hl hb1) (by decide)
    obtain ⟨v', w', k1, k2, k3, -, k5⟩ := run_append_own_at (P := Try.prog) w base t ty e i z c bytes ht hi hz hsize hby hzs hc v xs.length (xs.flatMap enc) hown ad ys.length cp (ys.flatMap enc) (flat_len he ys) hn hone (by unfold maxLen; omega) hbb hbase
    refine ⟨v', w', k1, ?_, k3, k5⟩
    unfold GOwn
    rw [List.length_append, List.flatMap_append]
    exact k2

end

theorem lit_src {α : Type} {e : TypeId} {enc : α → List Value} {c : Nat} {w : World} {g : Nat} {x : α} (he : (enc x).length = c) (h : Blk w g e (enc x).toArray) : GRd c enc w (.slice (some ⟨g, 0, none⟩) 1 1) [x] :=
  ⟨_, 1, rfl, by simp, by omega, fun _ => ⟨g, 0, rfl, h.lt, fun i y hy j u hu => by
    match i, hy with
    | 0, hy =>
      obtain rfl := Option.some.inj hy
      rw [Nat.zero_mul, Nat.add_zero, Nat.zero_add, h.cell j]
      simpa using hu
    | i + 1, hy => cases hy⟩⟩

theorem lit_none {α : Type} {e : TypeId} {enc : α → List Value} {c : Nat} (w : World) (base : Nat) (hb : base ≤ w.heap.size) : GOwn (α := α) e c enc (w.alloc (.cells #[] e)) base (.slice (some ⟨w.heap.size, 0, none⟩) 0 0) [] :=
  World.ownsRow_lit w #[] 0 hb (by unfold maxLen; omega) (by simp)

theorem GOwn.alloc {α : Type} {e : TypeId} {enc : α → List Value} {c : Nat} {w : World} {base : Nat} {v : Value} {xs : List α} (h : GOwn e c enc w base v xs) (o : Obj) : GOwn e c enc (w.alloc o) base v xs := World.ownsRow.alloc h o

theorem GOwn.below {α : Type} {e : TypeId} {enc : α → List Value} {c : Nat} {w w' : World} {base : Nat} {v : Value} {xs : List α} (h : GOwn e c enc w base v xs) (hb : Below w.heap.size w w') : GOwn e c enc w' base v xs := h.keep (SameAt.of_below hb)

theorem GOwn.off {α : Type} {e : TypeId} {enc : α → List Value} {c : Nat} {w w' : World} {base : Nat} {v : Value} {xs : List α} {r : Option Nat} (h : GOwn e c enc w base v xs) (hg : w.grownBy w' r) (hne : v.ownBlock = none ∨ v.ownBlock ≠ r) : GOwn e c enc w' base v xs := h.keep (SameAt.of_grown hg hne)

def iC (x : Int) : List Value := [.int .i64 x]

theorem iC_len (x : Int) : (iC x).length = 1 := rfl

theorem flat_iC (xs : List Int) : xs.flatMap iC = xs.map (Value.int .i64) := by
  induction xs with
  | nil => rfl
  | cons x xs ih => rw [List.flatMap_cons, ih]; rfl

theorem iown_g {w : World} {base : Nat} {v : Value} {xs : List Int} : IOwn w base v xs ↔ GOwn 3 1 iC w base v xs := by
  unfold IOwn GOwn
  rw [flat_iC]

theorem ird_g {w : World} {v : Value} {xs : List Int} (h : IRd w v xs) : GRd 1 iC w v xs := by
  obtain ⟨A, c, e, hl, hm, hc⟩ := h
  refine ⟨A, c, e, hl, hm, fun h0 => ?_⟩
  obtain ⟨b, off, e1, e2, e3⟩ := hc h0
  refine ⟨b, off, e1, e2, fun i x hx j u hu => ?_⟩
  match j, hu with
  | 0, hu => obtain rfl := Option.some.inj hu; rw [Nat.mul_one, Nat.add_zero]; exact e3 i x hx
  | j + 1, hu => cases hu

theorem iC_one (xs : List Int) : ∀ y ∈ xs, ∀ x ∈ iC y, x.oneCell' = true := fun y _ x hx => by
  obtain rfl := List.mem_singleton.1 hx; rfl

theorem qC15_one (qs : List Qt) : ∀ y ∈ qs, ∀ x ∈ qC y, x.oneCell' = true := fun y _ x hx => by
  simp only [qC, List.mem_cons, List.not_mem_nil, or_false] at hx
  rcases hx with rfl | rfl <;> rfl

def pC (x : Value × Value) : List Value := [x.1, x.2]

theorem pC_len (x : Value × Value) : (pC x).length = 2 := rfl

theorem Try_qinfo15 : (Try.prog.info? 64).map (fun i => (i.zero, i.size, i.bytes)) = some (some (.agg #[.int .i64 0, .int .i64 0]), 2, 16) := by kernel_rfl

def InS (S : Nat → Prop) (v : Value) : Prop := ∀ g, v.ownBlock = some g → S g

theorem InS.mono {S T : Nat → Prop} {v : Value} (h : InS S v) (hst : ∀ g, S g → T g) : InS T v := fun g hg => hst g (h g hg)

theorem InS.ne {S : Nat → Prop} {v : Value} {g : Nat} (h : InS S v) (hg : ¬ S g) : v.ownBlock = none ∨ v.ownBlock ≠ some g := .inr (fun e => hg (h g e))

def PlRd (S : Nat → Prop) (w : World) (v u : Value) (p : Pl) : Prop := (QRd w v p.1 ∧ Sane v ∧ InS S v) ∧ (IRd w u p.2 ∧ Sane u ∧ InS S u)

theorem PlRd.keep {S : Nat → Prop} {w w' : World} {v u : Value} {p : Pl} (h : PlRd S w v u p) (h1 : SameAt w w' v) (h2 : SameAt w w' u) : PlRd S w' v u p := ⟨⟨h.1.1.keep h1, h.1.2⟩, ⟨h.2.1.keep h2, h.2.2⟩⟩

theorem PlRd.below {S : Nat → Prop} {w w' : World} {v u : Value} {p : Pl} (h : PlRd S w v u p) (hb : Below w.heap.size w w') : PlRd S w' v u p := h.keep (SameAt.of_below hb) (SameAt.of_below hb)

theorem PlRd.off {S : Nat → Prop} {w w' : World} {v u : Value} {p : Pl} {g : Nat} (h : PlRd S w v u p) (hg : w.grownBy w' (some g)) (hs : ¬ S g) : PlRd S w' v u p := h.keep (SameAt.of_grown hg (h.1.2.2.ne hs)) (SameAt.of_grown hg (h.2.2.2.ne hs))

theorem PlRd.mono {S T : Nat → Prop} {w : World} {v u : Value} {p : Pl} (h : PlRd S w v u p) (hst : ∀ g, S g → T g) : PlRd T w v u p := ⟨⟨h.1.1, h.1.2.1, h.1.2.2.mono hst⟩, ⟨h.2.1, h.2.2.1, h.2.2.2.mono hst⟩⟩

theorem PlRd.nil (S : Nat → Prop) (w : World) : PlRd S w (.slice none 0 0) (.slice none 0 0) ([], []) :=
  ⟨⟨GRd.nil _ _ _, .inl rfl, fun g hg => by cases hg⟩, ⟨⟨none, 0, rfl, Nat.le_refl _, by omega, fun h => by simp at h⟩, .inl rfl, fun g hg => by cases hg⟩⟩

def PsRd (S : Nat → Prop) (w : World) (v : Value) (ps : List Pl) : Prop := ∃ us : List (Value × Value), us.length = ps.length ∧ (GRd 2 pC w v us ∧ InS S v) ∧ ∀ (k : Nat) (x : Value × Value) (p : Pl), us[k]? = some x → ps[k]? = some p → PlRd S w x.1 x.2 p

theorem PsRd.below {S : Nat → Prop} {w w' : World} {v : Value} {ps : List Pl} (h : PsRd S w v ps) (hb : Below w.heap.size w w') : PsRd S w' v ps := by
  obtain ⟨us, h1, h2, h3⟩ := h
  exact ⟨us, h1, ⟨h2.1.keep (SameAt.of_below hb), h2.2⟩, fun k x p k1 k2 => (h3 k x p k1 k2).below hb⟩

theorem PsRd.off {S : Nat → Prop} {w w' : World} {v : Value} {ps : List Pl} {g : Nat} (h : PsRd S w v ps) (hg : w.grownBy w' (some g)) (hs : ¬ S g) : PsRd S w' v ps := by
  obtain ⟨us, h1, h2, h3⟩ := h
  exact ⟨us, h1, ⟨h2.1.keep (SameAt.of_grown hg (h2.2.ne hs)), h2.2⟩, fun k x p k1 k2 => (h3 k x p k1 k2).off hg hs⟩

theorem PsRd.mono {S T : Nat → Prop} {w : World} {v : Value} {ps : List Pl} (h : PsRd S w v ps) (hst : ∀ g, S g → T g) : PsRd T w v ps := by
  obtain ⟨us, h1, h2, h3⟩ := h
  exact ⟨us, h1, ⟨h2.1, h2.2.mono hst⟩, fun k x p k1 k2 => (h3 k x p k1 k2).mono hst⟩

theorem PsRd.nil (S : Nat → Prop) (w : World) : PsRd S w (.slice none 0 0) [] := ⟨[], rfl, ⟨GRd.nil _ _ _, fun g hg => by cases hg⟩, fun k x p h => by simp at h⟩

theorem PsRd.form {S : Nat → Prop} {w : World} {v : Value} {ps : List Pl} (h : PsRd S w v ps) : ∃ A cp, v = .slice A ps.length cp ∧ ps.length ≤ cp ∧ cp ≤ 9223372036854775807 := by
  obtain ⟨us, h1, ⟨h2, -⟩, -⟩ := h
  rw [← h1]; exact h2.form

theorem PsRd.at_ {S : Nat → Prop} {w : World} {A : Option Addr} {n cp : Nat} {ps : List Pl} (h : PsRd S w (.slice A n cp) ps) {k : Nat} (hk : k < n) :
    ∃ b off v u p, A = some ⟨b, off, none⟩ ∧ b < w.heap.size ∧ ps[k]? = some p ∧ w.cell? ⟨b, off + k * 2, none⟩ = some v ∧ w.cell? ⟨b, off + k * 2 + 1, none⟩ = some u ∧ PlRd S w v u p := by
  obtain ⟨us, h1, ⟨h2, -⟩, h3⟩ := h
  have hn : n = us.length := by obtain ⟨A', c', e, -⟩ := h2; injection e
  obtain ⟨b, off, x, hA, hb, hx, hc⟩ := h2.at_ hk
  have hkl : k < ps.length := by omega
  obtain ⟨p, hp⟩ : ∃ p, ps[k]? = some p := ⟨_, List.getElem?_eq_getElem hkl⟩
  exact ⟨b, off, x.1, x.2, p, hA, hb, hp, (by have := hc 0 x.1 rfl; rwa [Nat.add_zero] at this), hc 1 x.2 rfl, h3 k x p hx hp⟩

def PsOwn (S : Nat → Prop) (w : World) (base : Nat) (v : Value) (ps : List Pl) : Prop := ∃ us : List (Value × Value), us.length = ps.length ∧ (GOwn 26 2 pC w base v us ∧ InS S v) ∧ ∀ (k : Nat) (x : Value × Value) (p : Pl), us[k]? = some x → ps[k]? = some p → PlRd (fun g => S g ∧ v.ownBlock ≠ some g) w x.1 x.2 p

theorem PsOwn.rd {S : Nat → Prop} {w : World} {base : Nat} {v : Value} {ps : List Pl} (h : PsOwn S w base v ps) : PsRd S w v ps := by
  obtain ⟨us, h1, h2, h3⟩ := h
  exact ⟨us, h1, ⟨h2.1.rd pC_len, h2.2⟩, fun k x p k1 k2 => (h3 k x p k1 k2).mono (fun g hg => hg.1)⟩

theorem PsOwn.below {S : Nat → Prop} {w w' : World} {base : Nat} {v : Value} {ps : List Pl} (h : PsOwn S w base v ps) (hb : Below w.heap.size w w') : PsOwn S w' base v ps := by
  obtain ⟨us, h1, h2, h3⟩ := h
  exact ⟨us, h1, ⟨h2.1.below hb, h2.2⟩, fun k x p k1 k2 => (h3 k x p k1 k2).below hb⟩

theorem PsOwn.off {S : Nat → Prop} {w w' : World} {base : Nat} {v : Value} {ps : List Pl} {g : Nat} (h : PsOwn S w base v ps) (hg : w.grownBy w' (some g)) (hs : ¬ S g) : PsOwn S w' base v ps := by
  obtain ⟨us, h1, h2, h3⟩ := h
  exact ⟨us, h1, ⟨h2.1.off hg (h2.2.ne hs), h2.2⟩, fun k x p k1 k2 => (h3 k x p k1 k2).off hg (fun hh => hs hh.1)⟩

theorem PsOwn.nil (S : Nat → Prop) (w : World) (base : Nat) : PsOwn S w base (.slice none 0 0) [] := ⟨[], rfl, ⟨GOwn.nil _ _ _ _ _, fun g hg => by cases hg⟩, fun k x p h => by simp at h⟩

def DkRd (S : Nat → Prop) (w : World) (v u r : Value) (d : Dk) : Prop := PlRd S w v u d.1 ∧ PsRd S w r d.2

theorem DkRd.below {S : Nat → Prop} {w w' : World} {v u r : Value} {d : Dk} (h : DkRd S w v u r d) (hb : Below w.heap.size w w') : DkRd S w' v u r d := ⟨h.1.below hb, h.2.below hb⟩

theorem DkRd.off {S : Nat → Prop} {w w' : World} {v u r : Value} {d : Dk} {g : Nat} (h : DkRd S w v u r d) (hg : w.grownBy w' (some g)) (hs : ¬ S g) : DkRd S w' v u r d := ⟨h.1.off hg hs, h.2.off hg hs⟩

theorem DkRd.mono {S T : Nat → Prop} {w : World} {v u r : Value} {d : Dk} (h : DkRd S w v u r d) (hst : ∀ g, S g → T g) : DkRd T w v u r d := ⟨h.1.mono hst, h.2.mono hst⟩

theorem DkRd.nil (S : Nat → Prop) (w : World) : DkRd S w (.slice none 0 0) (.slice none 0 0) (.slice none 0 0) (([], []), []) := ⟨PlRd.nil S w, PsRd.nil S w⟩

end Go.Proofs.Ytebebcomhdjihaa

namespace Go.Proofs.Ytebebcomhdjihaa
open Go.RowKit
set_option linter.unusedVariables false

theorem grow_trans {w w1 w2 : World} {r : Option Nat} (h : w.grownBy w1 r) (k : w1.grownBy w2 r) : w.grownBy w2 r :=
  ⟨k.os.trans h.os, k.tape.trans h.tape, k.output.trans h.output, Nat.le_trans h.size k.size, fun i hi hne => (k.block i (by have := h.size; omega) hne).trans (h.block i hi hne)⟩

theorem grow_far {w w1 w2 : World} {r s : Option Nat} (h : w.grownBy w1 r) (k : w1.grownBy w2 s) (hs : ∀ g, s = some g → w.heap.size ≤ g) : w.grownBy w2 r :=
  ⟨k.os.trans h.os, k.tape.trans h.tape, k.output.trans h.output, Nat.le_trans h.size k.size, fun i hi hne => (k.block i (by have := h.size; omega) (fun e => by have := hs i e.symm; omega)).trans (h.block i hi hne)⟩

def GamRel (w : World) (R P : Nat) (p : Value) (xs : List Int) (wr : World) : Prop := Rd wr R P ∧ IOwn wr w.heap.size p xs ∧ w.grownBy wr (some R) ∧ R < w.heap.size

theorem GamRel.picked {w wr w' : World} {R P Q : Nat} {p : Value} {xs : List Int} (h : GamRel w R P p xs wr) (k : Picked R Q wr w') : GamRel w R Q p xs w' := by
  obtain ⟨h1, h2, h3, h4⟩ := h
  refine ⟨k.rd, h2.keep (SameAt.of_grown k.grown ?_), grow_trans h3 k.grown, h4⟩
  rcases hv : p.ownBlock with _ | g
  · exact .inl rfl
  · refine .inr fun e => ?_
    have := (h2.ge g hv).1
    injection e with e
    omega

theorem GamRel.append {w wr w' : World} {R P : Nat} {p p' : Value} {xs ys : List Int} (h : GamRel w R P p xs wr) (ho : IOwn w' w.heap.size p' ys) (hg : wr.grownBy w' p.ownBlock) : GamRel w R P p' ys w' := by
  obtain ⟨h1, h2, h3, h4⟩ := h
  exact ⟨h1.grown hg (fun g hg' => by have := (h2.ge g hg').1; omega), ho, grow_far h3 hg (fun g hg' => (h2.ge g hg').1), h4⟩

theorem GamRel.start {w : World} {R P : Nat} (h : Rd w R P) : GamRel w R P (.slice (some ⟨w.heap.size, 0, none⟩) 0 0) [] (w.alloc (.cells #[] 3)) :=
  ⟨h.keep (by simp) (fun b hb => Below.heap_alloc w _ b hb), World.ownsRow_lit w #[] 0 (Nat.le_refl _) (by unfold maxLen; omega) rfl, World.grownBy_alloc _ _ _, h.lt⟩

def Amt (B : Int) (xs : List Int) : Prop := ∀ x ∈ xs, -B ≤ x ∧ x ≤ B

theorem Amt.mono {B C : Int} {xs : List Int} (h : Amt B xs) (hBC : B ≤ C) : Amt C xs := fun x hx => by have := h x hx; omega

theorem Amt.at_ {B : Int} {xs : List Int} (h : Amt B xs) {k : Nat} {x : Int} (hx : xs[k]? = some x) : -B ≤ x ∧ x ≤ B := h x (List.mem_of_getElem? hx)

theorem GamRel.cell {w wr : World} {R P g n cap : Nat} {xs : List Int} {k : Nat} {x : Int} (h : GamRel w R P (.slice (some ⟨g, 0, none⟩) n cap) xs wr) (hx : xs[k]? = some x) : wr.cell? ⟨g, k, none⟩ = some (.int .i64 x) := by
  have hk : k < xs.length := by
    rcases Nat.lt_or_ge k xs.length with h1 | h1
    · exact h1
    · rw [List.getElem?_eq_none h1] at hx; cases hx
  obtain ⟨A, c, e, hl, hm, hc⟩ := h.2.1.rd
  injection e with e1 e2 e3
  obtain ⟨b, off, hA, -, hcell⟩ := hc (by omega)
  rw [← e1] at hA
  injection hA with hA
  injection hA with hb ho
  subst hb
  subst ho
  simpa using hcell k x hx

theorem GamRel.frozen {w wr : World} {R P g n cap : Nat} {xs : List Int} (h : GamRel w R P (.slice (some ⟨g, 0, none⟩) n cap) xs wr) (k : Nat) : wr.frozen? ⟨g, k, none⟩ = false := by
  have ho := h.2.1
  unfold IOwn at ho
  rcases ho.2 with ⟨e, -⟩ | ⟨g', cap', cur, e, hb, hg, rest⟩
  · cases e
  · injection e with e1 e2 e3
    injection e1 with e1
    injection e1 with e1
    subst e1
    simp [World.frozen?, hg]

theorem GamRel.mono {w wr : World} {R P Q : Nat} {p : Value} {xs : List Int} (h : GamRel w R P p xs wr) (hPQ : P ≤ Q) : GamRel w R Q p xs wr := ⟨h.1.mono hPQ, h.2⟩

theorem GamRel.form {w wr : World} {R P : Nat} {p : Value} {xs : List Int} (h : GamRel w R P p xs wr) (hn : 0 < xs.length) : ∃ g cap, p = .slice (some ⟨g, 0, none⟩) xs.length cap ∧ xs.length ≤ cap ∧ cap ≤ 9223372036854775807 := by
  obtain ⟨g, cap, e, -, -⟩ := World.ownsRow.form h.2.1 hn
  obtain ⟨A, c, e', hl, hm, -⟩ := h.2.1.rd
  rw [e] at e'
  injection e' with e1 e2 e3
  exact ⟨g, cap, e, by omega, by omega⟩

end Go.Proofs.Ytebebcomhdjihaa

namespace Go.Proofs.Ytebebcomhdjihaa
open Go.RowKit
set_option linter.unusedVariables false

end Go.Proofs.Ytebebcomhdjihaa

namespace Go.Proofs.Ytebebcomhdjihaa
open Go.RowKit
set_option linter.unusedVariables false

theorem Picked.far {R P : Nat} {w w' : World} {v : Value} {xs : List Int} {base : Nat} (h : Picked R P w w') (o : IOwn w base v xs) (hb : R < base) : IOwn w' base v xs := by
  refine o.keep (SameAt.of_grown h.grown ?_)
  rcases hv : v.ownBlock with _ | g
  · exact .inl rfl
  · refine .inr fun e => ?_
    have := (o.ge g hv).1
    injection e with e
    omega

end Go.Proofs.Ytebebcomhdjihaa

namespace Go.Proofs.Ytebebcomhdjihaa
open Go.RowKit
set_option linter.unusedVariables false

def DR (w : World) (R P : Nat) (wr : World) : Prop := Rd wr R P ∧ w.grownBy wr (some R) ∧ R < w.heap.size

theorem DR.start {w : World} {R P : Nat} (h : Rd w R P) : DR w R P w := ⟨h, World.grownBy.refl _ _, h.lt⟩

theorem DR.picked {w wr w' : World} {R P Q : Nat} (h : DR w R P wr) (k : Picked R Q wr w') : DR w R Q w' := ⟨k.rd, grow_trans h.2.1 k.grown, h.2.2⟩

theorem DR.alloc {w wr : World} {R P : Nat} (h : DR w R P wr) (o : Obj) : DR w R P (wr.alloc o) :=
  ⟨h.1.keep (by simp) (fun b hb => Below.heap_alloc wr _ b hb), grow_trans h.2.1 (World.grownBy_alloc _ _ _), h.2.2⟩

theorem DR.drew {w wr : World} {R P : Nat} (h : DR w R P wr) : DR w R P wr.drew := ⟨h.1, ⟨h.2.1.os, h.2.1.tape, h.2.1.output, h.2.1.size, h.2.1.block⟩, h.2.2⟩

theorem DR.trans {w wr w' : World} {R P Q : Nat} (h : DR w R P wr) (k : DR wr R Q w') : DR w R Q w' := ⟨k.1, grow_trans h.2.1 k.2.1, h.2.2⟩

theorem DR.mono {w wr : World} {R P Q : Nat} (h : DR w R P wr) (hPQ : P ≤ Q) : DR w R Q wr := ⟨h.1.mono hPQ, h.2⟩

theorem DR.grown {w wr w' : World} {R P : Nat} {row : Option Nat} (h : DR w R P wr) (hg : wr.grownBy w' row) (hr : ∀ g, row = some g → w.heap.size ≤ g) : DR w R P w' :=
  ⟨h.1.grown hg (fun g hg' => by have := hr g hg'; have := h.2.2; omega), grow_far h.2.1 hg hr, h.2.2⟩

theorem DR.setCell {w wr : World} {R P g k : Nat} (h : DR w R P wr) (hg : w.heap.size ≤ g) (u : Value) : DR w R P (wr.setCell ⟨g, k, none⟩ u) :=
  h.grown (row := some g) ⟨rfl, rfl, rfl, by simp [World.setCell], fun b hb hne => Below.heap_setCell wr ⟨g, k, none⟩ u b (fun e => hne (by rw [e]))⟩ (fun g' hg' => by injection hg' with hg'; omega)

theorem DR.size {w wr : World} {R P : Nat} (h : DR w R P wr) : w.heap.size ≤ wr.heap.size := h.2.1.size

theorem Blk.picked {w w' : World} {R P g : Nat} {t : TypeId} {cs : Array Value} (h : Blk w g t cs) (k : Picked R P w w') (hne : g ≠ R) : Blk w' g t cs :=
  h.more (k.grown.block g h.lt (fun e => hne (by injection e)))

theorem Blk.dr {w w' : World} {R P g : Nat} {t : TypeId} {cs : Array Value} (h : Blk w g t cs) (k : DR w R P w') (hne : g ≠ R) : Blk w' g t cs :=
  h.more (k.2.1.block g h.lt (fun e => hne (by injection e)))

theorem blk_alloc (w : World) (cs : Array Value) (t : TypeId) : Blk (w.alloc (.cells cs t)) w.heap.size t cs := heap_alloc_new w _

theorem GOwn.dr {α : Type} {e : TypeId} {c : Nat} {enc : α → List Value} {w w' : World} {R P base : Nat} {v : Value} {xs : List α} (o : GOwn e c enc w base v xs) (k : DR w R P w') (hb : R < base) : GOwn e c enc w' base v xs := by
  refine o.keep (SameAt.of_grown k.2.1 ?_)
  rcases hv : v.ownBlock with _ | g
  · exact .inl rfl
  · refine .inr fun e => ?_
    have := (o.ge g hv).1
    injection e with e
    omega

theorem far_grownI {w w' : World} {R : Nat} {v : Value} {xs : List Int} {base : Nat} (h : w.grownBy w' (some R)) (o : IOwn w base v xs) (hb : R < base) : IOwn w' base v xs := by
  refine o.keep (SameAt.of_grown h ?_)
  rcases hv : v.ownBlock with _ | g
  · exact .inl rfl
  · refine .inr fun e => ?_
    have := (o.ge g hv).1
    injection e with e
    omega

theorem IOwn.dr {w w' : World} {R P base : Nat} {v : Value} {xs : List Int} (o : IOwn w base v xs) (k : DR w R P w') (hb : R < base) : IOwn w' base v xs := far_grownI k.2.1 o hb

end Go.Proofs.Ytebebcomhdjihaa

namespace Go.Proofs.Ytebebcomhdjihaa
open Go.RowKit
set_option linter.unusedVariables false

theorem IsRowC.alloc {k : IntKind} {w : World} {a : Option Addr} {len cap : Nat} {zs : List Int} (h : IsRowC k w a len cap zs) (o : Obj) : IsRowC k (w.alloc o) a len cap zs := by
  rcases h with h | ⟨x, rfl, hl, hm, hz, hcell, hwz⟩
  · exact .inl h
  · refine .inr ⟨x, rfl, hl, hm, hz, fun i hi => ?_, hwz⟩
    have hc := hcell i hi
    have hlt := World.block_lt_of_cell? w _ hc
    exact (World.cell?_of_block (Below.heap_alloc w o _ hlt)).trans hc

theorem open_at (w : World) (R : Nat) (a : Option Addr) (len cap : Nat) (zs : List Int) (hR : w.heap.size = R) (h : IsRowC .u8 w a len cap zs) :
    Calls Try.prog 32 #[.slice a len cap] w fun e w' => e = .returned (.pointer (some ⟨R, 0, none⟩)) ∧ DR w' R 0 w' ∧ Below w.heap.size w w' ∧ w'.heap.size = R + 1 := by
  subst hR
  refine (open_any w a len cap zs h).mono ?_
  rintro e w' ⟨rfl, ho⟩
  exact ⟨rfl, DR.start ho.rd, ho.below, ho.size⟩

end Go.Proofs.Ytebebcomhdjihaa

namespace Go.Proofs.Ytebebcomhdjihaa
open Go.RowKit
set_option linter.unusedVariables false

theorem Blk.alloc {w : World} {g : Nat} {t : TypeId} {cs : Array Value} (h : Blk w g t cs) (o : Obj) : Blk (w.alloc o) g t cs := h.more (Below.heap_alloc w o g h.lt)

theorem Blk.set_far {w : World} {g b k : Nat} {t : TypeId} {cs : Array Value} (h : Blk w g t cs) (u : Value) (hne : g ≠ b) : Blk (w.setCell ⟨b, k, none⟩ u) g t cs :=
  h.more (Below.heap_setCell w ⟨b, k, none⟩ u g hne)

def StRel (w : World) (R P g : Nat) (q : Qt) (wr : World) : Prop := DR w R P wr ∧ Blk wr w.heap.size 64 #[.int .i64 0, .int .i64 0] ∧ Blk wr g 64 #[.int .i64 q.1, .int .i64 q.2] ∧ g ≠ R ∧ w.heap.size ≠ R ∧ w.heap.size < g

theorem StRel.picked {w wr w' : World} {R P Q g : Nat} {q : Qt} (h : StRel w R P g q wr) (k : Picked R Q wr w') : StRel w R Q g q w' := by
  obtain ⟨h1, h2, h3, h4, h5, h6⟩ := h
  exact ⟨h1.picked k, h2.picked k h5, h3.picked k h4, h4, h5, h6⟩

theorem StRel.drew {w wr : World} {R P g : Nat} {q : Qt} (h : StRel w R P g q wr) : StRel w R P g q wr.drew := ⟨h.1.drew, h.2⟩

theorem StRel.alloc {w wr : World} {R P g : Nat} {q : Qt} (h : StRel w R P g q wr) (o : Obj) : StRel w R P g q (wr.alloc o) :=
  ⟨h.1.alloc o, h.2.1.alloc o, h.2.2.1.alloc o, h.2.2.2⟩

theorem StRel.price {w wr : World} {R P g : Nat} {q : Qt} (h : StRel w R P g q wr) (x : Int) : StRel w R P g (q.1, x) (wr.setCell ⟨g, 1, none⟩ (.int .i64 x)) := by
  obtain ⟨h1, h2, h3, h4, h5, h6⟩ := h
  exact ⟨h1.setCell (by omega) _, h2.set_far _ (by omega), h3.set_ 1 _, h4, h5, h6⟩

theorem StRel.cells {w wr : World} {R P g : Nat} {q : Qt} (h : StRel w R P g q wr) :
    (wr.cell? ⟨g, 0, none⟩ = some (.int .i64 q.1) ∧ wr.cell? ⟨g, 1, none⟩ = some (.int .i64 q.2)) ∧ wr.cell? ⟨w.heap.size, 0, none⟩ = some (.int .i64 0) ∧ wr.cell? ⟨w.heap.size, 1, none⟩ = some (.int .i64 0) ∧ wr.frozen? ⟨w.heap.size, 0, none⟩ = false ∧ wr.frozen? ⟨w.heap.size, 1, none⟩ = false :=
  ⟨⟨h.2.2.1.cell 0, h.2.2.1.cell 1⟩, h.2.1.cell 0, h.2.1.cell 1, h.2.1.frozen 0, h.2.1.frozen 1⟩

theorem StRel.fin {w wr : World} {R P g : Nat} {q : Qt} (h : StRel w R P g q wr) :
    (((wr.setCell ⟨w.heap.size, 0, none⟩ (.int .i64 q.1)).setCell ⟨w.heap.size, 1, none⟩ (.int .i64 q.2)).cell? ⟨w.heap.size, 0, none⟩ = some (.int .i64 q.1)) ∧
    (((wr.setCell ⟨w.heap.size, 0, none⟩ (.int .i64 q.1)).setCell ⟨w.heap.size, 1, none⟩ (.int .i64 q.2)).cell? ⟨w.heap.size, 1, none⟩ = some (.int .i64 q.2)) ∧
    DR w R P ((wr.setCell ⟨w.heap.size, 0, none⟩ (.int .i64 q.1)).setCell ⟨w.heap.size, 1, none⟩ (.int .i64 q.2)) := by
  have BB := (h.2.1.set_ 0 (.int .i64 q.1)).set_ 1 (.int .i64 q.2)
  exact ⟨BB.cell 0, BB.cell 1, (h.1.setCell (Nat.le_refl _) _).setCell (Nat.le_refl _) _⟩

end Go.Proofs.Ytebebcomhdjihaa

namespace Go.Proofs.Ytebebcomhdjihaa
open Go.RowKit
set_option linter.unusedVariables false

theorem Blk.fin {w : World} {g : Nat} {t : TypeId} {x y : Value} (h : Blk w g t #[x, y]) (u v : Value) :
    ((w.setCell ⟨g, 0, none⟩ u).setCell ⟨g, 1, none⟩ v).cell? ⟨g, 0, none⟩ = some u ∧ ((w.setCell ⟨g, 0, none⟩ u).setCell ⟨g, 1, none⟩ v).cell? ⟨g, 1, none⟩ = some v := by
  have BB := (h.set_ 0 u).set_ 1 v
  exact ⟨BB.cell 0, BB.cell 1⟩

end Go.Proofs.Ytebebcomhdjihaa

namespace Go.Proofs.Ytebebcomhdjihaa
open Go.RowKit
set_option linter.unusedVariables false

theorem TOwn.cell {w : World} {base g n c : Nat} {ps : List ByteArray} (h : TOwn w base (.slice (some ⟨g, 0, none⟩) n c) ps) {k : Nat} {p : ByteArray} (hu : ps[k]? = some p) : w.cell? ⟨g, k, none⟩ = some (.string p) := by
  have hk : k < ps.length := (List.getElem?_eq_some_iff.1 hu).1
  have hn : n = ps.length := by
    rcases h.2 with ⟨e, -⟩ | ⟨g', cap, cur, e, -⟩
    · cases e
    · injection e with e1 e2 e3
  subst hn
  have := World.ownsRow.cellAt h k (by omega)
  rw [this, List.getElem?_map, hu]; rfl

theorem TOwn.below {w w' : World} {base : Nat} {v : Value} {ps : List ByteArray} (h : TOwn w base v ps) (hb : Below w.heap.size w w') : TOwn w' base v ps := by
  refine ⟨h.1, ?_⟩
  rcases h.2 with hn | ⟨g, cap, cur, rfl, hb', hg, rest⟩
  · exact .inl hn
  · exact .inr ⟨g, cap, cur, rfl, hb', (hb.block g (Array.getElem?_eq_some_iff.1 hg).1).trans hg, rest⟩

theorem set1_grown (X : World) (g k : Nat) (u : Value) : X.grownBy (X.setCell ⟨g, k, none⟩ u) (some g) :=
  ⟨rfl, rfl, rfl, by simp [World.setCell], fun b hb hne => Below.heap_setCell X ⟨g, k, none⟩ u b (fun e => hne (by rw [e]))⟩

theorem grow3 {w w1 w2 : World} {r : Option Nat} (h : w.grownBy w1 r) (k : w1.grownBy w2 r) : w.grownBy w2 r :=
  ⟨k.os.trans h.os, k.tape.trans h.tape, k.output.trans h.output, Nat.le_trans h.size k.size, fun i hi hne => (k.block i (Nat.lt_of_lt_of_le hi h.size) hne).trans (h.block i hi hne)⟩

theorem set3_grown (X : World) (g : Nat) (u0 u1 u2 : Value) : X.grownBy (((X.setCell ⟨g, 0, none⟩ u0).setCell ⟨g, 1, none⟩ u1).setCell ⟨g, 2, none⟩ u2) (some g) :=
  grow3 (grow3 (set1_grown X g 0 u0) (set1_grown _ g 1 u1)) (set1_grown _ g 2 u2)

theorem MOwn.kept {X X' : World} {base g : Nat} {v : Value} {ms : List Mk} (o : MOwn X base v ms) (hg : X.grownBy X' (some g)) (hb : g < base) : MOwn X' base v ms := by
  refine GOwn.keep o (SameAt.of_grown hg ?_)
  rcases hv : v.ownBlock with _ | b
  · exact .inl rfl
  · refine .inr fun e => ?_
    have := (GOwn.ge o b hv).1
    injection e with e
    omega

end Go.Proofs.Ytebebcomhdjihaa
