/- Contracts on the walk over measures: spec: l4Units, FairOk. Conditions: stated at each. -/
import Derived.Test.YtfjmlbcmidichaaMe
namespace Go.Proofs.Ytfjmlbcmidichaa
open Go.RowKit
set_option linter.unusedVariables false

def unitFit (u : Int) (c : List Nat) (qs : List Qt) : Bool := qs.all fun q => onI (natL c) q.1 * u * 6 == q.2 * 36

theorem unit_step {u : Int} {c : List Nat} {qs : List Qt} {k : Nat} {q : Qt} (hx : qs[k]? = some q) : unitFit u c (qs.take (k + 1)) = (unitFit u c (qs.take k) && (onI (natL c) q.1 * u * 6 == q.2 * 36)) := by
  rw [unitFit, unitFit, List.take_add_one, hx]
  simp

theorem unit_any_at {n u d : Nat} {qs : List Qt} {l : List Nat} (hd : (lay n (36 / u))[d]? = some l) (h : unitFit u l qs = true) : anyUnit n u qs = true := by
  rw [anyUnit, List.any_eq_true]; exact ⟨l, List.mem_of_getElem? hd, h⟩

theorem unit_any_none {n u : Nat} {qs : List Qt} (h : ∀ j, j < (lay n (36 / u)).length → ∀ x, (lay n (36 / u))[j]? = some x → unitFit u x qs = false) : anyUnit n u qs = false := by
  rw [← Bool.not_eq_true, anyUnit, List.any_eq_true]
  rintro ⟨x, hx, hf⟩
  obtain ⟨j, hj, e⟩ := List.getElem_of_mem hx
  have := h j hj x (by rw [← e]; exact List.getElem?_eq_getElem hj)
  rw [unitFit] at this
  rw [this] at hf; cases hf

theorem lay_grs {n g d : Nat} {l : List Nat} (h1 : 1 ≤ n) (h4 : n ≤ 4) (hg : g ≤ 36) (h : (lay n g)[d]? = some l) : Grs (natL l) := by
  obtain ⟨a, b⟩ := lay_facts h1 h
  refine ⟨fun x hx => ?_, by rw [natL_len]; omega⟩
  obtain ⟨y, hy, rfl⟩ := List.mem_map.1 hx
  have h2 : y ≤ l.sum := by
    clear hx a b h
    induction l with
    | nil => simp at hy
    | cons z l ih =>
      rcases List.mem_cons.1 hy with rfl | h3
      · simp
      · have := ih h3; simp; omega
  constructor
  · exact Int.natCast_nonneg _
  · show (y : Int) ≤ 36
    omega

set_option maxHeartbeats 8000000 in
theorem l4Units_6 (w : World) (n : Nat) (v : Value) (qs : List Qt) (hv : QRd w v qs) (hq : Qts qs) (h1 : 1 ≤ n) (h4 : n ≤ 4) :
    Calls Try.prog 62 #[.int .i64 (n : Int), .int .i64 6, v] w (BoolPost (anyUnit n 6 qs) w) := by
  obtain ⟨A, c, rfl, hl, hmx⟩ := hv.form
  have HV := Lib.hid hv
  have HQ := Lib.hid hq
  clear hv hq
  go_enter Try.func62, Try.ntmps62
  go_wp2_with fail
  refine (l4First_any w n 6 h1 h4).mono ?_
  rintro r w3 ⟨u, rfl, o3, b3⟩
  have H0 := Lib.hid (WkRel.start h1 o3 b3)
  clear o3 b3
  obtain ⟨L, hL⟩ : ∃ L, (lay n 6).length = L := ⟨_, rfl⟩
  have HL := Lib.hid hL
  clear hL
  go_wp2_with fail
  go_loopg [8] (L + 1) (fun gk s wr => ∃ (d : Nat) (t : Bool), gk = L + 1 - d ∧ d ≤ L ∧ s = .bool t ∧ Hid (WkRel w n 6 u d t wr) ∧ Hid (∀ j, j < d → ∀ x, (lay n 6)[j]? = some x → unitFit 6 x qs = false))
  case atStart => exact ⟨0, true, by omega, Nat.zero_le _, rfl, H0, Lib.hid (fun j hj => absurd hj (Nat.not_lt_zero _))⟩
  case round =>
    obtain ⟨d, t, hgk, hd, rfl, HW, HN⟩ := hrel
    clear H0
    cases t
    · have HF : Hid (anyUnit n 6 qs = false) := Lib.hid (unit_any_none (u := 6) (by have h1 := HN.out; obtain ⟨-, l, -, -, h2⟩ := HW.out; show ∀ j, j < (lay n 6).length → _; rw [h2 rfl]; exact h1))
      go_wp2_with fail
      go_ret
      exact ⟨ret_bool HF.out.symm, HW.out.1⟩
    · obtain ⟨-, l, ol, hl, -⟩ := id HW.out
      have hl := hl rfl
      have HLL := Lib.hid hl
      have hdL : d < L := by rw [← HL.out]; exact (List.getElem?_eq_some_iff.1 hl).1
      obtain ⟨hf1, hf2⟩ := lay_facts h1 hl
      have HOL := Lib.hid ol
      have HG : Hid (Grs (natL l)) := Lib.hid (lay_grs h1 h4 (by omega) hl)
      clear hl ol
      go_wp2_with fail
      go_loopw [9, 10] (fun f i wq => ∃ (k : Nat) (b : Bool), i = .int .i64 (k : Int) ∧ k ≤ qs.length ∧ f = .bool b ∧ Hid (b = unitFit 6 l (qs.take k)) ∧ Hid (WkRel w n 6 u d true wq) ∧ Hid (IOwn wq w.heap.size u (natL l))) (fun _ i _ => qs.length - (intOf i).toNat)
      case atStart => exact ⟨0, true, rfl, Nat.zero_le _, rfl, Lib.hid (by simp [unitFit]), HW, HOL⟩
      case round =>
        obtain ⟨k, b, rfl, hk, rfl, HB, HW, HOL⟩ := hrel
        by_cases hlt : k < qs.length
        · have hk0 : (0 : Int) ≤ (k : Int) := by omega
          have hk1 : (k : Int) < (qs.length : Int) := by omega
          obtain ⟨B, off, ⟨e, p⟩, rfl, -, hx, hc0, hc1⟩ := QRd.at_ (HV.out.keep (SameAt.of_below HW.out.1)) hlt
          obtain ⟨⟨e1, e2⟩, p1, p2⟩ := HQ.out _ (List.mem_of_getElem? hx)
          have e1 : 0 ≤ e := e1
          have e2 : e ≤ 15 := e2
          have p1 : 0 ≤ p := p1
          have p2 : p ≤ 6 := p2
          have HX := Lib.hid hx
          have HUS : Hid (unitFit 6 l (qs.take (k + 1)) = (unitFit 6 l (qs.take k) && (onI (natL l) e * 6 * 6 == p * 36))) := Lib.hid (unit_step hx)
          clear hx
          cases b
          · go_wp2_with fail
            go_region
            all_goals
              go_wp2_with fail
              go_roundw
              case rel => exact ⟨k + 1, false, by go_num, by omega, rfl, Lib.hid (by rw [HUS.out, ← HB.out]; rfl), Lib.hid (HW.out.keep ((Below.refl _ _).drew)), Lib.hid (HOL.out.keep (SameAt.of_below ((Below.refl _ _).drew)))⟩
              case measure => simp [intOf]; omega
          · obtain ⟨N, hN⟩ : ∃ N, onI (natL l) e = N := ⟨_, rfl⟩
            obtain ⟨n1, n2⟩ : 0 ≤ N ∧ N ≤ 144 := by
              have := grs_on HG.out e (natL l).length
              rw [List.take_length, hN] at this
              exact this
            have HNN := Lib.hid hN
            rw [hN] at HUS
            clear hN
            have HVW := Lib.hid (HOL.out.rd)
            have hw1 : IntKind.i64.wrap (N * 6) = N * 6 := IntWalk.i64_in _ (by omega)
            have hw2 : IntKind.i64.wrap (N * 6 * 6) = N * 6 * 6 := IntWalk.i64_in _ (by omega)
            have hw36 : IntKind.i64.wrap (p * 36) = p * 36 := IntWalk.i64_in _ (by omega)
            obtain ⟨tt, htt⟩ : ∃ tt, (N * 6 * 6 == p * 36) = tt := ⟨_, rfl⟩
            rw [htt] at HUS
            have ht3 : (IntKind.i64.wrap (IntKind.i64.wrap (N * 6) * 6) == IntKind.i64.wrap (p * 36)) = tt := by rw [hw1, hw2, hw36]; exact htt
            have HWD := Lib.hid (HW.out.keep ((Below.refl _ _).drew))
            have HOD := Lib.hid (HOL.out.keep (SameAt.of_below ((Below.refl _ _).drew)))
            go_wp2_with fail
            go_region_held3 (fun w' => w'.cell? ⟨B, off + k * 2, none⟩ = some (.int .i64 e) ∧ w'.cell? ⟨B, off + k * 2 + 1, none⟩ = some (.int .i64 p)) (first | exact QRd.cell (HV.out.keep (SameAt.of_below HW3.out.1)) HX.out | exact QRd.cell (w := wr) (HV.out.keep (SameAt.of_below HW.out.1)) HX.out) (first
              | (go_at_call 86; refine (l4On_any wr.drew _ (natL l) e HVW.out HG.out e1 e2).mono ?_; rintro r w3 ⟨rfl, b3⟩; rw [HNN.out]; have HW3 := Lib.hid (HWD.out.keep b3); have HO3 := Lib.hid (HOD.out.keep (SameAt.of_below b3)); clear b3))
            all_goals
              go_wp2_with fail
              go_roundw
              case rel => exact ⟨k + 1, tt, by go_num, by omega, rfl, Lib.hid (by rw [HUS.out, ← HB.out]; rfl), HW3, HO3⟩
              case measure => simp [intOf]; omega
        · have HBB : Hid (b = unitFit 6 l qs) := Lib.hid (by have := HB.out; rwa [List.take_of_length_le (by omega)] at this)
          cases b
          · go_wp2_with fail
            refine (l4Step_any wr w.heap.size u l (by omega) (by omega) (by omega) HOL.out).mono ?_
            intro r w6 hstep
            obtain ⟨t', rfl, hW6⟩ := WkRel.step h1 h4 (.inr (.inr (.inr rfl))) HW.out.1 HLL.out hstep
            have HW6 := Lib.hid hW6
            clear hW6 hstep
            go_wp2_with fail
            go_roundg (L + 1 - (d + 1))
            case measure => omega
            case rel => exact ⟨d + 1, t', by omega, by omega, rfl, HW6, Lib.hid (fun j hj x hx => by
              rcases Nat.lt_succ_iff_lt_or_eq.1 hj with h1 | h1
              · exact HN.out j h1 x hx
              · subst h1
                rw [HLL.out] at hx
                obtain rfl := Option.some.inj hx
                exact HBB.out.symm)⟩
          · have HF : Hid (anyUnit n 6 qs = true) := Lib.hid (unit_any_at (u := 6) HLL.out HBB.out.symm)
            go_wp2_with fail
            go_ret
            exact ⟨ret_bool HF.out.symm, HW.out.1⟩

set_option maxHeartbeats 8000000 in
theorem l4Units_3 (w : World) (n : Nat) (v : Value) (qs : List Qt) (hv : QRd w v qs) (hq : Qts qs) (h1 : 1 ≤ n) (h4 : n ≤ 4) :
    Calls Try.prog 62 #[.int .i64 (n : Int), .int .i64 3, v] w (BoolPost (anyUnit n 3 qs) w) := by
  obtain ⟨A, c, rfl, hl, hmx⟩ := hv.form
  have HV := Lib.hid hv
  have HQ := Lib.hid hq
  clear hv hq
  go_enter Try.func62, Try.ntmps62
  go_wp2_with fail
  refine (l4First_any w n 12 h1 h4).mono ?_
  rintro r w3 ⟨u, rfl, o3, b3⟩
  have H0 := Lib.hid (WkRel.start h1 o3 b3)
  clear o3 b3
  obtain ⟨L, hL⟩ : ∃ L, (lay n 12).length = L := ⟨_, rfl⟩
  have HL := Lib.hid hL
  clear hL
  go_wp2_with fail
  go_loopg [8] (L + 1) (fun gk s wr => ∃ (d : Nat) (t : Bool), gk = L + 1 - d ∧ d ≤ L ∧ s = .bool t ∧ Hid (WkRel w n 12 u d t wr) ∧ Hid (∀ j, j < d → ∀ x, (lay n 12)[j]? = some x → unitFit 3 x qs = false))
  case atStart => exact ⟨0, true, by omega, Nat.zero_le _, rfl, H0, Lib.hid (fun j hj => absurd hj (Nat.not_lt_zero _))⟩
  case round =>
    obtain ⟨d, t, hgk, hd, rfl, HW, HN⟩ := hrel
    clear H0
    cases t
    · have HF : Hid (anyUnit n 3 qs = false) := Lib.hid (unit_any_none (u := 3) (by have h1 := HN.out; obtain ⟨-, l, -, -, h2⟩ := HW.out; show ∀ j, j < (lay n 12).length → _; rw [h2 rfl]; exact h1))
      go_wp2_with fail
      go_ret
      exact ⟨ret_bool HF.out.symm, HW.out.1⟩
    · obtain ⟨-, l, ol, hl, -⟩ := id HW.out
      have hl := hl rfl
      have HLL := Lib.hid hl
      have hdL : d < L := by rw [← HL.out]; exact (List.getElem?_eq_some_iff.1 hl).1
      obtain ⟨hf1, hf2⟩ := lay_facts h1 hl
      have HOL := Lib.hid ol
      have HG : Hid (Grs (natL l)) := Lib.hid (lay_grs h1 h4 (by omega) hl)
      clear hl ol
      go_wp2_with fail
      go_loopw [9, 10] (fun f i wq => ∃ (k : Nat) (b : Bool), i = .int .i64 (k : Int) ∧ k ≤ qs.length ∧ f = .bool b ∧ Hid (b = unitFit 3 l (qs.take k)) ∧ Hid (WkRel w n 12 u d true wq) ∧ Hid (IOwn wq w.heap.size u (natL l))) (fun _ i _ => qs.length - (intOf i).toNat)
      case atStart => exact ⟨0, true, rfl, Nat.zero_le _, rfl, Lib.hid (by simp [unitFit]), HW, HOL⟩
      case round =>
        obtain ⟨k, b, rfl, hk, rfl, HB, HW, HOL⟩ := hrel
        by_cases hlt : k < qs.length
        · have hk0 : (0 : Int) ≤ (k : Int) := by omega
          have hk1 : (k : Int) < (qs.length : Int) := by omega
          obtain ⟨B, off, ⟨e, p⟩, rfl, -, hx, hc0, hc1⟩ := QRd.at_ (HV.out.keep (SameAt.of_below HW.out.1)) hlt
          obtain ⟨⟨e1, e2⟩, p1, p2⟩ := HQ.out _ (List.mem_of_getElem? hx)
          have e1 : 0 ≤ e := e1
          have e2 : e ≤ 15 := e2
          have p1 : 0 ≤ p := p1
          have p2 : p ≤ 6 := p2
          have HX := Lib.hid hx
          have HUS : Hid (unitFit 3 l (qs.take (k + 1)) = (unitFit 3 l (qs.take k) && (onI (natL l) e * 3 * 6 == p * 36))) := Lib.hid (unit_step hx)
          clear hx
          cases b
          · go_wp2_with fail
            go_region
            all_goals
              go_wp2_with fail
              go_roundw
              case rel => exact ⟨k + 1, false, by go_num, by omega, rfl, Lib.hid (by rw [HUS.out, ← HB.out]; rfl), Lib.hid (HW.out.keep ((Below.refl _ _).drew)), Lib.hid (HOL.out.keep (SameAt.of_below ((Below.refl _ _).drew)))⟩
              case measure => simp [intOf]; omega
          · obtain ⟨N, hN⟩ : ∃ N, onI (natL l) e = N := ⟨_, rfl⟩
            obtain ⟨n1, n2⟩ : 0 ≤ N ∧ N ≤ 144 := by
              have := grs_on HG.out e (natL l).length
              rw [List.take_length, hN] at this
              exact this
            have HNN := Lib.hid hN
            rw [hN] at HUS
            clear hN
            have HVW := Lib.hid (HOL.out.rd)
            have hw1 : IntKind.i64.wrap (N * 3) = N * 3 := IntWalk.i64_in _ (by omega)
            have hw2 : IntKind.i64.wrap (N * 3 * 6) = N * 3 * 6 := IntWalk.i64_in _ (by omega)
            have hw36 : IntKind.i64.wrap (p * 36) = p * 36 := IntWalk.i64_in _ (by omega)
            obtain ⟨tt, htt⟩ : ∃ tt, (N * 3 * 6 == p * 36) = tt := ⟨_, rfl⟩
            rw [htt] at HUS
            have ht3 : (IntKind.i64.wrap (IntKind.i64.wrap (N * 3) * 6) == IntKind.i64.wrap (p * 36)) = tt := by rw [hw1, hw2, hw36]; exact htt
            have HWD := Lib.hid (HW.out.keep ((Below.refl _ _).drew))
            have HOD := Lib.hid (HOL.out.keep (SameAt.of_below ((Below.refl _ _).drew)))
            go_wp2_with fail
            go_region_held3 (fun w' => w'.cell? ⟨B, off + k * 2, none⟩ = some (.int .i64 e) ∧ w'.cell? ⟨B, off + k * 2 + 1, none⟩ = some (.int .i64 p)) (first | exact QRd.cell (HV.out.keep (SameAt.of_below HW3.out.1)) HX.out | exact QRd.cell (w := wr) (HV.out.keep (SameAt.of_below HW.out.1)) HX.out) (first
              | (go_at_call 86; refine (l4On_any wr.drew _ (natL l) e HVW.out HG.out e1 e2).mono ?_; rintro r w3 ⟨rfl, b3⟩; rw [HNN.out]; have HW3 := Lib.hid (HWD.out.keep b3); have HO3 := Lib.hid (HOD.out.keep (SameAt.of_below b3)); clear b3))
            all_goals
              go_wp2_with fail
              go_roundw
              case rel => exact ⟨k + 1, tt, by go_num, by omega, rfl, Lib.hid (by rw [HUS.out, ← HB.out]; rfl), HW3, HO3⟩
              case measure => simp [intOf]; omega
        · have HBB : Hid (b = unitFit 3 l qs) := Lib.hid (by have := HB.out; rwa [List.take_of_length_le (by omega)] at this)
          cases b
          · go_wp2_with fail
            refine (l4Step_any wr w.heap.size u l (by omega) (by omega) (by omega) HOL.out).mono ?_
            intro r w6 hstep
            obtain ⟨t', rfl, hW6⟩ := WkRel.step h1 h4 (.inr (.inr (.inl rfl))) HW.out.1 HLL.out hstep
            have HW6 := Lib.hid hW6
            clear hW6 hstep
            go_wp2_with fail
            go_roundg (L + 1 - (d + 1))
            case measure => omega
            case rel => exact ⟨d + 1, t', by omega, by omega, rfl, HW6, Lib.hid (fun j hj x hx => by
              rcases Nat.lt_succ_iff_lt_or_eq.1 hj with h1 | h1
              · exact HN.out j h1 x hx
              · subst h1
                rw [HLL.out] at hx
                obtain rfl := Option.some.inj hx
                exact HBB.out.symm)⟩
          · have HF : Hid (anyUnit n 3 qs = true) := Lib.hid (unit_any_at (u := 3) HLL.out HBB.out.symm)
            go_wp2_with fail
            go_ret
            exact ⟨ret_bool HF.out.symm, HW.out.1⟩

set_option maxHeartbeats 8000000 in
theorem l4Units_2 (w : World) (n : Nat) (v : Value) (qs : List Qt) (hv : QRd w v qs) (hq : Qts qs) (h1 : 1 ≤ n) (h4 : n ≤ 4) :
    Calls Try.prog 62 #[.int .i64 (n : Int), .int .i64 2, v] w (BoolPost (anyUnit n 2 qs) w) := by
  obtain ⟨A, c, rfl, hl, hmx⟩ := hv.form
  have HV := Lib.hid hv
  have HQ := Lib.hid hq
  clear hv hq
  go_enter Try.func62, Try.ntmps62
  go_wp2_with fail
  refine (l4First_any w n 18 h1 h4).mono ?_
  rintro r w3 ⟨u, rfl, o3, b3⟩
  have H0 := Lib.hid (WkRel.start h1 o3 b3)
  clear o3 b3
  obtain ⟨L, hL⟩ : ∃ L, (lay n 18).length = L := ⟨_, rfl⟩
  have HL := Lib.hid hL
  clear hL
  go_wp2_with fail
  go_loopg [8] (L + 1) (fun gk s wr => ∃ (d : Nat) (t : Bool), gk = L + 1 - d ∧ d ≤ L ∧ s = .bool t ∧ Hid (WkRel w n 18 u d t wr) ∧ Hid (∀ j, j < d → ∀ x, (lay n 18)[j]? = some x → unitFit 2 x qs = false))
  case atStart => exact ⟨0, true, by omega, Nat.zero_le _, rfl, H0, Lib.hid (fun j hj => absurd hj (Nat.not_lt_zero _))⟩
  case round =>
    obtain ⟨d, t, hgk, hd, rfl, HW, HN⟩ := hrel
    clear H0
    cases t
    · have HF : Hid (anyUnit n 2 qs = false) := Lib.hid (unit_any_none (u := 2) (by have h1 := HN.out; obtain ⟨-, l, -, -, h2⟩ := HW.out; show ∀ j, j < (lay n 18).length → _; rw [h2 rfl]; exact h1))
      go_wp2_with fail
      go_ret
      exact ⟨ret_bool HF.out.symm, HW.out.1⟩
    · obtain ⟨-, l, ol, hl, -⟩ := id HW.out
      have hl := hl rfl
      have HLL := Lib.hid hl
      have hdL : d < L := by rw [← HL.out]; exact (List.getElem?_eq_some_iff.1 hl).1
      obtain ⟨hf1, hf2⟩ := lay_facts h1 hl
      have HOL := Lib.hid ol
      have HG : Hid (Grs (natL l)) := Lib.hid (lay_grs h1 h4 (by omega) hl)
      clear hl ol
      go_wp2_with fail
      go_loopw [9, 10] (fun f i wq => ∃ (k : Nat) (b : Bool), i = .int .i64 (k : Int) ∧ k ≤ qs.length ∧ f = .bool b ∧ Hid (b = unitFit 2 l (qs.take k)) ∧ Hid (WkRel w n 18 u d true wq) ∧ Hid (IOwn wq w.heap.size u (natL l))) (fun _ i _ => qs.length - (intOf i).toNat)
      case atStart => exact ⟨0, true, rfl, Nat.zero_le _, rfl, Lib.hid (by simp [unitFit]), HW, HOL⟩
      case round =>
        obtain ⟨k, b, rfl, hk, rfl, HB, HW, HOL⟩ := hrel
        by_cases hlt : k < qs.length
        · have hk0 : (0 : Int) ≤ (k : Int) := by omega
          have hk1 : (k : Int) < (qs.length : Int) := by omega
          obtain ⟨B, off, ⟨e, p⟩, rfl, -, hx, hc0, hc1⟩ := QRd.at_ (HV.out.keep (SameAt.of_below HW.out.1)) hlt
          obtain ⟨⟨e1, e2⟩, p1, p2⟩ := HQ.out _ (List.mem_of_getElem? hx)
          have e1 : 0 ≤ e := e1
          have e2 : e ≤ 15 := e2
          have p1 : 0 ≤ p := p1
          have p2 : p ≤ 6 := p2
          have HX := Lib.hid hx
          have HUS : Hid (unitFit 2 l (qs.take (k + 1)) = (unitFit 2 l (qs.take k) && (onI (natL l) e * 2 * 6 == p * 36))) := Lib.hid (unit_step hx)
          clear hx
          cases b
          · go_wp2_with fail
            go_region
            all_goals
              go_wp2_with fail
              go_roundw
              case rel => exact ⟨k + 1, false, by go_num, by omega, rfl, Lib.hid (by rw [HUS.out, ← HB.out]; rfl), Lib.hid (HW.out.keep ((Below.refl _ _).drew)), Lib.hid (HOL.out.keep (SameAt.of_below ((Below.refl _ _).drew)))⟩
              case measure => simp [intOf]; omega
          · obtain ⟨N, hN⟩ : ∃ N, onI (natL l) e = N := ⟨_, rfl⟩
            obtain ⟨n1, n2⟩ : 0 ≤ N ∧ N ≤ 144 := by
              have := grs_on HG.out e (natL l).length
              rw [List.take_length, hN] at this
              exact this
            have HNN := Lib.hid hN
            rw [hN] at HUS
            clear hN
            have HVW := Lib.hid (HOL.out.rd)
            have hw1 : IntKind.i64.wrap (N * 2) = N * 2 := IntWalk.i64_in _ (by omega)
            have hw2 : IntKind.i64.wrap (N * 2 * 6) = N * 2 * 6 := IntWalk.i64_in _ (by omega)
            have hw36 : IntKind.i64.wrap (p * 36) = p * 36 := IntWalk.i64_in _ (by omega)
            obtain ⟨tt, htt⟩ : ∃ tt, (N * 2 * 6 == p * 36) = tt := ⟨_, rfl⟩
            rw [htt] at HUS
            have ht3 : (IntKind.i64.wrap (IntKind.i64.wrap (N * 2) * 6) == IntKind.i64.wrap (p * 36)) = tt := by rw [hw1, hw2, hw36]; exact htt
            have HWD := Lib.hid (HW.out.keep ((Below.refl _ _).drew))
            have HOD := Lib.hid (HOL.out.keep (SameAt.of_below ((Below.refl _ _).drew)))
            go_wp2_with fail
            go_region_held3 (fun w' => w'.cell? ⟨B, off + k * 2, none⟩ = some (.int .i64 e) ∧ w'.cell? ⟨B, off + k * 2 + 1, none⟩ = some (.int .i64 p)) (first | exact QRd.cell (HV.out.keep (SameAt.of_below HW3.out.1)) HX.out | exact QRd.cell (w := wr) (HV.out.keep (SameAt.of_below HW.out.1)) HX.out) (first
              | (go_at_call 86; refine (l4On_any wr.drew _ (natL l) e HVW.out HG.out e1 e2).mono ?_; rintro r w3 ⟨rfl, b3⟩; rw [HNN.out]; have HW3 := Lib.hid (HWD.out.keep b3); have HO3 := Lib.hid (HOD.out.keep (SameAt.of_below b3)); clear b3))
            all_goals
              go_wp2_with fail
              go_roundw
              case rel => exact ⟨k + 1, tt, by go_num, by omega, rfl, Lib.hid (by rw [HUS.out, ← HB.out]; rfl), HW3, HO3⟩
              case measure => simp [intOf]; omega
        · have HBB : Hid (b = unitFit 2 l qs) := Lib.hid (by have := HB.out; rwa [List.take_of_length_le (by omega)] at this)
          cases b
          · go_wp2_with fail
            refine (l4Step_any wr w.heap.size u l (by omega) (by omega) (by omega) HOL.out).mono ?_
            intro r w6 hstep
            obtain ⟨t', rfl, hW6⟩ := WkRel.step h1 h4 (.inr (.inl rfl)) HW.out.1 HLL.out hstep
            have HW6 := Lib.hid hW6
            clear hW6 hstep
            go_wp2_with fail
            go_roundg (L + 1 - (d + 1))
            case measure => omega
            case rel => exact ⟨d + 1, t', by omega, by omega, rfl, HW6, Lib.hid (fun j hj x hx => by
              rcases Nat.lt_succ_iff_lt_or_eq.1 hj with h1 | h1
              · exact HN.out j h1 x hx
              · subst h1
                rw [HLL.out] at hx
                obtain rfl := Option.some.inj hx
                exact HBB.out.symm)⟩
          · have HF : Hid (anyUnit n 2 qs = true) := Lib.hid (unit_any_at (u := 2) HLL.out HBB.out.symm)
            go_wp2_with fail
            go_ret
            exact ⟨ret_bool HF.out.symm, HW.out.1⟩

def fairB (n : Int) (qs : List Qt) : Bool := bokB n qs && anyFit n.toNat qs

theorem fair_of {n : Nat} {qs : List Qt} (h : bokB (n : Int) qs = true) {a b c : Bool} (ha : anyUnit n 6 qs = a) (hb : anyUnit n 3 qs = b) (hc : anyUnit n 2 qs = c) : fairB n qs = (a || (b || c)) := by
  rw [fairB, h, Int.toNat_natCast, ← fair_units h, ha, hb, hc]; rfl

theorem fair_no {n : Int} {qs : List Qt} (h : bokB n qs = false) : fairB n qs = false := by rw [fairB, h]; rfl

set_option maxHeartbeats 4000000 in
theorem specFairOk_any (w : World) (n : Int) (v : Value) (qs : List Qt) (hv : QRd w v qs) :
    Calls Try.prog 25 #[.int .i64 n, v] w (BoolPost (fairB n qs) w) := by
  have HV := Lib.hid hv
  clear hv
  rcases Bool.eq_false_or_eq_true (bokB n qs) with h | h
  · have HQ := Lib.hid (qts_of h)
    have hw1 : 1 ≤ n := ((bokB_iff _ _).1 h).1.1
    have hw2 : n ≤ 4 := ((bokB_iff _ _).1 h).1.2
    obtain ⟨m, rfl⟩ : ∃ m : Nat, n = m := ⟨n.toNat, by omega⟩
    have hm1 : 1 ≤ m := by omega
    have hm4 : m ≤ 4 := by omega
    obtain ⟨a, ha⟩ : ∃ a, anyUnit m 6 qs = a := ⟨_, rfl⟩
    obtain ⟨b, hb⟩ : ∃ b, anyUnit m 3 qs = b := ⟨_, rfl⟩
    obtain ⟨c, hc⟩ : ∃ c, anyUnit m 2 qs = c := ⟨_, rfl⟩
    have HF := Lib.hid (fair_of h ha hb hc)
    have HA := Lib.hid ha
    have HB := Lib.hid hb
    have HC := Lib.hid hc
    clear ha hb hc
    go_enter Try.func25, Try.ntmps25
    go_wp2_with fail
    refine (specBookOk_any _ _ _ _ HV.out).mono ?_
    rintro r w2 ⟨rfl, b2⟩
    rw [h]
    have HB2 := Lib.hid b2
    have HV2 := Lib.hid (HV.out.keep (SameAt.of_below b2))
    clear b2 h
    go_wp2_with fail
    refine (l4Units_6 w2 m v qs HV2.out HQ.out hm1 hm4).mono ?_
    rintro r w3 ⟨rfl, b3⟩
    rw [HA.out]
    have HB3 := Lib.hid (below_step HB2.out b3 HB2.out.size)
    have HV3 := Lib.hid (HV2.out.keep (SameAt.of_below b3))
    clear b3
    cases a
    · go_wp2_with fail
      refine (l4Units_3 w3 m v qs HV3.out HQ.out hm1 hm4).mono ?_
      rintro r w4 ⟨rfl, b4⟩
      rw [HB.out]
      have HB4 := Lib.hid (below_step HB3.out b4 HB3.out.size)
      have HV4 := Lib.hid (HV3.out.keep (SameAt.of_below b4))
      clear b4
      cases b
      · go_wp2_with fail
        refine (l4Units_2 w4 m v qs HV4.out HQ.out hm1 hm4).mono ?_
        rintro r w5 ⟨rfl, b5⟩
        rw [HC.out]
        have HB5 := Lib.hid (below_step HB4.out b5 HB4.out.size)
        clear b5
        go_wp2_with fail
        go_ret
        exact ⟨ret_bool (by rw [HF.out]; rfl), HB5.out⟩
      · go_wp2_with fail
        go_ret
        exact ⟨ret_bool (by rw [HF.out]; rfl), HB4.out⟩
    · go_wp2_with fail
      go_ret
      exact ⟨ret_bool (by rw [HF.out]; rfl), HB3.out⟩
  · have HN := Lib.hid (fair_no h)
    go_enter Try.func25, Try.ntmps25
    go_wp2_with fail
    refine (specBookOk_any _ _ _ _ HV.out).mono ?_
    rintro r w2 ⟨rfl, b2⟩
    rw [h]
    have HB2 := Lib.hid b2
    clear b2
    go_wp2_with fail
    go_ret
    exact ⟨ret_bool HN.out.symm, HB2.out⟩

end Go.Proofs.Ytfjmlbcmidichaa
