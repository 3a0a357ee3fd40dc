/- The contract of spec's LearnedAll. Conditions: rows that read. -/
import Derived.Test.YtbjmhbkpeglpkaaHd
namespace Go.Proofs.Ytbjmhbkpeglpkaa
open Go.RowKit
set_option linter.unusedVariables false

theorem la_no {w : List Int} {rows : List (List Int)} (h : laB w rows = false) : laR w rows = [] := by rw [laR, h]; rfl

theorem take_take12 {rows : List (List Int)} {k : Nat} : (rows.take (k + 1)).take k = rows.take k := by rw [List.take_take, Nat.min_eq_left (by omega)]

theorem take_at12 {rows : List (List Int)} {k : Nat} {r : List Int} (h : rows[k]? = some r) : (rows.take (k + 1))[k]? = some r := by rw [List.getElem?_take, if_pos (by omega), h]

theorem la_ok {w : List Int} {rows : List (List Int)} (hw : ∀ x ∈ w, 0 ≤ x ∧ x ≤ 100) (hw4 : 1 ≤ w.length ∧ w.length ≤ 4) (h4 : rows.length ≤ 4) {k : Nat} {r : List Int} (hk : rows[k]? = some r)
    (hp : ∀ x ∈ rows.take k, eviB (w.length : Int) x = true) (hs : ∃ x ∈ prodAll w (rows.take k), 0 < x) (hl : lrnB (redL (prodAll w (rows.take k))) r = true) :
    (∀ x ∈ rows.take (k + 1), eviB (w.length : Int) x = true) ∧ (∃ x ∈ prodAll w (rows.take (k + 1)), 0 < x) ∧ lrnR (redL (prodAll w (rows.take k))) r = redL (prodAll w (rows.take (k + 1))) := by
  have hb : ∀ j, j ≤ k → (prodAll w (rows.take j)).length = w.length := by
    intro j hj
    have hr' : ∀ x ∈ rows.take k, eviB (w.length : Int) x = true := hp
    have hkl : k < rows.length := (List.getElem?_eq_some_iff.1 hk).1
    have := (pall_bound hw hr' j (by rw [List.length_take]; omega)).1
    rwa [List.take_take, Nat.min_eq_left hj] at this
  have he : eviB (w.length : Int) r = true := by
    have := ((lrnB_iff _ _).1 hl).2.1
    rwa [red_len, hb k (Nat.le_refl _)] at this
  have hall : ∀ x ∈ rows.take (k + 1), eviB (w.length : Int) x = true := by
    intro x hx
    rw [List.take_add_one, hk, Option.toList_some, List.mem_append, List.mem_singleton] at hx
    rcases hx with hx | rfl
    · exact hp x hx
    · exact he
  have hst := la_step hw hw4 (rows := rows.take (k + 1)) (by rw [List.length_take]; omega) hall (take_at12 hk) (by rw [take_take12]; exact hs)
  rw [take_take12, List.take_take, Nat.min_self] at hst
  exact ⟨hall, hst.1.1 hl, hst.2 hl⟩

theorem la_bad {w : List Int} {rows : List (List Int)} {k : Nat} {r : List Int} (hk : rows[k]? = some r) (hs : ∃ x ∈ prodAll w (rows.take k), 0 < x) (hl : lrnB (redL (prodAll w (rows.take k))) r = false) : laB w rows = false := by
  rw [← Bool.not_eq_true]
  intro h
  obtain ⟨h1, h2, h3, h4, h5⟩ := (laB_iff w rows).1 h
  obtain ⟨w1, w2, -⟩ := (wgtB_iff w).1 h1
  have hw : ∀ x ∈ w, 0 ≤ x ∧ x ≤ 100 := fun x hx => ⟨(w1 x hx).1, h2 x hx⟩
  have hst := (la_step hw w2 h3 h4 hk hs).1
  rw [hl] at hst
  obtain ⟨x, hx, h0⟩ := h5
  have hkl : k < rows.length := (List.getElem?_eq_some_iff.1 hk).1
  have hb := (pall_bound hw h4 (k + 1) (by omega)).2
  have := pall_none (w := w) (rows := rows) (fun r hr x hx => (((eviB_iff _ r).1 (h4 r hr)).1 x hx).1) (k + 1) (fun y hy => by
    refine ⟨?_, (hb y hy).1⟩
    apply Int.not_lt.1
    intro hy0
    have := hst.2 ⟨y, hy, hy0⟩
    cases this) x hx
  omega

theorem la_end {w : List Int} {rows : List (List Int)} (h1 : wgtB w = true) (h2 : ∀ x ∈ w, x ≤ 100) (h3 : rows.length ≤ 4) (h4 : ∀ r ∈ rows, eviB (w.length : Int) r = true) (h5 : ∃ x ∈ prodAll w rows, 0 < x) : laB w rows = true ∧ laR w rows = redL (prodAll w rows) := by
  have : laB w rows = true := (laB_iff w rows).2 ⟨h1, h2, h3, h4, h5⟩
  exact ⟨this, by rw [laR, if_pos this]⟩

theorem hun_take {w : List Int} {k : Nat} {x : Int} (h : w[k]? = some x) (ih : ∀ y ∈ w.take k, y ≤ 100) (hx : x ≤ 100) : ∀ y ∈ w.take (k + 1), y ≤ 100 := by
  intro y hy
  rw [List.take_add_one, h, Option.toList_some, List.mem_append, List.mem_singleton] at hy
  rcases hy with hy | rfl
  · exact ih y hy
  · exact hx

set_option maxRecDepth 100000 in
set_option maxHeartbeats 8000000 in
theorem specLearnedAll_any (w : World) (v u : Value) (xs : List Int) (rows : List (List Int)) (hv : IRd w v xs) (hu : SRd w u rows) :
    Calls Try.prog 33 #[v, u] w (RowOk w.heap.size (laR xs rows) (laB xs rows) w) := by
  obtain ⟨A, c, rfl, hl, hmx, -⟩ := id hv
  obtain ⟨A', c', rfl, hl', hm'⟩ := hu.form
  have HV : Hid (∀ wr, Below w.heap.size w wr → IRd wr (.slice A xs.length c) xs) := Lib.hid (fun wr hb => hv.keep (SameAt.of_below hb))
  have HU : Hid (∀ wr, Below w.heap.size w wr → SRd wr (.slice A' rows.length c') rows) := Lib.hid (fun wr hb => hu.below hb)
  clear hv hu
  rcases Bool.eq_false_or_eq_true (wgtB xs) with h | h
  · by_cases h4 : rows.length ≤ 4
    · have h4' : (rows.length : Int) ≤ 4 := by omega
      have HW := Lib.hid h
      have HRED : Hid (redR xs = redL xs) := Lib.hid (by rw [redR, if_pos h])
      go_enter Try.func33, Try.ntmps33
      go_wp2_with fail
      refine (specWeightsOk_any w _ xs (HV.out w (Below.refl _ _))).mono ?_
      rintro r w' ⟨rfl, rfl⟩
      rw [h]
      clear h
      go_wp2_with fail
      go_loop [6] (fun i => ∃ k : Nat, i = .int .i64 (k : Int) ∧ k ≤ xs.length ∧ Hid (∀ y ∈ xs.take k, y ≤ 100)) (fun i => xs.length - (intOf i).toNat)
      case atStart => exact ⟨0, rfl, Nat.zero_le _, Lib.hid (by simp)⟩
      case round =>
        obtain ⟨k, rfl, hk, HA⟩ := hrel
        by_cases hlt : k < xs.length
        · have hlt' : (k : Int) < (xs.length : Int) := by omega
          obtain ⟨b, off, x, rfl, -, hx, hcx⟩ := (HV.out w (Below.refl _ _)).at_ hlt
          have HX := Lib.hid hx
          clear hx
          by_cases h1 : x ≤ 100
          · have HA2 := Lib.hid (hun_take HX.out HA.out h1)
            go_wp2_with fail
            go_round
            case rel => exact ⟨k + 1, by go_num, by omega, HA2⟩
            case measure => simp [intOf]; omega
          · have h1' : 100 < x := by omega
            have HT : Hid (laB xs rows = false) := Lib.hid (by
              rw [← Bool.not_eq_true, laB_iff]
              rintro ⟨-, hh, -⟩
              have := hh x (List.mem_of_getElem? HX.out)
              omega)
            have HR := Lib.hid (la_no HT.out)
            go_wp2_with fail
            go_ret2
            exact rowOk_ret HT.out HR.out (lit12 w _ (Nat.le_refl _)) (by go_grown)
        · obtain rfl : k = xs.length := by omega
          have hlt' : decide ((xs.length : Int) < (xs.length : Int)) = false := by simp
          have H100 : Hid (∀ y ∈ xs, y ≤ 100) := Lib.hid (by have := HA.out; rwa [List.take_length] at this)
          have HWW : Hid ((∀ y ∈ xs, 0 ≤ y ∧ y ≤ 100) ∧ (1 ≤ xs.length ∧ xs.length ≤ 4) ∧ ∃ x ∈ xs, 0 < x) := Lib.hid (by
            obtain ⟨k1, k2, k3⟩ := (wgtB_iff xs).1 HW.out
            exact ⟨fun y hy => ⟨(k1 y hy).1, H100.out y hy⟩, k2, k3⟩)
          clear HA
          go_wp2_with fail
          refine (specReducedWeights_any w _ xs (HV.out w (Below.refl _ _))).mono ?_
          rintro r w2 ⟨vo, rfl, oo, bo⟩
          have HO : Hid (IOwn w2 w.heap.size vo (redL (prodAll xs (rows.take 0))) ∧ Below w.heap.size w w2) := Lib.hid ⟨by rw [List.take_zero]; show IOwn w2 w.heap.size vo (redL xs); rw [← HRED.out]; exact oo, bo⟩
          clear oo bo
          go_wp2_with fail
          go_loopw [7, 8] (fun p i wr => ∃ k : Nat, i = .int .i64 (k : Int) ∧ k ≤ rows.length ∧ Hid (∀ r ∈ rows.take k, eviB (xs.length : Int) r = true) ∧ Hid (∃ x ∈ prodAll xs (rows.take k), 0 < x) ∧ Hid (IOwn wr w.heap.size p (redL (prodAll xs (rows.take k))) ∧ Below w.heap.size w wr)) (fun _ i _ => rows.length - (intOf i).toNat)
          case atStart => exact ⟨0, rfl, Nat.zero_le _, Lib.hid (by simp), Lib.hid (by rw [List.take_zero]; exact HWW.out.2.2), HO⟩
          case round =>
            obtain ⟨k, rfl, hk2, HE, HS, HF⟩ := hrel
            clear HO
            by_cases hlt2 : k < rows.length
            · have hlt2' : (k : Int) < (rows.length : Int) := by omega
              obtain ⟨b, off, p, r, rfl, -, hr, hc, hp⟩ := (HU.out wr HF.out.2).at_ hlt2
              obtain ⟨A2, c2, rfl, -, -, -⟩ := id hp
              have HR0 := Lib.hid hr
              have HP := Lib.hid hp
              clear hr hp
              rcases Bool.eq_false_or_eq_true (lrnB (redL (prodAll xs (rows.take k))) r) with h1 | h1
              · obtain ⟨k1, k2, k3⟩ := la_ok HWW.out.1 HWW.out.2.1 h4 HR0.out HE.out HS.out h1
                have HE2 := Lib.hid k1
                have HS2 := Lib.hid k2
                have HK3 := Lib.hid k3
                have H1 := Lib.hid h1
                clear k1 k2 k3 h1
                go_wp2_with fail
                refine (specLearnedFrom_any wr _ _ _ r HF.out.1.rd HP.out).mono ?_
                rintro q w3 ⟨vn, rfl, on, bn⟩
                rw [H1.out]
                have HF3 : Hid (IOwn w3 w.heap.size vn (redL (prodAll xs (rows.take (k + 1)))) ∧ Below w.heap.size w w3) := Lib.hid ⟨by rw [← HK3.out]; exact on.base HF.out.2.size, below_step HF.out.2 bn HF.out.2.size⟩
                clear on bn HF
                go_wp2_with fail
                go_roundw
                case rel => exact ⟨k + 1, by go_num, by omega, HE2, HS2, HF3⟩
                case measure => simp [intOf]; omega
              · have HT := Lib.hid (la_bad HR0.out HS.out h1)
                have HR := Lib.hid (la_no HT.out)
                have H1 := Lib.hid h1
                clear h1
                go_wp2_with fail
                refine (specLearnedFrom_any wr _ _ _ r HF.out.1.rd HP.out).mono ?_
                rintro q w3 ⟨vn, rfl, on, bn⟩
                rw [H1.out]
                have HB3 := Lib.hid (below_step HF.out.2 bn HF.out.2.size)
                clear on bn
                go_wp2_with fail
                go_ret2
                exact rowOk_ret HT.out HR.out (lit12 w3 _ HB3.out.size) (HB3.out.alloc HB3.out.size _)
            · obtain rfl : k = rows.length := by omega
              have hlt3 : decide ((rows.length : Int) < (rows.length : Int)) = false := by simp
              have HEND := Lib.hid (la_end (w := xs) (rows := rows) HW.out H100.out h4 (by have := HE.out; rwa [List.take_length] at this) (by have := HS.out; rwa [List.take_length] at this))
              have HO2 : Hid (IOwn wr w.heap.size u7 (redL (prodAll xs rows)) ∧ Below w.heap.size w wr) := Lib.hid (by have := HF.out; rwa [List.take_length] at this)
              go_wp2_with fail
              go_ret2
              exact rowOk_ret HEND.out.1 HEND.out.2 HO2.out.1 HO2.out.2
    · have h4' : (4 : Int) < (rows.length : Int) := by omega
      have HT : Hid (laB xs rows = false) := Lib.hid (by
        rw [← Bool.not_eq_true, laB_iff]
        rintro ⟨-, -, hh, -⟩
        exact h4 hh)
      have HR := Lib.hid (la_no HT.out)
      go_enter Try.func33, Try.ntmps33
      go_wp2_with fail
      refine (specWeightsOk_any w _ xs (HV.out w (Below.refl _ _))).mono ?_
      rintro r w' ⟨rfl, rfl⟩
      rw [h]
      go_wp2_with fail
      go_ret2
      exact rowOk_ret HT.out HR.out (lit12 w _ (Nat.le_refl _)) (by go_grown)
  · have HT : Hid (laB xs rows = false) := Lib.hid (by rw [laB, h]; rfl)
    have HR := Lib.hid (la_no HT.out)
    go_enter Try.func33, Try.ntmps33
    go_wp2_with fail
    refine (specWeightsOk_any w _ xs (HV.out w (Below.refl _ _))).mono ?_
    rintro r w' ⟨rfl, rfl⟩
    rw [h]
    go_wp2_with fail
    go_ret2
    exact rowOk_ret HT.out HR.out (lit12 w _ (Nat.le_refl _)) (by go_grown)

end Go.Proofs.Ytbjmhbkpeglpkaa
