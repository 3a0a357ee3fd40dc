/- Rows of quotes: BookOk, stakesOk, and the laws' helpers over rows of quotes. Conditions: stated at each. -/
import Derived.Test.YtpldhdidobggdaaQc
import Derived.Test.YtpldhdidobggdaaGr
namespace Go.Proofs.Ytpldhdidobggdaa
open Go.RowKit
set_option linter.unusedVariables false

/-- the cells of a quote -/
def qC (q : Qt) : List Value := [.int .i64 q.1, .int .i64 q.2]

theorem qC_len (q : Qt) : (qC q).length = 2 := rfl

abbrev QRd (w : World) (v : Value) (qs : List Qt) : Prop := GRd 2 qC w v qs

abbrev QOwn (w : World) (base : Nat) (v : Value) (qs : List Qt) : Prop := GOwn 39 2 qC w base v qs

theorem QRd.at_ {w : World} {A : Option Addr} {n cp : Nat} {qs : List Qt} (h : QRd w (.slice A n cp) qs) {k : Nat} (hk : k < n) :
    ∃ b off q, A = some ⟨b, off, none⟩ ∧ b < w.heap.size ∧ qs[k]? = some q ∧ w.cell? ⟨b, off + k * 2, none⟩ = some (.int .i64 q.1) ∧ w.cell? ⟨b, off + k * 2 + 1, none⟩ = some (.int .i64 q.2) := by
  obtain ⟨b, off, q, hA, hb, hx, hc⟩ := GRd.at_ h hk
  exact ⟨b, off, q, hA, hb, hx, hc 0 _ rfl, hc 1 _ rfl⟩

theorem QRd.cell {w : World} {b off n c : Nat} {qs : List Qt} {k : Nat} {q : Qt} (h : QRd w (.slice (some ⟨b, off, none⟩) n c) qs) (hq : qs[k]? = some q) : w.cell? ⟨b, off + k * 2, none⟩ = some (.int .i64 q.1) ∧ w.cell? ⟨b, off + k * 2 + 1, none⟩ = some (.int .i64 q.2) := by
  have hk : k < qs.length := (List.getElem?_eq_some_iff.1 hq).1
  obtain ⟨A, cp, e, hl, hm, hc⟩ := h
  injection e with e1 e2 e3
  obtain ⟨b', off', hA, -, hcell⟩ := hc (by omega)
  rw [← e1] at hA
  injection hA with hA
  injection hA with hb ho
  subst hb
  subst ho
  exact ⟨hcell k q hq 0 _ rfl, hcell k q hq 1 _ rfl⟩

theorem IRd.cellk {w : World} {b off n c : Nat} {xs : List Int} {k : Nat} {x : Int} (h : IRd w (.slice (some ⟨b, off, none⟩) n c) xs) (hx : xs[k]? = some x) : w.cell? ⟨b, off + k, none⟩ = some (.int .i64 x) := by
  have hk : k < xs.length := (List.getElem?_eq_some_iff.1 hx).1
  obtain ⟨A, c, e, hl, hm, hc⟩ := h
  injection e with e1 e2 e3
  obtain ⟨b', off', hA, -, hcell⟩ := hc (by omega)
  rw [← e1] at hA
  injection hA with hA
  injection hA with hb ho
  subst hb
  subst ho
  exact hcell k x hx

theorem bokB_no {w : Int} {qs : List Qt} {k : Nat} {q : Qt} (hx : qs[k]? = some q) (h : qokB w q = false) : bokB w qs = false := by
  rw [← Bool.not_eq_true, bokB_iff]
  intro h2
  have := h2.2.2 q (List.mem_of_getElem? hx)
  rw [h] at this; cases this

theorem allq_take {w : Int} {qs : List Qt} {k : Nat} {q : Qt} (hx : qs[k]? = some q) (h : qokB w q = true) (ih : ∀ y ∈ qs.take k, qokB w y = true) : ∀ y ∈ qs.take (k + 1), qokB w y = true := by
  rw [List.take_add_one, hx]
  intro y hy
  rcases List.mem_append.1 hy with h1 | h1
  · exact ih y h1
  · simp at h1; subst h1; exact h

theorem bokB_all {w : Int} {qs : List Qt} {k : Nat} (hk : qs.length ≤ k) (ih : ∀ y ∈ qs.take k, qokB w y = true) : bokB w qs = (wokB w && decide (qs.length ≤ 3)) := by
  rw [List.take_of_length_le hk] at ih
  have : qs.all (qokB w) = true := List.all_eq_true.2 ih
  rw [bokB, this, Bool.and_true]

set_option maxHeartbeats 1000000 in
theorem implBookOk_any (w : World) (n : Int) (v : Value) (qs : List Qt) (hv : QRd w v qs) :
    Calls Try.prog 22 #[.int .i64 n, v] w fun r w' => r = .returned (.bool (bokB n qs)) ∧ Below w.heap.size w w' := by
  obtain ⟨A, c, rfl, hl, hm⟩ := hv.form
  have HV := Lib.hid hv
  clear hv
  rcases Bool.eq_false_or_eq_true (wokB n) with hw | hw
  · by_cases h3 : qs.length ≤ 3
    · have HW : Hid (bokB n qs = true ↔ ∀ y ∈ qs, qokB n y = true) := Lib.hid (by
        rw [bokB, hw, decide_eq_true h3, Bool.true_and, Bool.true_and, List.all_eq_true])
      have h3' : (qs.length : Int) ≤ 3 := by omega
      go_enter Try.func22, Try.ntmps22
      go_wp2_with fail
      refine (worldsOk_any n _).mono ?_
      rintro r w' ⟨rfl, rfl⟩
      rw [hw]
      go_wp2_with fail
      go_loopw [17] (fun i wr => ∃ k : Nat, i = .int .i64 k ∧ k ≤ qs.length ∧ Hid (∀ y ∈ qs.take k, qokB n y = true) ∧ Hid (Below w.heap.size w wr)) (fun i _ => qs.length - (intOf i).toNat)
      case atStart => exact ⟨0, rfl, Nat.zero_le _, Lib.hid (by simp), Lib.hid (Below.refl _ _)⟩
      case round =>
        obtain ⟨k, rfl, hk, HA, HB⟩ := hrel
        by_cases hlt : k < qs.length
        · obtain ⟨b, off, q, rfl, -, hx, hc0, hc1⟩ := QRd.at_ (HV.out.keep (SameAt.of_below HB.out)) hlt
          have HX := Lib.hid hx
          clear hx
          rcases Bool.eq_false_or_eq_true (qokB n q) with hq | hq
          · have HQ := Lib.hid hq
            go_wp2_with fail
            refine (implQuoteOk_any n q _).mono ?_
            rintro r w2 ⟨rfl, b2⟩
            rw [hq]
            have HB2 : Hid (Below w.heap.size w w2) := Lib.hid (below_step (HB.out.alloc HB.out.size _) b2 (by simp; have := HB.out.size; omega))
            clear b2 hc0 hc1
            go_wp2_with fail
            go_roundw
            case rel => exact ⟨k + 1, by go_num, by omega, Lib.hid (allq_take HX.out HQ.out HA.out), HB2⟩
            case measure => simp [intOf]; omega
          · have HQ := Lib.hid hq
            go_wp2_with fail
            refine (implQuoteOk_any n q _).mono ?_
            rintro r w2 ⟨rfl, b2⟩
            rw [hq]
            have HB2 : Hid (Below w.heap.size w w2) := Lib.hid (below_step (HB.out.alloc HB.out.size _) b2 (by simp; have := HB.out.size; omega))
            clear b2 hc0 hc1
            go_wp2_with fail
            go_ret
            exact ⟨ret_bool (bokB_no HX.out HQ.out).symm, HB2.out⟩
        · go_wp2_with fail
          go_ret
          exact ⟨ret_bool (HW.out.2 (by have := HA.out; rwa [List.take_of_length_le (by omega)] at this)).symm, HB.out⟩
    · have h3' : (3 : Int) < (qs.length : Int) := by omega
      have HN : Hid (bokB n qs = false) := Lib.hid (by rw [bokB, decide_eq_false h3]; simp)
      go_enter Try.func22, Try.ntmps22
      go_wp2_with fail
      refine (worldsOk_any n _).mono ?_
      rintro r w' ⟨rfl, rfl⟩
      rw [hw]
      go_wp2_with fail
      go_ret
      exact ⟨ret_bool HN.out.symm, Below.refl _ _⟩
  · have HN : Hid (bokB n qs = false) := Lib.hid (by rw [bokB, hw]; rfl)
    go_enter Try.func22, Try.ntmps22
    go_wp2_with fail
    refine (worldsOk_any n _).mono ?_
    rintro r w' ⟨rfl, rfl⟩
    rw [hw]
    go_wp2_with fail
    go_ret
    exact ⟨ret_bool HN.out.symm, Below.refl _ _⟩

theorem inB_wok (n : Int) : inB n 1 4 = wokB n := bool_eq (by rw [inB_iff, wokB_iff])

set_option maxHeartbeats 1000000 in
theorem specBookOk_any (w : World) (n : Int) (v : Value) (qs : List Qt) (hv : QRd w v qs) :
    Calls Try.prog 49 #[.int .i64 n, v] w fun r w' => r = .returned (.bool (bokB n qs)) ∧ Below w.heap.size w w' := by
  obtain ⟨A, c, rfl, hl, hm⟩ := hv.form
  have HV := Lib.hid hv
  clear hv
  go_enter Try.func49, Try.ntmps49
  go_wp2_with fail
  go_loopw [5] (fun i wr => ∃ k : Nat, i = .int .i64 k ∧ k ≤ qs.length ∧ Hid (∀ y ∈ qs.take k, qokB n y = true) ∧ Hid (Below w.heap.size w wr)) (fun i _ => qs.length - (intOf i).toNat)
  case atStart => exact ⟨0, rfl, Nat.zero_le _, Lib.hid (by simp), Lib.hid (Below.refl _ _)⟩
  case round =>
    obtain ⟨k, rfl, hk, HA, HB⟩ := hrel
    by_cases hlt : k < qs.length
    · obtain ⟨b, off, q, rfl, -, hx, hc0, hc1⟩ := QRd.at_ (HV.out.keep (SameAt.of_below HB.out)) hlt
      have HX := Lib.hid hx
      clear hx
      rcases Bool.eq_false_or_eq_true (qokB n q) with hq | hq
      · have HQ := Lib.hid hq
        go_wp2_with fail
        refine (specQuoteOk_any n q _).mono ?_
        rintro r w2 ⟨rfl, b2⟩
        rw [hq]
        have HB2 : Hid (Below w.heap.size w w2) := Lib.hid (below_step HB.out b2 HB.out.size)
        clear b2 hc0 hc1
        go_wp2_with fail
        go_roundw
        case rel => exact ⟨k + 1, by go_num, by omega, Lib.hid (allq_take HX.out HQ.out HA.out), HB2⟩
        case measure => simp [intOf]; omega
      · have HQ := Lib.hid hq
        go_wp2_with fail
        refine (specQuoteOk_any n q _).mono ?_
        rintro r w2 ⟨rfl, b2⟩
        rw [hq]
        have HB2 : Hid (Below w.heap.size w w2) := Lib.hid (below_step HB.out b2 HB.out.size)
        clear b2 hc0 hc1
        go_wp2_with fail
        go_ret
        exact ⟨ret_bool (bokB_no HX.out HQ.out).symm, HB2.out⟩
    · have HN := Lib.hid (bokB_all (w := n) (qs := qs) (k := k) (by omega) HA.out)
      rcases Bool.eq_false_or_eq_true (wokB n) with hw | hw
      · by_cases h3 : qs.length ≤ 3
        · have h3' : (qs.length : Int) ≤ 3 := by omega
          go_wp2_with fail
          refine (l1In_any n _ _ _).mono ?_
          rintro r w' ⟨rfl, rfl⟩
          rw [inB_wok, hw]
          go_wp2_with fail
          go_ret
          exact ⟨ret_bool (by rw [HN.out, hw, decide_eq_true h3]; rfl), HB.out⟩
        · have h3' : (3 : Int) < (qs.length : Int) := by omega
          go_wp2_with fail
          refine (l1In_any n _ _ _).mono ?_
          rintro r w' ⟨rfl, rfl⟩
          rw [inB_wok, hw]
          go_wp2_with fail
          go_ret
          exact ⟨ret_bool (by rw [HN.out, hw, decide_eq_false h3]; simp; omega), HB.out⟩
      · go_wp2_with fail
        refine (l1In_any n _ _ _).mono ?_
        rintro r w' ⟨rfl, rfl⟩
        rw [inB_wok, hw]
        go_wp2_with fail
        go_ret
        exact ⟨ret_bool (by rw [HN.out, hw]; rfl), HB.out⟩

end Go.Proofs.Ytpldhdidobggdaa
