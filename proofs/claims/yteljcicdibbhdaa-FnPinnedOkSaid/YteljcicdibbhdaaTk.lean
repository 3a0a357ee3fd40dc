/- The walk of the law of PinnedOk. Conditions: rows of bytes that came in. -/
import Derived.Test.YteljcicdibbhdaaTf
namespace Go.Proofs.Yteljcicdibbhdaa
open Go.RowKit
set_option linter.unusedVariables false

theorem pinned_yes {m : Nat} {qs : List Qt} {e : Int} (h : bokB (m : Int) qs = true) (k : evB (m : Int) e = true) : pinnedB m qs e = pinB m qs e := by
  rw [pinnedB, leastB_yes h k, mostB_yes h k, pinB]

theorem pinned_no {n : Int} {qs : List Qt} {e : Int} (h : ¬ (evB n e = true ∧ fairB n qs = true)) : pinnedB n qs e = false := by
  have hl : leastB n qs e = -1 := by
    by_cases he : evB n e = true
    · exact (least_unfair (Bool.not_eq_true _ ▸ fun hf => h ⟨he, hf⟩)).1
    · exact leastB_no (fun k => he k.2)
  rw [pinnedB, hl]; rfl

theorem pinned_quotes {n : Int} {qs : List Qt} (hf : fairB n qs = true) : ∀ q ∈ qs, pinnedB n qs q.1 = true ∧ pinnedB n qs (notI n q.1) = true := by
  obtain ⟨m, rfl, m1, m4, hb, ha⟩ := fair_split hf
  intro q hq
  have hq1 : qokB (m : Int) (q.1, q.2) = true := ((bokB_iff _ _).1 hb).2.2 q hq
  have he := (qok_true hq1).1
  rw [pinned_yes hb he, pinned_yes hb (evB_notI he)]
  exact pin_quoted m1 hb ha hq

/-- whether the first worlds are pinned -/
def pinTo (n : Int) (qs : List Qt) (k : Nat) : Bool := (List.range k).all fun j => pinnedB n qs (2 ^ j)

theorem pinTo_succ (n : Int) (qs : List Qt) (k : Nat) : pinTo n qs (k + 1) = (pinTo n qs k && pinnedB n qs (2 ^ k)) := by
  rw [pinTo, pinTo, List.range_succ, List.all_append]
  simp

theorem pin_count {n : Int} {qs : List Qt} (hf : fairB n qs = true) : pinTo n qs n.toNat = true ↔ countI n qs = 1 := by
  obtain ⟨m, rfl, m1, m4, hb, ha⟩ := fair_split hf
  have hc : countI (m : Int) qs = (countFit m qs : Nat) := by rw [countI, if_pos hb, Int.toNat_natCast]
  rw [hc, Int.toNat_natCast, pinTo, List.all_eq_true]
  have h1 := pin_all m1 ha
  have hev : ∀ k, k < m → evB (m : Int) (2 ^ k) = true := by
    intro k hk
    obtain rfl | rfl | rfl | rfl : m = 1 ∨ m = 2 ∨ m = 3 ∨ m = 4 := by omega
    all_goals
      obtain rfl | rfl | rfl | rfl : k = 0 ∨ k = 1 ∨ k = 2 ∨ k = 3 := by omega
      all_goals first | (exfalso; omega) | decide
  constructor
  · intro h
    have : countFit m qs = 1 := h1.1 (fun k hk => by rw [← pinned_yes hb (hev k hk)]; exact h k (List.mem_range.2 hk))
    rw [this]; rfl
  · intro h k hk
    have hk := List.mem_range.1 hk
    rw [pinned_yes hb (hev k hk)]
    exact h1.2 (by omega) k hk

set_option maxRecDepth 100000 in
set_option maxHeartbeats 8000000 in
theorem FnPinnedOk_walk (a0 : Option Addr) (len0 cap0 : Nat) (z0 : List Int) (w : World) (w0 : IsRowC .u8 w a0 len0 cap0 z0) :
    Calls Try.prog 5 #[.slice a0 len0 cap0] w fun e w' => e = .returned (.bool true) ∧ Below w.heap.size w w' := by
  by_cases hlen : 1048576 < len0
  · clear w0
    go_enter Try.func5, Try.ntmps5
    go_wp2
    go_ret
    exact ⟨rfl, Below.refl _ _⟩
  · have hlen' : decide (1048576 < len0) = false := by simpa using hlen
    go_enter Try.func5, Try.ntmps5
    go_wp2_with fail
    refine (drawPinnedOk_any _ _ _ _ _ w0).mono ?_
    rintro e w1 ⟨n, vb, qs, y, rfl, ovb1, hl4, B1⟩
    clear hlen hlen' w0
    have z1 := B1.size
    have hvb : ∀ g, vb.ownBlock = some g → g < w1.heap.size := fun g hg => (ovb1.ge g hg).2
    obtain ⟨A, c, rfl, hlc, hmx⟩ := (ovb1.rd qC_len).form
    obtain ⟨t, ht⟩ : ∃ t, pinnedB n qs y = t := ⟨_, rfl⟩
    rcases Bool.eq_false_or_eq_true (fairB n qs) with f | f
    · rcases Bool.eq_false_or_eq_true (evB n y) with k | k
      · have HQ := Lib.hid (pinned_quotes f)
        have HN := Lib.hid (pin_count f)
        have hw : 1 ≤ n ∧ n ≤ 4 := by obtain ⟨m, rfl, m1, m4, -, -⟩ := fair_split f; omega
        obtain ⟨hw1, hw2⟩ := hw
        have HT := Lib.hid ht
        have HF := Lib.hid f
        have HK := Lib.hid k
        have hp1 : IntKind.i64.wrap 1 = 1 := by decide
        have hp2 : IntKind.i64.wrap 2 = 2 := by decide
        have hp4 : IntKind.i64.wrap 4 = 4 := by decide
        have hp8 : IntKind.i64.wrap 8 = 8 := by decide
        clear f k ht
        go_wp2_with fail
        refine (implPinnedOk_any w1 n _ qs y (ovb1.rd qC_len)).mono ?_
        rintro e w2 ⟨rfl, b2⟩
        rw [HT.out]
        have z2 := b2.size
        have B2 := below_step B1 b2 (by omega)
        have ovb2 := ovb1.keep (SameAt.of_below b2)
        clear B1 b2 ovb1
        go_wp2_with fail
        refine (specPinnedOk_any w2 n _ qs y (ovb2.rd qC_len)).mono ?_
        rintro e w3 ⟨rfl, b3⟩
        rw [HT.out]
        have z3 := b3.size
        have B3 := below_step B2 b3 (by omega)
        have ovb3 := ovb2.keep (SameAt.of_below b3)
        clear B2 b3 ovb2
        cases t
        all_goals
          go_wp2_with fail
          refine (implFairOk_any w3 n _ qs (ovb3.rd qC_len)).mono ?_
          rintro e w4 ⟨rfl, b4⟩
          rw [HF.out]
          have z4 := b4.size
          have B4 := below_step B3 b4 (by omega)
          have ovb4 := ovb3.keep (SameAt.of_below b4)
          clear B3 b4 ovb3
          go_wp2_with fail
          refine (specEventOk_any _ _ _).mono ?_
          rintro e w' ⟨rfl, rfl⟩
          rw [HK.out]
          have HVB := Lib.hid ovb4
          have HBJ := Lib.hid B4
          have HZJ : Hid (w.heap.size ≤ w4.heap.size) := Lib.hid B4.size
          clear ovb4 B4
          go_wp2_with fail
          go_loopw [7] (fun i wr => ∃ k : Nat, i = .int .i64 (k : Int) ∧ k ≤ qs.length ∧ Hid (Below w4.heap.size w4 wr)) (fun i _ => qs.length - (intOf i).toNat)
          case atStart => exact ⟨0, rfl, Nat.zero_le _, Lib.hid (Below.refl _ _)⟩
          case round =>
            obtain ⟨k, rfl, hk, HW⟩ := hrel
            by_cases hlt : k < qs.length
            · obtain ⟨b, off, ⟨e, p⟩, rfl, -, hx, hc0, hc1⟩ := QRd.at_ (GOwn.rd qC_len (HVB.out.keep (SameAt.of_below HW.out))) hlt
              obtain ⟨k1, k2⟩ := HQ.out (e, p) (List.mem_of_getElem? hx)
              have HK1 := Lib.hid k1
              have HK2 := Lib.hid k2
              have HC := Lib.hid (fun (wa : World) (hb : Below wr.heap.size wr wa) => QRd.cell (GOwn.rd qC_len (HVB.out.keep (SameAt.of_below (below_step HW.out hb HW.out.size)))) hx)
              clear hx k1 k2
              go_wp2_with fail
              refine (implPinnedOk_any wr n _ qs e (GOwn.rd qC_len (HVB.out.keep (SameAt.of_below HW.out)))).mono ?_
              rintro r wa ⟨rfl, ba⟩
              rw [HK1.out]
              obtain ⟨hd0, hd1⟩ := HC.out wa ba
              have HA := Lib.hid (below_step HW.out ba HW.out.size)
              clear ba hc0 hc1
              go_wp2_with fail
              refine (implNotEvent_any n e wa).mono ?_
              rintro r w' ⟨rfl, rfl⟩
              go_wp2_with fail
              refine (implPinnedOk_any wa n _ qs (notI n e) (GOwn.rd qC_len (HVB.out.keep (SameAt.of_below HA.out)))).mono ?_
              rintro r wb ⟨rfl, bb⟩
              rw [HK2.out]
              have HBB := Lib.hid (below_step HA.out bb HA.out.size)
              clear bb hd0 hd1
              go_wp2_with fail
              go_roundw
              case rel => exact ⟨k + 1, by go_num, by omega, HBB⟩
              case measure => simp [intOf]; omega
            · have HWX := Lib.hid HW.out
              clear HW
              generalize wr = wj at HWX ⊢
              go_wp2_with fail
              go_loopw [8, 9] (fun b i wr => ∃ (k : Nat) (t : Bool), i = .int .i64 (k : Int) ∧ (k : Int) ≤ n ∧ b = .bool t ∧ Hid (t = pinTo n qs k) ∧ Hid (Below w4.heap.size w4 wr)) (fun _ i _ => n.toNat - (intOf i).toNat)
              case atStart => exact ⟨0, true, rfl, by omega, rfl, Lib.hid rfl, HWX⟩
              case round =>
                obtain ⟨k, t, rfl, hk, rfl, HP, HW⟩ := hrel
                by_cases hlt2 : (k : Int) < n
                · have hk4 : k = 0 ∨ k = 1 ∨ k = 2 ∨ k = 3 := by omega
                  obtain ⟨u, hu⟩ : ∃ u, pinnedB n qs (2 ^ k) = u := ⟨_, rfl⟩
                  have HU := Lib.hid hu
                  have HS : Hid (pinTo n qs (k + 1) = (t && u)) := Lib.hid (by rw [pinTo_succ, ← HP.out, hu])
                  clear hu
                  rcases hk4 with rfl | rfl | rfl | rfl
                  all_goals
                    cases t
                    · first
                        | exact absurd (show false = true from HP.out) (by decide)
                        | (go_wp2_with fail
                           go_roundw
                           case rel => exact ⟨_ + 1, _, by go_num, by omega, rfl, Lib.hid (by rw [HS.out]; rfl), HW⟩
                           case measure => simp [intOf]; omega)
                    · go_wp2_with fail
                      refine (implPinnedOk_any wr n _ qs _ (GOwn.rd qC_len (HVB.out.keep (SameAt.of_below HW.out)))).mono ?_
                      rintro r wb ⟨rfl, bb⟩
                      have HBB := Lib.hid (below_step HW.out bb HW.out.size)
                      clear bb
                      first
                        | rw [show pinnedB n qs 1 = u from HU.out]
                        | rw [show pinnedB n qs 2 = u from HU.out]
                        | rw [show pinnedB n qs 4 = u from HU.out]
                        | rw [show pinnedB n qs 8 = u from HU.out]
                      go_wp2_with fail
                      go_roundw
                      case rel => exact ⟨_ + 1, _, by go_num, by omega, rfl, Lib.hid (by rw [HS.out]; rfl), HBB⟩
                      case measure => simp [intOf]; omega
                · have hkn : k = n.toNat := by omega
                  have HC : Hid (t = true ↔ countI n qs = 1) := Lib.hid (by rw [HP.out, hkn]; exact HN.out)
                  obtain ⟨m, hm⟩ : ∃ m, countI n qs = m := ⟨_, rfl⟩
                  have HM := Lib.hid hm
                  clear hm hkn
                  go_wp2_with fail
                  refine (implCountMeasures_any wr n _ qs (GOwn.rd qC_len (HVB.out.keep (SameAt.of_below HW.out)))).mono ?_
                  rintro r wb ⟨rfl, bb⟩
                  rw [HM.out]
                  have HBB := Lib.hid (below_step HBJ.out (below_step HW.out bb HW.out.size) HZJ.out)
                  clear bb
                  cases t
                  · have hne : (m == 1) = false := by
                      rw [beq_eq_false_iff_ne]
                      intro h
                      have := HC.out.2 (HM.out.trans h)
                      cases this
                    go_wp2_with fail
                    go_ret
                    exact ⟨rfl, HBB.out⟩
                  · have he : (m == 1) = true := by
                      rw [beq_iff_eq, ← HM.out]
                      exact HC.out.1 rfl
                    go_wp2_with fail
                    go_ret
                    exact ⟨rfl, HBB.out⟩
      · rw [pinned_no (fun h => by rw [k] at h; cases h.1)] at ht
        subst ht
        have HT := Lib.hid (pinned_no (n := n) (qs := qs) (e := y) (fun h => by rw [k] at h; cases h.1))
        have HF := Lib.hid f
        have HK := Lib.hid k
        clear f k
        go_wp2_with fail
        refine (implPinnedOk_any w1 n _ qs y (ovb1.rd qC_len)).mono ?_
        rintro e w2 ⟨rfl, b2⟩
        rw [HT.out]
        have z2 := b2.size
        have B2 := below_step B1 b2 (by omega)
        have ovb2 := ovb1.keep (SameAt.of_below b2)
        clear B1 b2 ovb1
        go_wp2_with fail
        refine (specPinnedOk_any w2 n _ qs y (ovb2.rd qC_len)).mono ?_
        rintro e w3 ⟨rfl, b3⟩
        rw [HT.out]
        have z3 := b3.size
        have B3 := below_step B2 b3 (by omega)
        have ovb3 := ovb2.keep (SameAt.of_below b3)
        clear B2 b3 ovb2
        go_wp2_with fail
        refine (implFairOk_any w3 n _ qs (ovb3.rd qC_len)).mono ?_
        rintro e w4 ⟨rfl, b4⟩
        rw [HF.out]
        have z4 := b4.size
        have B4 := below_step B3 b4 (by omega)
        have ovb4 := ovb3.keep (SameAt.of_below b4)
        clear B3 b4 ovb3
        go_wp2_with fail
        refine (specEventOk_any _ _ _).mono ?_
        rintro e w' ⟨rfl, rfl⟩
        rw [HK.out]
        go_wp2_with fail
        refine (alive_any _).mono ?_
        rintro e w' ⟨rfl, rfl⟩
        go_wp2_with fail
        go_ret
        exact ⟨rfl, B4⟩
    · rw [pinned_no (fun h => by rw [f] at h; cases h.2)] at ht
      subst ht
      have HT := Lib.hid (pinned_no (n := n) (qs := qs) (e := y) (fun h => by rw [f] at h; cases h.2))
      have HF := Lib.hid f
      clear f
      go_wp2_with fail
      refine (implPinnedOk_any w1 n _ qs y (ovb1.rd qC_len)).mono ?_
      rintro e w2 ⟨rfl, b2⟩
      rw [HT.out]
      have z2 := b2.size
      have B2 := below_step B1 b2 (by omega)
      have ovb2 := ovb1.keep (SameAt.of_below b2)
      clear B1 b2 ovb1
      go_wp2_with fail
      refine (specPinnedOk_any w2 n _ qs y (ovb2.rd qC_len)).mono ?_
      rintro e w3 ⟨rfl, b3⟩
      rw [HT.out]
      have z3 := b3.size
      have B3 := below_step B2 b3 (by omega)
      have ovb3 := ovb2.keep (SameAt.of_below b3)
      clear B2 b3 ovb2
      go_wp2_with fail
      refine (implFairOk_any w3 n _ qs (ovb3.rd qC_len)).mono ?_
      rintro e w4 ⟨rfl, b4⟩
      rw [HF.out]
      have z4 := b4.size
      have B4 := below_step B3 b4 (by omega)
      have ovb4 := ovb3.keep (SameAt.of_below b4)
      clear B3 b4 ovb3
      go_wp2_with fail
      refine (alive_any _).mono ?_
      rintro e w' ⟨rfl, rfl⟩
      go_wp2_with fail
      go_ret
      exact ⟨rfl, B4⟩

end Go.Proofs.Yteljcicdibbhdaa
