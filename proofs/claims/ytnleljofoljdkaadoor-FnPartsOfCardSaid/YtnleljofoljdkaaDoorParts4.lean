/- The contract of impl.PartsOf. Conditions: the events read as a list; the table of package math/bits is laid. -/
import Derived.Test.YtnleljofoljdkaaDoorParts3
namespace Go.Proofs.YtnleljofoljdkaaDoor
open Go.RowKit
set_option linter.unusedVariables false

def okB (n : Int) (xs : List Int) : Bool := wokB n && decide (xs.length ≤ 8) && xs.all (evB n)
def partsI (n : Int) (xs : List Int) : List Int := if okB n xs = true then natI (cparts (rep (keyN xs)) n.toNat n.toNat) else []

theorem partsI_no {n : Int} {xs : List Int} (h : okB n xs = false) : partsI n xs = [] := by rw [partsI, h]; rfl

theorem small_of {n : Int} {xs : List Int} (h : okB n xs = true) : Small xs := by
  unfold okB at h
  simp only [Bool.and_eq_true, decide_eq_true_eq, List.all_eq_true] at h
  exact ⟨h.1.2, fun x hx => evB_15 (h.2 x hx)⟩

theorem step_ins {K : Nat → Nat} {n k : Nat} (hn : n ≤ 4) (hk : k < n) :
    1 ≤ cpart (rep K) n k ∧ cpart (rep K) n k ≤ 15 ∧ sortedB (cparts (rep K) n k) = true ∧ Parts (cparts (rep K) n k) ∧ Ins (cparts (rep K) n k) (cpart (rep K) n k) (cparts (rep K) n (k + 1)) := by
  have h := step_rep K n k hn hk
  unfold stepB at h
  simp only [Bool.and_eq_true, Bool.or_eq_true, decide_eq_true_eq, List.all_eq_true, List.any_eq_true, List.mem_range, beq_iff_eq] at h
  obtain ⟨⟨⟨⟨⟨h1, h2⟩, h3⟩, h4⟩, h5⟩, h6⟩ := h
  refine ⟨h1, h2, h3, ⟨by omega, h4⟩, ?_⟩
  rcases h6 with ⟨⟨q, hq, e⟩, el⟩ | ⟨hall, el⟩
  · exact .found q _ (List.getElem?_eq_getElem hq) (by simpa [List.getElem?_eq_getElem hq] using e) el
  · exact .new hall el

def LoopRel (w : World) (K : Nat → Nat) (n k : Nat) (p : Value) (wr : World) : Prop := IOwn wr w.heap.size p (natI (cparts (rep K) n k)) ∧ Below w.heap.size w wr

theorem LoopRel.step {w wr w' : World} {K : Nat → Nat} {n k : Nat} {p v' : Value} (h : LoopRel w K n k p wr) (ho : IOwn w' w.heap.size v' (natI (cparts (rep K) n (k + 1)))) (hg : wr.grownBy w' p.ownBlock) : LoopRel w K n (k + 1) v' w' :=
  ⟨ho, h.2.grown hg h.2.size (fun g hg' => (h.1.ge g hg').1)⟩

theorem nil_own (w : World) (base : Nat) : IOwn w base (.slice none 0 0) [] := by simpa [IOwn] using World.ownsRow_nil w base 3 1

set_option maxHeartbeats 2000000 in
theorem implPartsOf_any (w : World) (n : Int) (v : Value) (xs : List Int) (hv : IRd w v xs) (ht : Tab w) :
    Calls Tryd.prog 6 #[.int .i64 n, v] w (NewInts (partsI n xs) w) := by
  obtain ⟨A, c, rfl, hlc, hm, -⟩ := id hv
  have HV := Lib.hid hv
  have HT := Lib.hid ht
  clear hv ht
  rcases Bool.eq_false_or_eq_true (wokB n) with hw | hw
  · by_cases h8 : xs.length ≤ 8
    · have h8' : decide (8 < xs.length) = false := by simp; omega
      obtain ⟨hn1, hn2⟩ := (wokB_iff n).1 hw
      go_enter Tryd.func6, Tryd.ntmps6
      go_wp2_with (go_at_call 20; refine (worldsOk_any _ _).mono ?_; rintro e w' ⟨rfl, rfl⟩)
      clear h8'
      go_loop [19] (fun i => ∃ k : Nat, i = .int .i64 k ∧ k ≤ xs.length ∧ Hid (∀ x ∈ xs.take k, evB n x = true)) (fun i => xs.length - (intOf i).toNat)
      case atStart => exact ⟨0, rfl, Nat.zero_le _, Lib.hid (by simp)⟩
      case round =>
        obtain ⟨k, rfl, hk, HE⟩ := hrel
        by_cases hlt : k < xs.length
        · obtain ⟨b, off, x, rfl, -, hx, hcx⟩ := HV.out.at_ hlt
          have HX := Lib.hid hx
          clear hx
          rcases Bool.eq_false_or_eq_true (evB n x) with hev | hev
          · go_wp2_with (go_at_call 21; refine (implEventOk_any _ _ _).mono ?_; rintro e w' ⟨rfl, rfl⟩)
            go_round
            case rel => exact ⟨k + 1, by go_num, by omega, Lib.hid (by
              rw [List.take_add_one, HX.out]
              intro y hy
              rcases List.mem_append.1 hy with h | h
              · exact HE.out y h
              · simp at h; subst h; exact hev)⟩
            case measure => simp [intOf]; omega
          · have HN : Hid (partsI n xs = []) := Lib.hid (partsI_no (by
              rw [← Bool.not_eq_true, okB]
              simp only [Bool.and_eq_true, List.all_eq_true]
              intro h
              have := h.2 x (List.mem_of_getElem? HX.out)
              rw [hev] at this; cases this))
            go_wp2_with (go_at_call 21; refine (implEventOk_any _ _ _).mono ?_; rintro e w' ⟨rfl, rfl⟩)
            go_ret
            exact ⟨_, rfl, by rw [HN.out]; exact nil_own _ _, Below.refl _ _⟩
        · have HOK : Hid (okB n xs = true) := Lib.hid (by
            have h1 := HE.out
            rw [List.take_of_length_le (by omega)] at h1
            rw [okB, hw]
            simp only [Bool.true_and, Bool.and_eq_true, decide_eq_true_eq, List.all_eq_true]
            exact ⟨h8, h1⟩)
          have HS := Lib.hid (small_of HOK.out)
          obtain ⟨m, rfl⟩ : ∃ m : Nat, n = (m : Int) := ⟨n.toNat, by omega⟩
          have hm4 : m ≤ 4 := by omega
          clear hn1 hn2 hw
          go_wp2_with fail
          go_loopw [7, 29] (fun p i wr => ∃ k : Nat, i = .int .i64 k ∧ k ≤ m ∧ Hid (LoopRel w (keyN xs) m k p wr)) (fun _ i _ => m - (intOf i).toNat)
          case atStart => exact ⟨0, rfl, Nat.zero_le _, Lib.hid ⟨by simpa [cparts, natI] using nil_own w w.heap.size, Below.refl _ _⟩⟩
          case round =>
            obtain ⟨k, rfl, hk, HR⟩ := hrel
            by_cases hlt : k < m
            · have hlt' : (k : Int) < (m : Int) := by omega
              obtain ⟨p1, p2, hso, hpa, hins⟩ := step_ins (K := keyN xs) hm4 hlt
              have hrd := Lib.hid (HV.out.keep (SameAt.of_below HR.out.2))
              have hta := Lib.hid (HT.out.below HR.out.2 (lt_of_tab HT.out))
              have hown := Lib.hid HR.out.1
              have hsz : w.heap.size ≤ wr.heap.size := HR.out.2.size
              have HSO := Lib.hid hso
              have HPA := Lib.hid hpa
              have HIN := Lib.hid hins
              have hpk := Lib.hid (part_key (keyN xs) m k)
              clear hso hpa hins
              go_wp2_with fail
              refine (partOf_any _ _ xs m k hm4 (by omega) hrd.out HS.out).mono ?_
              rintro e w' ⟨rfl, rfl⟩
              go_wp2_with fail
              rw [hpk.out]
              refine (insertBy_any _ w.heap.size _ _ _ _ hown.out hsz HPA.out p1 p2 HSO.out hta.out HIN.out).mono ?_
              rintro e w' ⟨v', rfl, ho, hg⟩
              have HO := Lib.hid (HR.out.step ho hg)
              clear ho hg
              go_wp2_with fail
              go_roundw
              case rel => exact ⟨k + 1, by go_num, by omega, HO⟩
              case measure => simp [intOf]; omega
            · have hge : (m : Int) ≤ (k : Int) := by omega
              go_wp2_with fail
              go_ret
              obtain ⟨h1, h2⟩ := HR.out
              rw [show k = m from by omega] at h1
              exact ⟨_, rfl, by rw [partsI, HOK.out]; exact h1, h2⟩
    · have h8' : decide (8 < xs.length) = true := by simp; omega
      have h8i : (8 : Int) < (xs.length : Int) := by omega
      have HN : Hid (partsI n xs = []) := Lib.hid (partsI_no (by rw [okB, hw, show decide (xs.length ≤ 8) = false from by simp; omega]; rfl))
      go_enter Tryd.func6, Tryd.ntmps6
      go_wp2_with (go_at_call 20; refine (worldsOk_any _ _).mono ?_; rintro e w' ⟨rfl, rfl⟩)
      go_ret
      exact ⟨_, rfl, by rw [HN.out]; exact nil_own _ _, Below.refl _ _⟩
  · have HN : Hid (partsI n xs = []) := Lib.hid (partsI_no (by rw [okB, hw]; rfl))
    go_enter Tryd.func6, Tryd.ntmps6
    go_wp2_with (go_at_call 20; refine (worldsOk_any _ _).mono ?_; rintro e w' ⟨rfl, rfl⟩)
    go_ret
    exact ⟨_, rfl, by rw [HN.out]; exact nil_own _ _, Below.refl _ _⟩

end Go.Proofs.YtnleljofoljdkaaDoor
