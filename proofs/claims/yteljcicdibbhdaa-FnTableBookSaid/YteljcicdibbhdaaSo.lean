/- All stakes in their order; the program's walk over them, its contract. Conditions: at most three stakes. (out of XSi by gen_jp.py) -/
import Derived.Test.YteljcicdibbhdaaSx
import Derived.RangeFuncNested
import Derived.Shelf.RegionOpen
import Derived.WalkKit
import Derived.OwnWalkIn
import Derived.TacticsInMore
import Derived.LoopNIn
import Derived.LoopIn
import Derived.Sort.LoopGhostIn
import Derived.Test.YteljcicdibbhdaaNg
import Derived.Test.YteljcicdibbhdaaNj
import Derived.Test.YteljcicdibbhdaaQi
namespace Go.Proofs.Yteljcicdibbhdaa
open Go.RowKit
set_option linter.unusedVariables false

/-- the stake that is tried in round d -/
def sAt (mo d : Nat) : Int := (d : Int) - (mo : Int)

/-- all rows that go on so, with so many stakes more, whose sum without signs is so much more -/
def layS : Nat → List Int → Nat → List (List Int)
  | 0, ts, left => if 0 < left then [] else [ts]
  | k + 1, ts, left => (List.range (2 * min left 2 + 1)).flatMap fun d => layS k (ts ++ [sAt (min left 2) d]) (left - (sAt (min left 2) d).natAbs)

/-- those of the first rounds -/
def doneS (k : Nat) (ts : List Int) (left e : Nat) : List (List Int) := (List.range e).flatMap fun d => layS k (ts ++ [sAt (min left 2) d]) (left - (sAt (min left 2) d).natAbs)

theorem done_zero (k : Nat) (ts : List Int) (left : Nat) : doneS k ts left 0 = [] := rfl

theorem done_succ (k : Nat) (ts : List Int) (left e : Nat) : doneS k ts left (e + 1) = doneS k ts left e ++ layS k (ts ++ [sAt (min left 2) e]) (left - (sAt (min left 2) e).natAbs) := by
  rw [doneS, doneS, List.range_succ, List.flatMap_append]
  simp

theorem done_all (k : Nat) (ts : List Int) (left : Nat) : doneS k ts left (2 * min left 2 + 1) = layS (k + 1) ts left := rfl

theorem done_more (k : Nat) (ts : List Int) (left e d : Nat) : doneS k ts left e <+: doneS k ts left (e + d) := by
  induction d with
  | zero => exact List.prefix_refl _
  | succ d ih => exact ih.trans (by rw [← Nat.add_assoc, done_succ]; exact List.prefix_append _ _)

theorem done_pre (k : Nat) (ts : List Int) (left : Nat) {e : Nat} (h : e ≤ 2 * min left 2 + 1) : doneS k ts left e <+: layS (k + 1) ts left := by
  obtain ⟨d, hd⟩ : ∃ d, 2 * min left 2 + 1 = e + d := ⟨_, (Nat.add_sub_of_le h).symm⟩
  rw [← done_all, hd]
  exact done_more _ _ _ _ _

/-- all rows of so many stakes -/
def stAll (c : Nat) : List (List Int) := (List.range (2 * c + 1)).flatMap fun s => layS c [] s

/-- those of the first sums -/
def stTo (c e : Nat) : List (List Int) := (List.range e).flatMap fun s => layS c [] s

theorem stTo_zero (c : Nat) : stTo c 0 = [] := rfl

theorem stTo_succ (c e : Nat) : stTo c (e + 1) = stTo c e ++ layS c [] e := by
  rw [stTo, stTo, List.range_succ, List.flatMap_append]
  simp

theorem stTo_all (c : Nat) : stTo c (2 * c + 1) = stAll c := rfl

theorem stTo_more (c e d : Nat) : stTo c e <+: stTo c (e + d) := by
  induction d with
  | zero => exact List.prefix_refl _
  | succ d ih => exact ih.trans (by rw [← Nat.add_assoc, stTo_succ]; exact List.prefix_append _ _)

theorem stTo_pre (c : Nat) {e : Nat} (h : e ≤ 2 * c + 1) : stTo c e <+: stAll c := by
  obtain ⟨d, hd⟩ : ∃ d, 2 * c + 1 = e + d := ⟨_, (Nat.add_sub_of_le h).symm⟩
  rw [← stTo_all, hd]
  exact stTo_more _ _ _

theorem all_tab : ∀ c : Fin 4, stAll c = (List.range 7).flatMap fun s => stks c s := by decide +kernel

end Go.Proofs.Yteljcicdibbhdaa

namespace Go.Proofs.Yteljcicdibbhdaa
open Go.RowKit Go.Shelf
set_option linter.unusedVariables false
attribute [local go_sem] Oper.semAt_some

theorem yield_depth {n : Nat} (m : Nat) {P : Program} {l : Nat} {args : Array Value} {W : World} {R : Ending → World → Prop} (h : YieldAt Fence.wide n P l args W R) : YieldAt Fence.wide m P l args W R := by
  obtain ⟨fn, tmps, assign, body, hy, h1, h2⟩ := h
  exact ⟨fn, tmps, assign, body, hy, h1, fun c cs _ => h2 c cs (room_wide _)⟩

/-- what a round is owed and owes -/
def Rounds (C l B : Nat) (v : Value) (J Jx : List (List Int) → World → Prop) (all : List (List Int)) : Prop :=
  ∀ pre x A, J pre A → B ≤ A.heap.size → IOwn A B v x → (pre ++ [x]) <+: all →
    YieldAt Fence.wide 0 Try.prog l #[v] A fun e A' => (e = .returned (.bool true) ∧ J (pre ++ [x]) A' ∧ KeptBut C l A A') ∨ (e = .returned (.bool false) ∧ Jx (pre ++ [x]) A')

/-- where the laying stands: the row's first stakes are these -/
def LayRow (B c at' : Nat) (v : Value) (ts : List Int) (A : World) : Prop := ∃ xs, IOwn A B v xs ∧ xs.length = c ∧ xs.take at' = ts ∧ B ≤ A.heap.size

theorem LayRow.len {B c at' : Nat} {v : Value} {ts : List Int} {A : World} (h : LayRow B c at' v ts A) (hc : at' ≤ c) : ts.length = at' := by
  obtain ⟨xs, -, hl, ht, -⟩ := h
  rw [← ht, List.length_take]; omega

theorem take_set_one (xs : List Int) (n : Nat) (x : Int) (h : n < xs.length) : (xs.set n x).take (n + 1) = xs.take n ++ [x] := by
  rw [List.take_add_one, List.take_set, List.set_eq_of_length_le (by rw [List.length_take]; omega), List.getElem?_set_self (by omega)]
  rfl

theorem LayRow.put {B c at' g cap : Nat} {ts : List Int} {A : World} (h : LayRow B c at' (.slice (some ⟨g, 0, none⟩) c cap) ts A) (hc : at' < c) (x : Int) :
    LayRow B c (at' + 1) (.slice (some ⟨g, 0, none⟩) c cap) (ts ++ [x]) (A.setCell ⟨g, at', none⟩ (.int .i64 x)) ∧ Below B A (A.setCell ⟨g, at', none⟩ (.int .i64 x)) := by
  obtain ⟨xs, ho, hl, ht, hB⟩ := h
  obtain ⟨h1, h2⟩ := ho.set_ hl at' x
  refine ⟨⟨xs.set at' x, h1, by rw [List.length_set, hl], by rw [take_set_one _ _ _ (by omega), ht], by simp [World.setCell]; exact hB⟩, ?_⟩
  exact (Below.refl B A).setCell (p := ⟨g, at', none⟩) (ho.ge g rfl).1 _

theorem LayRow.back {B c at' : Nat} {v : Value} {ts : List Int} {x : Int} {A : World} (h : LayRow B c (at' + 1) v (ts ++ [x]) A) (hts : ts.length = at') : LayRow B c at' v ts A := by
  obtain ⟨xs, ho, hl, ht, hB⟩ := h
  refine ⟨xs, ho, hl, ?_, hB⟩
  have h1 := congrArg (List.take at') ht
  rw [List.take_take, Nat.min_eq_left (Nat.le_succ _), List.take_left' hts] at h1
  exact h1

/-- what laying the stakes from a place on leaves -/
def LayPost (B c at' : Nat) (v : Value) (ts : List Int) (J Jx : List (List Int) → World → Prop) (all new : List (List Int)) (e : Ending) (A : World) : Prop :=
  (e = .returned (.bool true) ∧ J new A ∧ LayRow B c at' v ts A) ∨ (e = .returned (.bool false) ∧ ∃ pre, pre <+: all ∧ Jx pre A)

set_option maxRecDepth 100000 in
set_option maxHeartbeats 8000000 in
theorem layStakes_any (C l B g c cap : Nat) (J Jx : List (List Int) → World → Prop) (all : List (List Int)) (c3 : c ≤ 3) (hC : C < B) (hl : l < B) (hJ : Stays B J)
    (hY : Rounds C l B (.slice (some ⟨g, 0, none⟩) c cap) J Jx all) (k : Nat) :
    ∀ (w : World) (at' left : Nat) (ts : List Int) (pre : List (List Int)), at' + k = c → left ≤ 6 → LayRow B c at' (.slice (some ⟨g, 0, none⟩) c cap) ts w → J pre w → (pre ++ layS k ts left) <+: all →
      Calls Try.prog 118 #[.slice (some ⟨g, 0, none⟩) c cap, .int .i64 (at' : Int), .int .i64 (left : Int), .func (.yield l) #[] #[]] w
        (LayPost B c at' (.slice (some ⟨g, 0, none⟩) c cap) ts J Jx all (pre ++ layS k ts left)) := by
  have HY := Lib.hid hY
  have HJ := Lib.hid hJ
  have HC := Lib.hid hC
  have HL := Lib.hid hl
  clear hY hJ hC hl
  induction k with
  | zero =>
    intro w at' left ts pre hk h6 hR hj hall
    obtain rfl : at' = c := by omega
    obtain ⟨xs, ho, hx, ht, hB⟩ := hR
    obtain rfl : xs = ts := by rw [← ht, List.take_of_length_le (by omega)]
    have HX := Lib.hid hx
    have HO := Lib.hid ho
    have HB := Lib.hid hB
    have HJW := Lib.hid hj
    have HA := Lib.hid hall
    have he : ((at' : Int) == (at' : Int)) = true := by simp
    clear hx ho hB hj hall ht hk
    refine (callsIn_wide (n := 4)).1 ?_
    refine callsIn_of_wp Try.func118 rfl trivial ?_ rfl
    simp only [Try.ntmps118, List.size_toArray, List.length_cons, List.length_nil, Nat.reduceAdd, Nat.reduceSub, Array.replicate_succ, Array.replicate_zero, List.push_toArray, List.append_toArray, List.nil_append, List.cons_append]
    by_cases h0 : (0 : Int) < (left : Int)
    · have HE : Hid (layS 0 xs left = []) := Lib.hid (by rw [layS, if_pos (by omega)])
      gi_wp2_with fail
      refine ⟨fun _ h => (by cases h), ?_⟩
      gi_wp2_with fail
      go_ret
      exact .inl ⟨rfl, by rw [HE.out, List.append_nil]; exact HJW.out, xs, HO.out, HX.out, by rw [List.take_of_length_le (by have := HX.out; omega)], HB.out⟩
    · have HE : Hid (layS 0 xs left = [xs]) := Lib.hid (by rw [layS, if_neg (by omega)])
      obtain ⟨fn, tmps, assign, body, hy, hR⟩ := yield_depth 3 (HY.out pre xs w HJW.out HB.out HO.out (by rw [← HE.out]; exact HA.out))
      have HR := Lib.hid hR
      clear hR
      gi_wp2_with fail
      refine HR.out.mono ?_
      rintro e w2 (⟨rfl, hj2, hk2⟩ | ⟨rfl, hx2⟩)
      · have HJ2 := Lib.hid hj2
        have HO2 := Lib.hid (own_kept HO.out hk2 HC.out HL.out)
        have HB2 : Hid (B ≤ w2.heap.size) := Lib.hid (Nat.le_trans HB.out hk2.1)
        clear hj2 hk2 hy HR
        gi_wp2_with fail
        go_ret
        exact .inl ⟨rfl, by rw [HE.out]; exact HJ2.out, xs, HO2.out, HX.out, by rw [List.take_of_length_le (by have := HX.out; omega)], HB2.out⟩
      · have HX2 := Lib.hid hx2
        clear hx2 hy HR
        gi_wp2_with fail
        go_ret
        exact .inr ⟨rfl, _, by rw [← HE.out]; exact HA.out, HX2.out⟩
  | succ k ih =>
    intro w at' left ts pre hk h6 hR hj hall
    have IH := Lib.hid ih
    have HK := Lib.hid hk
    have HA := Lib.hid hall
    have H0 : Hid (LayRow B c at' (.slice (some ⟨g, 0, none⟩) c cap) ts w ∧ J (pre ++ doneS k ts left 0) w) := Lib.hid ⟨hR, by rw [done_zero, List.append_nil]; exact hj⟩
    have hac : (at' : Int) < (c : Int) := by omega
    have hac2 : at' < c := by omega
    have he : ((at' : Int) == (c : Int)) = false := by simp; omega
    clear ih hall hR hj hk
    obtain ⟨mo, hmo⟩ : ∃ mo, min left 2 = mo := ⟨_, rfl⟩
    have HM := Lib.hid hmo
    have hm2 : mo ≤ 2 := by omega
    refine (callsIn_wide (n := 4)).1 ?_
    refine callsIn_of_wp Try.func118 rfl trivial ?_ rfl
    simp only [Try.ntmps118, List.size_toArray, List.length_cons, List.length_nil, Nat.reduceAdd, Nat.reduceSub, Array.replicate_succ, Array.replicate_zero, List.push_toArray, List.append_toArray, List.nil_append, List.cons_append]
    by_cases h2 : (2 : Int) < (left : Int)
    · obtain rfl : mo = 2 := by omega
      clear hmo
      gi_wp2_with fail
      gi_loopg [10] (2 * 2 + 2) (fun gk s wr => ∃ (d : Nat) (x : Int), gk = 2 * 2 + 2 - d ∧ d ≤ 2 * 2 + 1 ∧ s = .int .i64 x ∧ x = (d : Int) - (2 : Int) ∧ Hid (LayRow B c at' (.slice (some ⟨g, 0, none⟩) c cap) ts wr ∧ J (pre ++ doneS k ts left d) wr))
      case atStart => exact ⟨0, _, by omega, by omega, rfl, by omega, H0⟩
      case round =>
        obtain ⟨d, x, hgk, hd, rfl, rfl, HF⟩ := hrel
        clear H0
        by_cases hle : (d : Int) - (2 : Int) ≤ (2 : Int)
        · obtain ⟨⟨xs, ho, hl, -, -⟩, -⟩ := id HF.out
          obtain ⟨y, hy⟩ : ∃ y, xs[at']? = some y := ⟨_, List.getElem?_eq_getElem (by omega)⟩
          have hck := ho.cellk hy
          have hfk := ho.frz hl at'
          have HP := Lib.hid (HF.out.1.put hac2 ((d : Int) - (2 : Int)))
          have HTL := Lib.hid (HF.out.1.len (Nat.le_of_lt hac2))
          have HE : Hid (pre ++ doneS k ts left (d + 1) = (pre ++ doneS k ts left d) ++ layS k (ts ++ [(d : Int) - (2 : Int)]) (left - ((d : Int) - (2 : Int)).natAbs)) := Lib.hid (by rw [done_succ, List.append_assoc, HM.out]; rfl)
          have HPR : Hid ((pre ++ doneS k ts left (d + 1)) <+: all) := Lib.hid (((List.prefix_append_right_inj pre).2 (done_pre k ts left (by rw [HM.out]; omega))).trans HA.out)
          have HC0 := Lib.hid (IH.out (wr.setCell ⟨g, at', none⟩ (.int .i64 ((d : Int) - (2 : Int)))) (at' + 1) (left - ((d : Int) - (2 : Int)).natAbs) (ts ++ [(d : Int) - (2 : Int)]) (pre ++ doneS k ts left d) (by have := HK.out; omega) (by omega) HP.out.1 (HJ.out _ _ _ HF.out.2 HP.out.2) (by rw [← HE.out]; exact HPR.out))
          have e1 : ((at' + 1 : Nat) : Int) = (at' : Int) + 1 := by omega
          clear ho hl hy
          by_cases hneg : (d : Int) - (2 : Int) < -((d : Int) - (2 : Int))
          · have e2 : ((left - ((d : Int) - (2 : Int)).natAbs : Nat) : Int) = (left : Int) + ((d : Int) - (2 : Int)) := by omega
            have HC1 := HC0.out
            rw [e1, e2] at HC1
            have HC1 := Lib.hid HC1
            clear e1 e2 HC0
            gi_wp2_with fail
            refine ⟨trivial, (callsIn_wide.2 HC1.out).mono ?_⟩
            rintro e w2 (⟨rfl, hj2, hr2⟩ | ⟨rfl, pre2, hp2, hx2⟩)
            · have HF2 := Lib.hid (And.intro (hr2.back HTL.out) (HE.out ▸ hj2))
              clear hj2 hr2 HC1
              gi_wp2_with fail
              gi_roundg (2 * 2 + 2 - (d + 1))
              case measure => omega
              case rel => exact ⟨d + 1, _, by omega, by omega, rfl, by omega, HF2⟩
            · have HX2 := Lib.hid (And.intro hp2 hx2)
              clear hp2 hx2 HC1
              gi_wp2_with fail
              go_ret
              exact .inr ⟨rfl, pre2, HX2.out⟩
          · have e2 : ((left - ((d : Int) - (2 : Int)).natAbs : Nat) : Int) = (left : Int) - ((d : Int) - (2 : Int)) := by omega
            have HC1 := HC0.out
            rw [e1, e2] at HC1
            have HC1 := Lib.hid HC1
            clear e1 e2 HC0
            gi_wp2_with fail
            refine ⟨trivial, (callsIn_wide.2 HC1.out).mono ?_⟩
            rintro e w2 (⟨rfl, hj2, hr2⟩ | ⟨rfl, pre2, hp2, hx2⟩)
            · have HF2 := Lib.hid (And.intro (hr2.back HTL.out) (HE.out ▸ hj2))
              clear hj2 hr2 HC1
              gi_wp2_with fail
              gi_roundg (2 * 2 + 2 - (d + 1))
              case measure => omega
              case rel => exact ⟨d + 1, _, by omega, by omega, rfl, by omega, HF2⟩
            · have HX2 := Lib.hid (And.intro hp2 hx2)
              clear hp2 hx2 HC1
              gi_wp2_with fail
              go_ret
              exact .inr ⟨rfl, pre2, HX2.out⟩
        · obtain rfl : d = 2 * 2 + 1 := by omega
          have HE : Hid (doneS k ts left (2 * 2 + 1) = layS (k + 1) ts left) := Lib.hid (by rw [← done_all, HM.out])
          have HJ2 : Hid (J (pre ++ layS (k + 1) ts left) wr) := Lib.hid (HE.out ▸ HF.out.2)
          gi_wp2_with fail
          go_ret
          exact .inl ⟨rfl, HJ2.out, HF.out.1⟩
    · obtain rfl : mo = left := by omega
      clear hmo
      gi_wp2_with fail
      gi_loopg [10] (2 * mo + 2) (fun gk s wr => ∃ (d : Nat) (x : Int), gk = 2 * mo + 2 - d ∧ d ≤ 2 * mo + 1 ∧ s = .int .i64 x ∧ x = (d : Int) - (mo : Int) ∧ Hid (LayRow B c at' (.slice (some ⟨g, 0, none⟩) c cap) ts wr ∧ J (pre ++ doneS k ts mo d) wr))
      case atStart => exact ⟨0, _, by omega, by omega, rfl, by omega, H0⟩
      case round =>
        obtain ⟨d, x, hgk, hd, rfl, rfl, HF⟩ := hrel
        clear H0
        by_cases hle : (d : Int) - (mo : Int) ≤ (mo : Int)
        · obtain ⟨⟨xs, ho, hl, -, -⟩, -⟩ := id HF.out
          obtain ⟨y, hy⟩ : ∃ y, xs[at']? = some y := ⟨_, List.getElem?_eq_getElem (by omega)⟩
          have hck := ho.cellk hy
          have hfk := ho.frz hl at'
          have HP := Lib.hid (HF.out.1.put hac2 ((d : Int) - (mo : Int)))
          have HTL := Lib.hid (HF.out.1.len (Nat.le_of_lt hac2))
          have HE : Hid (pre ++ doneS k ts mo (d + 1) = (pre ++ doneS k ts mo d) ++ layS k (ts ++ [(d : Int) - (mo : Int)]) (mo - ((d : Int) - (mo : Int)).natAbs)) := Lib.hid (by rw [done_succ, List.append_assoc, HM.out]; rfl)
          have HPR : Hid ((pre ++ doneS k ts mo (d + 1)) <+: all) := Lib.hid (((List.prefix_append_right_inj pre).2 (done_pre k ts mo (by rw [HM.out]; omega))).trans HA.out)
          have HC0 := Lib.hid (IH.out (wr.setCell ⟨g, at', none⟩ (.int .i64 ((d : Int) - (mo : Int)))) (at' + 1) (mo - ((d : Int) - (mo : Int)).natAbs) (ts ++ [(d : Int) - (mo : Int)]) (pre ++ doneS k ts mo d) (by have := HK.out; omega) (by omega) HP.out.1 (HJ.out _ _ _ HF.out.2 HP.out.2) (by rw [← HE.out]; exact HPR.out))
          have e1 : ((at' + 1 : Nat) : Int) = (at' : Int) + 1 := by omega
          clear ho hl hy
          by_cases hneg : (d : Int) - (mo : Int) < -((d : Int) - (mo : Int))
          · have e2 : ((mo - ((d : Int) - (mo : Int)).natAbs : Nat) : Int) = (mo : Int) + ((d : Int) - (mo : Int)) := by omega
            have HC1 := HC0.out
            rw [e1, e2] at HC1
            have HC1 := Lib.hid HC1
            clear e1 e2 HC0
            gi_wp2_with fail
            refine ⟨trivial, (callsIn_wide.2 HC1.out).mono ?_⟩
            rintro e w2 (⟨rfl, hj2, hr2⟩ | ⟨rfl, pre2, hp2, hx2⟩)
            · have HF2 := Lib.hid (And.intro (hr2.back HTL.out) (HE.out ▸ hj2))
              clear hj2 hr2 HC1
              gi_wp2_with fail
              gi_roundg (2 * mo + 2 - (d + 1))
              case measure => omega
              case rel => exact ⟨d + 1, _, by omega, by omega, rfl, by omega, HF2⟩
            · have HX2 := Lib.hid (And.intro hp2 hx2)
              clear hp2 hx2 HC1
              gi_wp2_with fail
              go_ret
              exact .inr ⟨rfl, pre2, HX2.out⟩
          · have e2 : ((mo - ((d : Int) - (mo : Int)).natAbs : Nat) : Int) = (mo : Int) - ((d : Int) - (mo : Int)) := by omega
            have HC1 := HC0.out
            rw [e1, e2] at HC1
            have HC1 := Lib.hid HC1
            clear e1 e2 HC0
            gi_wp2_with fail
            refine ⟨trivial, (callsIn_wide.2 HC1.out).mono ?_⟩
            rintro e w2 (⟨rfl, hj2, hr2⟩ | ⟨rfl, pre2, hp2, hx2⟩)
            · have HF2 := Lib.hid (And.intro (hr2.back HTL.out) (HE.out ▸ hj2))
              clear hj2 hr2 HC1
              gi_wp2_with fail
              gi_roundg (2 * mo + 2 - (d + 1))
              case measure => omega
              case rel => exact ⟨d + 1, _, by omega, by omega, rfl, by omega, HF2⟩
            · have HX2 := Lib.hid (And.intro hp2 hx2)
              clear hp2 hx2 HC1
              gi_wp2_with fail
              go_ret
              exact .inr ⟨rfl, pre2, HX2.out⟩
        · obtain rfl : d = 2 * mo + 1 := by omega
          have HE : Hid (doneS k ts mo (2 * mo + 1) = layS (k + 1) ts mo) := Lib.hid (by rw [← done_all, HM.out])
          have HJ2 : Hid (J (pre ++ layS (k + 1) ts mo) wr) := Lib.hid (HE.out ▸ HF.out.2)
          gi_wp2_with fail
          go_ret
          exact .inl ⟨rfl, HJ2.out, HF.out.1⟩

set_option maxRecDepth 100000 in
set_option maxHeartbeats 8000000 in
theorem stWalk_any (n : Nat) (C Bc c : Nat) (w0 : World) (hC : C < w0.heap.size) (hc : w0.cell? ⟨Bc, 0, none⟩ = some (.int .i64 (c : Int))) (c3 : c ≤ 3) :
    RowWalk n Try.prog 117 #[.pointer (some ⟨Bc, 0, none⟩)] C w0 (stAll c) := by
  intro l J Jx W hW hl0 hl1 hJ hY h0
  have hWs := hW.size
  have hcw : W.cell? ⟨Bc, 0, none⟩ = some (.int .i64 (c : Int)) := (hW.cell (p := ⟨Bc, 0, none⟩) (World.block_lt_of_cell? w0 _ hc)).trans hc
  have hB1 : Below W.heap.size W (W.alloc (zObj c)) := (Below.refl _ _).alloc (Nat.le_refl _) _
  have HL : Hid (∀ w : World, ∀ left : Nat, ∀ pre : List (List Int), left ≤ 6 → LayRow W.heap.size c 0 (.slice (some ⟨W.heap.size, 0, none⟩) c c) [] w → J pre w → (pre ++ layS c [] left) <+: stAll c →
      Calls Try.prog 118 #[.slice (some ⟨W.heap.size, 0, none⟩) c c, .int .i64 0, .int .i64 (left : Int), .func (.yield l) #[] #[]] w
        (LayPost W.heap.size c 0 (.slice (some ⟨W.heap.size, 0, none⟩) c c) [] J Jx (stAll c) (pre ++ layS c [] left))) := Lib.hid (fun w left pre h6 hR hj hall =>
    layStakes_any C l W.heap.size W.heap.size c c J Jx (stAll c) c3 (by omega) hl1 hJ (fun pre x A hj hB ho hp => yield_depth 0 (hY pre x _ A hj hB ho hp)) c w 0 left [] pre (by omega) h6 hR hj hall)
  have H0 : Hid (LayRow W.heap.size c 0 (.slice (some ⟨W.heap.size, 0, none⟩) c c) [] (W.alloc (zObj c)) ∧ J (stTo c 0) (W.alloc (zObj c))) :=
    Lib.hid ⟨⟨List.replicate c 0, zeros_own W _ c (Nat.le_refl _) (by omega), by simp, rfl, by simp⟩, hJ _ _ _ h0 hB1⟩
  have hmk : ∀ w : World, (Instr.makeSlice 41 (.int .i64 (c : Int)) (.int .i64 (c : Int))).run Try.prog w = .ok (.slice (some ⟨w.heap.size, 0, none⟩) c c) (w.alloc (zObj c)) := fun w => run_zeros w c (by omega)
  have hcw1 : (W.alloc (zObj c)).cell? ⟨Bc, 0, none⟩ = some (.int .i64 (c : Int)) := old_cell _ hcw
  clear hY hJ h0 hC hl0 hl1 hWs hW hc hB1
  refine callsIn_of_wp Try.func117 rfl trivial ?_ rfl
  simp only [Try.ntmps117, List.size_toArray, List.length_cons, List.length_nil, Nat.reduceAdd, Nat.reduceSub, Array.replicate_succ, Array.replicate_zero, List.push_toArray, List.append_toArray, List.nil_append, List.cons_append]
  gi_wp2_with fail
  gi_loopg [10] (2 * c + 2) (fun gk s wr => ∃ d : Nat, gk = 2 * c + 2 - d ∧ d ≤ 2 * c + 1 ∧ s = .int .i64 (d : Int) ∧ Hid (LayRow W.heap.size c 0 (.slice (some ⟨W.heap.size, 0, none⟩) c c) [] wr ∧ J (stTo c d) wr))
  case atStart => exact ⟨0, by omega, by omega, rfl, H0⟩
  case round =>
    obtain ⟨d, hgk, hd, rfl, HF⟩ := hrel
    clear H0 hcw hcw1 hmk
    by_cases hlt : d < 2 * c + 1
    · have HC := Lib.hid (HL.out wr d (stTo c d) (by omega) HF.out.1 HF.out.2 (by rw [← stTo_succ]; exact stTo_pre c (by omega)))
      gi_wp2_with fail
      refine ⟨trivial, (fun h => by cases h), (callsIn_wide.2 HC.out).mono ?_⟩
      rintro e w2 (⟨rfl, hj2, hr2⟩ | ⟨rfl, pre2, hp2, hx2⟩)
      · have HF2 := Lib.hid (And.intro hr2 ((stTo_succ c d).symm ▸ hj2))
        clear hj2 hr2 HC
        gi_wp2_with fail
        gi_roundg (2 * c + 2 - (d + 1))
        case measure => omega
        case rel => exact ⟨d + 1, by omega, by omega, by go_num, HF2⟩
      · have HX2 := Lib.hid (And.intro hp2 hx2)
        clear hp2 hx2 HC
        gi_wp2_with fail
        refine bodyPost_ret (results_none rfl _ _ _) rfl ?_
        exact ⟨⟨_, rfl⟩, .inr ⟨pre2, HX2.out⟩⟩
    · obtain rfl : d = 2 * c + 1 := by omega
      have HE : Hid (J (stAll c) wr) := Lib.hid (stTo_all c ▸ HF.out.2)
      gi_wp2_with fail
      go_end0
      exact ⟨⟨_, rfl⟩, .inl HE.out⟩

/-- the walk as a function value: it has captured the variable at b -/
def stV (b : Nat) : Value := .func (.func 117) #[] #[.pointer (some ⟨b, 0, none⟩)]

set_option maxHeartbeats 1000000 in
theorem stakesInOrder_any (W : World) (c : Int) :
    Calls Try.prog 114 #[.int .i64 c] W fun r W' => r = .returned (stV W.heap.size) ∧ W.alloc (.cells #[.int .i64 c] 3) = W' := by
  go_enter Try.func114, Try.ntmps114
  go_wp2
  go_ret
  exact ⟨rfl, rfl⟩

theorem calls_round {l n : Nat} {P : Program} {f : FuncId} {args : Array Value} {w : World} {R : Ending → World → Prop} (h : Calls P f args w R) : CallsIn (Fence.wide.inRound l) n P f args w R :=
  callsIn_wide.2 h

theorem kept_below {C l : Nat} {A B : World} (h : Below A.heap.size A B) : KeptBut C l A B := ⟨h.size, fun k hk _ _ => h.block k hk⟩

theorem others_below {A B : World} (h : Below A.heap.size A B) : KeepsOthers A B :=
  ⟨h.size, fun k o hk _ => (h.block k (Array.getElem?_eq_some_iff.1 hk).1).trans hk⟩

/-- no row that has come fulfils the test -/
def TstI (P : List Int → Bool) (w : World) (pre : List (List Int)) (A : World) : Prop := (∀ y ∈ pre, P y = false) ∧ ResI w (.slice none 0 0) false A

/-- the row that came last fulfils it, and none before it: the body has returned it -/
def TstX (P : List Int → Bool) (w : World) (c : Code) (pre : List (List Int)) (A : World) : Prop :=
  c = .ret ∧ ∃ ys x v, pre = ys ++ [x] ∧ (∀ y ∈ ys, P y = false) ∧ P x = true ∧ ResI w v true A ∧ IOwn A w.heap.size v x

theorem tst_stays {P : List Int → Bool} {w : World} {B : Nat} (hB : w.heap.size + 2 ≤ B) : Stays B (TstI P w) := by
  rintro pre A A' ⟨h1, h2⟩ hb
  exact ⟨h1, res_below h2 hb hB⟩

theorem tst_put {P : List Int → Bool} {w A : World} {c : Code} {pre : List (List Int)} {l : Nat} {o : Obj} (o' : Obj) (h : TstX P w c pre A) (hl : w.heap.size + 2 ≤ l) (ho : A.heap[l]? = some o) (hc : o.isCells = false) : TstX P w c pre (A.putObj l o') := by
  obtain ⟨h1, ys, x, v, h2, h3, h4, h5, h6⟩ := h
  exact ⟨h1, ys, x, v, h2, h3, h4, res_below h5 (below_put o' (Array.getElem?_eq_some_iff.1 ho).1 (Nat.le_refl _)) hl, own_putc o' h6 ho hc⟩

theorem tst_hit {P : List Int → Bool} {all ys : List (List Int)} {x : List Int} (h : (ys ++ [x]) <+: all) (hp : ∀ y ∈ ys, P y = false) (hx : P x = true) :
    (all.find? P).isSome = true ∧ (all.find? P).getD [] = x := by
  obtain ⟨r, hr⟩ := h
  have hl : all.find? P = some x := by
    rw [← hr, List.append_assoc, List.find?_append, List.find?_eq_none.2 (fun y hy => by rw [hp y hy]; simp)]
    simp [hx]
  rw [hl]
  exact ⟨rfl, rfl⟩

theorem tst_miss {P : List Int → Bool} {all : List (List Int)} (hp : ∀ y ∈ all, P y = false) : (all.find? P).isSome = false ∧ (all.find? P).getD [] = [] := by
  have hl : all.find? P = none := List.find?_eq_none.2 (fun y hy => by rw [hp y hy]; simp)
  rw [hl]
  exact ⟨rfl, rfl⟩

end Go.Proofs.Yteljcicdibbhdaa
