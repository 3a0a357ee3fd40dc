/- What is drawn for chapter 2 where two gambles are drawn. Conditions: a row of bytes that came in. -/
import Derived.Test.YtpkecmcgpiimkaaDi
import Derived.Deep.RegionWith
namespace Go.Proofs.Ytpkecmcgpiimkaa
open Go.RowKit
set_option linter.unusedVariables false

def TwoRows (w : World) (R : Nat) (e : Ending) (w' : World) : Prop := ∃ (a b : Value) (xs ys : List Int), e = .returned (.tuple #[a, b]) ∧ IOwn w' w.heap.size a xs ∧ IOwn w' w.heap.size b ys ∧ xs.length ≤ 8 ∧ ys.length ≤ 8 ∧ w.grownBy w' (some R)

theorem far_grown {w w' : World} {R : Nat} {v : Value} {xs : List Int} {base : Nat} (h : w.grownBy w' (some R)) (o : IOwn w base v xs) (hb : R < base) : IOwn w' base v xs := by
  refine o.keep (SameAt.of_grown h ?_)
  rcases hv : v.ownBlock with _ | g
  · exact .inl rfl
  · refine .inr fun e => ?_
    have := (o.ge g hv).1
    injection e with e
    omega

theorem GamRel.drew1 {w wr : World} {R P : Nat} {p : Value} {xs : List Int} (h : GamRel w R P p xs wr) : GamRel w R P p xs wr.drew :=
  ⟨h.1, h.2.1, ⟨h.2.2.1.os, h.2.2.1.tape, h.2.2.1.output, h.2.2.1.size, h.2.2.1.block⟩, h.2.2.2⟩

theorem own_drew {w : World} {base : Nat} {v : Value} {xs : List Int} (h : IOwn w base v xs) : IOwn w.drew base v xs := h

theorem ird_cell {w : World} {b off n c : Nat} {xs : List Int} {k : Nat} {x : Int} (h : IRd w (.slice (some ⟨b, off, none⟩) n c) xs) (hx : xs[k]? = some x) : w.cell? ⟨b, off + k, none⟩ = some (.int .i64 x) := by
  have hk : k < xs.length := by
    rcases Nat.lt_or_ge k xs.length with h1 | h1
    · exact h1
    · rw [List.getElem?_eq_none h1] at hx; cases hx
  obtain ⟨A, c, e, hl, hm, hc⟩ := h
  injection e with e1 e2 e3
  obtain ⟨b', off', hA, -, hcell⟩ := hc (by omega)
  rw [← e1] at hA
  injection hA with hA
  injection hA with hb ho
  subst hb
  subst ho
  exact hcell k x hx

theorem GamRel.stored_far {w wr : World} {R P g n cap base : Nat} {xs ys : List Int} {u : Value} {k : Nat} {x : Int} (h : GamRel w R P (.slice (some ⟨g, 0, none⟩) n cap) xs wr) (hn : xs.length = n) (o : IOwn wr base u ys) (hu : ∀ b, u.ownBlock = some b → b < w.heap.size) :
    IOwn (wr.setCell ⟨g, k, none⟩ (.int .i64 x)) base u ys := by
  subst hn
  have ho := h.2.1
  have hge := ho.ge g rfl
  unfold IOwn at ho
  obtain ⟨h3, h4⟩ := ho.stored k (.int .i64 x)
  refine o.keep (SameAt.of_grown h4 ?_)
  rcases hv : u.ownBlock with _ | b
  · exact .inl rfl
  · refine .inr fun e => ?_
    have := hu b hv
    have e' : some b = some g := e
    injection e' with e'
    omega

set_option maxHeartbeats 4000000 in
theorem l20Gambles_any (w : World) (R P : Nat) (hP : P ≤ 10000) (h : Rd w R P) :
    Calls Try.prog 52 #[.pointer (some ⟨R, 0, none⟩)] w (TwoRows w R) := by
  have hRw := h.lt
  go_enter Try.func52, Try.ntmps52
  go_wp2_with fail
  refine (pick_any _ R P _ (by omega) h).mono ?_
  rintro e w2 ⟨v1, rfl, ⟨p1, p2, -⟩, k1⟩
  have p2 := p2 (by decide)
  have z2 := k1.size
  go_wp2_with fail
  refine (l20Gamble_any _ R (P + 1) _ _ (by omega) k1.rd (by omega) (by omega) (by decide) (by decide)).mono ?_
  rintro e w3 ⟨va, xs, rfl, h3, hl, ha⟩
  have z3 := h3.2.2.1.size
  go_wp2_with fail
  refine (l20Gamble_any _ R (P + 13) _ _ (by omega) h3.1 (by omega) (by omega) (by decide) (by decide)).mono ?_
  rintro e w4 ⟨vb, ys, rfl, h4, hl2, -⟩
  have G3 := Lib.hid (grow_trans k1.grown h3.2.2.1)
  have OA4 := Lib.hid (far_grown h4.2.2.1 h3.2.1 (by omega))
  have HA := Lib.hid ha
  have H4 := Lib.hid h4
  have hab : Hid (∀ b, va.ownBlock = some b → b < w3.heap.size) := Lib.hid (fun b hb => (h3.2.1.ge b hb).2)
  clear h3 h4 k1 h ha
  go_wp2_with fail
  refine (pick_any _ R (P + 25) _ (by omega) H4.out.1).mono ?_
  rintro e w5 ⟨v2, rfl, ⟨p3, p4, -⟩, k2⟩
  have p4 := p4 (by decide)
  have H5 := Lib.hid (H4.out.picked k2)
  have OA5 := Lib.hid (k2.far OA4.out (by omega))
  clear k2 H4 OA4
  obtain ⟨A, c, rfl, hlc, hm, -⟩ := id OA5.out.rd
  have HE : Hid (∀ (wr : World) (Q : Nat) (v : Value) (zs : List Int), GamRel w3 R Q v zs wr → zs.length ≤ 8 → IOwn wr w2.heap.size (.slice A xs.length c) xs → TwoRows w R (.returned (.tuple #[.slice A xs.length c, v])) wr) :=
    Lib.hid (fun wr Q v zs hg hz ho => ⟨_, _, xs, zs, rfl, ho.base (by omega), hg.2.1.base (by omega), hl, hz, grow_trans G3.out hg.2.2.1⟩)
  have hR2 : R < w2.heap.size := by omega
  clear hRw z2 z3
  obtain rfl | hv2 : v2 = 0 ∨ v2 ≠ 0 := by omega
  · clear p3 p4
    by_cases hxy : xs.length = ys.length
    · have hxy' : ((xs.length : Int) == (ys.length : Int)) = true := by simp; omega
      have HXY := Lib.hid hxy
      rcases Nat.eq_zero_or_pos ys.length with h0 | h0
      · obtain ⟨A', c', rfl, hlc', hm', -⟩ := id H5.out.2.1.rd
        have hle : (ys.length : Int) ≤ 0 := by omega
        clear hxy h0
        go_wp2_with fail
        refine wp_loop_rounds 1 ?_
        rw [rounds_succ]
        go_wp2_with fail
        go_ret2
        exact HE.out _ _ _ _ H5.out hl2 OA5.out
      · obtain ⟨g, cap, rfl, hc1, hc2⟩ := H5.out.form h0
        clear hxy h0
        go_wp2_with fail
        clear hxy'
        go_loopw [7] (fun i wr => ∃ (k Q : Nat) (zs : List Int), i = .int .i64 k ∧ k ≤ ys.length ∧ zs.length = ys.length ∧ Q ≤ P + 26 + k ∧ Hid (GamRel w3 R Q (.slice (some ⟨g, 0, none⟩) ys.length cap) zs wr) ∧ Hid (IOwn wr w2.heap.size (.slice A xs.length c) xs)) (fun i _ => ys.length - (intOf i).toNat)
        case atStart => exact ⟨0, P + 26, ys, rfl, Nat.zero_le _, rfl, by omega, H5, OA5⟩
        case round =>
          obtain ⟨k, Q, zs, rfl, hk, hz, hQ, HG, HO⟩ := hrel
          clear H5 OA5
          by_cases hlt : k < ys.length
          · have hlt2 : k < xs.length := by have := HXY.out; omega
            obtain ⟨b, off, x, rfl, -, hx, hcx⟩ := HO.out.rd.at_ hlt2
            obtain ⟨hx1, hx2⟩ := HA.out.at_ hx
            obtain ⟨y, hy⟩ : ∃ y, zs[k]? = some y := ⟨_, List.getElem?_eq_getElem (by omega)⟩
            have hcy := HG.out.cell hy
            have hfy := HG.out.frozen k
            have hQ2 : Q ≤ 1000000 := by omega
            go_wp2_with fail
            have HX := Lib.hid hx
            have HY := Lib.hid hy
            clear hx hy
            go_region_with (go_at_call 47; refine (pick_any _ R Q _ hQ2 HG.out.drew1.1).mono ?_; rintro e w6 ⟨v3, rfl, ⟨p5, p6, -⟩, k6⟩; have p7 := p6 (by decide); have H6 := Lib.hid (HG.out.drew1.picked k6); have O6 := Lib.hid (k6.far (own_drew HO.out) hR2); have hcx6 := ird_cell O6.out.rd HX.out; have hcy6 := H6.out.cell HY.out; have hfy6 := H6.out.frozen k; clear k6)
            all_goals go_wp2_with fail
            all_goals
              have HS := Lib.hid (H6.out.store (k := k) (x := x - v3) hz)
              have HF := Lib.hid (H6.out.stored_far (k := k) (x := x - v3) hz O6.out hab.out)
              clear hcx6 hcy6 hfy6 H6 O6
              go_roundw
              case rel => exact ⟨k + 1, Q + 1, zs.set k (x - v3), by go_num, by omega, by rw [List.length_set]; exact hz, by omega, HS, HF⟩
              case measure => simp [intOf]; omega
          · go_wp2_with fail
            go_ret2
            exact HE.out _ _ _ _ HG.out (by omega) HO.out
    · have hxy' : ((xs.length : Int) == (ys.length : Int)) = false := by simp; omega
      obtain ⟨A', c', rfl, hlc', hm', -⟩ := id H5.out.2.1.rd
      clear hxy
      go_wp2_with fail
      go_ret2
      exact HE.out _ _ _ _ H5.out hl2 OA5.out
  · have hv2' : (v2 == 0) = false := by simpa using hv2
    clear hv2
    go_wp2_with fail
    go_ret2
    exact HE.out _ _ _ _ H5.out hl2 OA5.out

/-- two fresh rows -/
def DrawTwo (w : World) (e : Ending) (w' : World) : Prop := ∃ (a b : Value) (xs ys : List Int), e = .returned (.tuple #[a, b]) ∧ IOwn w' w.heap.size a xs ∧ IOwn w' w.heap.size b ys ∧ xs.length ≤ 8 ∧ ys.length ≤ 8 ∧ Below w.heap.size w w'

set_option maxHeartbeats 1000000 in
theorem drawSumGamble_any (w : World) (a : Option Addr) (len cap : Nat) (zs : List Int) (h : IsRowC .u8 w a len cap zs) :
    Calls Try.prog 21 #[.slice a len cap] w (DrawTwo w) := by
  go_enter Try.func21, Try.ntmps21
  go_wp2_with fail
  refine (open_any w a len cap zs h).mono ?_
  rintro e w1 ⟨rfl, ho⟩
  go_wp2_with fail
  refine (l20Gambles_any _ w.heap.size 0 (by decide) ho.rd).mono ?_
  rintro e w2 ⟨v, u, xs, ys, rfl, o1, o2, l1, l2, g⟩
  have B := Lib.hid (ho.below.grown g ho.below.size (fun g hg => by injection hg with hg; omega))
  have O1 := Lib.hid (o1.base ho.below.size)
  have O2 := Lib.hid (o2.base ho.below.size)
  clear o1 o2 g ho
  go_wp2_with fail
  go_ret2
  exact ⟨_, _, _, _, rfl, O1.out, O2.out, l1, l2, B.out⟩

set_option maxHeartbeats 1000000 in
theorem drawBetterOk_any (w : World) (a : Option Addr) (len cap : Nat) (zs : List Int) (h : IsRowC .u8 w a len cap zs) :
    Calls Try.prog 35 #[.slice a len cap] w (DrawTwo w) := by
  go_enter Try.func35, Try.ntmps35
  go_wp2_with fail
  refine (open_any w a len cap zs h).mono ?_
  rintro e w1 ⟨rfl, ho⟩
  go_wp2_with fail
  refine (l20Gambles_any _ w.heap.size 0 (by decide) ho.rd).mono ?_
  rintro e w2 ⟨v, u, xs, ys, rfl, o1, o2, l1, l2, g⟩
  have B := Lib.hid (ho.below.grown g ho.below.size (fun g hg => by injection hg with hg; omega))
  have O1 := Lib.hid (o1.base ho.below.size)
  have O2 := Lib.hid (o2.base ho.below.size)
  clear o1 o2 g ho
  go_wp2_with fail
  go_ret2
  exact ⟨_, _, _, _, rfl, O1.out, O2.out, l1, l2, B.out⟩

end Go.Proofs.Ytpkecmcgpiimkaa
