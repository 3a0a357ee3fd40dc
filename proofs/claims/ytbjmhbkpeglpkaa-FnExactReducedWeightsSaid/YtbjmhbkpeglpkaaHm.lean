/- Rows of rows are marked: markIntSS. Conditions: the call owns them. -/
import Derived.Test.YtbjmhbkpeglpkaaFd
namespace Go.Proofs.Ytbjmhbkpeglpkaa
open Go.RowKit
set_option linter.unusedVariables false

/-- from base to top something may be written; nothing else is, and nothing is made -/
def Fenced (base top : Nat) (w w' : World) : Prop := Below base w w' ∧ w'.heap.size = w.heap.size ∧ ∀ i, top ≤ i → w'.heap[i]? = w.heap[i]?

/-- the rows are owned, and every block of them lies below top -/
def SUp (top : Nat) (w : World) (base : Nat) (v : Value) (zss : List (List Int)) : Prop := ∃ us : List Value, us.length = zss.length ∧ GOwn 23 1 sV w base v us ∧
  (∀ (k : Nat) (u : Value) (zs : List Int), us[k]? = some u → zss[k]? = some zs → IOwn w base u zs ∧ (∀ g, u.ownBlock = some g → v.ownBlock ≠ some g) ∧ ∀ g, u.ownBlock = some g → g < top) ∧
  ∀ (i j : Nat) (u x : Value), i < j → us[i]? = some u → us[j]? = some x → u.ownBlock = none ∨ u.ownBlock ≠ x.ownBlock

theorem SUp.rd {top : Nat} {w : World} {base : Nat} {v : Value} {zss : List (List Int)} (h : SUp top w base v zss) : SRd w v zss := by
  obtain ⟨us, hl, hg, hr, -⟩ := h
  exact ⟨us, hl, hg.rd sV_len, fun k u zs h1 h2 => (hr k u zs h1 h2).1.rd⟩

theorem SUp.keep {top : Nat} {w w' : World} {base : Nat} {v : Value} {zss : List (List Int)} (h : SUp top w base v zss) (hb : Below w.heap.size w w') : SUp top w' base v zss := by
  obtain ⟨us, hl, hg, hr, hp⟩ := h
  exact ⟨us, hl, hg.keep (SameAt.of_below hb), fun k u zs h1 h2 => ⟨(hr k u zs h1 h2).1.keep (SameAt.of_below hb), (hr k u zs h1 h2).2⟩, hp⟩

theorem SUp.ge {top : Nat} {w : World} {base : Nat} {v : Value} {zss : List (List Int)} (h : SUp top w base v zss) : ∀ g, v.ownBlock = some g → base ≤ g ∧ g < w.heap.size := by
  obtain ⟨us, -, hg, -⟩ := h
  exact hg.ge

theorem SUp.grown {top : Nat} {w w' : World} {base : Nat} {v : Value} {zss : List (List Int)} {r : Option Nat} (h : SUp top w base v zss) (hg : w.grownBy w' r) (hr : ∀ g, r = some g → g < base) : SUp top w' base v zss := by
  obtain ⟨us, hl, h1, h2, hp⟩ := h
  have h1g := h1.ge
  refine ⟨us, hl, h1.keep (SameAt.of_grown hg ?_), fun k u zs hu hz => ?_, hp⟩
  · rcases hv : v.ownBlock with _ | g
    · exact .inl rfl
    · refine .inr fun e => ?_
      have := hr g e.symm
      have := h1g g hv
      omega
  · obtain ⟨o, o2⟩ := h2 k u zs hu hz
    have oge := o.ge
    refine ⟨o.keep (SameAt.of_grown hg ?_), o2⟩
    rcases hv : u.ownBlock with _ | g
    · exact .inl rfl
    · refine .inr fun e => ?_
      have := hr g e.symm
      have := oge g hv
      omega

theorem IOwn.fenced {base top b : Nat} {w w' : World} {v : Value} {xs : List Int} (h : IOwn w b v xs) (k : Fenced base top w w') (hb : top ≤ b ∨ ∀ g, v.ownBlock = some g → g < base) : IOwn w' b v xs := by
  refine h.keep ⟨by rw [k.2.1]; exact Nat.le_refl _, fun g hg hlt => ?_⟩
  rcases hb with hb | hb
  · exact k.2.2 g (Nat.le_trans hb (h.ge g hg).1)
  · exact k.1.block g (hb g hg)

def MRelS (w : World) (base top : Nat) (v : Value) (us : List Value) (zss : List (List Int)) (k : Nat) (wr : World) : Prop :=
  GOwn 23 1 sV wr base v us ∧ (∀ (j : Nat) (u : Value) (zs : List Int), k ≤ j → us[j]? = some u → zss[j]? = some zs → IOwn wr base u zs) ∧ Fenced base top w wr

/-- how a row of rows may be marked: its blocks lie from base to top -/
def SIn (w : World) (base top : Nat) (v : Value) (us : List Value) (zss : List (List Int)) : Prop := us.length = zss.length ∧
  (∀ (k : Nat) (u : Value), us[k]? = some u → ∀ g, u.ownBlock = some g → g < top ∧ v.ownBlock ≠ some g) ∧
  ∀ (i j : Nat) (u x : Value), i < j → us[i]? = some u → us[j]? = some x → u.ownBlock = none ∨ u.ownBlock ≠ x.ownBlock

theorem MRelS.step {w wr w' : World} {base top : Nat} {v u : Value} {us : List Value} {zss : List (List Int)} {zs : List Int} {k : Nat} (hbw : base ≤ w.heap.size) (hin : SIn w base top v us zss) (h : MRelS w base top v us zss k wr) (hu : us[k]? = some u) (hz : zss[k]? = some zs)
    (hg : wr.grownBy w' u.ownBlock) (hsz : w'.heap.size = wr.heap.size) : MRelS w base top v us zss (k + 1) w' := by
  obtain ⟨h1, h2, h3, h4, h5⟩ := h
  obtain ⟨i1, i2, i3⟩ := hin
  have ho := h2 k u zs (Nat.le_refl _) hu hz
  have hge := ho.ge
  refine ⟨h1.keep (SameAt.of_grown hg ?_), fun j x ys hj hx hy => (h2 j x ys (by omega) hx hy).keep (SameAt.of_grown hg ?_), h3.grown hg (by omega) (fun g hg' => (hge g hg').1), by omega, fun i hi => ?_⟩
  · rcases hv : v.ownBlock with _ | g
    · exact .inl rfl
    · refine .inr fun e => ?_
      exact (i2 k u hu g e.symm).2 hv
  · rcases hxo : x.ownBlock with _ | g
    · exact .inl rfl
    · refine .inr fun e => ?_
      rcases i3 k j u x (by omega) hu hx with h | h
      · rw [h] at e; cases e
      · exact h (e.symm.trans hxo.symm)
  · rw [← h5 i hi]
    rcases Nat.lt_or_ge i wr.heap.size with hlt | hlt
    · refine hg.block i hlt (fun e => ?_)
      have := (i2 k u hu i e.symm).1
      omega
    · rw [Array.getElem?_eq_none hlt, Array.getElem?_eq_none (by omega)]

/-- what is handed back, and what is written -/
def MarkSS (base top : Nat) (q : Int) (zss : List (List Int)) (w : World) (e : Ending) (w' : World) : Prop := e = .returned (.int .i64 (q + (lenS zss : Int))) ∧ Fenced base top w w'

theorem Fenced.refl (base top : Nat) (w : World) (h : base ≤ w.heap.size) : Fenced base top w w := ⟨Below.mono (Below.refl _ _) h, rfl, fun _ _ => rfl⟩

set_option maxHeartbeats 2000000 in
theorem markIntSS_any (w : World) (base top : Nat) (q : Int) (v : Value) (zss : List (List Int)) (hv : SUp top w base v zss) (hbw : base ≤ w.heap.size) (hn : zss.length + lenS zss ≤ 1048576) (hq0 : 0 ≤ q) (hq : q ≤ 10000000) :
    Calls Try.prog 50 #[v, .int .i64 q] w (MarkSS base top q zss w) := by
  obtain ⟨us, hl, hg, hr, hp⟩ := hv
  have HIN : Hid (SIn w base top v us zss) := Lib.hid ⟨hl, fun k u hu g hg' => by
    have hk : k < zss.length := by have := (List.getElem?_eq_some_iff.1 hu).1; omega
    obtain ⟨-, f, r⟩ := hr k u _ hu (List.getElem?_eq_getElem hk)
    exact ⟨r g hg', f g hg'⟩, hp⟩
  have H0 : Hid (MRelS w base top v us zss 0 w) := Lib.hid ⟨hg, fun j u zs _ hu hz => (hr j u zs hu hz).1, Fenced.refl _ _ _ hbw⟩
  obtain ⟨A, c, e, h1, h2⟩ := (hg.rd sV_len).form
  subst e
  have HUL := Lib.hid hl
  have hll : (us.length : Int) ≤ 1048576 := by omega
  rw [hl] at h1 ⊢
  have HVS : Hid (∀ wr k, MRelS w base top (.slice A zss.length c) us zss k wr → GRd 1 sV wr (.slice A zss.length c) us) := Lib.hid (fun wr k h => h.1.rd sV_len)
  rw [hl] at HIN H0
  clear hg hr hp hl
  go_enter Try.func50, Try.ntmps50
  go_wp2_with fail
  go_loopw [1, 5] (fun s i wr => ∃ (k : Nat) (n : Int), i = .int .i64 (k : Int) ∧ s = .int .i64 n ∧ k ≤ zss.length ∧ Hid (n = q + (lenS (zss.take k) : Int)) ∧ 0 ≤ n ∧ n ≤ 100000000 ∧ Hid (MRelS w base top (.slice A zss.length c) us zss k wr)) (fun _ i _ => zss.length - (intOf i).toNat)
  case atStart => exact ⟨0, q, rfl, rfl, Nat.zero_le _, Lib.hid (by simp [lenS]), hq0, by omega, H0⟩
  case round =>
    obtain ⟨k, n, rfl, rfl, hk, HN, n0, n1, HM⟩ := hrel
    clear H0
    by_cases hlt : k < zss.length
    · have hlt' : (k : Int) < (zss.length : Int) := by omega
      obtain ⟨b, off, u, rfl, -, hu, hc⟩ := (HVS.out wr k HM.out).at_ hlt
      have hc0 := hc 0 u rfl
      rw [Nat.mul_one, Nat.add_zero] at hc0
      obtain ⟨zs, hz⟩ : ∃ zs, zss[k]? = some zs := ⟨_, List.getElem?_eq_getElem hlt⟩
      have ho := HM.out.2.1 k u zs (Nat.le_refl _) hu hz
      obtain ⟨A2, c2, rfl, -, -, -⟩ := id ho.rd
      have HO := Lib.hid ho
      have HU := Lib.hid hu
      have HZ := Lib.hid hz
      have hzl : zs.length + lenS (zss.take k) ≤ 1048576 := by
        have h1 := lenS_take hz
        have h2 : lenS (zss.take (k + 1)) ≤ lenS zss := by
          conv => rhs; rw [← List.take_append_drop (k + 1) zss]
          rw [lenS, lenS, List.map_append, List.sum_append]
          omega
        omega
      have hn2 : n + (zs.length : Int) ≤ 100000000 ∧ 0 ≤ n + (zs.length : Int) := by have := HN.out; omega
      have HN2 : Hid (n + (zs.length : Int) = q + (lenS (zss.take (k + 1)) : Int)) := Lib.hid (by have := HN.out; rw [lenS_take HZ.out]; push_cast; omega)
      have hzs : zs.length ≤ 1048576 := by omega
      clear ho hu hz hc
      go_wp2_with fail
      refine (markIntS_any wr base n _ zs HO.out hzs n0 (by omega)).mono ?_
      rintro r w2 ⟨rfl, -, g2, s2⟩
      have HM2 := Lib.hid (HM.out.step hbw HIN.out HU.out HZ.out g2 s2)
      clear g2 s2 hc0
      go_wp2_with fail
      go_roundw
      case rel => exact ⟨k + 1, n + (zs.length : Int), by go_num, by first | rfl | go_num, by omega, HN2, hn2.2, hn2.1, HM2⟩
      case measure => simp [intOf]; omega
    · obtain rfl : k = zss.length := by omega
      go_wp2_with fail
      go_ret
      exact ⟨by have := HN.out; rw [List.take_length] at this; rw [← this]; rfl, HM.out.2.2⟩

end Go.Proofs.Ytbjmhbkpeglpkaa
