/- The walk of the law of BookOk. Conditions: rows of bytes that came in. -/
import Derived.Test.YtdgaakdlnihejaaQl
import Derived.Test.YtdgaakdlnihejaaDw
namespace Go.Proofs.Ytdgaakdlnihejaa
open Go.RowKit
set_option linter.unusedVariables false

theorem GRd.take {α : Type} {c : Nat} {enc : α → List Value} {w : World} {A : Option Addr} {n cp : Nat} {xs : List α} (h : GRd c enc w (.slice A n cp) xs) {k : Nat} (hk : k ≤ n) : GRd c enc w (.slice A k cp) (xs.take k) := by
  obtain ⟨A', cp', e, hl, hm, hc⟩ := h
  injection e with e1 e2 e3
  subst e1
  subst e2
  subst e3
  have hlen : (xs.take k).length = k := by simp; omega
  refine ⟨A, cp, by rw [hlen], by omega, hm, fun h0 => ?_⟩
  obtain ⟨b, off, hA, hb, hcell⟩ := hc (by omega)
  refine ⟨b, off, hA, hb, fun i x hx j u hu => hcell i x ?_ j u hu⟩
  rw [List.getElem?_take] at hx
  split at hx
  · exact hx
  · cases hx

theorem IRd.take {w : World} {A : Option Addr} {n cp : Nat} {xs : List Int} (h : IRd w (.slice A n cp) xs) {k : Nat} (hk : k ≤ n) : IRd w (.slice A k cp) (xs.take k) := by
  obtain ⟨A', cp', e, hl, hm, hc⟩ := h
  injection e with e1 e2 e3
  subst e1
  subst e2
  subst e3
  have hlen : (xs.take k).length = k := by simp; omega
  refine ⟨A, cp, by rw [hlen], by omega, hm, fun h0 => ?_⟩
  obtain ⟨b, off, hA, hb, hcell⟩ := hc (by omega)
  refine ⟨b, off, hA, hb, fun i x hx => hcell i x ?_⟩
  rw [List.getElem?_take] at hx
  split at hx
  · exact hx
  · cases hx

theorem bok_take {n : Int} {qs : List Qt} (h : bokB n qs = true) (k : Nat) : bokB n (qs.take k) = true := by
  rw [bokB_iff] at h ⊢
  exact ⟨h.1, by simp; omega, fun q hq => h.2.2 q (List.mem_of_mem_take hq)⟩

theorem litq_rd (w : World) : QRd (w.alloc (.cells #[] 24)) (.slice (some ⟨w.heap.size, 0, none⟩) 0 0) [] :=
  GOwn.rd (e := 24) (base := 0) qC_len (World.ownsRow_lit w #[] 0 (Nat.zero_le _) (by unfold maxLen; omega) rfl)

set_option maxHeartbeats 8000000 in
theorem FnBookOk_walk (a0 : Option Addr) (len0 cap0 : Nat) (z0 : List Int) (w : World) (w0 : IsRowC .u8 w a0 len0 cap0 z0) :
    Calls Try.prog 4 #[.slice a0 len0 cap0] w fun e w' => e = .returned (.bool true) ∧ Below w.heap.size w w' := by
  by_cases hlen : 1048576 < len0
  · clear w0
    go_enter Try.func4, Try.ntmps4
    go_wp2
    go_ret
    exact ⟨rfl, Below.refl _ _⟩
  · have hlen' : decide (1048576 < len0) = false := by simpa using hlen
    go_enter Try.func4, Try.ntmps4
    go_wp2_with fail
    refine (drawBookOk_any _ _ _ _ _ w0).mono ?_
    rintro e w1 ⟨n, vb, qs, rfl, ovb1, hl4, B1⟩
    clear hlen hlen' w0
    have z1 := B1.size
    obtain ⟨A, c, rfl, hlc, hm⟩ := (ovb1.rd qC_len).form
    obtain ⟨t, ht⟩ : ∃ t, bokB n qs = t := ⟨_, rfl⟩
    go_wp2_with fail
    refine (implBookOk_any w1 n _ qs (ovb1.rd qC_len)).mono ?_
    rintro e w2 ⟨rfl, b2⟩
    rw [ht]
    have z2 := b2.size
    have B2 := below_step B1 b2 (by omega)
    have ovb2 := ovb1.keep (SameAt.of_below b2)
    clear B1 b2 ovb1
    go_wp2_with fail
    refine (specBookOk_any w2 n _ qs (ovb2.rd qC_len)).mono ?_
    rintro e w3 ⟨rfl, b3⟩
    rw [ht]
    have z3 := b3.size
    have B3 := below_step B2 b3 (by omega)
    have ovb3 := ovb2.keep (SameAt.of_below b3)
    clear B2 b3 ovb2
    cases t
    · skip
      go_wp2_with fail
      refine (implBookOk_any _ 1 _ [] (litq_rd w3)).mono ?_
      rintro e w4 ⟨rfl, b4⟩
      rw [show bokB 1 [] = true from by decide]
      have c4 : Below w3.heap.size w3 w4 := below_step ((Below.refl _ _).alloc (Nat.le_refl _) _) b4 (by simp)
      have z4 := c4.size
      have B4 := below_step B3 c4 (by omega)
      have ovb4 := ovb3.keep (SameAt.of_below c4)
      clear B3 b4 c4 ovb3
      go_wp2_with fail
      refine (implBookOk_any _ 0 _ [] (litq_rd w4)).mono ?_
      rintro e w5 ⟨rfl, b5⟩
      rw [show bokB 0 [] = false from by decide]
      have c5 : Below w4.heap.size w4 w5 := below_step ((Below.refl _ _).alloc (Nat.le_refl _) _) b5 (by simp)
      have z5 := c5.size
      have B5 := below_step B4 c5 (by omega)
      have ovb5 := ovb4.keep (SameAt.of_below c5)
      clear B4 b5 c5 ovb4
      go_wp2_with fail
      refine (alive_any _).mono ?_
      rintro e w' ⟨rfl, rfl⟩
      go_wp2_with fail
      go_ret
      exact ⟨ret_bool (by simp), B5⟩
    · by_cases hz : qs.length = 0
      · have hz0 : ((qs.length : Int)) = 0 := by omega
        go_wp2_with fail
        refine (implBookOk_any _ 1 _ [] (litq_rd w3)).mono ?_
        rintro e w4 ⟨rfl, b4⟩
        rw [show bokB 1 [] = true from by decide]
        have c4 : Below w3.heap.size w3 w4 := below_step ((Below.refl _ _).alloc (Nat.le_refl _) _) b4 (by simp)
        have z4 := c4.size
        have B4 := below_step B3 c4 (by omega)
        have ovb4 := ovb3.keep (SameAt.of_below c4)
        clear B3 b4 c4 ovb3
        go_wp2_with fail
        refine (implBookOk_any _ 0 _ [] (litq_rd w4)).mono ?_
        rintro e w5 ⟨rfl, b5⟩
        rw [show bokB 0 [] = false from by decide]
        have c5 : Below w4.heap.size w4 w5 := below_step ((Below.refl _ _).alloc (Nat.le_refl _) _) b5 (by simp)
        have z5 := c5.size
        have B5 := below_step B4 c5 (by omega)
        have ovb5 := ovb4.keep (SameAt.of_below c5)
        clear B4 b5 c5 ovb4
        go_wp2_with fail
        refine (alive_any _).mono ?_
        rintro e w' ⟨rfl, rfl⟩
        go_wp2_with fail
        go_ret
        exact ⟨ret_bool (by simp), B5⟩
      · have hz1 : (1 : Int) ≤ (qs.length : Int) := by omega
        have hz4 : (qs.length : Int) ≤ 4 := by omega
        go_wp2_with fail
        refine (implBookOk_any _ 1 _ [] (litq_rd w3)).mono ?_
        rintro e w4 ⟨rfl, b4⟩
        rw [show bokB 1 [] = true from by decide]
        have c4 : Below w3.heap.size w3 w4 := below_step ((Below.refl _ _).alloc (Nat.le_refl _) _) b4 (by simp)
        have z4 := c4.size
        have B4 := below_step B3 c4 (by omega)
        have ovb4 := ovb3.keep (SameAt.of_below c4)
        clear B3 b4 c4 ovb3
        go_wp2_with fail
        refine (implBookOk_any _ 0 _ [] (litq_rd w4)).mono ?_
        rintro e w5 ⟨rfl, b5⟩
        rw [show bokB 0 [] = false from by decide]
        have c5 : Below w4.heap.size w4 w5 := below_step ((Below.refl _ _).alloc (Nat.le_refl _) _) b5 (by simp)
        have z5 := c5.size
        have B5 := below_step B4 c5 (by omega)
        have ovb5 := ovb4.keep (SameAt.of_below c5)
        clear B4 b5 c5 ovb4
        obtain ⟨k, hk⟩ : ∃ k, qs.length = k + 1 := ⟨qs.length - 1, by omega⟩
        have ht2 : bokB n (qs.take k) = true := bok_take ht k
        have HT2 := Lib.hid ht2
        have hk1 : (qs.length : Int) - 1 = (k : Int) := by omega
        have hk2 : (k : Int) ≤ (c : Int) := by omega
        clear ht ht2
        go_wp2_with fail
        refine (implBookOk_any w5 n _ (qs.take k) (GRd.take (ovb5.rd qC_len) (by omega))).mono ?_
        rintro e w6 ⟨rfl, b6⟩
        rw [HT2.out]
        have z6 := b6.size
        have B6 := below_step B5 b6 (by omega)
        have ovb6 := ovb5.keep (SameAt.of_below b6)
        clear B5 b6 ovb5
        go_wp2_with fail
        refine (alive_any _).mono ?_
        rintro e w' ⟨rfl, rfl⟩
        go_wp2_with fail
        go_ret
        exact ⟨ret_bool (by simp), B6⟩

end Go.Proofs.Ytdgaakdlnihejaa
