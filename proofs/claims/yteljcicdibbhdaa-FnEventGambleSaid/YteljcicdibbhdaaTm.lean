/- The walk of the law of the gambles of events. Conditions: rows of bytes that came in. -/
import Derived.Test.YteljcicdibbhdaaTg
import Derived.Test.YteljcicdibbhdaaTh
import Derived.Maps.AppendAt
namespace Go.Proofs.Yteljcicdibbhdaa
open Go.RowKit
set_option linter.unusedVariables false

def evG (n : Int) (y : Int) : List Int := (List.range n.toNat).map (bitI y)

def evO (n : Int) (y : Int) : List Int := (List.range n.toNat).map fun j => -bitI y j

theorem evg_gok {n y : Int} (h1 : 1 ≤ n) (h4 : n ≤ 4) : gokB (evG n y) = true ∧ gokB (evO n y) = true ∧ ((evG n y).length : Int) = n ∧ ((evO n y).length : Int) = n := by
  have hl : (evG n y).length = n.toNat := by simp [evG]
  have hl2 : (evO n y).length = n.toNat := by simp [evO]
  refine ⟨(gokB_iff _).2 ⟨by omega, by omega, fun x hx => ?_⟩, (gokB_iff _).2 ⟨by omega, by omega, fun x hx => ?_⟩, by omega, by omega⟩
  · obtain ⟨j, -, rfl⟩ := List.mem_map.1 hx
    rcases bitI_01 y j with h | h <;> rw [h] <;> omega
  · obtain ⟨j, -, rfl⟩ := List.mem_map.1 hx
    rcases bitI_01 y j with h | h <;> rw [h] <;> omega

theorem evg_facts {n : Int} {qs : List Qt} {y : Int} (hb : bokB n qs = true) (he : evB n y = true) :
    (lbP n qs (evG n y)).2 = fairB n qs ∧ (lbP n qs (evO n y)).2 = fairB n qs ∧ (fairB n qs = true → (lbP n qs (evG n y)).1 = leastB n qs y ∧ (lbP n qs (evO n y)).1 = -mostB n qs y) := by
  have h3 := ((bokB_iff _ _).1 hb).1
  have w1 : 1 ≤ n := h3.1
  have w4 : n ≤ 4 := h3.2
  obtain ⟨g1, g2, g3, g4⟩ := evg_gok (y := y) w1 w4
  refine ⟨lb_told g1 g3, lb_told g2 g4, fun hf => ?_⟩
  obtain ⟨m, rfl, m1, m4, -, ha⟩ := fair_split hf
  rw [lb_yes ((lbV_iff _ _ _).2 ⟨hb, g1, g3⟩), lb_yes ((lbV_iff _ _ _).2 ⟨hb, g2, g4⟩), leastB_yes hb he, mostB_yes hb he]
  exact event_gamble m1 ha y

/-- two rows of the call's own, side by side -/
def Two (w : World) (a b : List Int) (v u : Value) (wr : World) : Prop :=
  IOwn wr w.heap.size v a ∧ IOwn wr w.heap.size u b ∧ (∀ g, v.ownBlock = some g → u.ownBlock ≠ some g) ∧ Below w.heap.size w wr

theorem Two.swap {w wr : World} {a b : List Int} {v u : Value} (h : Two w a b v u wr) : Two w b a u v wr :=
  ⟨h.2.1, h.1, fun g hu hv => h.2.2.1 g hv hu, h.2.2.2⟩

theorem Two.start (w : World) : Two w [] [] (.slice (some ⟨w.heap.size, 0, none⟩) 0 0) (.slice (some ⟨w.heap.size + 1, 0, none⟩) 0 0) ((w.alloc (.cells #[] 3)).alloc (.cells #[] 3)) := by
  have b1 : Below w.heap.size w (w.alloc (.cells #[] 3)) := (Below.refl _ _).alloc (Nat.le_refl _) _
  have h2 := lit_own (w.alloc (.cells #[] 3)) w.heap.size b1.size
  rw [World.size_alloc] at h2
  exact ⟨(lit_own w w.heap.size (Nat.le_refl _)).keep (SameAt.grow rfl), h2, fun g h1 h2 => by
    have e1 : w.heap.size = g := Option.some.inj h1
    have e2 : w.heap.size + 1 = g := Option.some.inj h2
    omega, b1.alloc b1.size _⟩

theorem Two.more {w wr w' : World} {a b : List Int} {x : Int} {v u v' : Value} {o : Obj} (h : Two w a b v u wr) (ho : IOwn w' w.heap.size v' (a ++ [x])) (hg : (wr.alloc o).grownBy w' v.ownBlock) (hw : v'.ownBlock = v.ownBlock ∨ v'.ownBlock = some (wr.heap.size + 1)) : Two w (a ++ [x]) b v' u w' := by
  obtain ⟨h1, h2, h3, h4⟩ := h
  have hgr : wr.grownBy w' v.ownBlock := grown_after ((Below.refl _ wr).alloc (Nat.le_refl _) o) hg
  refine ⟨ho, h2.keep ⟨hgr.size, fun g hu hlt => hgr.block g hlt (fun e => h3 g e.symm hu)⟩, fun g hv' hu => ?_, h4.grown hgr h4.size (fun g hv => (h1.ge g hv).1)⟩
  rcases hw with hw | hw
  · exact h3 g (hw ▸ hv') hu
  · rw [hw] at hv'
    have e1 : wr.heap.size + 1 = g := Option.some.inj hv'
    have := (h2.ge g hu).2
    omega

theorem evG_succ (y : Int) (k : Nat) : (List.range (k + 1)).map (bitI y) = (List.range k).map (bitI y) ++ [bitI y k] := by simp [List.range_succ]

theorem evO_succ (y : Int) (k : Nat) : (List.range (k + 1)).map (fun j => -bitI y j) = (List.range k).map (fun j => -bitI y j) ++ [-bitI y k] := by simp [List.range_succ]

set_option maxRecDepth 100000 in
set_option maxHeartbeats 8000000 in
theorem FnEventGamble_walk (a0 : Option Addr) (len0 cap0 : Nat) (z0 : List Int) (w : World) (w0 : IsRowC .u8 w a0 len0 cap0 z0) :
    Calls Try.prog 8 #[.slice a0 len0 cap0] w fun e w' => e = .returned (.bool true) ∧ Below w.heap.size w w' := by
  by_cases hlen : 1048576 < len0
  · clear w0
    go_enter Try.func8, Try.ntmps8
    go_wp2
    go_ret
    exact ⟨rfl, Below.refl _ _⟩
  · have hlen' : decide (1048576 < len0) = false := by simpa using hlen
    go_enter Try.func8, Try.ntmps8
    go_wp2_with fail
    refine (drawLeastOn_any _ _ _ _ _ w0).mono ?_
    rintro e w1 ⟨n, vb, qs, y, rfl, ovb1, hl4, B1⟩
    clear hlen hlen' w0
    have z1 := B1.size
    have hvb : ∀ g, vb.ownBlock = some g → g < w1.heap.size := fun g hg => (ovb1.ge g hg).2
    rcases Bool.eq_false_or_eq_true (evB n y) with k | k
    · rcases Bool.eq_false_or_eq_true (bokB n qs) with h | h
      · obtain ⟨f1, f2, f3⟩ := evg_facts h k
        have hw : 1 ≤ n ∧ n ≤ 4 := ((bokB_iff _ _).1 h).1
        obtain ⟨hw1, hw2⟩ := hw
        obtain ⟨y1, y2⟩ := evB_15 k
        obtain ⟨i0, hi, hz0, hz1, hz2⟩ := info_parts Try_intinfo
        have HK := Lib.hid k
        have H := Lib.hid h
        have HF1 := Lib.hid f1
        have HF2 := Lib.hid f2
        have HF3 := Lib.hid f3
        clear k h f1 f2 f3
        go_wp2_with fail
        refine (specEventOk_any _ _ _).mono ?_
        rintro e w' ⟨rfl, rfl⟩
        rw [HK.out]
        go_wp2_with fail
        refine (specBookOk_any w1 n vb qs (ovb1.rd qC_len)).mono ?_
        rintro e w2 ⟨rfl, b2⟩
        rw [H.out]
        have z2 := b2.size
        have B2 := below_step B1 b2 (by omega)
        have ovb2 := ovb1.keep (SameAt.of_below b2)
        clear B1 b2 ovb1
        have HVB := Lib.hid ovb2
        have HBJ := Lib.hid B2
        have HZJ : Hid (w.heap.size ≤ w2.heap.size) := Lib.hid B2.size
        clear ovb2 B2
        have H0 := Lib.hid (Two.start w2)
        go_wp2_with fail
        go_loopw [6, 7, 8] (fun v u i wr => ∃ k : Nat, i = .int .i64 (k : Int) ∧ (k : Int) ≤ n ∧ Hid (Two w2 ((List.range k).map (bitI y)) ((List.range k).map fun j => -bitI y j) v u wr)) (fun _ _ i _ => n.toNat - (intOf i).toNat)
        case atStart => exact ⟨0, rfl, by omega, H0⟩
        case round =>
          obtain ⟨k, rfl, hk, HT⟩ := hrel
          clear H0
          by_cases hlt : (k : Int) < n
          · obtain rfl | rfl | rfl | rfl : k = 0 ∨ k = 1 ∨ k = 2 ∨ k = 3 := by omega
            · obtain ⟨x, hx⟩ : ∃ x, bitI y 0 = x := ⟨_, rfl⟩
              have hx' : y % 2 = x := by simpa [bitI] using hx
              have hx01 : 0 ≤ x ∧ x ≤ 1 := by rw [← hx]; rcases bitI_01 y 0 with h | h <;> omega
              obtain ⟨hx0, hx1⟩ := hx01
              have HX := Lib.hid hx
              have hown := Lib.hid (World.ownsRow.alloc (w := wr) (show wr.ownsRow w2.heap.size 3 1 u6 ((List.range 0).map (bitI y)).length (((List.range 0).map (bitI y)).map (Value.int .i64)) from HT.out.1) (.cells #[.int .i64 x] 3))
              have hsz := HT.out.2.2.2.size
              clear hx
              go_wp2_with (at_builtin; refine wpList_append_own_at _ rfl _ _ 41 rfl w2.heap.size 3 i0 (.int .i64 0) 1 8 Try.underlying41 hi hz0 hz1 hz2 rfl (by decide) _ _ _ rfl hown.out ⟨wr.heap.size, 0, none⟩ 1 1 [.int .i64 x] rfl rfl ?aa0 one_int ?ab0 ?ac0 ?ad0 ?_)
              case aa0 => exact one_new wr _ _
              case ab0 => simp; unfold maxLen; omega
              case ac0 => simp
              case ad0 => simp; omega
              intro v2 wa hown' hgrow _ hwhere
              have HT2 := Lib.hid (HT.out.more (x := x) (show IOwn wa w2.heap.size v2 ((List.range 0).map (bitI y) ++ [x]) from hown') hgrow (by rcases hwhere with h | h; exact .inl h; exact .inr (by simpa using h)))
              have hown2 := Lib.hid (World.ownsRow.alloc (w := wa) (show wa.ownsRow w2.heap.size 3 1 u7 ((List.range 0).map fun j => -bitI y j).length (((List.range 0).map fun j => -bitI y j).map (Value.int .i64)) from HT2.out.2.1) (.cells #[.int .i64 (-x)] 3))
              have hsz2 := HT2.out.2.2.2.size
              clear hown hown' hgrow hwhere
              go_wp2_with (at_builtin; refine wpList_append_own_at _ rfl _ _ 41 rfl w2.heap.size 3 i0 (.int .i64 0) 1 8 Try.underlying41 hi hz0 hz1 hz2 rfl (by decide) _ _ _ rfl hown2.out ⟨wa.heap.size, 0, none⟩ 1 1 [.int .i64 (-x)] rfl rfl ?ba0 one_int ?bb0 ?bc0 ?bd0 ?_)
              case ba0 => exact one_new wa _ _
              case bb0 => simp; unfold maxLen; omega
              case bc0 => simp
              case bd0 => simp; omega
              intro u2 wb hown' hgrow _ hwhere
              have HT3 := Lib.hid ((HT2.out.swap.more (x := -x) (show IOwn wb w2.heap.size u2 ((List.range 0).map (fun j => -bitI y j) ++ [-x]) from hown') hgrow (by rcases hwhere with h | h; exact .inl h; exact .inr (by simpa using h))).swap)
              have HT4 : Hid (Two w2 ((List.range (0 + 1)).map (bitI y)) ((List.range (0 + 1)).map fun j => -bitI y j) v2 u2 wb) := Lib.hid (by rw [evG_succ, evO_succ, HX.out]; exact HT3.out)
              clear hown2 hown' hgrow hwhere
              go_wp2_with fail
              go_roundw
              case rel => exact ⟨0 + 1, by first | rfl | go_num, by omega, HT4⟩
              case measure => simp [intOf]; omega
            · obtain ⟨x, hx⟩ : ∃ x, bitI y 1 = x := ⟨_, rfl⟩
              have hx' : y / 2 % 2 = x := by simpa [bitI] using hx
              have hx01 : 0 ≤ x ∧ x ≤ 1 := by rw [← hx]; rcases bitI_01 y 1 with h | h <;> omega
              obtain ⟨hx0, hx1⟩ := hx01
              have HX := Lib.hid hx
              have hown := Lib.hid (World.ownsRow.alloc (w := wr) (show wr.ownsRow w2.heap.size 3 1 u6 ((List.range 1).map (bitI y)).length (((List.range 1).map (bitI y)).map (Value.int .i64)) from HT.out.1) (.cells #[.int .i64 x] 3))
              have hsz := HT.out.2.2.2.size
              clear hx
              go_wp2_with (at_builtin; refine wpList_append_own_at _ rfl _ _ 41 rfl w2.heap.size 3 i0 (.int .i64 0) 1 8 Try.underlying41 hi hz0 hz1 hz2 rfl (by decide) _ _ _ rfl hown.out ⟨wr.heap.size, 0, none⟩ 1 1 [.int .i64 x] rfl rfl ?aa1 one_int ?ab1 ?ac1 ?ad1 ?_)
              case aa1 => exact one_new wr _ _
              case ab1 => simp; unfold maxLen; omega
              case ac1 => simp
              case ad1 => simp; omega
              intro v2 wa hown' hgrow _ hwhere
              have HT2 := Lib.hid (HT.out.more (x := x) (show IOwn wa w2.heap.size v2 ((List.range 1).map (bitI y) ++ [x]) from hown') hgrow (by rcases hwhere with h | h; exact .inl h; exact .inr (by simpa using h)))
              have hown2 := Lib.hid (World.ownsRow.alloc (w := wa) (show wa.ownsRow w2.heap.size 3 1 u7 ((List.range 1).map fun j => -bitI y j).length (((List.range 1).map fun j => -bitI y j).map (Value.int .i64)) from HT2.out.2.1) (.cells #[.int .i64 (-x)] 3))
              have hsz2 := HT2.out.2.2.2.size
              clear hown hown' hgrow hwhere
              go_wp2_with (at_builtin; refine wpList_append_own_at _ rfl _ _ 41 rfl w2.heap.size 3 i0 (.int .i64 0) 1 8 Try.underlying41 hi hz0 hz1 hz2 rfl (by decide) _ _ _ rfl hown2.out ⟨wa.heap.size, 0, none⟩ 1 1 [.int .i64 (-x)] rfl rfl ?ba1 one_int ?bb1 ?bc1 ?bd1 ?_)
              case ba1 => exact one_new wa _ _
              case bb1 => simp; unfold maxLen; omega
              case bc1 => simp
              case bd1 => simp; omega
              intro u2 wb hown' hgrow _ hwhere
              have HT3 := Lib.hid ((HT2.out.swap.more (x := -x) (show IOwn wb w2.heap.size u2 ((List.range 1).map (fun j => -bitI y j) ++ [-x]) from hown') hgrow (by rcases hwhere with h | h; exact .inl h; exact .inr (by simpa using h))).swap)
              have HT4 : Hid (Two w2 ((List.range (1 + 1)).map (bitI y)) ((List.range (1 + 1)).map fun j => -bitI y j) v2 u2 wb) := Lib.hid (by rw [evG_succ, evO_succ, HX.out]; exact HT3.out)
              clear hown2 hown' hgrow hwhere
              go_wp2_with fail
              go_roundw
              case rel => exact ⟨1 + 1, by first | rfl | go_num, by omega, HT4⟩
              case measure => simp [intOf]; omega
            · obtain ⟨x, hx⟩ : ∃ x, bitI y 2 = x := ⟨_, rfl⟩
              have hx' : y / 4 % 2 = x := by simpa [bitI] using hx
              have hx01 : 0 ≤ x ∧ x ≤ 1 := by rw [← hx]; rcases bitI_01 y 2 with h | h <;> omega
              obtain ⟨hx0, hx1⟩ := hx01
              have HX := Lib.hid hx
              have hown := Lib.hid (World.ownsRow.alloc (w := wr) (show wr.ownsRow w2.heap.size 3 1 u6 ((List.range 2).map (bitI y)).length (((List.range 2).map (bitI y)).map (Value.int .i64)) from HT.out.1) (.cells #[.int .i64 x] 3))
              have hsz := HT.out.2.2.2.size
              clear hx
              go_wp2_with (at_builtin; refine wpList_append_own_at _ rfl _ _ 41 rfl w2.heap.size 3 i0 (.int .i64 0) 1 8 Try.underlying41 hi hz0 hz1 hz2 rfl (by decide) _ _ _ rfl hown.out ⟨wr.heap.size, 0, none⟩ 1 1 [.int .i64 x] rfl rfl ?aa2 one_int ?ab2 ?ac2 ?ad2 ?_)
              case aa2 => exact one_new wr _ _
              case ab2 => simp; unfold maxLen; omega
              case ac2 => simp
              case ad2 => simp; omega
              intro v2 wa hown' hgrow _ hwhere
              have HT2 := Lib.hid (HT.out.more (x := x) (show IOwn wa w2.heap.size v2 ((List.range 2).map (bitI y) ++ [x]) from hown') hgrow (by rcases hwhere with h | h; exact .inl h; exact .inr (by simpa using h)))
              have hown2 := Lib.hid (World.ownsRow.alloc (w := wa) (show wa.ownsRow w2.heap.size 3 1 u7 ((List.range 2).map fun j => -bitI y j).length (((List.range 2).map fun j => -bitI y j).map (Value.int .i64)) from HT2.out.2.1) (.cells #[.int .i64 (-x)] 3))
              have hsz2 := HT2.out.2.2.2.size
              clear hown hown' hgrow hwhere
              go_wp2_with (at_builtin; refine wpList_append_own_at _ rfl _ _ 41 rfl w2.heap.size 3 i0 (.int .i64 0) 1 8 Try.underlying41 hi hz0 hz1 hz2 rfl (by decide) _ _ _ rfl hown2.out ⟨wa.heap.size, 0, none⟩ 1 1 [.int .i64 (-x)] rfl rfl ?ba2 one_int ?bb2 ?bc2 ?bd2 ?_)
              case ba2 => exact one_new wa _ _
              case bb2 => simp; unfold maxLen; omega
              case bc2 => simp
              case bd2 => simp; omega
              intro u2 wb hown' hgrow _ hwhere
              have HT3 := Lib.hid ((HT2.out.swap.more (x := -x) (show IOwn wb w2.heap.size u2 ((List.range 2).map (fun j => -bitI y j) ++ [-x]) from hown') hgrow (by rcases hwhere with h | h; exact .inl h; exact .inr (by simpa using h))).swap)
              have HT4 : Hid (Two w2 ((List.range (2 + 1)).map (bitI y)) ((List.range (2 + 1)).map fun j => -bitI y j) v2 u2 wb) := Lib.hid (by rw [evG_succ, evO_succ, HX.out]; exact HT3.out)
              clear hown2 hown' hgrow hwhere
              go_wp2_with fail
              go_roundw
              case rel => exact ⟨2 + 1, by first | rfl | go_num, by omega, HT4⟩
              case measure => simp [intOf]; omega
            · obtain ⟨x, hx⟩ : ∃ x, bitI y 3 = x := ⟨_, rfl⟩
              have hx' : y / 8 % 2 = x := by simpa [bitI] using hx
              have hx01 : 0 ≤ x ∧ x ≤ 1 := by rw [← hx]; rcases bitI_01 y 3 with h | h <;> omega
              obtain ⟨hx0, hx1⟩ := hx01
              have HX := Lib.hid hx
              have hown := Lib.hid (World.ownsRow.alloc (w := wr) (show wr.ownsRow w2.heap.size 3 1 u6 ((List.range 3).map (bitI y)).length (((List.range 3).map (bitI y)).map (Value.int .i64)) from HT.out.1) (.cells #[.int .i64 x] 3))
              have hsz := HT.out.2.2.2.size
              clear hx
              go_wp2_with (at_builtin; refine wpList_append_own_at _ rfl _ _ 41 rfl w2.heap.size 3 i0 (.int .i64 0) 1 8 Try.underlying41 hi hz0 hz1 hz2 rfl (by decide) _ _ _ rfl hown.out ⟨wr.heap.size, 0, none⟩ 1 1 [.int .i64 x] rfl rfl ?aa3 one_int ?ab3 ?ac3 ?ad3 ?_)
              case aa3 => exact one_new wr _ _
              case ab3 => simp; unfold maxLen; omega
              case ac3 => simp
              case ad3 => simp; omega
              intro v2 wa hown' hgrow _ hwhere
              have HT2 := Lib.hid (HT.out.more (x := x) (show IOwn wa w2.heap.size v2 ((List.range 3).map (bitI y) ++ [x]) from hown') hgrow (by rcases hwhere with h | h; exact .inl h; exact .inr (by simpa using h)))
              have hown2 := Lib.hid (World.ownsRow.alloc (w := wa) (show wa.ownsRow w2.heap.size 3 1 u7 ((List.range 3).map fun j => -bitI y j).length (((List.range 3).map fun j => -bitI y j).map (Value.int .i64)) from HT2.out.2.1) (.cells #[.int .i64 (-x)] 3))
              have hsz2 := HT2.out.2.2.2.size
              clear hown hown' hgrow hwhere
              go_wp2_with (at_builtin; refine wpList_append_own_at _ rfl _ _ 41 rfl w2.heap.size 3 i0 (.int .i64 0) 1 8 Try.underlying41 hi hz0 hz1 hz2 rfl (by decide) _ _ _ rfl hown2.out ⟨wa.heap.size, 0, none⟩ 1 1 [.int .i64 (-x)] rfl rfl ?ba3 one_int ?bb3 ?bc3 ?bd3 ?_)
              case ba3 => exact one_new wa _ _
              case bb3 => simp; unfold maxLen; omega
              case bc3 => simp
              case bd3 => simp; omega
              intro u2 wb hown' hgrow _ hwhere
              have HT3 := Lib.hid ((HT2.out.swap.more (x := -x) (show IOwn wb w2.heap.size u2 ((List.range 3).map (fun j => -bitI y j) ++ [-x]) from hown') hgrow (by rcases hwhere with h | h; exact .inl h; exact .inr (by simpa using h))).swap)
              have HT4 : Hid (Two w2 ((List.range (3 + 1)).map (bitI y)) ((List.range (3 + 1)).map fun j => -bitI y j) v2 u2 wb) := Lib.hid (by rw [evG_succ, evO_succ, HX.out]; exact HT3.out)
              clear hown2 hown' hgrow hwhere
              go_wp2_with fail
              go_roundw
              case rel => exact ⟨3 + 1, by first | rfl | go_num, by omega, HT4⟩
              case measure => simp [intOf]; omega
          · have hkn : k = n.toNat := by omega
            subst hkn
            obtain ⟨HVG, HVO, -, HBW⟩ : Hid (IOwn wr w2.heap.size u6 (evG n y)) ∧ Hid (IOwn wr w2.heap.size u7 (evO n y)) ∧ True ∧ Hid (Below w2.heap.size w2 wr) := ⟨Lib.hid HT.out.1, Lib.hid HT.out.2.1, trivial, Lib.hid HT.out.2.2.2⟩
            clear HT hlt
            obtain ⟨p, hp⟩ : ∃ p, (lbP n qs (evG n y)).1 = p := ⟨_, rfl⟩
            obtain ⟨q, hq⟩ : ∃ q, (lbP n qs (evO n y)).1 = q := ⟨_, rfl⟩
            obtain ⟨f, hf⟩ : ∃ f, fairB n qs = f := ⟨_, rfl⟩
            have HP := Lib.hid hp
            have HQ := Lib.hid hq
            have HF := Lib.hid hf
            clear hp hq hf
            go_wp2_with fail
            refine (implLeastBrings_any wr n vb _ qs (evG n y) ((HVB.out.keep (SameAt.of_below HBW.out)).rd qC_len) HVG.out.rd).mono ?_
            rintro e wa ⟨rfl, ba⟩
            rw [HP.out, HF1.out, HF.out]
            have HA := Lib.hid (below_step HBW.out ba HBW.out.size)
            have HVO2 := Lib.hid (HVO.out.keep (SameAt.of_below ba))
            clear ba HVG HVO
            go_wp2_with fail
            refine (implLeastBrings_any wa n vb _ qs (evO n y) ((HVB.out.keep (SameAt.of_below HA.out)).rd qC_len) HVO2.out.rd).mono ?_
            rintro e wb ⟨rfl, bb⟩
            rw [HQ.out, HF2.out, HF.out]
            have HBB := Lib.hid (below_step HA.out bb HA.out.size)
            clear bb HVO2
            go_wp2_with fail
            refine (implFairOk_any wb n vb qs ((HVB.out.keep (SameAt.of_below HBB.out)).rd qC_len)).mono ?_
            rintro e wc ⟨rfl, bc⟩
            rw [HF.out]
            have HBC := Lib.hid (below_step HBB.out bc HBB.out.size)
            clear bc
            cases f
            · go_wp2_with fail
              go_ret
              exact ⟨rfl, below_step HBJ.out HBC.out HZJ.out⟩
            · obtain ⟨r1, r2⟩ := HF3.out HF.out
              obtain ⟨s1, s2⟩ := most_pos HK.out HF.out
              rw [HP.out] at r1
              rw [HQ.out] at r2
              obtain ⟨m, hm⟩ : ∃ m, mostB n qs y = m := ⟨_, rfl⟩
              rw [hm] at r2 s1 s2
              have HM := Lib.hid hm
              have HR1 := Lib.hid r1
              clear hm r1
              subst r2
              go_wp2_with fail
              refine (implLeastOn_any wc n vb qs y ((HVB.out.keep (SameAt.of_below HBC.out)).rd qC_len)).mono ?_
              rintro e wd ⟨rfl, bd⟩
              rw [← HR1.out]
              have HBD := Lib.hid (below_step HBC.out bd HBC.out.size)
              clear bd
              go_wp2_with fail
              refine (implMostOn_any wd n vb qs y ((HVB.out.keep (SameAt.of_below HBD.out)).rd qC_len)).mono ?_
              rintro e we ⟨rfl, be⟩
              rw [HM.out]
              have HBE := Lib.hid (below_step HBD.out be HBD.out.size)
              clear be
              go_wp2_with fail
              go_ret
              exact ⟨rfl, below_step HBJ.out HBE.out HZJ.out⟩
      · have HK := Lib.hid k
        have H := Lib.hid h
        clear k h
        go_wp2_with fail
        refine (specEventOk_any _ _ _).mono ?_
        rintro e w' ⟨rfl, rfl⟩
        rw [HK.out]
        go_wp2_with fail
        refine (specBookOk_any w1 n vb qs (ovb1.rd qC_len)).mono ?_
        rintro e w2 ⟨rfl, b2⟩
        rw [H.out]
        have z2 := b2.size
        have B2 := below_step B1 b2 (by omega)
        have ovb2 := ovb1.keep (SameAt.of_below b2)
        clear B1 b2 ovb1
        go_wp2_with fail
        refine (alive_any _).mono ?_
        rintro e w' ⟨rfl, rfl⟩
        go_wp2_with fail
        go_ret
        exact ⟨rfl, B2⟩
    · have HK := Lib.hid k
      clear k
      go_wp2_with fail
      refine (specEventOk_any _ _ _).mono ?_
      rintro e w' ⟨rfl, rfl⟩
      rw [HK.out]
      go_wp2_with fail
      refine (alive_any _).mono ?_
      rintro e w' ⟨rfl, rfl⟩
      go_wp2_with fail
      go_ret
      exact ⟨rfl, B1⟩

end Go.Proofs.Yteljcicdibbhdaa
