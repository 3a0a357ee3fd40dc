/- The walk of the law of WagerOk. Conditions: stated. (gen_zu.py) -/
import Derived.Test.YtfdlfgokoponmaaZs
import Derived.Test.YtfdlfgokoponmaaZp
namespace Go.Proofs.Ytfdlfgokoponmaa
open Go.RowKit
set_option linter.unusedVariables false
set_option linter.unusedSimpArgs false

theorem wbox {W wr : World} {x y z : Value} {t : TypeId} (h : Below (W.alloc (.cells #[x, y, z] t)).heap.size (W.alloc (.cells #[x, y, z] t)) wr) : Blk wr W.heap.size t #[x, y, z] :=
  (h.block W.heap.size (by simp)).trans (heap_alloc_new W _)

theorem wgB_neg (s : Int) (t : List Mk) (p : Int) : wgB (-s) t p = wgB s t p := by
  refine bool_eq ?_
  rw [wgB_iff, wgB_iff]
  constructor <;> rintro ⟨h1, h2, h3⟩ <;> exact ⟨by omega, h2, h3⟩

theorem wgB_none {s : Int} {t : List Mk} {p : Int} (h : wgB s t p = true) : wgB 0 t p = true := by
  rw [wgB_iff] at h ⊢
  exact ⟨by omega, h.2.1, h.2.2⟩

theorem wgB_zero : wgB 0 [] 0 = false := by
  rw [wgB, tm_letters.2.2]; decide

/-- what is known of the wager that was drawn while the law goes on -/
def WK (w : World) (b : Nat) (s : Int) (v : Value) (p : Int) (t : List Mk) (wk : World) : Prop := Below w.heap.size w wk ∧ Blk wk b 25 #[.int .i64 s, v, .int .i64 p] ∧ MOwn wk w.heap.size v t

theorem WK.below {w : World} {b : Nat} {s : Int} {v : Value} {p : Int} {t : List Mk} {wk w' : World} (h : WK w b s v p t wk) (hb : Below wk.heap.size wk w') : WK w b s v p t w' :=
  ⟨below_step h.1 hb h.1.size, (hb.block _ h.2.1.lt).trans h.2.1, h.2.2.keep (SameAt.of_below hb)⟩

theorem WK.alloc {w : World} {b : Nat} {s : Int} {v : Value} {p : Int} {t : List Mk} {wk : World} (h : WK w b s v p t wk) (o : Obj) : WK w b s v p t (wk.alloc o) := h.below ((Below.refl _ _).alloc (Nat.le_refl _) _)

theorem qrd_nil (w : World) : QRd w (.slice none 0 0) [] := ⟨none, 0, rfl, Nat.le_refl _, by omega, fun h => absurd h (by simp)⟩

set_option maxRecDepth 100000 in
set_option maxHeartbeats 16000000 in
theorem FnWagerOk_walk (a0 : Option Addr) (len0 cap0 : Nat) (z0 : List Int) (w : World) (w0 : IsRowC .u8 w a0 len0 cap0 z0) :
    Calls Try.prog 3 #[.slice a0 len0 cap0] w fun e w' => e = .returned (.bool true) ∧ Below w.heap.size w w' := by
  by_cases hlen : 1048576 < len0
  · clear w0
    go_enter Try.func3, Try.ntmps3
    go_wp2
    go_ret
    exact ⟨rfl, Below.refl _ _⟩
  · have hlen' : decide (1048576 < len0) = false := by simpa using hlen
    go_enter Try.func3, Try.ntmps3
    go_wp2_with fail
    refine (drawWagerOk_any _ _ _ _ _ w0).mono ?_
    rintro e w1 ⟨s, g, c, t, p, rfl, o1, hlt, hs, hp, b1⟩
    clear hlen hlen' w0
    obtain ⟨w2, hw2⟩ : ∃ w2, w1.alloc (.cells #[.int .i64 s, .slice (some ⟨g, 0, none⟩) t.length c, .int .i64 p] 25) = w2 := ⟨_, rfl⟩
    have K2 : Hid (WK w w1.heap.size s (.slice (some ⟨g, 0, none⟩) t.length c) p t w2) := Lib.hid (by rw [← hw2]; exact ⟨b1.alloc b1.size _, heap_alloc_new w1 _, o1.keep (SameAt.of_below ((Below.refl _ w1).alloc (Nat.le_refl _) _))⟩)
    have HW2 := Lib.hid hw2
    clear o1 b1 hw2
    obtain ⟨k, hk⟩ : ∃ k, wgB s t p = k := ⟨_, rfl⟩
    have HK := Lib.hid hk
    go_upto_region 4 with fail
    rw [HW2.out]
    obtain ⟨⟨m0, m1, m2⟩, -⟩ := three_cells K2.out.2.1
    go_wp2_with fail
    refine (implWagerOk_any w2 s _ t p (K2.out.2.2.rd qC_len)).mono ?_
    rintro e w3 ⟨rfl, b3⟩
    rw [hk]
    have K3 := Lib.hid (K2.out.below b3)
    clear b3 m0 m1 m2 K2
    obtain ⟨⟨m0, m1, m2⟩, -⟩ := three_cells K3.out.2.1
    go_wp2_with fail
    refine (specWagerOk_any w3 s _ t p (K3.out.2.2.rd qC_len)).mono ?_
    rintro e w4 ⟨rfl, b4⟩
    rw [hk]
    clear hk
    have K4 := Lib.hid (K3.out.below b4)
    clear b4 m0 m1 m2 K3
    have hns : IntKind.i64.wrap (-s) = -s := IntWalk.i64_in _ (by omega)
    obtain ⟨ns, hn⟩ : ∃ ns, -s = ns := ⟨_, rfl⟩
    have HN := Lib.hid hn
    rw [hn] at hns
    have hns2 : IntKind.i64.wrap (-s) = ns := by rw [hn]; exact hns
    clear hn hns
    obtain ⟨w5, hw5⟩ : ∃ w5, w4.alloc (.cells #[.int .i64 ns, .slice (some ⟨g, 0, none⟩) t.length c, .int .i64 p] 25) = w5 := ⟨_, rfl⟩
    have K5 : Hid (WK w w1.heap.size s (.slice (some ⟨g, 0, none⟩) t.length c) p t w5 ∧ Blk w5 w4.heap.size 25 #[.int .i64 ns, .slice (some ⟨g, 0, none⟩) t.length c, .int .i64 p]) := Lib.hid (by rw [← hw5]; exact ⟨K4.out.alloc _, heap_alloc_new w4 _⟩)
    have HW5 := Lib.hid hw5
    clear hw5
    cases k
    all_goals
      obtain ⟨⟨m0, m1, m2⟩, -⟩ := three_cells K4.out.2.1
      go_upto_region 8 with fail
      rw [HW5.out]
      clear m0 m1 m2
      obtain ⟨⟨m0, m1, m2⟩, -⟩ := three_cells K5.out.1.2.1
      obtain ⟨w6, hw6⟩ : ∃ w6, w5.alloc (.cells #[.int .i64 0, .slice (some ⟨g, 0, none⟩) t.length c, .int .i64 p] 25) = w6 := ⟨_, rfl⟩
      have K6 : Hid (WK w w1.heap.size s (.slice (some ⟨g, 0, none⟩) t.length c) p t w6 ∧ Blk w6 w4.heap.size 25 #[.int .i64 ns, .slice (some ⟨g, 0, none⟩) t.length c, .int .i64 p] ∧ Blk w6 w5.heap.size 25 #[.int .i64 0, .slice (some ⟨g, 0, none⟩) t.length c, .int .i64 p]) := Lib.hid (by rw [← hw6]; exact ⟨K5.out.1.alloc _, (Below.heap_alloc w5 _ _ K5.out.2.lt).trans K5.out.2, heap_alloc_new w5 _⟩)
      have HW6 := Lib.hid hw6
      clear hw6
      go_upto_region 9 with fail
      rw [HW6.out]
      clear m0 m1 m2
      obtain ⟨⟨m0, m1, m2⟩, -⟩ := three_cells K6.out.2.1
      go_wp2_with fail
      refine (implWagerOk_any w6 ns _ t p (K6.out.1.2.2.rd qC_len)).mono ?_
      rintro e w7 ⟨rfl, b7⟩
      rw [← HN.out, wgB_neg, HK.out]
      have K7 : Hid (WK w w1.heap.size s (.slice (some ⟨g, 0, none⟩) t.length c) p t w7 ∧ Blk w7 w5.heap.size 25 #[.int .i64 0, .slice (some ⟨g, 0, none⟩) t.length c, .int .i64 p]) := Lib.hid ⟨K6.out.1.below b7, (b7.block _ K6.out.2.2.lt).trans K6.out.2.2⟩
      clear b7 m0 m1 m2
    · go_wp2_with fail
      refine (implWagerOk_any w7 0 _ [] 0 (qrd_nil _)).mono ?_
      rintro e w8 ⟨rfl, b8⟩
      rw [wgB_zero]
      have K8 := Lib.hid (K7.out.1.below b8)
      clear b8
      go_wp2_with fail
      refine (alive_any _).mono ?_
      rintro e w' ⟨rfl, rfl⟩
      go_wp2_with fail
      go_ret
      exact ⟨rfl, K8.out.1⟩
    · obtain ⟨⟨m0, m1, m2⟩, -⟩ := three_cells K7.out.2
      go_wp2_with fail
      refine (implWagerOk_any w7 0 _ t p (K7.out.1.2.2.rd qC_len)).mono ?_
      rintro e w8 ⟨rfl, b8⟩
      rw [wgB_none HK.out]
      have K8 := Lib.hid (K7.out.1.below b8)
      clear b8 m0 m1 m2
      go_wp2_with fail
      refine (implWagerOk_any w8 0 _ [] 0 (qrd_nil _)).mono ?_
      rintro e w9 ⟨rfl, b9⟩
      rw [wgB_zero]
      have K9 := Lib.hid (K8.out.below b9)
      clear b9
      go_wp2_with fail
      refine (alive_any _).mono ?_
      rintro e w' ⟨rfl, rfl⟩
      go_wp2_with fail
      go_ret
      exact ⟨rfl, K9.out.1⟩

end Go.Proofs.Ytfdlfgokoponmaa
