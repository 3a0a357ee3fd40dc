/- The walk of the law of WagerText. Conditions: stated; the tables and errors of package strconv are laid. (gen_zx.py) -/
import Derived.Test.YtfdlfgokoponmaaDoorZu
import Derived.Test.YtfdlfgokoponmaaDoorZf
namespace Go.Proofs.YtfdlfgokoponmaaDoor
open Go.RowKit
set_option linter.unusedVariables false
set_option linter.unusedSimpArgs false

theorem wgT_facts {s : Int} {t : List Mk} {p : Int} (h : wgB s t p = true) : wgT s t p ≠ [] ∧ (wgT s t p).length ≤ 200 ∧ rwB ⟨(wgT s t p).toArray⟩ = true ∧ rwS ⟨(wgT s t p).toArray⟩ = s ∧ rwL ⟨(wgT s t p).toArray⟩ = t ∧ rwP ⟨(wgT s t p).toArray⟩ = p := by
  obtain ⟨T, rfl, hT⟩ := wreads_of h
  have h1 := rw_yes (S := ⟨(wgT s (encT T) p).toArray⟩) (s := s) (T := T) (p := p) (by rw [bs_mk]; exact hT)
  refine ⟨?_, ?_, h1⟩
  · rw [← hT.1, wtx]; simp
  · rw [← hT.1]
    have h2 := wtx_len (l := txtT T) hT.2.1 hT.2.2.1
    have h3 := txt_len T
    have h4 := hT.2.2.2
    omega

set_option maxRecDepth 100000 in
set_option maxHeartbeats 16000000 in
theorem FnWagerText_walk (a0 : Option Addr) (len0 cap0 : Nat) (z0 : List Int) (w : World) (w0 : IsRowC .u8 w a0 len0 cap0 z0) (hnt : NTab w) (het : ETab w) :
    Calls Tryd.prog 3 #[.slice a0 len0 cap0] w fun e w' => e = .returned (.bool true) ∧ Below w.heap.size w w' := by
  have HNT := Lib.hid hnt
  have HET := Lib.hid het
  clear hnt het
  by_cases hlen : 1048576 < len0
  · clear w0
    go_enter Tryd.func3, Tryd.ntmps3
    go_wp2
    go_ret
    exact ⟨rfl, Below.refl _ _⟩
  · have hlen' : decide (1048576 < len0) = false := by simpa using hlen
    go_enter Tryd.func3, Tryd.ntmps3
    go_wp2_with fail
    refine (drawWagerText_any _ _ _ _ _ w0).mono ?_
    rintro e w1 ⟨s, g, c, t, p, rfl, o1, hlt, hs, hp, b1⟩
    clear hlen hlen' w0
    obtain ⟨w2, hw2⟩ : ∃ w2, w1.alloc (.cells #[.int .i64 s, .slice (some ⟨g, 0, none⟩) t.length c, .int .i64 p] 25) = w2 := ⟨_, rfl⟩
    have K2 : Hid (WK w w1.heap.size s (.slice (some ⟨g, 0, none⟩) t.length c) p t w2) := Lib.hid (by rw [← hw2]; exact ⟨b1.alloc b1.size _, heap_alloc_new w1 _, o1.keep (SameAt.of_below ((Below.refl _ w1).alloc (Nat.le_refl _) _))⟩)
    have HW2 := Lib.hid hw2
    clear o1 b1 hw2
    obtain ⟨k, hk⟩ : ∃ k, wgB s t p = k := ⟨_, rfl⟩
    have HK := Lib.hid hk
    clear hk
    obtain ⟨x, hx⟩ : ∃ x, wgT s t p = x := ⟨_, rfl⟩
    have HX := Lib.hid hx
    clear hx
    go_upto_region 4 with fail
    rw [HW2.out]
    obtain ⟨⟨m0, m1, m2⟩, -⟩ := three_cells K2.out.2.1
    go_wp2_with fail
    refine (implWagerText_any w2 s _ t p (K2.out.2.2.rd qC_len) (HNT.out.below K2.out.1)).mono ?_
    rintro e w3 ⟨rfl, b3⟩
    rw [HX.out]
    have K3 := Lib.hid (K2.out.below b3)
    clear b3 m0 m1 m2 K2
    obtain ⟨⟨m0, m1, m2⟩, -⟩ := three_cells K3.out.2.1
    go_wp2_with fail
    refine (specWagerText_any w3 s _ t p (K3.out.2.2.rd qC_len)).mono ?_
    rintro e w4 ⟨rfl, b4⟩
    rw [HX.out]
    have K4 := Lib.hid (K3.out.below b4)
    clear b4 m0 m1 m2 K3
    cases k
    · have hx0 : x = [] := by rw [← HX.out, wgT_no HK.out]
      subst hx0
      obtain ⟨⟨m0, m1, m2⟩, -⟩ := three_cells K4.out.2.1
      go_wp2_with fail
      refine (implWagerOk_any w4 s _ t p (K4.out.2.2.rd qC_len)).mono ?_
      rintro e w5 ⟨rfl, b5⟩
      rw [HK.out]
      have K5 := Lib.hid (K4.out.below b5)
      clear b5 m0 m1 m2
      go_wp2_with fail
      refine (alive_any _).mono ?_
      rintro e w' ⟨rfl, rfl⟩
      go_wp2_with fail
      go_ret
      exact ⟨rfl, K5.out.1⟩
    · obtain ⟨x1, x2, x3, x4, x5, x6⟩ := wgT_facts HK.out
      rw [HX.out] at x1 x2 x3 x4 x5 x6
      have hsz : (⟨x.toArray⟩ : ByteArray).size ≤ 2000000 := by show x.toArray.size ≤ 2000000; rw [List.size_toArray]; omega
      have HSZ := Lib.hid hsz
      have e1 : (x == []) = false := by simpa using x1
      have HF := Lib.hid (And.intro x3 (And.intro x4 (And.intro x5 x6)))
      clear x1 x2 x3 x4 x5 x6 hsz
      go_upto_region 9 with fail
      go_wp2_with fail
      refine (implReadWager_any _ HSZ.out w4 (HNT.out.below K4.out.1) (HET.out.below K4.out.1)).mono ?_
      rintro e w5 ⟨v5, rfl, o5, b5⟩
      rw [HF.out.1, HF.out.2.1, HF.out.2.2.2]
      rw [HF.out.2.2.1] at o5
      obtain ⟨A5, n5, c5, rfl⟩ := mform o5
      obtain ⟨w6, hw6⟩ : ∃ w6, w5.alloc (.cells #[.int .i64 s, .slice A5 n5 c5, .int .i64 p] 25) = w6 := ⟨_, rfl⟩
      have K6 : Hid (WK w w1.heap.size s (.slice (some ⟨g, 0, none⟩) t.length c) p t w6 ∧ Blk w6 w5.heap.size 25 #[.int .i64 s, .slice A5 n5 c5, .int .i64 p] ∧ MOwn w6 w4.heap.size (.slice A5 n5 c5) t) := Lib.hid (by rw [← hw6]; exact ⟨(K4.out.below b5).alloc _, heap_alloc_new w5 _, o5.keep (SameAt.of_below ((Below.refl _ w5).alloc (Nat.le_refl _) _))⟩)
      have HW6 := Lib.hid hw6
      clear o5 b5 hw6 K4
      go_upto_region 10 with fail
      rw [HW6.out]
      obtain ⟨⟨m0, m1, m2⟩, -⟩ := three_cells K6.out.1.2.1
      obtain ⟨⟨y0, y1, y2⟩, -⟩ := three_cells K6.out.2.1
      go_wp2_with fail
      refine (sameMarks_any w6 _ _ t t (K6.out.2.2.rd qC_len) (K6.out.1.2.2.rd qC_len)).mono ?_
      rintro e w7 ⟨rfl, b7⟩
      rw [show decide (t = t) = true from by simp]
      have HB7 := Lib.hid (below_step K6.out.1.1 b7 K6.out.1.1.size)
      clear b7 m0 m1 m2 y0 y1 y2
      go_wp2_with fail
      go_ret
      exact ⟨rfl, HB7.out⟩

end Go.Proofs.YtfdlfgokoponmaaDoor
