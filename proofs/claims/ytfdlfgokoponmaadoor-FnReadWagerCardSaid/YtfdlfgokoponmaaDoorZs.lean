/- A wager that is drawn: spec.l20Wager, and what is drawn for the laws of wagers. Conditions: stated. (gen_zs.py) -/
import Derived.Test.YtfdlfgokoponmaaDoorXw
import Derived.Test.YtfdlfgokoponmaaDoorZa
namespace Go.Proofs.YtfdlfgokoponmaaDoor
open Go.RowKit
set_option linter.unusedVariables false
set_option linter.unusedSimpArgs false

theorem SR.thru {w w1 w2 : World} {R P Q : Nat} (h : SR w R P w1) (k : SR w1 R Q w2) : SR w R Q w2 := ⟨k.1, grT h.2.1 k.2.1, h.2.2⟩

theorem Stay.set_w {w : World} {b k : Nat} {cs : Array Value} (h : Blk w b 25 cs) (u : Value) : Stay w (w.setCell ⟨b, k, none⟩ u) := by
  refine ⟨by simp [World.setCell], fun g cur hg => Below.heap_setCell w ⟨b, k, none⟩ u g ?_⟩
  show g ≠ b
  rintro rfl
  unfold Blk at h
  rw [h] at hg
  injection hg with hg
  injection hg with h2 h3
  exact absurd h3 (by decide)

theorem Blk.oth {w : World} {g b k : Nat} {t : TypeId} {cs : Array Value} (h : Blk w g t cs) (hne : g ≠ b) (u : Value) : Blk (w.setCell ⟨b, k, none⟩ u) g t cs :=
  (Below.heap_setCell w ⟨b, k, none⟩ u g hne).trans h

theorem Blk.pkd {w w' : World} {R P g : Nat} {t : TypeId} {cs : Array Value} (h : Blk w g t cs) (k : Picked R P w w') (hne : g ≠ R) : Blk w' g t cs :=
  (k.grown.block g h.lt (fun e => hne (by injection e))).trans h

theorem Blk.srd {w w' : World} {R P g : Nat} {t : TypeId} {cs : Array Value} (h : Blk w g t cs) (k : SR w R P w') (hne : g ≠ R) : Blk w' g t cs :=
  (k.2.1.block g h.lt (fun e => hne (by injection e))).trans h

theorem three_cells {w : World} {g : Nat} {t : TypeId} {x y z : Value} (h : Blk w g t #[x, y, z]) : (w.cell? ⟨g, 0, none⟩ = some x ∧ w.cell? ⟨g, 1, none⟩ = some y ∧ w.cell? ⟨g, 2, none⟩ = some z) ∧ w.frozen? ⟨g, 0, none⟩ = false ∧ w.frozen? ⟨g, 1, none⟩ = false ∧ w.frozen? ⟨g, 2, none⟩ = false :=
  ⟨⟨h.cell 0, h.cell 1, h.cell 2⟩, h.frozen 0, h.frozen 1, h.frozen 2⟩

theorem three_set {w : World} {g : Nat} {t : TypeId} {x y z : Value} (h : Blk w g t #[x, y, z]) (u v q : Value) :
    (((w.setCell ⟨g, 0, none⟩ u).setCell ⟨g, 1, none⟩ v).setCell ⟨g, 2, none⟩ q).cell? ⟨g, 0, none⟩ = some u ∧ (((w.setCell ⟨g, 0, none⟩ u).setCell ⟨g, 1, none⟩ v).setCell ⟨g, 2, none⟩ q).cell? ⟨g, 1, none⟩ = some v ∧ (((w.setCell ⟨g, 0, none⟩ u).setCell ⟨g, 1, none⟩ v).setCell ⟨g, 2, none⟩ q).cell? ⟨g, 2, none⟩ = some q := by
  have BB := ((h.set_ 0 u).set_ 1 v).set_ 2 q
  exact ⟨BB.cell 0, BB.cell 1, BB.cell 2⟩

/-- while a wager is drawn: the reader, the result's block, the term -/
structure WSt (w : World) (R P : Nat) (v : Value) (t : List Mk) (wk : World) : Prop where
  sr : SR w R P wk
  res : Blk wk w.heap.size 25 #[.int .i64 0, .slice none 0 0, .int .i64 0]
  own : MOwn wk (w.heap.size + 1) v t

theorem WSt.picked {w wk w' : World} {R P Q : Nat} {v : Value} {t : List Mk} (h : WSt w R P v t wk) (k : Picked R Q wk w') : WSt w R Q v t w' :=
  ⟨h.sr.picked k, h.res.pkd k (by have := h.sr.2.2; omega), h.own.sr ((SR.start h.sr.1).picked k) (by have := h.sr.2.2; omega)⟩

theorem WSt.alloc {w wk : World} {R P : Nat} {v : Value} {t : List Mk} (h : WSt w R P v t wk) (o : Obj) : WSt w R P v t (wk.alloc o) :=
  ⟨h.sr.alloc o, (Below.heap_alloc wk o _ h.res.lt).trans h.res, h.own.allocd o⟩

theorem WSt.set_w {w wk : World} {R P b k : Nat} {v : Value} {t : List Mk} {cs : Array Value} (h : WSt w R P v t wk) (hb : Blk wk b 25 cs) (hw : w.heap.size < b) (u : Value) : WSt w R P v t (wk.setCell ⟨b, k, none⟩ u) :=
  ⟨h.sr.below ((Below.refl _ _).setCell (by show w.heap.size ≤ b; omega) u), h.res.oth (by omega) u, h.own.stay (Stay.set_w hb u)⟩

/-- the wager that was drawn -/
def WgPost (R Q : Nat) (n : Int) (w : World) (e : Ending) (w' : World) : Prop := ∃ (s : Int) (g c : Nat) (t : List Mk) (p : Int), e = .returned (.agg #[.int .i64 s, .slice (some ⟨g, 0, none⟩) t.length c, .int .i64 p]) ∧ MOwn w' w.heap.size (.slice (some ⟨g, 0, none⟩) t.length c) t ∧ t.length ≤ 12 ∧ (-10 ≤ s ∧ s ≤ 10) ∧ (0 ≤ p ∧ p ≤ 7) ∧ (n ≤ 0 → wgB s t p = true) ∧ SR w R Q w'

theorem WSt.fin {w wk : World} {R P Q : Nat} {n s p : Int} {g c : Nat} {t : List Mk} (h : WSt w R P (.slice (some ⟨g, 0, none⟩) t.length c) t wk) (hPQ : P ≤ Q) (hl : t.length ≤ 12) (hs : -10 ≤ s ∧ s ≤ 10) (hp : 0 ≤ p ∧ p ≤ 7) (hn : n ≤ 0 → wgB s t p = true) (x y z : Value) :
    WgPost R Q n w (.returned (.agg #[.int .i64 s, .slice (some ⟨g, 0, none⟩) t.length c, .int .i64 p])) (((wk.setCell ⟨w.heap.size, 0, none⟩ x).setCell ⟨w.heap.size, 1, none⟩ y).setCell ⟨w.heap.size, 2, none⟩ z) := by
  have b1 := h.res.set_ 0 x
  have b2 := b1.set_ 1 y
  refine ⟨s, g, c, t, p, rfl, ?_, hl, hs, hp, hn, ?_⟩
  · exact GOwn.base (((h.own.stay (Stay.set_w h.res x)).stay (Stay.set_w b1 y)).stay (Stay.set_w b2 z)) (by omega)
  · exact (h.sr.mono hPQ).below ((((Below.refl w.heap.size wk).setCell (p := ⟨w.heap.size, 0, none⟩) (Nat.le_refl _) x).setCell (p := ⟨w.heap.size, 1, none⟩) (Nat.le_refl _) y).setCell (p := ⟨w.heap.size, 2, none⟩) (Nat.le_refl _) z)

set_option maxRecDepth 100000 in
set_option maxHeartbeats 8000000 in
theorem l20Wager_any (w : World) (R P : Nat) (n m : Int) (hm : IntKind.i64.wrap (n * 2) = m) (hP : P ≤ 10000) (hn : 1 ≤ n) (hn2 : n ≤ 100000) (hm2 : m ≤ 1000000) (h : Rd w R P) :
    Calls Tryd.prog 21 #[.pointer (some ⟨R, 0, none⟩), .int .i64 n] w (WgPost R (P + 70) n w) := by
  have hn2 : n ≤ 1000000 := by omega
  have hR := h.lt
  have D1 : Hid (SR w R P (w.alloc (.cells #[.int .i64 0, .slice none 0 0, .int .i64 0] 25)) ∧ Blk (w.alloc (.cells #[.int .i64 0, .slice none 0 0, .int .i64 0] 25)) w.heap.size 25 #[.int .i64 0, .slice none 0 0, .int .i64 0]) := Lib.hid ⟨(SR.start h).alloc _, heap_alloc_new w _⟩
  clear h
  go_enter Tryd.func21, Tryd.ntmps21
  go_wp2_with fail
  refine (pick_any _ R P _ (by omega) D1.out.1.1).mono ?_
  rintro e w2 ⟨v1, rfl, ⟨p1, p2, -⟩, k1⟩
  have p2 := p2 (by decide)
  have D2 : Hid (SR w R (P + 1) w2 ∧ Blk w2 w.heap.size 25 #[.int .i64 0, .slice none 0 0, .int .i64 0] ∧ w.heap.size + 1 ≤ w2.heap.size) := Lib.hid ⟨D1.out.1.picked k1, D1.out.2.pkd k1 (by omega), by have := k1.grown.size; rw [World.size_alloc] at this; exact this⟩
  clear k1 D1
  obtain ⟨s, hs⟩ : ∃ s, v1 - 4 = s := ⟨_, rfl⟩
  have hsb : -4 ≤ s ∧ s ≤ 4 := by omega
  have hw4 : IntKind.i64.wrap (v1 - 4) = s := by rw [IntWalk.i64_in _ (by omega)]; exact hs
  clear hs
  go_wp2_with fail
  refine (l20Term_any w2 R (P + 1) (m) (by omega) (by omega) D2.out.1.1).mono ?_
  rintro e w3 ⟨g, c, t, rfl, o3, hlt, h0, k3⟩
  have D3 : Hid (WSt w R (P + 61) (.slice (some ⟨g, 0, none⟩) t.length c) t w3) := Lib.hid ⟨D2.out.1.thru (by have := k3; rwa [show P + 1 + 60 = P + 61 from by omega] at this), D2.out.2.1.srd k3 (by omega), o3.base D2.out.2.2⟩
  have HN0 := Lib.hid h0
  clear o3 k3 D2 h0
  go_wp2_with fail
  refine (pick_any _ R (P + 61) _ (by omega) D3.out.sr.1).mono ?_
  rintro e w4 ⟨q, rfl, ⟨q1, q2, -⟩, k1⟩
  have q2 := q2 (by decide)
  have D4 := Lib.hid (D3.out.picked k1)
  clear k1 D3
  obtain ⟨w5, hw5⟩ : ∃ w5, w4.alloc (.cells #[.int .i64 s, .slice (some ⟨g, 0, none⟩) t.length c, .int .i64 q] 25) = w5 := ⟨_, rfl⟩
  have D5 : Hid (WSt w R (P + 62) (.slice (some ⟨g, 0, none⟩) t.length c) t w5) := Lib.hid (by rw [← hw5]; exact D4.out.alloc _)
  have B5 : Hid (Blk w5 w4.heap.size 25 #[.int .i64 s, .slice (some ⟨g, 0, none⟩) t.length c, .int .i64 q] ∧ w.heap.size < w4.heap.size) := Lib.hid ⟨by rw [← hw5]; exact heap_alloc_new w4 _, D4.out.res.lt⟩
  have HW5 := Lib.hid hw5
  clear hw5
  go_upto_region 2 with fail
  rw [HW5.out]
  have HNE : Hid (w4.heap.size ≠ R) := Lib.hid (by have := B5.out.2; omega)
  go_wp2_with fail
  refine (odd_any w5 R (P + 62) n hn hn2 (by omega) D5.out.sr.1).mono ?_
  rintro e w6 ⟨b, rfl, k1⟩
  have D6 := Lib.hid (D5.out.picked k1)
  have B6 : Hid (Blk w6 w4.heap.size 25 #[.int .i64 s, .slice (some ⟨g, 0, none⟩) t.length c, .int .i64 q] ∧ w.heap.size < w4.heap.size) := Lib.hid ⟨B5.out.1.pkd k1 HNE.out, B5.out.2⟩
  clear k1 D5 B5
  cases b
  · obtain ⟨⟨m0, m1, m2⟩, -⟩ := three_cells B6.out.1
    obtain ⟨⟨z0, z1, z2⟩, f0, f1, f2⟩ := three_cells D6.out.res
    have HR := Lib.hid (three_set D6.out.res (.int .i64 s) (.slice (some ⟨g, 0, none⟩) t.length c) (.int .i64 q))
    go_wp2_with fail
    obtain ⟨hr0, hr1, hr2⟩ := HR.out
    refine bodyPost_ret (v := .agg #[.int .i64 s, .slice (some ⟨g, 0, none⟩) t.length c, .int .i64 q]) (by simp [results, Tryd.results21, go_sem, hr0, hr1, hr2]) rfl ?_
    exact D6.out.fin (by omega) hlt (by omega) (by omega) (fun h => absurd hn (by omega)) _ _ _
  · go_wp2_with fail
    refine (pick_any w6 R (P + 63) _ (by omega) D6.out.sr.1).mono ?_
    rintro e w7 ⟨u, rfl, ⟨u1, u2, -⟩, k1⟩
    have u2 := u2 (by decide)
    have D7 := Lib.hid (D6.out.picked k1)
    have B7 : Hid (Blk w7 w4.heap.size 25 #[.int .i64 s, .slice (some ⟨g, 0, none⟩) t.length c, .int .i64 q] ∧ w.heap.size < w4.heap.size) := Lib.hid ⟨B6.out.1.pkd k1 HNE.out, B6.out.2⟩
    clear k1 D6 B6
    obtain rfl | rfl : u = 0 ∨ u = 1 := by omega
    · obtain ⟨w8, hw8⟩ : ∃ w8, w7.alloc (.cells #[.int .i64 10, .int .i64 (-10)] 3) = w8 := ⟨_, rfl⟩
      have D8 : Hid (WSt w R (P + 64) (.slice (some ⟨g, 0, none⟩) t.length c) t w8) := Lib.hid (by rw [← hw8]; exact D7.out.alloc _)
      have B8 : Hid (Blk w8 w4.heap.size 25 #[.int .i64 s, .slice (some ⟨g, 0, none⟩) t.length c, .int .i64 q] ∧ w.heap.size < w4.heap.size) := Lib.hid ⟨by rw [← hw8]; exact (Below.heap_alloc w7 _ _ B7.out.1.lt).trans B7.out.1, B7.out.2⟩
      have A8 : Hid (Blk w8 w7.heap.size 3 #[.int .i64 10, .int .i64 (-10)] ∧ w7.heap.size ≠ R) := Lib.hid ⟨by rw [← hw8]; exact heap_alloc_new w7 _, by have := D7.out.res.lt; omega⟩
      have HW8 := Lib.hid hw8
      clear hw8
      go_wp2_with fail
      rw [HW8.out]
      refine (pick_any w8 R (P + 64) _ (by omega) D8.out.sr.1).mono ?_
      rintro e w9 ⟨u, rfl, ⟨u1, u2, -⟩, k1⟩
      have u2 := u2 (by decide)
      have D9 := Lib.hid (D8.out.picked k1)
      have B9 : Hid (Blk w9 w4.heap.size 25 #[.int .i64 s, .slice (some ⟨g, 0, none⟩) t.length c, .int .i64 q] ∧ w.heap.size < w4.heap.size) := Lib.hid ⟨B8.out.1.pkd k1 HNE.out, B8.out.2⟩
      have A9 : Hid (Blk w9 w7.heap.size 3 #[.int .i64 10, .int .i64 (-10)]) := Lib.hid (A8.out.1.pkd k1 A8.out.2)
      clear k1 D8 B8 A8
      have a0 : w9.cell? ⟨w7.heap.size, 0, none⟩ = some (.int .i64 10) := A9.out.cell 0
      have a1 : w9.cell? ⟨w7.heap.size, 1, none⟩ = some (.int .i64 (-10)) := A9.out.cell 1
      obtain ⟨⟨y0, y1, y2⟩, x0, x1, x2⟩ := three_cells B9.out.1
      obtain rfl | rfl : u = 0 ∨ u = 1 := by omega
      · have DX : Hid (WSt w R (P + 65) (.slice (some ⟨g, 0, none⟩) t.length c) t (w9.setCell ⟨w4.heap.size, 0, none⟩ (.int .i64 10))) := Lib.hid (D9.out.set_w B9.out.1 B9.out.2 _)
        have BX : Hid (Blk (w9.setCell ⟨w4.heap.size, 0, none⟩ (.int .i64 10)) w4.heap.size 25 #[.int .i64 10, .slice (some ⟨g, 0, none⟩) t.length c, .int .i64 q]) := Lib.hid (B9.out.1.set_ 0 _)
        obtain ⟨⟨m0, m1, m2⟩, -⟩ := three_cells BX.out
        obtain ⟨⟨z0, z1, z2⟩, f0, f1, f2⟩ := three_cells DX.out.res
        have HR := Lib.hid (three_set DX.out.res (.int .i64 10) (.slice (some ⟨g, 0, none⟩) t.length c) (.int .i64 q))
        go_wp2_with fail
        obtain ⟨hr0, hr1, hr2⟩ := HR.out
        refine bodyPost_ret (v := .agg #[.int .i64 10, .slice (some ⟨g, 0, none⟩) t.length c, .int .i64 q]) (by simp [results, Tryd.results21, go_sem, hr0, hr1, hr2]) rfl ?_
        exact DX.out.fin (by omega) hlt (by omega) (by omega) (fun h => absurd hn (by omega)) _ _ _
      · have DX : Hid (WSt w R (P + 65) (.slice (some ⟨g, 0, none⟩) t.length c) t (w9.setCell ⟨w4.heap.size, 0, none⟩ (.int .i64 (-10)))) := Lib.hid (D9.out.set_w B9.out.1 B9.out.2 _)
        have BX : Hid (Blk (w9.setCell ⟨w4.heap.size, 0, none⟩ (.int .i64 (-10))) w4.heap.size 25 #[.int .i64 (-10), .slice (some ⟨g, 0, none⟩) t.length c, .int .i64 q]) := Lib.hid (B9.out.1.set_ 0 _)
        obtain ⟨⟨m0, m1, m2⟩, -⟩ := three_cells BX.out
        obtain ⟨⟨z0, z1, z2⟩, f0, f1, f2⟩ := three_cells DX.out.res
        have HR := Lib.hid (three_set DX.out.res (.int .i64 (-10)) (.slice (some ⟨g, 0, none⟩) t.length c) (.int .i64 q))
        go_wp2_with fail
        obtain ⟨hr0, hr1, hr2⟩ := HR.out
        refine bodyPost_ret (v := .agg #[.int .i64 (-10), .slice (some ⟨g, 0, none⟩) t.length c, .int .i64 q]) (by simp [results, Tryd.results21, go_sem, hr0, hr1, hr2]) rfl ?_
        exact DX.out.fin (by omega) hlt (by omega) (by omega) (fun h => absurd hn (by omega)) _ _ _
    · obtain ⟨⟨y0, y1, y2⟩, x0, x1, x2⟩ := three_cells B7.out.1
      have DX : Hid (WSt w R (P + 64) (.slice (some ⟨g, 0, none⟩) t.length c) t (w7.setCell ⟨w4.heap.size, 2, none⟩ (.int .i64 7))) := Lib.hid (D7.out.set_w B7.out.1 B7.out.2 _)
      have BX : Hid (Blk (w7.setCell ⟨w4.heap.size, 2, none⟩ (.int .i64 7)) w4.heap.size 25 #[.int .i64 s, .slice (some ⟨g, 0, none⟩) t.length c, .int .i64 7]) := Lib.hid (B7.out.1.set_ 2 _)
      obtain ⟨⟨m0, m1, m2⟩, -⟩ := three_cells BX.out
      obtain ⟨⟨z0, z1, z2⟩, f0, f1, f2⟩ := three_cells DX.out.res
      have HR := Lib.hid (three_set DX.out.res (.int .i64 s) (.slice (some ⟨g, 0, none⟩) t.length c) (.int .i64 7))
      go_wp2_with fail
      obtain ⟨hr0, hr1, hr2⟩ := HR.out
      refine bodyPost_ret (v := .agg #[.int .i64 s, .slice (some ⟨g, 0, none⟩) t.length c, .int .i64 7]) (by simp [results, Tryd.results21, go_sem, hr0, hr1, hr2]) rfl ?_
      exact DX.out.fin (by omega) hlt (by omega) (by omega) (fun h => absurd hn (by omega)) _ _ _

set_option maxRecDepth 100000 in
set_option maxHeartbeats 8000000 in
theorem l20Wager_zero (w : World) (R P : Nat) (hP : P ≤ 10000) (h : Rd w R P) :
    Calls Tryd.prog 21 #[.pointer (some ⟨R, 0, none⟩), .int .i64 0] w (WgPost R (P + 70) 0 w) := by
  have hR := h.lt
  have D1 : Hid (SR w R P (w.alloc (.cells #[.int .i64 0, .slice none 0 0, .int .i64 0] 25)) ∧ Blk (w.alloc (.cells #[.int .i64 0, .slice none 0 0, .int .i64 0] 25)) w.heap.size 25 #[.int .i64 0, .slice none 0 0, .int .i64 0]) := Lib.hid ⟨(SR.start h).alloc _, heap_alloc_new w _⟩
  clear h
  go_enter Tryd.func21, Tryd.ntmps21
  go_wp2_with fail
  refine (pick_any _ R P _ (by omega) D1.out.1.1).mono ?_
  rintro e w2 ⟨v1, rfl, ⟨p1, p2, -⟩, k1⟩
  have p2 := p2 (by decide)
  have D2 : Hid (SR w R (P + 1) w2 ∧ Blk w2 w.heap.size 25 #[.int .i64 0, .slice none 0 0, .int .i64 0] ∧ w.heap.size + 1 ≤ w2.heap.size) := Lib.hid ⟨D1.out.1.picked k1, D1.out.2.pkd k1 (by omega), by have := k1.grown.size; rw [World.size_alloc] at this; exact this⟩
  clear k1 D1
  obtain ⟨s, hs⟩ : ∃ s, v1 - 4 = s := ⟨_, rfl⟩
  have hsb : -4 ≤ s ∧ s ≤ 4 := by omega
  have hw4 : IntKind.i64.wrap (v1 - 4) = s := by rw [IntWalk.i64_in _ (by omega)]; exact hs
  clear hs
  go_wp2_with fail
  refine (l20Term_any w2 R (P + 1) (0) (by omega) (by omega) D2.out.1.1).mono ?_
  rintro e w3 ⟨g, c, t, rfl, o3, hlt, h0, k3⟩
  have D3 : Hid (WSt w R (P + 61) (.slice (some ⟨g, 0, none⟩) t.length c) t w3) := Lib.hid ⟨D2.out.1.thru (by have := k3; rwa [show P + 1 + 60 = P + 61 from by omega] at this), D2.out.2.1.srd k3 (by omega), o3.base D2.out.2.2⟩
  have HN0 := Lib.hid h0
  clear o3 k3 D2 h0
  go_wp2_with fail
  refine (pick_any _ R (P + 61) _ (by omega) D3.out.sr.1).mono ?_
  rintro e w4 ⟨q, rfl, ⟨q1, q2, -⟩, k1⟩
  have q2 := q2 (by decide)
  have D4 := Lib.hid (D3.out.picked k1)
  clear k1 D3
  obtain ⟨w5, hw5⟩ : ∃ w5, w4.alloc (.cells #[.int .i64 s, .slice (some ⟨g, 0, none⟩) t.length c, .int .i64 q] 25) = w5 := ⟨_, rfl⟩
  have D5 : Hid (WSt w R (P + 62) (.slice (some ⟨g, 0, none⟩) t.length c) t w5) := Lib.hid (by rw [← hw5]; exact D4.out.alloc _)
  have B5 : Hid (Blk w5 w4.heap.size 25 #[.int .i64 s, .slice (some ⟨g, 0, none⟩) t.length c, .int .i64 q] ∧ w.heap.size < w4.heap.size) := Lib.hid ⟨by rw [← hw5]; exact heap_alloc_new w4 _, D4.out.res.lt⟩
  have HW5 := Lib.hid hw5
  clear hw5
  go_upto_region 2 with fail
  rw [HW5.out]
  have HNE : Hid (w4.heap.size ≠ R) := Lib.hid (by have := B5.out.2; omega)
  go_wp2_with fail
  refine (odd0_any w5 R 0 0 (by decide)).mono ?_
  rintro e w6 ⟨rfl, rfl⟩
  have HOK : Hid (wgB s t q = true) := Lib.hid (by
    obtain ⟨T, rfl, h11⟩ := HN0.out (by decide)
    exact (wgB_iff _ _ _).2 ⟨by omega, tree_tm (by omega), by omega, by omega⟩)
  obtain ⟨⟨m0, m1, m2⟩, -⟩ := three_cells B5.out.1
  obtain ⟨⟨z0, z1, z2⟩, f0, f1, f2⟩ := three_cells D5.out.res
  have HR := Lib.hid (three_set D5.out.res (.int .i64 s) (.slice (some ⟨g, 0, none⟩) t.length c) (.int .i64 q))
  go_wp2_with fail
  obtain ⟨hr0, hr1, hr2⟩ := HR.out
  refine bodyPost_ret (v := .agg #[.int .i64 s, .slice (some ⟨g, 0, none⟩) t.length c, .int .i64 q]) (by simp [results, Tryd.results21, go_sem, hr0, hr1, hr2]) rfl ?_
  exact D5.out.fin (by omega) hlt (by omega) (by omega) (fun _ => HOK.out) _ _ _

theorem rowc_below {k : IntKind} {w w' : World} {a : Option Addr} {len cap : Nat} {zs : List Int} (h : IsRowC k w a len cap zs) (hb : Below w.heap.size w w') : IsRowC k w' a len cap zs := by
  rcases h with h | ⟨x, hx, h1, h2, h3, h4, h5⟩
  · exact .inl h
  · refine .inr ⟨x, hx, h1, h2, h3, fun i hi => ?_, h5⟩
    have h6 := h4 i hi
    have hlt := World.block_lt_of_cell? w _ h6
    exact (World.cell?_of_block (hb.block _ hlt)).trans h6

/-- what was drawn, ahead of the result's store -/
def WDr (w : World) (v : Value) (t : List Mk) (wk : World) : Prop := Below w.heap.size w wk ∧ Blk wk w.heap.size 25 #[.int .i64 0, .slice none 0 0, .int .i64 0] ∧ MOwn wk (w.heap.size + 1) v t

/-- a wager that was drawn -/
def WDraw (w : World) (e : Ending) (w' : World) : Prop := ∃ (s : Int) (g c : Nat) (t : List Mk) (p : Int), e = .returned (.agg #[.int .i64 s, .slice (some ⟨g, 0, none⟩) t.length c, .int .i64 p]) ∧ MOwn w' w.heap.size (.slice (some ⟨g, 0, none⟩) t.length c) t ∧ t.length ≤ 12 ∧ (-10 ≤ s ∧ s ≤ 10) ∧ (0 ≤ p ∧ p ≤ 7) ∧ Below w.heap.size w w'

theorem WDr.fin {w wk : World} {s p : Int} {g c : Nat} {t : List Mk} (h : WDr w (.slice (some ⟨g, 0, none⟩) t.length c) t wk) (hl : t.length ≤ 12) (hs : -10 ≤ s ∧ s ≤ 10) (hp : 0 ≤ p ∧ p ≤ 7) (x y z : Value) :
    WDraw w (.returned (.agg #[.int .i64 s, .slice (some ⟨g, 0, none⟩) t.length c, .int .i64 p])) (((wk.setCell ⟨w.heap.size, 0, none⟩ x).setCell ⟨w.heap.size, 1, none⟩ y).setCell ⟨w.heap.size, 2, none⟩ z) := by
  have b1 := h.2.1.set_ 0 x
  have b2 := b1.set_ 1 y
  exact ⟨s, g, c, t, p, rfl, GOwn.base (((h.2.2.stay (Stay.set_w h.2.1 x)).stay (Stay.set_w b1 y)).stay (Stay.set_w b2 z)) (by omega), hl, hs, hp, ((h.1.setCell (Nat.le_refl _) x).setCell (Nat.le_refl _) y).setCell (Nat.le_refl _) z⟩

set_option maxRecDepth 100000 in
set_option maxHeartbeats 4000000 in
theorem drawWagerText_any (w : World) (a : Option Addr) (len cap : Nat) (zs : List Int) (h : IsRowC .u8 w a len cap zs) :
    Calls Tryd.prog 7 #[.slice a len cap] w (WDraw w) := by
  have HB : Hid (Below w.heap.size w (w.alloc (.cells #[.int .i64 0, .slice none 0 0, .int .i64 0] 25)) ∧ Blk (w.alloc (.cells #[.int .i64 0, .slice none 0 0, .int .i64 0] 25)) w.heap.size 25 #[.int .i64 0, .slice none 0 0, .int .i64 0]) := Lib.hid ⟨(Below.refl _ _).alloc (Nat.le_refl _) _, heap_alloc_new w _⟩
  have HO : Hid (IsRowC .u8 (w.alloc (.cells #[.int .i64 0, .slice none 0 0, .int .i64 0] 25)) a len cap zs) := Lib.hid (rowc_below h ((Below.refl _ _).alloc (Nat.le_refl _) _))
  clear h
  go_enter Tryd.func7, Tryd.ntmps7
  go_wp2_with fail
  generalize w.alloc (.cells #[.int .i64 0, .slice none 0 0, .int .i64 0] 25) = w1 at HB HO ⊢
  refine (open_any w1 a len cap zs HO.out).mono ?_
  rintro e w2 ⟨rfl, ho⟩
  have HP := Lib.hid ho
  clear ho
  go_wp2_with fail
  refine (l20Wager_any w2 w1.heap.size 0 9 18 (by decide) (by decide) (by decide) (by decide) (by decide) HP.out.rd).mono ?_
  rintro e w3 ⟨s, g, c, t, p, rfl, o3, hlt, hs, hp, -, k3⟩
  have HX : Hid (WDr w (.slice (some ⟨g, 0, none⟩) t.length c) t w3) := Lib.hid ⟨HB.out.1.trans (Below.mono (HP.out.below.grown k3.2.1 HP.out.below.size (fun g hg => by injection hg with hg; omega)) HB.out.1.size), ((k3.2.1.block _ (by have := HP.out.size; have := HB.out.2.lt; omega) (fun e => by injection e with e; have := HB.out.2.lt; omega)).trans ((HP.out.below.block _ HB.out.2.lt).trans HB.out.2)), GOwn.base o3 (by have := HP.out.size; have := HB.out.2.lt; omega)⟩
  clear o3 k3 HP HO HB
  obtain ⟨⟨z0, z1, z2⟩, f0, f1, f2⟩ := three_cells HX.out.2.1
  have HR := Lib.hid (three_set HX.out.2.1 (.int .i64 s) (.slice (some ⟨g, 0, none⟩) t.length c) (.int .i64 p))
  go_wp2_with fail
  obtain ⟨hr0, hr1, hr2⟩ := HR.out
  refine bodyPost_ret (v := .agg #[.int .i64 s, .slice (some ⟨g, 0, none⟩) t.length c, .int .i64 p]) (by simp [results, Tryd.results7, go_sem, hr0, hr1, hr2]) rfl ?_
  exact HX.out.fin hlt hs hp _ _ _

end Go.Proofs.YtfdlfgokoponmaaDoor
