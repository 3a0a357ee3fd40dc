/- Contracts, facts and walks that the laws of this seat lean on, laid together by a program of ours (mkmerge.py) out of: Ad Ae Nc Nb. Conditions: stated at each. -/
import Derived.Test.YtebebcomhdjihaaM3
namespace Go.Proofs.Ytebebcomhdjihaa
open Go.RowKit
set_option linter.unusedVariables false

def tP (p : Pl) : Nat := p.1.length + p.2.length

def totS (ps : List Pl) : Nat := (ps.map tP).sum

def SzP (c : Nat) (L : Int) (w : World) (e : Ending) (w' : World) : Prop := ∃ r : Int, e = .returned (.int .i64 r) ∧ Below w.heap.size w w' ∧ (r < 0 ∨ (0 ≤ r ∧ r + (c : Int) = L))

theorem tot_take {ps : List Pl} {k : Nat} {p : Pl} (h : ps[k]? = some p) : totS (ps.take (k + 1)) = totS (ps.take k) + tP p := by
  unfold totS
  rw [List.take_add_one, h, List.map_append, List.sum_append]; simp

theorem tot_mem {ps : List Pl} {p : Pl} (h : p ∈ ps) : tP p ≤ totS ps := by
  unfold totS
  induction ps with
  | nil => cases h
  | cons q ps ih =>
    rw [List.map_cons, List.sum_cons]
    rcases List.mem_cons.1 h with rfl | h
    · omega
    · have := ih h; omega

set_option maxHeartbeats 1000000 in
theorem szQ_sz (w : World) (A : Option Addr) (n c : Nat) (L : Int) (h0 : 0 ≤ L) (h1 : L ≤ 1048576) (hn : n ≤ 9223372036854775807) :
    Calls Try.prog 42 #[.slice A n c, .int .i64 L] w fun e w' => ∃ r : Int, e = .returned (.int .i64 r) ∧ w = w' ∧ (r < 0 ∨ (0 ≤ r ∧ r + (n : Int) = L)) := by
  obtain ⟨r, hr⟩ : ∃ r, L - (n : Int) = r := ⟨_, rfl⟩
  have hw : IntKind.i64.wrap (L - (n : Int)) = r := by rw [IntWalk.i64_in _ (by omega)]; exact hr
  by_cases hlt : r < 0
  · have HR := Lib.hid hr
    clear hr
    go_enter Try.func42, Try.ntmps42
    go_wp2_with fail
    go_ret
    exact ⟨-1, rfl, rfl, .inl (by decide)⟩
  · have hge : 0 ≤ r := by omega
    have hF : Hid (r + (n : Int) = L) := Lib.hid (by omega)
    clear hr hlt
    go_enter Try.func42, Try.ntmps42
    go_wp2_with fail
    go_ret
    exact ⟨r, rfl, rfl, .inr ⟨hge, hF.out⟩⟩

set_option maxHeartbeats 1000000 in
theorem szI_sz (w : World) (A : Option Addr) (n c : Nat) (L : Int) (h0 : 0 ≤ L) (h1 : L ≤ 1048576) (hn : n ≤ 9223372036854775807) :
    Calls Try.prog 43 #[.slice A n c, .int .i64 L] w fun e w' => ∃ r : Int, e = .returned (.int .i64 r) ∧ w = w' ∧ (r < 0 ∨ (0 ≤ r ∧ r + (n : Int) = L)) := by
  obtain ⟨r, hr⟩ : ∃ r, L - (n : Int) = r := ⟨_, rfl⟩
  have hw : IntKind.i64.wrap (L - (n : Int)) = r := by rw [IntWalk.i64_in _ (by omega)]; exact hr
  by_cases hlt : r < 0
  · have HR := Lib.hid hr
    clear hr
    go_enter Try.func43, Try.ntmps43
    go_wp2_with fail
    go_ret
    exact ⟨-1, rfl, rfl, .inl (by decide)⟩
  · have hge : 0 ≤ r := by omega
    have hF : Hid (r + (n : Int) = L) := Lib.hid (by omega)
    clear hr hlt
    go_enter Try.func43, Try.ntmps43
    go_wp2_with fail
    go_ret
    exact ⟨r, rfl, rfl, .inr ⟨hge, hF.out⟩⟩

def SmPl (p : Pl) : Prop := tP p ≤ 1048576

theorem SmPl.two {p : Pl} (h : SmPl p) : p.1.length ≤ 1048576 ∧ p.2.length ≤ 1048576 := by unfold SmPl tP at h; omega

set_option maxHeartbeats 2000000 in
theorem szPlace_any {S : Nat → Prop} (w : World) (v u : Value) (p : Pl) (L : Int) (h0 : 0 ≤ L) (h1 : L ≤ 1048576) (h : PlRd S w v u p) :
    Calls Try.prog 22 #[.agg #[v, u], .int .i64 L] w (SzP (tP p) L w) := by
  obtain ⟨A, c, rfl, hl, hm⟩ := h.1.1.form
  obtain ⟨A', c', rfl, hl', hm', -⟩ := id h.2.1
  obtain ⟨W, eW⟩ : ∃ X, w.alloc (.cells #[.slice A p.1.length c, .slice A' p.2.length c'] 42) = X := ⟨_, rfl⟩
  have f1 : Blk W (w.heap.size) 42 #[.slice A p.1.length c, .slice A' p.2.length c'] := by
    rw [← eW]
    have h0 := heap_alloc_new w (.cells #[.slice A p.1.length c, .slice A' p.2.length c'] 42)
    exact h0
  have bW : Below w.heap.size w W := by rw [← eW]; exact (Below.refl _ _).alloc (by skip; omega) _
  have nW : W.heap.size = w.heap.size + 1 := by rw [← eW]; simp
  have c0 := f1.cell 0
  have c1 := f1.cell 1
  have HB := Lib.hid bW
  have HW := Lib.hid eW
  have hm2 : p.1.length ≤ 9223372036854775807 := by omega
  have hm3 : p.2.length ≤ 9223372036854775807 := by omega
  clear f1 bW eW nW h
  go_enter Try.func22, Try.ntmps22
  go_upto_region 1 with fail
  rw [HW.out]
  go_wp2_with fail
  refine (szQ_sz W _ _ _ L h0 h1 hm2).mono ?_
  rintro e w' ⟨r, rfl, rfl, hr⟩
  rcases hr with hr | ⟨hr0, hq⟩
  · go_wp2_with fail
    go_ret
    exact ⟨-1, rfl, HB.out, .inl (by decide)⟩
  · have hrL : r ≤ 1048576 := by omega
    have HQ := Lib.hid hq
    clear hq
    go_wp2_with fail
    refine (szI_sz W _ _ _ r hr0 hrL hm3).mono ?_
    rintro e w' ⟨r2, rfl, rfl, hs⟩
    rcases hs with hs | ⟨hs0, hq⟩
    · go_wp2_with fail
      go_ret
      exact ⟨-1, rfl, HB.out, .inl (by decide)⟩
    · have HQ2 := Lib.hid hq
      clear hq
      go_wp2_with fail
      go_ret
      exact ⟨r2, rfl, HB.out, .inr ⟨hs0, by have h1 := HQ.out; have h2 := HQ2.out; unfold tP; omega⟩⟩

set_option maxHeartbeats 4000000 in
theorem szPlaceS_any {S : Nat → Prop} (w : World) (v : Value) (ps : List Pl) (L : Int) (h0 : 0 ≤ L) (h1 : L ≤ 1048576) (h : PsRd S w v ps) :
    Calls Try.prog 48 #[v, .int .i64 L] w (SzP (ps.length + totS ps) L w) := by
  obtain ⟨A, c, rfl, hl, hm⟩ := h.form
  obtain ⟨n, hn⟩ : ∃ n, n = ps.length := ⟨_, rfl⟩
  rw [← hn] at h hl ⊢
  have HP : Hid (∀ wr, Below w.heap.size w wr → PsRd S wr (.slice A n c) ps) := Lib.hid (fun wr hb => h.below hb)
  have HN := Lib.hid hn
  have hn9 : n ≤ 9223372036854775807 := by omega
  obtain ⟨r, hr⟩ : ∃ r, L - (n : Int) = r := ⟨_, rfl⟩
  have hw : IntKind.i64.wrap (L - (n : Int)) = r := by rw [IntWalk.i64_in _ (by omega)]; exact hr
  clear h hn
  by_cases hlt : r < 0
  · clear hr
    go_enter Try.func48, Try.ntmps48
    go_wp2_with fail
    go_ret
    exact ⟨-1, rfl, Below.refl _ _, .inl (by decide)⟩
  · have hge : 0 ≤ r := by omega
    have hF : Hid (r + (n : Int) = L) := Lib.hid (by omega)
    have hrL : r ≤ 1048576 := by omega
    clear hr hlt
    go_enter Try.func48, Try.ntmps48
    go_wp2_with fail
    go_loopw [1, 5] (fun l i wr => ∃ (k : Nat) (s : Int), l = .int .i64 s ∧ i = .int .i64 (k : Int) ∧ k ≤ n ∧ (0 ≤ s ∧ s ≤ 1048576) ∧ Hid (s + (totS (ps.take k) : Int) = r) ∧ Hid (Below w.heap.size w wr)) (fun _ i _ => n - (intOf i).toNat)
    case atStart => exact ⟨0, r, rfl, rfl, Nat.zero_le _, ⟨hge, hrL⟩, Lib.hid (by simp [totS]), Lib.hid (Below.refl _ _)⟩
    case round =>
      obtain ⟨k, s, rfl, rfl, hk, ⟨hs0, hs1⟩, HA, HX⟩ := hrel
      clear hw
      by_cases hlt : k < n
      · have hlt' : (k : Int) < (n : Int) := by omega
        have hk0 : (0 : Int) ≤ (k : Int) := by omega
        obtain ⟨b, off, pv, pu, p, rfl, hbb, hp, d0, d1, hpl⟩ := (HP.out wr HX.out).at_ hlt
        have HPP := Lib.hid hp
        have HPL := Lib.hid hpl
        clear hp hpl hbb
        go_wp2_with fail
        refine (szPlace_any wr pv pu p s hs0 (by omega) HPL.out).mono ?_
        rintro e w3 ⟨r2, rfl, b3, hs⟩
        have HX3 := Lib.hid (below_step HX.out b3 HX.out.size)
        clear b3 d0 d1
        rcases hs with hs | ⟨hs2, hq⟩
        · go_wp2_with fail
          go_ret
          exact ⟨-1, rfl, HX3.out, .inl (by decide)⟩
        · have hs3 : r2 ≤ 1048576 := by omega
          have HA2 : Hid (r2 + (totS (ps.take (k + 1)) : Int) = r) := Lib.hid (by have h1 := HA.out; rw [tot_take HPP.out]; omega)
          clear hq
          go_wp2_with fail
          go_roundw
          case rel => exact ⟨k + 1, r2, by go_num, by go_num, by omega, ⟨hs2, hs3⟩, HA2, HX3⟩
          case measure => simp [intOf]; omega
      · obtain rfl : k = n := by omega
        have hlt' : decide ((k : Int) < (k : Int)) = false := by simp
        go_wp2_with fail
        go_ret
        exact ⟨s, rfl, HX.out, .inr ⟨hs0, by
          have h1 := HA.out
          have h2 := hF.out
          have h3 := HN.out
          rw [h3, List.take_length] at h1
          omega⟩⟩

def SmDk (d : Dk) : Prop := tP d.1 + (d.2.length + totS d.2) ≤ 1048576

theorem SmDk.parts {d : Dk} (h : SmDk d) : SmPl d.1 ∧ d.2.length ≤ 1048576 ∧ ∀ p ∈ d.2, SmPl p := by
  unfold SmDk at h
  refine ⟨by unfold SmPl; omega, by omega, fun p hp => ?_⟩
  have := tot_mem hp
  unfold SmPl; omega

set_option maxHeartbeats 2000000 in
theorem szDesk_any {S : Nat → Prop} (w : World) (v u r : Value) (d : Dk) (L : Int) (h0 : 0 ≤ L) (h1 : L ≤ 1048576) (h : DkRd S w v u r d) :
    Calls Try.prog 25 #[.agg #[v, u, r], .int .i64 L] w (SzP (tP d.1 + (d.2.length + totS d.2)) L w) := by
  obtain ⟨W, eW⟩ : ∃ X, w.alloc (.cells #[v, u, r] 48) = X := ⟨_, rfl⟩
  have f1 : Blk W (w.heap.size) 48 #[v, u, r] := by
    rw [← eW]
    have h0 := heap_alloc_new w (.cells #[v, u, r] 48)
    exact h0
  have bW : Below w.heap.size w W := by rw [← eW]; exact (Below.refl _ _).alloc (by skip; omega) _
  have nW : W.heap.size = w.heap.size + 1 := by rw [← eW]; simp
  have HB := Lib.hid bW
  have HW := Lib.hid eW
  have HD : Hid (∀ wr, Below W.heap.size W wr → DkRd S wr v u r d ∧ Blk wr w.heap.size 48 #[v, u, r]) := Lib.hid (fun wr hb => ⟨(h.below bW).below hb, f1.below15 hb⟩)
  clear f1 bW eW nW h
  obtain ⟨hd, hb⟩ := HD.out W (Below.refl _ _)
  have c0 := hb.cell 0
  have c1 := hb.cell 1
  have HD1 := Lib.hid hd.1
  clear hd hb
  go_enter Try.func25, Try.ntmps25
  go_upto_region 1 with fail
  rw [HW.out]
  go_wp2_with fail
  refine (szPlace_any W v u d.1 L h0 h1 HD1.out).mono ?_
  rintro e w2 ⟨q, rfl, b2, hr⟩
  have HB2 := Lib.hid (below_step HB.out b2 HB.out.size)
  obtain ⟨hd, hb⟩ := HD.out w2 b2
  have HD2 := Lib.hid hd.2
  clear b2 c0 c1 hd
  rcases hr with hr | ⟨hr0, hq⟩
  · go_wp2_with fail
    go_ret
    exact ⟨-1, rfl, HB2.out, .inl (by decide)⟩
  · have hrL : q ≤ 1048576 := by omega
    have HQ := Lib.hid hq
    have c2 := hb.cell 2
    clear hq hb
    go_wp2_with fail
    refine (szPlaceS_any w2 r d.2 q hr0 hrL HD2.out).mono ?_
    rintro e w3 ⟨r2, rfl, b3, hs⟩
    have HB3 := Lib.hid (below_step HB2.out b3 HB2.out.size)
    clear b3 c2
    rcases hs with hs | ⟨hs0, hq⟩
    · go_wp2_with fail
      go_ret
      exact ⟨-1, rfl, HB3.out, .inl (by decide)⟩
    · have HQ2 := Lib.hid hq
      clear hq
      go_wp2_with fail
      go_ret
      exact ⟨r2, rfl, HB3.out, .inr ⟨hs0, by have h1 := HQ.out; have h2 := HQ2.out; omega⟩⟩

set_option maxRecDepth 100000 in
set_option maxHeartbeats 4000000 in
theorem toPlace_any {S : Nat → Prop} (w : World) (v u : Value) (p : Pl) (h : PlRd S w v u p) (hs : SmPl p) :
    Calls Try.prog 23 #[.agg #[v, u]] w (PlNew p w) := by
  obtain ⟨W, eW⟩ : ∃ X, ((w.alloc (.cells #[v, u] 42)).alloc (.cells #[.slice none 0 0, .slice none 0 0] 26)).alloc (.cells #[.slice none 0 0, .slice none 0 0] 26) = X := ⟨_, rfl⟩
  have f1 : Blk W (w.heap.size) 42 #[v, u] := by
    rw [← eW]
    have h0 := heap_alloc_new w (.cells #[v, u] 42)
    exact Blk.alloc (Blk.alloc (h0) _) _
  have f2 : Blk W (w.heap.size + 1) 26 #[.slice none 0 0, .slice none 0 0] := by
    rw [← eW]
    have h0 := heap_alloc_new (w.alloc (.cells #[v, u] 42)) (.cells #[.slice none 0 0, .slice none 0 0] 26)
    rw [World.size_alloc] at h0
    exact Blk.alloc (h0) _
  have f3 : Blk W (w.heap.size + 1 + 1) 26 #[.slice none 0 0, .slice none 0 0] := by
    rw [← eW]
    have h0 := heap_alloc_new ((w.alloc (.cells #[v, u] 42)).alloc (.cells #[.slice none 0 0, .slice none 0 0] 26)) (.cells #[.slice none 0 0, .slice none 0 0] 26)
    rw [World.size_alloc, World.size_alloc] at h0
    exact h0
  have bW : Below w.heap.size w W := by rw [← eW]; exact (((Below.refl _ _).alloc (by skip; omega) _).alloc (by rw [World.size_alloc]; omega) _).alloc (by rw [World.size_alloc, World.size_alloc]; omega) _
  have nW : W.heap.size = w.heap.size + 3 := by rw [← eW]; simp
  have HB := Lib.hid bW
  have HW := Lib.hid eW
  have HR1 : Hid (∀ X, Below w.heap.size w X → QRd X v p.1) := Lib.hid (fun X hb => h.1.1.keep (SameAt.of_below hb))
  have HR2 : Hid (∀ X, Below w.heap.size w X → IRd X u p.2) := Lib.hid (fun X hb => h.2.1.keep (SameAt.of_below hb))
  have F1 := Lib.hid f1
  have F2 := Lib.hid f2
  have F3 := Lib.hid f3
  have c0 := f1.cell 0
  have hq1 := hs.two.1
  have hq2 := hs.two.2
  clear h f1 f2 f3 bW eW hs
  go_enter Try.func23, Try.ntmps23
  go_upto_region 2 with fail
  rw [HW.out]
  go_wp2_with fail
  refine (toQuoteS_any W v p.1 (HR1.out W HB.out) (by omega)).mono ?_
  rintro e w1 ⟨v1, rfl, o1, b1⟩
  obtain ⟨A1, c1, rfl, -, -⟩ := (o1.rd qC_len).form
  have z1 := b1.size
  have G1 := Lib.hid (F1.out.below15 b1)
  have G2 := Lib.hid (F2.out.below15 b1)
  have g3 := F3.out.below15 b1
  have HB1 := Lib.hid (below_step HB.out b1 HB.out.size)
  have d0 := g3.cell 0
  have e0 := g3.frozen 0
  obtain ⟨X, hX⟩ : ∃ X, w1.setCell ⟨w.heap.size + 1 + 1, 0, none⟩ (.slice A1 p.1.length c1) = X := ⟨_, rfl⟩
  have gX : w1.grownBy X (some (w.heap.size + 1 + 1)) := by rw [← hX]; exact set1_grown _ _ _ _
  have zX := gX.size
  have G3 : Hid (Blk X (w.heap.size + 1 + 1) 26 #[.slice A1 p.1.length c1, .slice none 0 0]) := Lib.hid (by rw [← hX]; exact g3.set_ 0 _)
  have O1 := Lib.hid (o1.off gX (.inr (fun e => by have := (o1.ge _ e).1; omega)))
  have K1 := Lib.hid (G1.out.off gX (fun e => by have := Option.some.inj e; omega))
  have K2 := Lib.hid (G2.out.off gX (fun e => by have := Option.some.inj e; omega))
  have BX : Hid (Below w.heap.size w X) := Lib.hid (HB1.out.grown gX HB1.out.size (fun g hg => by have e := Option.some.inj hg; omega))
  have HX := Lib.hid hX
  clear g3 gX hX b1 o1 F1 F2 F3 c0
  have c1' := K1.out.cell 1
  go_upto_region 3 with fail
  rw [HX.out]
  clear d0 e0
  go_wp2_with fail
  refine (toIntS_any X u p.2 (HR2.out X BX.out) (by omega)).mono ?_
  rintro e w2 ⟨v5, rfl, o5, b5⟩
  obtain ⟨A5, c5, rfl, -, -, -⟩ := id o5.rd
  have z5 := b5.size
  have g3 := G3.out.below15 b5
  have g2 := K2.out.below15 b5
  have O2 := Lib.hid (O1.out.below b5)
  have HB2 := Lib.hid (below_step BX.out b5 BX.out.size)
  have d0 := g3.cell 1
  have e0 := g3.frozen 1
  obtain ⟨Y, hY⟩ : ∃ Y, w2.setCell ⟨w.heap.size + 1 + 1, 1, none⟩ (.slice A5 p.2.length c5) = Y := ⟨_, rfl⟩
  have gY : w2.grownBy Y (some (w.heap.size + 1 + 1)) := by rw [← hY]; exact set1_grown _ _ _ _
  have zY := gY.size
  have H3 : Blk Y (w.heap.size + 1 + 1) 26 #[.slice A1 p.1.length c1, .slice A5 p.2.length c5] := by rw [← hY]; exact g3.set_ 1 _
  have l1 : ∀ g, (Value.slice A1 p.1.length c1).ownBlock = some g → W.heap.size ≤ g ∧ g < w1.heap.size := fun g hg => ⟨(O1.out.ge g hg).1, by
    have h9 := (O1.out.ge g hg).2
    rw [← HX.out] at h9
    simpa using h9⟩
  have l5 : ∀ g, (Value.slice A5 p.2.length c5).ownBlock = some g → X.heap.size ≤ g := fun g hg => (o5.ge g hg).1
  have q1 := Lib.hid (O2.out.off gY (.inr (fun e => by have := (l1 _ e).1; omega)))
  have q5 := Lib.hid ((iown_g.1 o5).off gY (.inr (fun e => by have := l5 _ e; omega)))
  have FR := g2.off gY (fun e => by have := Option.some.inj e; omega)
  have HBY : Hid (Below w.heap.size w Y) := Lib.hid (HB2.out.grown gY HB2.out.size (fun g hg => by have e := Option.some.inj hg; omega))
  have HY := Lib.hid hY
  have ND : Hid (∀ g, (Value.slice A1 p.1.length c1).ownBlock = some g → (Value.slice A5 p.2.length c5).ownBlock ≠ some g) := Lib.hid (fun g hg e => by have := (l1 g hg).2; have := l5 g e; omega)
  clear g3 g2 gY hY b5 o5 c1' O1 O2
  go_upto_region 4 with fail
  rw [HY.out]
  clear d0 e0
  have m0 := H3.cell 0
  have m1 := H3.cell 1
  have z0 : Y.cell? ⟨w.heap.size + 1, 0, none⟩ = some (.slice none 0 0) := FR.cell 0
  have z1 : Y.cell? ⟨w.heap.size + 1, 1, none⟩ = some (.slice none 0 0) := FR.cell 1
  have y0 := FR.frozen 0
  have y1 := FR.frozen 1
  have gw : Y.grownBy ((Y.setCell ⟨w.heap.size + 1, 0, none⟩ (.slice A1 p.1.length c1)).setCell ⟨w.heap.size + 1, 1, none⟩ (.slice A5 p.2.length c5)) (some (w.heap.size + 1)) := grow3 (set1_grown _ _ _ _) (set1_grown _ _ _ _)
  have zsz : Y.heap.size ≤ ((Y.setCell ⟨w.heap.size + 1, 0, none⟩ (.slice A1 p.1.length c1)).setCell ⟨w.heap.size + 1, 1, none⟩ (.slice A5 p.2.length c5)).heap.size := gw.size
  have FZ : Blk ((Y.setCell ⟨w.heap.size + 1, 0, none⟩ (.slice A1 p.1.length c1)).setCell ⟨w.heap.size + 1, 1, none⟩ (.slice A5 p.2.length c5)) (w.heap.size + 1) 26 #[(.slice A1 p.1.length c1), (.slice A5 p.2.length c5)] := ((FR.set_ 0 _).set_ 1 _)
  have RES : Hid ((QOwn ((Y.setCell ⟨w.heap.size + 1, 0, none⟩ (.slice A1 p.1.length c1)).setCell ⟨w.heap.size + 1, 1, none⟩ (.slice A5 p.2.length c5)) w.heap.size (.slice A1 p.1.length c1) p.1 ∧ IOwn ((Y.setCell ⟨w.heap.size + 1, 0, none⟩ (.slice A1 p.1.length c1)).setCell ⟨w.heap.size + 1, 1, none⟩ (.slice A5 p.2.length c5)) w.heap.size (.slice A5 p.2.length c5) p.2) ∧ Below w.heap.size w ((Y.setCell ⟨w.heap.size + 1, 0, none⟩ (.slice A1 p.1.length c1)).setCell ⟨w.heap.size + 1, 1, none⟩ (.slice A5 p.2.length c5))) := Lib.hid (⟨⟨(q1.out.off gw (.inr (fun e => by have := (q1.out.ge _ e).1; omega))).base (by omega), iown_g.2 ((q5.out.off gw (.inr (fun e => by have := (q5.out.ge _ e).1; omega))).base (by omega))⟩, HBY.out.grown gw HBY.out.size (fun g hg => by have e := Option.some.inj hg; omega)⟩)
  clear gw
  go_wp2_with fail
  clear m0 m1
  clear z0 y0 z1 y1
  generalize ((Y.setCell ⟨w.heap.size + 1, 0, none⟩ (.slice A1 p.1.length c1)).setCell ⟨w.heap.size + 1, 1, none⟩ (.slice A5 p.2.length c5)) = Z at *
  have d0 : Z.cell? ⟨w.heap.size + 1, 0, none⟩ = some (.slice A1 p.1.length c1) := FZ.cell 0
  have d1 : Z.cell? ⟨w.heap.size + 1, 1, none⟩ = some (.slice A5 p.2.length c5) := FZ.cell 1
  refine bodyPost_ret (v := .agg #[.slice A1 p.1.length c1, .slice A5 p.2.length c5]) (by simp [results, Try.results23, go_sem, d0, d1]) rfl ?_
  exact ⟨_, _, rfl, RES.out.1.1, RES.out.1.2, ND.out, RES.out.2⟩

theorem cellB {w w' : World} {b o : Nat} {x : Value} (hb : Below w.heap.size w w') (hl : b < w.heap.size) (h : w.cell? ⟨b, o, none⟩ = some x) : w'.cell? ⟨b, o, none⟩ = some x := by rw [World.cell?_of_block (hb.block b hl)]; exact h

set_option maxHeartbeats 2000000 in
theorem eqPlace_any {S T : Nat → Prop} (w : World) (v u v' u' : Value) (p q : Pl) (h : PlRd S w v u p) (k : PlRd T w v' u' q) :
    Calls Try.prog 24 #[.agg #[v, u], .agg #[v', u']] w (BoolPost (decide (p = q)) w) := by
  obtain ⟨W, eW⟩ : ∃ X, (w.alloc (.cells #[v, u] 26)).alloc (.cells #[v', u'] 26) = X := ⟨_, rfl⟩
  have f1 : Blk W (w.heap.size) 26 #[v, u] := by
    rw [← eW]
    have h0 := heap_alloc_new w (.cells #[v, u] 26)
    exact Blk.alloc (h0) _
  have f2 : Blk W (w.heap.size + 1) 26 #[v', u'] := by
    rw [← eW]
    have h0 := heap_alloc_new (w.alloc (.cells #[v, u] 26)) (.cells #[v', u'] 26)
    rw [World.size_alloc] at h0
    exact h0
  have bW : Below w.heap.size w W := by rw [← eW]; exact ((Below.refl _ _).alloc (by skip; omega) _).alloc (by rw [World.size_alloc]; omega) _
  have nW : W.heap.size = w.heap.size + 2 := by rw [← eW]; simp
  have HB := Lib.hid bW
  have HW := Lib.hid eW
  have hp := h.below bW
  have hq := k.below bW
  have c0 := f1.cell 0
  have c2 := f2.cell 0
  have F1 := Lib.hid f1
  have F2 := Lib.hid f2
  have HP := Lib.hid hp
  have HQ := Lib.hid hq
  obtain ⟨t, ht⟩ : ∃ t, decide (p.1 = q.1) = t := ⟨_, rfl⟩
  have HT := Lib.hid ht
  clear f1 f2 bW eW nW h k hp hq ht
  go_enter Try.func24, Try.ntmps24
  go_upto_region 1 with fail
  rw [HW.out]
  go_wp2_with fail
  refine (eqQuoteS_any W v v' p.1 q.1 HP.out.1.1 HQ.out.1.1).mono ?_
  rintro e w2 ⟨rfl, b2⟩
  rw [HT.out]
  have HB2 := Lib.hid (below_step HB.out b2 HB.out.size)
  have HP2 := Lib.hid (HP.out.below b2)
  have HQ2 := Lib.hid (HQ.out.below b2)
  have G1 := F1.out.below15 b2
  have G2 := F2.out.below15 b2
  have c1 := G1.cell 1
  have c3 := G2.cell 1
  clear b2 c0 c2 G1 G2
  cases t
  · have HF : Hid (decide (p = q) = false) := Lib.hid (decide_eq_false (fun e => of_decide_eq_false HT.out (by rw [e])))
    go_wp2_with fail
    go_ret
    exact ⟨ret_bool HF.out.symm, HB2.out⟩
  · obtain ⟨t2, ht2⟩ : ∃ t, decide (p.2 = q.2) = t := ⟨_, rfl⟩
    have HT2 := Lib.hid ht2
    clear ht2
    have HF : Hid (decide (p = q) = t2) := Lib.hid (by
      rw [← HT2.out]
      exact decide_eq_decide.2 ⟨fun e => by rw [e], fun e => Prod.ext (of_decide_eq_true HT.out) e⟩)
    go_wp2_with fail
    refine (eqIntS_any w2 u u' p.2 q.2 HP2.out.2.1 HQ2.out.2.1).mono ?_
    rintro e w3 ⟨n3, rfl, rfl⟩
    rw [HT2.out]
    have HB3 := Lib.hid (below_drewN HB2.out n3)
    clear c1 c3
    cases t2
    · go_wp2_with fail
      go_ret
      exact ⟨ret_bool HF.out.symm, HB3.out⟩
    · go_wp2_with fail
      go_ret
      exact ⟨ret_bool HF.out.symm, HB3.out⟩

theorem pls_no {ps qs : List Pl} {k : Nat} {p q : Pl} (hp : ps[k]? = some p) (hq : qs[k]? = some q) (h : ¬ (p = q)) : decide (ps = qs) = false := decide_eq_false (fun e => h (by rw [e, hq] at hp; exact (Option.some.inj hp).symm))

set_option maxRecDepth 100000 in
set_option maxHeartbeats 8000000 in
theorem eqPlaceS_any {S T : Nat → Prop} (w : World) (v u : Value) (ps qs : List Pl) (h : PsRd S w v ps) (k : PsRd T w u qs) :
    Calls Try.prog 50 #[v, u] w (BoolPost (decide (ps = qs)) w) := by
  obtain ⟨A, c, rfl, hl, hm⟩ := h.form
  obtain ⟨A', c', rfl, hl', hm'⟩ := k.form
  obtain ⟨n, hn⟩ : ∃ n, n = ps.length := ⟨_, rfl⟩
  obtain ⟨m, hm2⟩ : ∃ m, m = qs.length := ⟨_, rfl⟩
  rw [← hn] at h hl ⊢
  rw [← hm2] at k hl' ⊢
  have HP : Hid (∀ wr, Below w.heap.size w wr → PsRd S wr (.slice A n c) ps) := Lib.hid (fun wr hb => h.below hb)
  have HQ : Hid (∀ wr, Below w.heap.size w wr → PsRd T wr (.slice A' m c') qs) := Lib.hid (fun wr hb => k.below hb)
  have HN := Lib.hid (And.intro hn hm2)
  clear h k hn hm2
  by_cases hnm : n = m
  · subst hnm
    go_enter Try.func50, Try.ntmps50
    go_wp2_with fail
    go_loopw [5] (fun i wr => ∃ k : Nat, i = .int .i64 (k : Int) ∧ k ≤ n ∧ Hid (ps.take k = qs.take k ∧ Below w.heap.size w wr)) (fun i _ => n - (intOf i).toNat)
    case atStart => exact ⟨0, rfl, Nat.zero_le _, Lib.hid ⟨rfl, Below.refl _ _⟩⟩
    case round =>
      obtain ⟨k, rfl, hk, HR⟩ := hrel
      by_cases hlt : k < n
      · have hlt' : (k : Int) < (n : Int) := by omega
        have hk0 : (0 : Int) ≤ (k : Int) := by omega
        obtain ⟨b, off, pv, pu, p, rfl, hbb, hp, d0, d1, hpl⟩ := (HP.out wr HR.out.2).at_ hlt
        obtain ⟨b', off', qv, qu, q, rfl, hbb', hq, d2, d3, hql⟩ := (HQ.out wr HR.out.2).at_ hlt
        have HC : Hid (∀ w', Below wr.heap.size wr w' → (w'.cell? ⟨b, off + k * 2, none⟩ = some pv ∧ w'.cell? ⟨b, off + k * 2 + 1, none⟩ = some pu) ∧ w'.cell? ⟨b', off' + k * 2, none⟩ = some qv ∧ w'.cell? ⟨b', off' + k * 2 + 1, none⟩ = some qu) := Lib.hid (fun w' hb => ⟨⟨cellB hb hbb d0, cellB hb hbb d1⟩, cellB hb hbb' d2, cellB hb hbb' d3⟩)
        have HPP := Lib.hid (And.intro hp hq)
        have HPL := Lib.hid (hpl.below (w' := wr.drew) (Below.refl _ _).drew)
        have HQL := Lib.hid (hql.below (w' := wr.drew) (Below.refl _ _).drew)
        have s0 : Below wr.heap.size wr wr.drew := (Below.refl _ _).drew
        obtain ⟨t, ht⟩ : ∃ t, decide (p = q) = t := ⟨_, rfl⟩
        have HT := Lib.hid ht
        clear hp hq hpl hql hbb hbb' d0 d1 d2 d3 ht
        go_upto_region 6 with fail
        refine wp_region_held_drew (S := fun w' => Below wr.heap.size wr w') (by kernel_rfl) s0 (fun hHeld => ?_)
        generalize wr.drew = X0 at *
        refine take_in (i := 0) (v := ?_) rfl (by kernel_rfl) (fun _ _ _ h => h) rfl ?_ hHeld ?_
        rotate_left
        · intro w' hSw; obtain ⟨⟨q0, q1⟩, q2, q3⟩ := HC.out w' hSw; go_simp; all_goals with_reducible rfl
        try simp only [Act.put, List.setIfInBounds_toArray, List.set_cons_zero, List.set_cons_succ]
        refine take_in (i := 1) (v := ?_) rfl (by kernel_rfl) (fun _ _ _ h => h) rfl ?_ hHeld ?_
        rotate_left
        · intro w' hSw; obtain ⟨⟨q0, q1⟩, q2, q3⟩ := HC.out w' hSw; go_simp; all_goals with_reducible rfl
        try simp only [Act.put, List.setIfInBounds_toArray, List.set_cons_zero, List.set_cons_succ]
        refine take_in (i := 2) (v := ?_) rfl (by kernel_rfl) (fun _ _ _ h => h) rfl ?_ hHeld ?_
        rotate_left
        · intro w' hSw; obtain ⟨⟨q0, q1⟩, q2, q3⟩ := HC.out w' hSw; go_simp; all_goals with_reducible rfl
        try simp only [Act.put, List.setIfInBounds_toArray, List.set_cons_zero, List.set_cons_succ]
        refine take_in (i := 3) (v := ?_) rfl (by kernel_rfl) (fun _ _ _ h => h) rfl ?_ hHeld ?_
        rotate_left
        · intro w' hSw; obtain ⟨⟨q0, q1⟩, q2, q3⟩ := HC.out w' hSw; go_simp; all_goals with_reducible rfl
        try simp only [Act.put, List.setIfInBounds_toArray, List.set_cons_zero, List.set_cons_succ]
        refine take_in (i := 4) (v := ?_) rfl (by kernel_rfl) (fun _ _ _ h => h) rfl ?_ hHeld ?_
        rotate_left
        · intro w' hSw; obtain ⟨⟨q0, q1⟩, q2, q3⟩ := HC.out w' hSw; go_simp; all_goals with_reducible rfl
        try simp only [Act.put, List.setIfInBounds_toArray, List.set_cons_zero, List.set_cons_succ]
        refine take_in (i := 5) (v := ?_) rfl (by kernel_rfl) (fun _ _ _ h => h) rfl ?_ hHeld ?_
        rotate_left
        · intro w' hSw; obtain ⟨⟨q0, q1⟩, q2, q3⟩ := HC.out w' hSw; go_simp; all_goals with_reducible rfl
        try simp only [Act.put, List.setIfInBounds_toArray, List.set_cons_zero, List.set_cons_succ]
        refine take_in (i := 6) (v := ?_) rfl (by kernel_rfl) (fun _ _ _ h => h) rfl ?_ hHeld ?_
        rotate_left
        · intro w' hSw; obtain ⟨⟨q0, q1⟩, q2, q3⟩ := HC.out w' hSw; go_simp; all_goals with_reducible rfl
        try simp only [Act.put, List.setIfInBounds_toArray, List.set_cons_zero, List.set_cons_succ]
        refine take_in (i := 7) (v := ?_) rfl (by kernel_rfl) (fun _ _ _ h => h) rfl ?_ hHeld ?_
        rotate_left
        · intro w' hSw; obtain ⟨⟨q0, q1⟩, q2, q3⟩ := HC.out w' hSw; go_simp; all_goals with_reducible rfl
        try simp only [Act.put, List.setIfInBounds_toArray, List.set_cons_zero, List.set_cons_succ]
        refine ready_one (i := 8) rfl (by kernel_rfl) (fun K hK => ?_)
        go_simp
        go_at_call 24
        refine (eqPlace_any X0 pv pu qv qu p q HPL.out HQL.out).mono ?_
        rintro ee X1 ⟨rfl, b1⟩
        rw [HT.out]
        have s1 := below_step s0 b1 s0.size
        refine hK.out _ _ s1 (fun hHeld => ?_)
        clear hK K b1 s0
        try simp only [Act.put, List.setIfInBounds_toArray, List.set_cons_zero, List.set_cons_succ]
        cases t
        · refine take_in (i := 9) (v := ?_) rfl (by kernel_rfl) (fun _ _ _ h => h) rfl ?_ hHeld ?_
          rotate_left
          · intro w' hSw; go_simp; all_goals with_reducible rfl
          try simp only [Act.put, List.setIfInBounds_toArray, List.set_cons_zero, List.set_cons_succ]
          have HF : Hid (decide (ps = qs) = false) := Lib.hid (pls_no HPP.out.1 HPP.out.2 (of_decide_eq_false HT.out))
          have HZ := Lib.hid (below_step HR.out.2 s1 HR.out.2.size)
          clear s1
          refine wpAnyH_done (by kernel_rfl) ?_ _
          go_wp2_with fail
          go_ret
          exact ⟨ret_bool HF.out.symm, HZ.out⟩
        · refine take_in (i := 9) (v := ?_) rfl (by kernel_rfl) (fun _ _ _ h => h) rfl ?_ hHeld ?_
          rotate_left
          · intro w' hSw; go_simp; all_goals with_reducible rfl
          try simp only [Act.put, List.setIfInBounds_toArray, List.set_cons_zero, List.set_cons_succ]
          have HZ : Hid (ps.take (k + 1) = qs.take (k + 1) ∧ Below w.heap.size w X1) := Lib.hid ⟨by rw [List.take_add_one, List.take_add_one, HR.out.1, HPP.out.1, HPP.out.2, of_decide_eq_true HT.out], below_step HR.out.2 s1 HR.out.2.size⟩
          clear s1
          refine wpAnyH_done (by kernel_rfl) ?_ _
          go_wp2_with fail
          go_roundw
          case rel => exact ⟨k + 1, by go_num, by omega, HZ⟩
          case measure => simp [intOf]; omega
      · obtain rfl : k = n := by omega
        have hlt' : decide ((k : Int) < (k : Int)) = false := by simp
        have HF : Hid (decide (ps = qs) = true) := Lib.hid (decide_eq_true (by
          have h1 := HR.out.1
          obtain ⟨e1, e2⟩ := HN.out
          rw [List.take_of_length_le (by omega), List.take_of_length_le (by omega)] at h1
          exact h1))
        go_wp2_with fail
        go_ret
        exact ⟨ret_bool HF.out.symm, HR.out.2⟩
  · have hnm' : ((n : Int) != (m : Int)) = true := by rw [bne_iff_ne]; omega
    have HF : Hid (decide (ps = qs) = false) := Lib.hid (decide_eq_false (fun e => hnm (by obtain ⟨e1, e2⟩ := HN.out; rw [e1, e2, e])))
    clear hnm
    go_enter Try.func50, Try.ntmps50
    go_wp2_with fail
    go_ret
    exact ⟨ret_bool HF.out.symm, Below.refl _ _⟩

set_option maxHeartbeats 2000000 in
theorem eqDesk_any {S T : Nat → Prop} (w : World) (v u r v' u' r' : Value) (d x : Dk) (h : DkRd S w v u r d) (k : DkRd T w v' u' r' x) :
    Calls Try.prog 27 #[.agg #[v, u, r], .agg #[v', u', r']] w (BoolPost (decide (d = x)) w) := by
  obtain ⟨W, eW⟩ : ∃ X, (w.alloc (.cells #[v, u, r] 29)).alloc (.cells #[v', u', r'] 29) = X := ⟨_, rfl⟩
  have f1 : Blk W (w.heap.size) 29 #[v, u, r] := by
    rw [← eW]
    have h0 := heap_alloc_new w (.cells #[v, u, r] 29)
    exact Blk.alloc (h0) _
  have f2 : Blk W (w.heap.size + 1) 29 #[v', u', r'] := by
    rw [← eW]
    have h0 := heap_alloc_new (w.alloc (.cells #[v, u, r] 29)) (.cells #[v', u', r'] 29)
    rw [World.size_alloc] at h0
    exact h0
  have bW : Below w.heap.size w W := by rw [← eW]; exact ((Below.refl _ _).alloc (by skip; omega) _).alloc (by rw [World.size_alloc]; omega) _
  have nW : W.heap.size = w.heap.size + 2 := by rw [← eW]; simp
  have HB := Lib.hid bW
  have HW := Lib.hid eW
  have hp := h.below bW
  have hq := k.below bW
  have c0 := f1.cell 0
  have c1 := f1.cell 1
  have c2 := f2.cell 0
  have c3 := f2.cell 1
  have F1 := Lib.hid f1
  have F2 := Lib.hid f2
  have HP := Lib.hid hp
  have HQ := Lib.hid hq
  obtain ⟨t, ht⟩ : ∃ t, decide (d.1 = x.1) = t := ⟨_, rfl⟩
  have HT := Lib.hid ht
  clear f1 f2 bW eW nW h k hp hq ht
  go_enter Try.func27, Try.ntmps27
  go_upto_region 1 with fail
  rw [HW.out]
  go_wp2_with fail
  refine (eqPlace_any W v u v' u' d.1 x.1 HP.out.1 HQ.out.1).mono ?_
  rintro e w2 ⟨rfl, b2⟩
  rw [HT.out]
  have HB2 := Lib.hid (below_step HB.out b2 HB.out.size)
  have HP2 := Lib.hid (HP.out.below b2)
  have HQ2 := Lib.hid (HQ.out.below b2)
  have G1 := F1.out.below15 b2
  have G2 := F2.out.below15 b2
  clear c0 c1 c2 c3 b2
  have c0 := G1.cell 2
  have c1 := G2.cell 2
  clear G1 G2
  cases t
  · have HF : Hid (decide (d = x) = false) := Lib.hid (decide_eq_false (fun e => of_decide_eq_false HT.out (by rw [e])))
    go_wp2_with fail
    go_ret
    exact ⟨ret_bool HF.out.symm, HB2.out⟩
  · obtain ⟨t2, ht2⟩ : ∃ t, decide (d.2 = x.2) = t := ⟨_, rfl⟩
    have HT2 := Lib.hid ht2
    clear ht2
    have HF : Hid (decide (d = x) = t2) := Lib.hid (by
      rw [← HT2.out]
      exact decide_eq_decide.2 ⟨fun e => by rw [e], fun e => Prod.ext (of_decide_eq_true HT.out) e⟩)
    go_wp2_with fail
    refine (eqPlaceS_any w2 r r' d.2 x.2 HP2.out.2 HQ2.out.2).mono ?_
    rintro e w3 ⟨rfl, b3⟩
    rw [HT2.out]
    have HB3 := Lib.hid (below_step HB2.out b3 HB2.out.size)
    clear c0 c1 b3
    cases t2
    · go_wp2_with fail
      go_ret
      exact ⟨ret_bool HF.out.symm, HB3.out⟩
    · go_wp2_with fail
      go_ret
      exact ⟨ret_bool HF.out.symm, HB3.out⟩

def ToPs (ps : List Pl) (w : World) (e : Ending) (w' : World) : Prop := ∃ us : List (Value × Value), e = .returned (.slice (some ⟨w.heap.size, 0, none⟩) ps.length ps.length) ∧ PsN w' w.heap.size (.slice (some ⟨w.heap.size, 0, none⟩) ps.length ps.length) us ps ∧ (us.flatMap pC).Pairwise Ap ∧ (∀ x ∈ us.flatMap pC, ∀ b, x.ownBlock = some b → w.heap.size + 1 ≤ b ∧ b < w'.heap.size) ∧ Below w.heap.size w w'

set_option maxRecDepth 100000 in
set_option maxHeartbeats 8000000 in
theorem toPlaceS_any {S : Nat → Prop} (w : World) (v : Value) (ps : List Pl) (h : PsRd S w v ps) (hn : ps.length ≤ 1048576) (hs : ∀ p ∈ ps, SmPl p) :
    Calls Try.prog 49 #[v] w (ToPs ps w) := by
  obtain ⟨A, c, rfl, hl, hm⟩ := h.form
  have HP : Hid (∀ wr, Below w.heap.size w wr → PsRd S wr (.slice A ps.length c) ps) := Lib.hid (fun wr hb => h.below hb)
  have HS := Lib.hid hs
  clear h hs
  obtain ⟨i0, hi, hz0, hz1, hz2⟩ := info_parts Try_placeinfo
  go_enter Try.func49, Try.ntmps49
  go_wp2_with (at_make; refine wpList_make_full _ rfl _ _ 27 rfl w.heap.size 26 i0 (.agg #[.slice none 0 0, .slice none 0 0]) 2 Try.underlying27 hi hz0 hz1 .i64 .i64 _ _ ps.length rfl rfl rfl rfl ?b2 ?b3 (Nat.le_refl _) ?_)
  case b2 => first | omega | (rw [hz2]; omega)
  case b3 => unfold maxLen; omega
  intro w0 hown0 hgrow0
  have hb0 : Below w.heap.size w w0 := (Below.refl _ w).grown hgrow0 (Nat.le_refl _) (fun g hg => by cases hg)
  have hlt0 : w.heap.size < w0.heap.size := by
    rcases hown0.2 with ⟨e, -⟩ | ⟨g, cap, cur, e, -, hg, -⟩
    · cases e
    · injection e with e1
      injection e1 with e1
      injection e1 with e1
      rw [← e1] at hg
      rcases Nat.lt_or_ge w.heap.size w0.heap.size with h1 | h1
      · exact h1
      · rw [Array.getElem?_eq_none h1] at hg; cases hg
  have H0 : Hid (PsUp w0 w.heap.size w.heap.size ps.length 0 [] ps ∧ Below w.heap.size w w0) := Lib.hid ⟨PsUp.start hown0 rfl (Nat.le_refl _) hlt0, hb0⟩
  clear hown0 hgrow0 hi hz0 hz1 hz2 hb0 hlt0
  go_wp2_with fail
  go_loopw [4] (fun i wr => ∃ (k : Nat) (us : List (Value × Value)), i = .int .i64 k ∧ k ≤ ps.length ∧ Hid (PsUp wr w.heap.size w.heap.size ps.length k us ps ∧ Below w.heap.size w wr)) (fun i _ => ps.length - (intOf i).toNat)
  case atStart => exact ⟨0, [], rfl, Nat.zero_le _, H0⟩
  case round =>
    obtain ⟨k, us, rfl, hk, H⟩ := hrel
    clear H0
    by_cases hlt : k < ps.length
    · have hlt' : (k : Int) < (ps.length : Int) := by omega
      have hk0 : (0 : Int) ≤ (k : Int) := by omega
      obtain ⟨b, off, pv, pu, p, rfl, hbb, hp, d0, d1, hpl⟩ := (HP.out wr H.out.2).at_ hlt
      have HX := Lib.hid hp
      have HPL := Lib.hid hpl
      clear hp hpl hbb
      go_wp2_with fail
      refine (toPlace_any wr pv pu p HPL.out (HS.out p (List.mem_of_getElem? HX.out))).mono ?_
      rintro r w2 ⟨v1, u1, rfl, oq, oi, nd, b2⟩
      obtain ⟨A1, c1, rfl, -, -⟩ := (oq.rd qC_len).form
      obtain ⟨A5, c5, rfl, -, -, -⟩ := id oi.rd
      have HU := Lib.hid (H.out.1.below b2)
      have HST : Hid (PsUp ((w2.setCell ⟨w.heap.size, k * 2, none⟩ (.slice A1 p.1.length c1)).setCell ⟨w.heap.size, k * 2 + 1, none⟩ (.slice A5 p.2.length c5)) w.heap.size w.heap.size ps.length (k + 1) (us ++ [(.slice A1 p.1.length c1, .slice A5 p.2.length c5)]) ps ∧ Below w.heap.size w ((w2.setCell ⟨w.heap.size, k * 2, none⟩ (.slice A1 p.1.length c1)).setCell ⟨w.heap.size, k * 2 + 1, none⟩ (.slice A5 p.2.length c5))) := Lib.hid ⟨H.out.1.step hlt rfl HX.out b2 oq oi nd, ((below_step H.out.2 b2 H.out.2.size).setCell (Nat.le_refl _) _).setCell (Nat.le_refl _) _⟩
      obtain ⟨⟨hf0, o0, ho0⟩, hf1, o1, ho1⟩ := HU.out.old hlt
      clear b2 d0 d1 H oq oi nd
      go_wp2_with fail
      go_roundw
      case rel => exact ⟨k + 1, _, by go_num, by omega, HST⟩
      case measure => simp [intOf]; omega
    · obtain rfl : k = ps.length := by omega
      go_wp2_with fail
      go_ret
      obtain ⟨e1, e2, e3⟩ := H.out.1.all rfl
      exact ⟨us, rfl, e1, e2, e3, H.out.2⟩

end Go.Proofs.Ytebebcomhdjihaa

namespace Go.Proofs.Ytebebcomhdjihaa
open Go.RowKit
set_option linter.unusedVariables false

set_option maxRecDepth 100000 in
set_option maxHeartbeats 8000000 in
theorem toDesk_any {S : Nat → Prop} (w : World) (v u r : Value) (d : Dk) (h : DkRd S w v u r d) (hs : SmDk d) :
    Calls Try.prog 26 #[.agg #[v, u, r]] w (DkPo d w) := by
  obtain ⟨W, eW⟩ : ∃ X, ((w.alloc (.cells #[v, u, r] 48)).alloc (.cells #[.slice none 0 0, .slice none 0 0, .slice none 0 0] 29)).alloc (.cells #[.slice none 0 0, .slice none 0 0, .slice none 0 0] 29) = X := ⟨_, rfl⟩
  have f1 : Blk W (w.heap.size) 48 #[v, u, r] := by
    rw [← eW]
    have h0 := heap_alloc_new w (.cells #[v, u, r] 48)
    exact Blk.alloc (Blk.alloc (h0) _) _
  have f2 : Blk W (w.heap.size + 1) 29 #[.slice none 0 0, .slice none 0 0, .slice none 0 0] := by
    rw [← eW]
    have h0 := heap_alloc_new (w.alloc (.cells #[v, u, r] 48)) (.cells #[.slice none 0 0, .slice none 0 0, .slice none 0 0] 29)
    rw [World.size_alloc] at h0
    exact Blk.alloc (h0) _
  have f3 : Blk W (w.heap.size + 1 + 1) 29 #[.slice none 0 0, .slice none 0 0, .slice none 0 0] := by
    rw [← eW]
    have h0 := heap_alloc_new ((w.alloc (.cells #[v, u, r] 48)).alloc (.cells #[.slice none 0 0, .slice none 0 0, .slice none 0 0] 29)) (.cells #[.slice none 0 0, .slice none 0 0, .slice none 0 0] 29)
    rw [World.size_alloc, World.size_alloc] at h0
    exact h0
  have bW : Below w.heap.size w W := by rw [← eW]; exact (((Below.refl _ _).alloc (by skip; omega) _).alloc (by rw [World.size_alloc]; omega) _).alloc (by rw [World.size_alloc, World.size_alloc]; omega) _
  have nW : W.heap.size = w.heap.size + 3 := by rw [← eW]; simp
  have HB := Lib.hid bW
  have HW := Lib.hid eW
  have HR : Hid (∀ X, Below w.heap.size w X → DkRd S X v u r d) := Lib.hid (fun X hb => h.below hb)
  have F1 := Lib.hid f1
  have F2 := Lib.hid f2
  have F3 := Lib.hid f3
  have c0 := f1.cell 0
  have c1 := f1.cell 1
  have HS := Lib.hid hs
  clear h f1 f2 f3 bW eW hs
  go_enter Try.func26, Try.ntmps26
  go_upto_region 2 with fail
  rw [HW.out]
  go_wp2_with fail
  refine (toPlace_any W v u d.1 (HR.out W HB.out).1 HS.out.parts.1).mono ?_
  rintro e w1 ⟨v1, u1, rfl, oq, oi, nd, b1⟩
  obtain ⟨A1, k1, rfl, -, -⟩ := (oq.rd qC_len).form
  obtain ⟨A5, k5, rfl, -, -, -⟩ := id oi.rd
  have z1 := b1.size
  have G1 := F1.out.below15 b1
  have G2 := F2.out.below15 b1
  have g3 := F3.out.below15 b1
  have HB1 := Lib.hid (below_step HB.out b1 HB.out.size)
  have d0 := g3.cell 0
  have e0 := g3.frozen 0
  have d1 := g3.cell 1
  have e1 := g3.frozen 1
  obtain ⟨X, hX⟩ : ∃ X, (w1.setCell ⟨w.heap.size + 1 + 1, 0, none⟩ (.slice A1 d.1.1.length k1)).setCell ⟨w.heap.size + 1 + 1, 1, none⟩ (.slice A5 d.1.2.length k5) = X := ⟨_, rfl⟩
  have gX : w1.grownBy X (some (w.heap.size + 1 + 1)) := by rw [← hX]; exact grow3 (set1_grown _ _ _ _) (set1_grown _ _ _ _)
  have zX : w1.heap.size ≤ X.heap.size := by rw [← hX]; simp
  have zX2 : X.heap.size ≤ w1.heap.size := by rw [← hX]; simp
  have G3 : Hid (Blk X (w.heap.size + 1 + 1) 29 #[(.slice A1 d.1.1.length k1), (.slice A5 d.1.2.length k5), .slice none 0 0]) := Lib.hid (by rw [← hX]; exact (g3.set_ 0 _).set_ 1 _)
  have l1 : ∀ g, (Value.slice A1 d.1.1.length k1).ownBlock = some g → W.heap.size ≤ g ∧ g < w1.heap.size := oq.ge
  have l5 : ∀ g, (Value.slice A5 d.1.2.length k5).ownBlock = some g → W.heap.size ≤ g ∧ g < w1.heap.size := oi.ge
  have O1 : Hid (PlN X W.heap.size (.slice A1 d.1.1.length k1) (.slice A5 d.1.2.length k5) d.1) := Lib.hid ⟨oq.off gX (.inr (fun e => by have := (l1 _ e).1; omega)), iown_g.2 ((iown_g.1 oi).off gX (.inr (fun e => by have := (l5 _ e).1; omega)))⟩
  have K1 := Lib.hid (G1.off gX (fun e => by have := Option.some.inj e; omega))
  have K2 := Lib.hid (G2.off gX (fun e => by have := Option.some.inj e; omega))
  have BX : Hid (Below w.heap.size w X) := Lib.hid (HB1.out.grown gX HB1.out.size (fun g hg => by have e := Option.some.inj hg; omega))
  have ND := Lib.hid nd
  have L1 := Lib.hid l1
  have L5 := Lib.hid l5
  have HX := Lib.hid hX
  clear g3 gX hX b1 oq oi F1 F2 F3 c0 c1 nd l1 l5 G1 G2
  have c2 := K1.out.cell 2
  go_upto_region 3 with fail
  rw [HX.out]
  clear d0 e0 d1 e1
  go_wp2_with fail
  refine (toPlaceS_any X r d.2 (HR.out X BX.out).2 HS.out.parts.2.1 HS.out.parts.2.2).mono ?_
  rintro e w2 ⟨us, rfl, pn, pap, pbl, b5⟩
  have z5 := b5.size
  have g3 := G3.out.below15 b5
  have g2 := K2.out.below15 b5
  have O2 := O1.out.below b5
  have HB2 := Lib.hid (below_step BX.out b5 BX.out.size)
  have d0 := g3.cell 2
  have e0 := g3.frozen 2
  obtain ⟨n, hn⟩ : ∃ n, d.2.length = n := ⟨_, rfl⟩
  rw [hn] at pn
  rw [hn]
  obtain ⟨Y, hY⟩ : ∃ Y, w2.setCell ⟨w.heap.size + 1 + 1, 2, none⟩ (.slice (some ⟨X.heap.size, 0, none⟩) n n) = Y := ⟨_, rfl⟩
  have gY : w2.grownBy Y (some (w.heap.size + 1 + 1)) := by rw [← hY]; exact set1_grown _ _ _ _
  have zY := gY.size
  have H3 : Blk Y (w.heap.size + 1 + 1) 29 #[(.slice A1 d.1.1.length k1), (.slice A5 d.1.2.length k5), (.slice (some ⟨X.heap.size, 0, none⟩) n n)] := by rw [← hY]; exact g3.set_ 2 _
  have FR := g2.off gY (fun e => by have := Option.some.inj e; omega)
  have HBY : Hid (Below w.heap.size w Y) := Lib.hid (HB2.out.grown gY HB2.out.size (fun g hg => by have e := Option.some.inj hg; omega))
  have HDN : Hid (DkN w2 W.heap.size (.slice A1 d.1.1.length k1) (.slice A5 d.1.2.length k5) (.slice (some ⟨X.heap.size, 0, none⟩) n n) d) := Lib.hid (dkN_mk O2 (pn.base (by omega)) ND.out pap (fun x hx b hb => (pbl x hx b hb).1)
    (fun x hx g hg e => by
      have h1 := (L1.out g hg).2
      rcases List.mem_cons.1 hx with rfl | hx
      · have h2 : X.heap.size = g := Option.some.inj e
        omega
      · have := (pbl x hx g e).1; omega)
    (fun x hx g hg e => by
      have h1 := (L5.out g hg).2
      rcases List.mem_cons.1 hx with rfl | hx
      · have h2 : X.heap.size = g := Option.some.inj e
        omega
      · have := (pbl x hx g e).1; omega))
  have HDY := Lib.hid (HDN.out.off gY (by omega))
  have HY := Lib.hid hY
  clear g3 g2 gY hY b5 O2 c2 pn pap pbl hn HDN
  go_upto_region 4 with fail
  rw [HY.out]
  clear d0 e0
  have m0 := H3.cell 0
  have m1 := H3.cell 1
  have m2 := H3.cell 2
  have z0 : Y.cell? ⟨w.heap.size + 1, 0, none⟩ = some (.slice none 0 0) := FR.cell 0
  have z1 : Y.cell? ⟨w.heap.size + 1, 1, none⟩ = some (.slice none 0 0) := FR.cell 1
  have z2 : Y.cell? ⟨w.heap.size + 1, 2, none⟩ = some (.slice none 0 0) := FR.cell 2
  have y0 := FR.frozen 0
  have y1 := FR.frozen 1
  have y2 := FR.frozen 2
  have gw : Y.grownBy (((Y.setCell ⟨w.heap.size + 1, 0, none⟩ (.slice A1 d.1.1.length k1)).setCell ⟨w.heap.size + 1, 1, none⟩ (.slice A5 d.1.2.length k5)).setCell ⟨w.heap.size + 1, 2, none⟩ (.slice (some ⟨X.heap.size, 0, none⟩) n n)) (some (w.heap.size + 1)) := set3_grown _ _ _ _ _
  have zsz : Y.heap.size ≤ (((Y.setCell ⟨w.heap.size + 1, 0, none⟩ (.slice A1 d.1.1.length k1)).setCell ⟨w.heap.size + 1, 1, none⟩ (.slice A5 d.1.2.length k5)).setCell ⟨w.heap.size + 1, 2, none⟩ (.slice (some ⟨X.heap.size, 0, none⟩) n n)).heap.size := gw.size
  have FZ : Blk (((Y.setCell ⟨w.heap.size + 1, 0, none⟩ (.slice A1 d.1.1.length k1)).setCell ⟨w.heap.size + 1, 1, none⟩ (.slice A5 d.1.2.length k5)).setCell ⟨w.heap.size + 1, 2, none⟩ (.slice (some ⟨X.heap.size, 0, none⟩) n n)) (w.heap.size + 1) 29 #[(.slice A1 d.1.1.length k1), (.slice A5 d.1.2.length k5), (.slice (some ⟨X.heap.size, 0, none⟩) n n)] := (((FR.set_ 0 _).set_ 1 _).set_ 2 _)
  have RES : Hid (DkN (((Y.setCell ⟨w.heap.size + 1, 0, none⟩ (.slice A1 d.1.1.length k1)).setCell ⟨w.heap.size + 1, 1, none⟩ (.slice A5 d.1.2.length k5)).setCell ⟨w.heap.size + 1, 2, none⟩ (.slice (some ⟨X.heap.size, 0, none⟩) n n)) w.heap.size (.slice A1 d.1.1.length k1) (.slice A5 d.1.2.length k5) (.slice (some ⟨X.heap.size, 0, none⟩) n n) d ∧ Below w.heap.size w (((Y.setCell ⟨w.heap.size + 1, 0, none⟩ (.slice A1 d.1.1.length k1)).setCell ⟨w.heap.size + 1, 1, none⟩ (.slice A5 d.1.2.length k5)).setCell ⟨w.heap.size + 1, 2, none⟩ (.slice (some ⟨X.heap.size, 0, none⟩) n n))) := Lib.hid (⟨(HDY.out.off gw (by omega)).base (by omega), HBY.out.grown gw HBY.out.size (fun g hg => by have e := Option.some.inj hg; omega)⟩)
  clear gw
  go_wp2_with fail
  clear m0 m1 m2
  clear z0 y0 z1 y1 z2 y2
  generalize (((Y.setCell ⟨w.heap.size + 1, 0, none⟩ (.slice A1 d.1.1.length k1)).setCell ⟨w.heap.size + 1, 1, none⟩ (.slice A5 d.1.2.length k5)).setCell ⟨w.heap.size + 1, 2, none⟩ (.slice (some ⟨X.heap.size, 0, none⟩) n n)) = Z at *
  have d0 : Z.cell? ⟨w.heap.size + 1, 0, none⟩ = some (.slice A1 d.1.1.length k1) := FZ.cell 0
  have d1 : Z.cell? ⟨w.heap.size + 1, 1, none⟩ = some (.slice A5 d.1.2.length k5) := FZ.cell 1
  have d2 : Z.cell? ⟨w.heap.size + 1, 2, none⟩ = some (.slice (some ⟨X.heap.size, 0, none⟩) n n) := FZ.cell 2
  refine bodyPost_ret (v := .agg #[(.slice A1 d.1.1.length k1), (.slice A5 d.1.2.length k5), (.slice (some ⟨X.heap.size, 0, none⟩) n n)]) (by simp [results, Try.results26, go_sem, d0, d1, d2]) rfl ?_
  exact ⟨_, _, _, rfl, RES.out.1, RES.out.2⟩

end Go.Proofs.Ytebebcomhdjihaa

namespace Go.Proofs.Ytebebcomhdjihaa
open Go.RowKit
set_option linter.unusedVariables false

def LeftIs (xs : List Int) (k : Nat) (n : Int) : Prop := (∀ y ∈ xs.take k, 0 ≤ y ∧ y ≤ 36) ∧ n = 36 - (xs.take k).sum ∧ 0 ≤ n ∧ n ≤ 36

theorem LeftIs.step {xs : List Int} {k : Nat} {n x : Int} (h : LeftIs xs k n) (hx : xs[k]? = some x) (h0 : 0 ≤ x) (h1 : x ≤ n) : LeftIs xs (k + 1) (n - x) := by
  obtain ⟨a, b, c, d⟩ := h
  refine ⟨allm_take hx ((inB_iff _ _ _).2 (by omega)) a, ?_, by omega, by omega⟩
  rw [sum_take hx]; omega

theorem on_next {m : List Int} (hm : Grs m) {k : Nat} {x : Int} (hx : m[k]? = some x) (e : Int) :
    ((bitI e k == 1) = true → onI (m.take k) e + x = onI (m.take (k + 1)) e) ∧ ((bitI e k == 1) = false → onI (m.take k) e = onI (m.take (k + 1)) e) := by
  have h1 := onI_take hx e
  rcases bitI_01 e k with h | h
  · rw [h] at h1; rw [h]
    refine ⟨fun h2 => by simp at h2, fun _ => by rw [h1]; omega⟩
  · rw [h] at h1; rw [h]
    refine ⟨fun _ => by rw [h1]; omega, fun h2 => by simp at h2⟩

set_option maxHeartbeats 2000000 in
theorem implGrains_any (w : World) (v : Value) (m : List Int) (e : Int) (hv : IRd w v m) (hm : Grs m) (e1 : 0 ≤ e) (e2 : e ≤ 15) :
    Calls Try.prog 103 #[v, .int .i64 e] w fun r w' => r = .returned (.int .i64 (onI m e)) ∧ w = w' := by
  obtain ⟨A, c, rfl, hl, hmx, -⟩ := id hv
  have HV := Lib.hid hv
  have HM := Lib.hid hm
  have hm4 := hm.2
  clear hv hm
  go_enter Try.func103, Try.ntmps103
  go_wp2_with fail
  go_loop [5, 10] (fun t i => ∃ (k : Nat) (n : Int), i = .int .i64 (k : Int) ∧ k ≤ m.length ∧ t = .int .i64 n ∧ Hid (n = onI (m.take k) e)) (fun _ i => m.length - (intOf i).toNat)
  case atStart => exact ⟨0, 0, rfl, Nat.zero_le _, rfl, Lib.hid (by simp [onI])⟩
  case round =>
    obtain ⟨k, n, rfl, hk, rfl, HN⟩ := hrel
    by_cases hlt : k < m.length
    · obtain ⟨b, off, x, rfl, -, hx, hcx⟩ := HV.out.at_ hlt
      have HX := Lib.hid (on_next HM.out hx e)
      obtain ⟨x1, x2⟩ := HM.out.1 x (List.mem_of_getElem? hx)
      obtain ⟨n1, n2⟩ : 0 ≤ n ∧ n ≤ 144 := by rw [HN.out]; exact grs_on HM.out e k
      clear hx
      rcases Bool.eq_false_or_eq_true (bitI e k == 1) with hb | hb
      all_goals
        have HB1 := Lib.hid hb
        go_wp2_with (go_at_call 105; refine (hasQ_any _ _ e1 e2 (by omega) _).mono ?_; rintro r w' ⟨rfl, rfl⟩)
        go_round
        case rel => exact ⟨k + 1, _, by go_num, by omega, rfl, Lib.hid (by rw [HN.out]; first | exact HX.out.1 HB1.out | exact HX.out.2 HB1.out)⟩
        case measure => simp [intOf]; omega
    · go_wp2_with fail
      go_ret
      exact ⟨ret_int (by rw [HN.out, List.take_of_length_le (by omega)]), rfl⟩

end Go.Proofs.Ytebebcomhdjihaa

namespace Go.Proofs.Ytebebcomhdjihaa
open Go.RowKit
set_option linter.unusedVariables false

def fitF (B : Nat) : Value := .func (.func 102) #[] #[.pointer (some ⟨B, 0, none⟩)]

set_option maxHeartbeats 4000000 in
theorem fit1_any (W : World) (so : Bool) (q : Qt) (B : Nat) (v : Value) (m : List Int) (hB : W.cell? ⟨B, 0, none⟩ = some v) (hv : IRd W v m) (hm : Grs m) (hq : (0 ≤ q.1 ∧ q.1 ≤ 15) ∧ 0 ≤ q.2 ∧ q.2 ≤ 6) :
    Calls Try.prog 102 #[.bool so, qV q, .pointer (some ⟨B, 0, none⟩)] W fun r W' => r = .returned (.bool (so && (onI m q.1 * 6 == q.2 * 36))) ∧ Below W.heap.size W W' := by
  obtain ⟨e, p⟩ := q
  unfold qV
  obtain ⟨⟨e1, e2⟩, p1, p2⟩ := hq
  have e1 : 0 ≤ e := e1
  have e2 : e ≤ 15 := e2
  have p1 : 0 ≤ p := p1
  have p2 : p ≤ 6 := p2
  have hlt : B < W.heap.size := World.block_lt_of_cell? W _ hB
  have HLT := Lib.hid hlt
  have HBw : Hid (Below W.heap.size W (W.alloc (.cells #[.int .i64 e, .int .i64 p] 64))) := Lib.hid ((Below.refl _ _).alloc (Nat.le_refl _) _)
  have HC : Hid ((W.alloc (.cells #[.int .i64 e, .int .i64 p] 64)).cell? ⟨W.heap.size, 0, none⟩ = some (.int .i64 e) ∧ (W.alloc (.cells #[.int .i64 e, .int .i64 p] 64)).cell? ⟨W.heap.size, 1, none⟩ = some (.int .i64 p)) := Lib.hid (box_cells (W := W) (q := (e, p)) (Below.refl _ _))
  have HCB : Hid ((W.alloc (.cells #[.int .i64 e, .int .i64 p] 64)).cell? ⟨B, 0, none⟩ = some v) := Lib.hid ((HBw.out.cell (p := ⟨B, 0, none⟩) hlt).trans hB)
  have HV := Lib.hid (hv.keep (SameAt.of_below HBw.out))
  have HM := Lib.hid hm
  clear hB hv hm hlt
  obtain ⟨N, hN⟩ : ∃ N, onI m e = N := ⟨_, rfl⟩
  obtain ⟨n1, n2⟩ : 0 ≤ N ∧ N ≤ 144 := by
    have := grs_on HM.out e m.length
    rw [List.take_length, hN] at this
    exact this
  have HNN := Lib.hid hN
  clear hN
  have hw6 : IntKind.i64.wrap (N * 6) = N * 6 := IntWalk.i64_in _ (by omega)
  have hw36 : IntKind.i64.wrap (p * 36) = p * 36 := IntWalk.i64_in _ (by omega)
  cases so
  · go_enter Try.func102, Try.ntmps102
    go_wp2_with fail
    generalize W.alloc (.cells #[.int .i64 e, .int .i64 p] 64) = w1 at HBw HC HCB HV ⊢
    go_region
    go_wp2_with fail
    go_ret
    exact ⟨ret_bool rfl, HBw.out.drew⟩
  · rcases Bool.eq_false_or_eq_true (N * 6 == p * 36) with ht | ht
    all_goals
      have HT := Lib.hid ht
      have ht3 := ht
      rw [← hw6, ← hw36] at ht3
      go_enter Try.func102, Try.ntmps102
      go_wp2_with fail
      generalize W.alloc (.cells #[.int .i64 e, .int .i64 p] 64) = w1 at HBw HC HCB HV ⊢
      go_region_held3 (fun w' => w'.cell? ⟨B, 0, none⟩ = some v ∧ w'.cell? ⟨W.heap.size, 0, none⟩ = some (.int .i64 e) ∧ w'.cell? ⟨W.heap.size, 1, none⟩ = some (.int .i64 p)) (exact ⟨HCB.out, HC.out⟩) (first
        | (go_at_call 103; refine (implGrains_any w1.drew _ m e HV.out HM.out e1 e2).mono ?_; rintro r w3 ⟨rfl, rfl⟩; rw [HNN.out]))
      all_goals
        go_wp2_with fail
        go_ret
        exact ⟨ret_bool (by rw [Bool.true_and]; show _ = (onI m e * 6 == p * 36); rw [HNN.out]; exact HT.out.symm), HBw.out.drew⟩

theorem fit_step {m : List Int} {qs : List Qt} {k : Nat} {q : Qt} (hx : qs[k]? = some q) : fitI m (qs.take (k + 1)) = (fitI m (qs.take k) && (onI m q.1 * 6 == q.2 * 36)) := by
  rw [fitI, fitI, List.take_add_one, hx]
  simp

set_option maxHeartbeats 4000000 in
theorem foldFit_any (w : World) (u : Value) (qs : List Qt) (B : Nat) (v : Value) (m : List Int) (hu : QRd w u qs) (hB : w.cell? ⟨B, 0, none⟩ = some v) (hv : IRd w v m) (hm : Grs m) (hq : Qts qs) :
    Calls Try.prog 101 #[u, .bool true, fitF B] w (BoolPost (fitI m qs) w) := by
  obtain ⟨A, c, rfl, hl, hmx⟩ := hu.form
  have hlt : B < w.heap.size := World.block_lt_of_cell? w _ hB
  have HK : Hid (∀ wr o, Below w.heap.size w wr → (wr.alloc o).cell? ⟨B, 0, none⟩ = some v ∧ IRd (wr.alloc o) v m) := Lib.hid (fun wr o hb => by
    have hb2 := hb.alloc hb.size o
    exact ⟨(hb2.cell (p := ⟨B, 0, none⟩) hlt).trans hB, hv.keep (SameAt.of_below hb2)⟩)
  have HU := Lib.hid hu
  have HM := Lib.hid hm
  have HQ := Lib.hid hq
  clear hu hm hq hB hv hlt
  unfold fitF
  go_enter Try.func101, Try.ntmps101
  go_wp2_with fail
  go_loopw [1, 11] (fun t i wr => ∃ (k : Nat) (b : Bool), i = .int .i64 (k : Int) ∧ k ≤ qs.length ∧ t = .bool b ∧ Hid (b = fitI m (qs.take k)) ∧ Hid (Below w.heap.size w wr)) (fun _ i _ => qs.length - (intOf i).toNat)
  case atStart => exact ⟨0, true, rfl, Nat.zero_le _, rfl, Lib.hid (by simp [fitI]), Lib.hid (Below.refl _ _)⟩
  case round =>
    obtain ⟨k, t, rfl, hk, rfl, HN, HB⟩ := hrel
    by_cases hlt : k < qs.length
    · obtain ⟨b, off, ⟨e, p⟩, rfl, -, hx, hc0, hc1⟩ := QRd.at_ (HU.out.keep (SameAt.of_below HB.out)) hlt
      have HX := Lib.hid hx
      clear hx
      have HE := Lib.hid (HQ.out _ (List.mem_of_getElem? HX.out))
      go_wp2_with fail
      refine (fit1_any _ t (e, p) B v m (HK.out wr _ HB.out).1 (HK.out wr _ HB.out).2 HM.out HE.out).mono ?_
      rintro r w2 ⟨rfl, b2⟩
      have HB2 : Hid (Below w.heap.size w w2) := Lib.hid (below_step (HB.out.alloc HB.out.size _) b2 (by simp; have := HB.out.size; omega))
      clear b2 hc0 hc1
      obtain ⟨t2, ht2⟩ : ∃ t2, (t && (onI m (e, p).1 * 6 == (e, p).2 * 36)) = t2 := ⟨_, rfl⟩
      rw [ht2]
      have HT2 := Lib.hid ht2
      clear ht2
      go_wp2_with fail
      go_roundw
      case rel => exact ⟨k + 1, t2, by go_num, by omega, rfl, Lib.hid (by rw [fit_step HX.out, ← HN.out]; exact HT2.out.symm), HB2⟩
      case measure => simp [intOf]; omega
    · go_wp2_with fail
      go_ret
      exact ⟨ret_bool (by have := HN.out; rw [List.take_of_length_le (by omega)] at this; exact this), HB.out⟩

set_option maxHeartbeats 4000000 in
theorem implFits_any (w : World) (v u : Value) (m : List Int) (qs : List Qt) (hv : IRd w v m) (hu : QRd w u qs) (hm : Grs m) (hq : Qts qs) :
    Calls Try.prog 91 #[v, u] w (BoolPost (fitI m qs) w) := by
  obtain ⟨A, c, rfl, hl, hmx, -⟩ := id hv
  have HK : Hid ((w.alloc (.cells #[.slice A m.length c] 24)).cell? ⟨w.heap.size, 0, none⟩ = some (.slice A m.length c) ∧ IRd (w.alloc (.cells #[.slice A m.length c] 24)) (.slice A m.length c) m ∧ QRd (w.alloc (.cells #[.slice A m.length c] 24)) u qs) := Lib.hid ⟨one_new w _ _ 0 _ rfl, hv.keep (SameAt.grow rfl), hu.keep (SameAt.grow rfl)⟩
  have HM := Lib.hid hm
  have HQ := Lib.hid hq
  clear hm hq hv hu
  go_enter Try.func91, Try.ntmps91
  go_wp2_with fail
  refine (foldFit_any _ u qs w.heap.size _ m HK.out.2.2 HK.out.1 HK.out.2.1 HM.out HQ.out).mono ?_
  rintro r w2 ⟨rfl, b2⟩
  have HB2 := Lib.hid (below_step ((Below.refl w.heap.size w).alloc (Nat.le_refl _) _) b2 (by simp))
  clear b2
  go_wp2_with fail
  go_ret
  exact ⟨ret_bool rfl, HB2.out⟩

end Go.Proofs.Ytebebcomhdjihaa

namespace Go.Proofs.Ytebebcomhdjihaa
open Go.RowKit
set_option linter.unusedVariables false

set_option maxHeartbeats 2000000 in
theorem leastMeasure_any (w : World) (n : Nat) (h1 : 1 ≤ n) (h4 : n ≤ 4) :
    Calls Try.prog 99 #[.int .i64 (n : Int)] w (NewInts (natL (firstL n 36)) w) := by
  obtain ⟨i0, hi, hz0, hz1, hz2⟩ := info_parts Try_intinfo
  obtain rfl | rfl | rfl | rfl : n = 1 ∨ n = 2 ∨ n = 3 ∨ n = 4 := by omega
  · have hmk : ∀ w : World, (Instr.makeSlice 24 (.int .i64 1) (.int .i64 1)).run Try.prog w = .ok (.slice (some ⟨w.heap.size, 0, none⟩) 1 1) (w.alloc (.cells #[.int .i64 0] 3)) := by
      intro w
      have h := run_make (P := Try.prog) w 24 3 i0 (.int .i64 0) Try.underlying24 hi hz0 .i64 .i64 1 1 (by omega) (Int.le_refl _) (by rw [hz2]; omega) (by omega)
      rw [hz1] at h
      have e : madeCells (Value.int .i64 0).cells (Int.toNat 1 * 1) = #[.int .i64 0] := by kernel_rfl
      rw [e] at h
      exact h
    go_enter Try.func99, Try.ntmps99
    go_wp2
    go_ret
    refine ⟨_, rfl, ?_, by go_grown⟩
    exact World.ownsRow_lit w #[.int .i64 36] 1 (Nat.le_refl _) (by unfold maxLen; omega) rfl
  · have hmk : ∀ w : World, (Instr.makeSlice 24 (.int .i64 2) (.int .i64 2)).run Try.prog w = .ok (.slice (some ⟨w.heap.size, 0, none⟩) 2 2) (w.alloc (.cells #[.int .i64 0, .int .i64 0] 3)) := by
      intro w
      have h := run_make (P := Try.prog) w 24 3 i0 (.int .i64 0) Try.underlying24 hi hz0 .i64 .i64 2 2 (by omega) (Int.le_refl _) (by rw [hz2]; omega) (by omega)
      rw [hz1] at h
      have e : madeCells (Value.int .i64 0).cells (Int.toNat 2 * 1) = #[.int .i64 0, .int .i64 0] := by kernel_rfl
      rw [e] at h
      exact h
    go_enter Try.func99, Try.ntmps99
    go_wp2
    go_ret
    refine ⟨_, rfl, ?_, by go_grown⟩
    exact World.ownsRow_lit w #[.int .i64 0, .int .i64 36] 2 (Nat.le_refl _) (by unfold maxLen; omega) rfl
  · have hmk : ∀ w : World, (Instr.makeSlice 24 (.int .i64 3) (.int .i64 3)).run Try.prog w = .ok (.slice (some ⟨w.heap.size, 0, none⟩) 3 3) (w.alloc (.cells #[.int .i64 0, .int .i64 0, .int .i64 0] 3)) := by
      intro w
      have h := run_make (P := Try.prog) w 24 3 i0 (.int .i64 0) Try.underlying24 hi hz0 .i64 .i64 3 3 (by omega) (Int.le_refl _) (by rw [hz2]; omega) (by omega)
      rw [hz1] at h
      have e : madeCells (Value.int .i64 0).cells (Int.toNat 3 * 1) = #[.int .i64 0, .int .i64 0, .int .i64 0] := by kernel_rfl
      rw [e] at h
      exact h
    go_enter Try.func99, Try.ntmps99
    go_wp2
    go_ret
    refine ⟨_, rfl, ?_, by go_grown⟩
    exact World.ownsRow_lit w #[.int .i64 0, .int .i64 0, .int .i64 36] 3 (Nat.le_refl _) (by unfold maxLen; omega) rfl
  · have hmk : ∀ w : World, (Instr.makeSlice 24 (.int .i64 4) (.int .i64 4)).run Try.prog w = .ok (.slice (some ⟨w.heap.size, 0, none⟩) 4 4) (w.alloc (.cells #[.int .i64 0, .int .i64 0, .int .i64 0, .int .i64 0] 3)) := by
      intro w
      have h := run_make (P := Try.prog) w 24 3 i0 (.int .i64 0) Try.underlying24 hi hz0 .i64 .i64 4 4 (by omega) (Int.le_refl _) (by rw [hz2]; omega) (by omega)
      rw [hz1] at h
      have e : madeCells (Value.int .i64 0).cells (Int.toNat 4 * 1) = #[.int .i64 0, .int .i64 0, .int .i64 0, .int .i64 0] := by kernel_rfl
      rw [e] at h
      exact h
    go_enter Try.func99, Try.ntmps99
    go_wp2
    go_ret
    refine ⟨_, rfl, ?_, by go_grown⟩
    exact World.ownsRow_lit w #[.int .i64 0, .int .i64 0, .int .i64 0, .int .i64 36] 4 (Nat.le_refl _) (by unfold maxLen; omega) rfl

set_option maxHeartbeats 2000000 in
theorem next_1_0 (w : World) (base : Nat) (v : Value) (a : Nat) (ha : a ≤ 36) (hv : IOwn w base v (natL [a])) :
    Calls Try.prog 100 #[v] w (StepPost base v [a] w) := by
  obtain ⟨g, cap, rfl, hc1, hc2⟩ := hv.form (by simp [natL])
  have hn : (natL [a]).length = 1 := rfl
  rw [hn] at hc1 ⊢
  rw [hn] at hv
  have hc3 : (1 : Int) ≤ (cap : Int) := by omega
  have k0 : w.cell? ⟨g, 0, none⟩ = some (.int .i64 ((a : Nat) : Int)) := hv.cellk rfl
  have f0 : w.frozen? ⟨g, 0, none⟩ = false := hv.frz rfl 0
  have HR := Lib.hid (step_no (l := [a]) (by simp [stepL]) hv)
  clear hv
  go_enter Try.func100, Try.ntmps100
  go_wp2_with fail
  go_rounds 6
  go_ret
  exact HR.out

set_option maxHeartbeats 2000000 in
theorem next_2_1 (w : World) (base : Nat) (v : Value) (a b : Nat) (ha : a ≤ 36) (hb : b ≤ 36) (hv : IOwn w base v (natL [a, b + 1])) :
    Calls Try.prog 100 #[v] w (StepPost base v [a, b + 1] w) := by
  obtain ⟨g, cap, rfl, hc1, hc2⟩ := hv.form (by simp [natL])
  have hn : (natL [a, b + 1]).length = 2 := rfl
  rw [hn] at hc1 ⊢
  rw [hn] at hv
  have hc3 : (2 : Int) ≤ (cap : Int) := by omega
  have k0 : w.cell? ⟨g, 0, none⟩ = some (.int .i64 ((a : Nat) : Int)) := hv.cellk rfl
  have f0 : w.frozen? ⟨g, 0, none⟩ = false := hv.frz rfl 0
  have k1 : w.cell? ⟨g, 1, none⟩ = some (.int .i64 ((b + 1 : Nat) : Int)) := hv.cellk rfl
  have f1 : w.frozen? ⟨g, 1, none⟩ = false := hv.frz rfl 1
  obtain ⟨o1, g1⟩ := hv.set_ rfl 1 0
  obtain ⟨o2, g2⟩ := o1.set_ rfl 0 ((a : Int) + 1)
  obtain ⟨o3, g3⟩ := o2.set_ rfl 1 (b : Int)
  have HR := Lib.hid (step_yes (l := [a, b + 1]) (l' := [a + 1, b]) (by simp [stepL, firstL]) g1 g2 g3 o3 (by simp [natL]) (by simp [World.setCell]))
  have hne : (0 : Int) < ((b + 1 : Nat) : Int) := by omega
  have hne2 : (0 : Int) < (b : Int) + 1 := by omega
  clear o1 o2 o3 g1 g2 g3 hv
  go_enter Try.func100, Try.ntmps100
  go_wp2_with fail
  go_rounds 6
  go_ret
  have h := HR.out
  simpa using h

set_option maxHeartbeats 2000000 in
theorem next_2_0 (w : World) (base : Nat) (v : Value) (a : Nat) (ha : a ≤ 36) (hv : IOwn w base v (natL [a, 0])) :
    Calls Try.prog 100 #[v] w (StepPost base v [a, 0] w) := by
  obtain ⟨g, cap, rfl, hc1, hc2⟩ := hv.form (by simp [natL])
  have hn : (natL [a, 0]).length = 2 := rfl
  rw [hn] at hc1 ⊢
  rw [hn] at hv
  have hc3 : (2 : Int) ≤ (cap : Int) := by omega
  have k0 : w.cell? ⟨g, 0, none⟩ = some (.int .i64 ((a : Nat) : Int)) := hv.cellk rfl
  have f0 : w.frozen? ⟨g, 0, none⟩ = false := hv.frz rfl 0
  have k1 : w.cell? ⟨g, 1, none⟩ = some (.int .i64 0) := hv.cellk rfl
  have f1 : w.frozen? ⟨g, 1, none⟩ = false := hv.frz rfl 1
  have HR := Lib.hid (step_no (l := [a, 0]) (by simp [stepL]) hv)
  clear hv
  go_enter Try.func100, Try.ntmps100
  go_wp2_with fail
  go_rounds 6
  go_ret
  exact HR.out

set_option maxHeartbeats 2000000 in
theorem next_3_2 (w : World) (base : Nat) (v : Value) (a b c : Nat) (ha : a ≤ 36) (hb : b ≤ 36) (hc : c ≤ 36) (hv : IOwn w base v (natL [a, b, c + 1])) :
    Calls Try.prog 100 #[v] w (StepPost base v [a, b, c + 1] w) := by
  obtain ⟨g, cap, rfl, hc1, hc2⟩ := hv.form (by simp [natL])
  have hn : (natL [a, b, c + 1]).length = 3 := rfl
  rw [hn] at hc1 ⊢
  rw [hn] at hv
  have hc3 : (3 : Int) ≤ (cap : Int) := by omega
  have k0 : w.cell? ⟨g, 0, none⟩ = some (.int .i64 ((a : Nat) : Int)) := hv.cellk rfl
  have f0 : w.frozen? ⟨g, 0, none⟩ = false := hv.frz rfl 0
  have k1 : w.cell? ⟨g, 1, none⟩ = some (.int .i64 ((b : Nat) : Int)) := hv.cellk rfl
  have f1 : w.frozen? ⟨g, 1, none⟩ = false := hv.frz rfl 1
  have k2 : w.cell? ⟨g, 2, none⟩ = some (.int .i64 ((c + 1 : Nat) : Int)) := hv.cellk rfl
  have f2 : w.frozen? ⟨g, 2, none⟩ = false := hv.frz rfl 2
  obtain ⟨o1, g1⟩ := hv.set_ rfl 2 0
  obtain ⟨o2, g2⟩ := o1.set_ rfl 1 ((b : Int) + 1)
  obtain ⟨o3, g3⟩ := o2.set_ rfl 2 (c : Int)
  have HR := Lib.hid (step_yes (l := [a, b, c + 1]) (l' := [a, b + 1, c]) (by simp [stepL, firstL]) g1 g2 g3 o3 (by simp [natL]) (by simp [World.setCell]))
  have hne : (0 : Int) < ((c + 1 : Nat) : Int) := by omega
  have hne2 : (0 : Int) < (c : Int) + 1 := by omega
  clear o1 o2 o3 g1 g2 g3 hv
  go_enter Try.func100, Try.ntmps100
  go_wp2_with fail
  go_rounds 6
  go_ret
  have h := HR.out
  simpa using h

set_option maxHeartbeats 2000000 in
theorem next_3_1 (w : World) (base : Nat) (v : Value) (a b : Nat) (ha : a ≤ 36) (hb : b ≤ 36) (hv : IOwn w base v (natL [a, b + 1, 0])) :
    Calls Try.prog 100 #[v] w (StepPost base v [a, b + 1, 0] w) := by
  obtain ⟨g, cap, rfl, hc1, hc2⟩ := hv.form (by simp [natL])
  have hn : (natL [a, b + 1, 0]).length = 3 := rfl
  rw [hn] at hc1 ⊢
  rw [hn] at hv
  have hc3 : (3 : Int) ≤ (cap : Int) := by omega
  have k0 : w.cell? ⟨g, 0, none⟩ = some (.int .i64 ((a : Nat) : Int)) := hv.cellk rfl
  have f0 : w.frozen? ⟨g, 0, none⟩ = false := hv.frz rfl 0
  have k1 : w.cell? ⟨g, 1, none⟩ = some (.int .i64 ((b + 1 : Nat) : Int)) := hv.cellk rfl
  have f1 : w.frozen? ⟨g, 1, none⟩ = false := hv.frz rfl 1
  have k2 : w.cell? ⟨g, 2, none⟩ = some (.int .i64 0) := hv.cellk rfl
  have f2 : w.frozen? ⟨g, 2, none⟩ = false := hv.frz rfl 2
  obtain ⟨o1, g1⟩ := hv.set_ rfl 1 0
  obtain ⟨o2, g2⟩ := o1.set_ rfl 0 ((a : Int) + 1)
  obtain ⟨o3, g3⟩ := o2.set_ rfl 2 (b : Int)
  have HR := Lib.hid (step_yes (l := [a, b + 1, 0]) (l' := [a + 1, 0, b]) (by simp [stepL, firstL]) g1 g2 g3 o3 (by simp [natL]) (by simp [World.setCell]))
  have hne : (0 : Int) < ((b + 1 : Nat) : Int) := by omega
  have hne2 : (0 : Int) < (b : Int) + 1 := by omega
  clear o1 o2 o3 g1 g2 g3 hv
  go_enter Try.func100, Try.ntmps100
  go_wp2_with fail
  go_rounds 6
  go_ret
  have h := HR.out
  simpa using h

set_option maxHeartbeats 2000000 in
theorem next_3_0 (w : World) (base : Nat) (v : Value) (a : Nat) (ha : a ≤ 36) (hv : IOwn w base v (natL [a, 0, 0])) :
    Calls Try.prog 100 #[v] w (StepPost base v [a, 0, 0] w) := by
  obtain ⟨g, cap, rfl, hc1, hc2⟩ := hv.form (by simp [natL])
  have hn : (natL [a, 0, 0]).length = 3 := rfl
  rw [hn] at hc1 ⊢
  rw [hn] at hv
  have hc3 : (3 : Int) ≤ (cap : Int) := by omega
  have k0 : w.cell? ⟨g, 0, none⟩ = some (.int .i64 ((a : Nat) : Int)) := hv.cellk rfl
  have f0 : w.frozen? ⟨g, 0, none⟩ = false := hv.frz rfl 0
  have k1 : w.cell? ⟨g, 1, none⟩ = some (.int .i64 0) := hv.cellk rfl
  have f1 : w.frozen? ⟨g, 1, none⟩ = false := hv.frz rfl 1
  have k2 : w.cell? ⟨g, 2, none⟩ = some (.int .i64 0) := hv.cellk rfl
  have f2 : w.frozen? ⟨g, 2, none⟩ = false := hv.frz rfl 2
  have HR := Lib.hid (step_no (l := [a, 0, 0]) (by simp [stepL]) hv)
  clear hv
  go_enter Try.func100, Try.ntmps100
  go_wp2_with fail
  go_rounds 6
  go_ret
  exact HR.out

set_option maxHeartbeats 2000000 in
theorem next_4_3 (w : World) (base : Nat) (v : Value) (a b c d : Nat) (ha : a ≤ 36) (hb : b ≤ 36) (hc : c ≤ 36) (hd : d ≤ 36) (hv : IOwn w base v (natL [a, b, c, d + 1])) :
    Calls Try.prog 100 #[v] w (StepPost base v [a, b, c, d + 1] w) := by
  obtain ⟨g, cap, rfl, hc1, hc2⟩ := hv.form (by simp [natL])
  have hn : (natL [a, b, c, d + 1]).length = 4 := rfl
  rw [hn] at hc1 ⊢
  rw [hn] at hv
  have hc3 : (4 : Int) ≤ (cap : Int) := by omega
  have k0 : w.cell? ⟨g, 0, none⟩ = some (.int .i64 ((a : Nat) : Int)) := hv.cellk rfl
  have f0 : w.frozen? ⟨g, 0, none⟩ = false := hv.frz rfl 0
  have k1 : w.cell? ⟨g, 1, none⟩ = some (.int .i64 ((b : Nat) : Int)) := hv.cellk rfl
  have f1 : w.frozen? ⟨g, 1, none⟩ = false := hv.frz rfl 1
  have k2 : w.cell? ⟨g, 2, none⟩ = some (.int .i64 ((c : Nat) : Int)) := hv.cellk rfl
  have f2 : w.frozen? ⟨g, 2, none⟩ = false := hv.frz rfl 2
  have k3 : w.cell? ⟨g, 3, none⟩ = some (.int .i64 ((d + 1 : Nat) : Int)) := hv.cellk rfl
  have f3 : w.frozen? ⟨g, 3, none⟩ = false := hv.frz rfl 3
  obtain ⟨o1, g1⟩ := hv.set_ rfl 3 0
  obtain ⟨o2, g2⟩ := o1.set_ rfl 2 ((c : Int) + 1)
  obtain ⟨o3, g3⟩ := o2.set_ rfl 3 (d : Int)
  have HR := Lib.hid (step_yes (l := [a, b, c, d + 1]) (l' := [a, b, c + 1, d]) (by simp [stepL, firstL]) g1 g2 g3 o3 (by simp [natL]) (by simp [World.setCell]))
  have hne : (0 : Int) < ((d + 1 : Nat) : Int) := by omega
  have hne2 : (0 : Int) < (d : Int) + 1 := by omega
  clear o1 o2 o3 g1 g2 g3 hv
  go_enter Try.func100, Try.ntmps100
  go_wp2_with fail
  go_rounds 6
  go_ret
  have h := HR.out
  simpa using h

set_option maxHeartbeats 2000000 in
theorem next_4_2 (w : World) (base : Nat) (v : Value) (a b c : Nat) (ha : a ≤ 36) (hb : b ≤ 36) (hc : c ≤ 36) (hv : IOwn w base v (natL [a, b, c + 1, 0])) :
    Calls Try.prog 100 #[v] w (StepPost base v [a, b, c + 1, 0] w) := by
  obtain ⟨g, cap, rfl, hc1, hc2⟩ := hv.form (by simp [natL])
  have hn : (natL [a, b, c + 1, 0]).length = 4 := rfl
  rw [hn] at hc1 ⊢
  rw [hn] at hv
  have hc3 : (4 : Int) ≤ (cap : Int) := by omega
  have k0 : w.cell? ⟨g, 0, none⟩ = some (.int .i64 ((a : Nat) : Int)) := hv.cellk rfl
  have f0 : w.frozen? ⟨g, 0, none⟩ = false := hv.frz rfl 0
  have k1 : w.cell? ⟨g, 1, none⟩ = some (.int .i64 ((b : Nat) : Int)) := hv.cellk rfl
  have f1 : w.frozen? ⟨g, 1, none⟩ = false := hv.frz rfl 1
  have k2 : w.cell? ⟨g, 2, none⟩ = some (.int .i64 ((c + 1 : Nat) : Int)) := hv.cellk rfl
  have f2 : w.frozen? ⟨g, 2, none⟩ = false := hv.frz rfl 2
  have k3 : w.cell? ⟨g, 3, none⟩ = some (.int .i64 0) := hv.cellk rfl
  have f3 : w.frozen? ⟨g, 3, none⟩ = false := hv.frz rfl 3
  obtain ⟨o1, g1⟩ := hv.set_ rfl 2 0
  obtain ⟨o2, g2⟩ := o1.set_ rfl 1 ((b : Int) + 1)
  obtain ⟨o3, g3⟩ := o2.set_ rfl 3 (c : Int)
  have HR := Lib.hid (step_yes (l := [a, b, c + 1, 0]) (l' := [a, b + 1, 0, c]) (by simp [stepL, firstL]) g1 g2 g3 o3 (by simp [natL]) (by simp [World.setCell]))
  have hne : (0 : Int) < ((c + 1 : Nat) : Int) := by omega
  have hne2 : (0 : Int) < (c : Int) + 1 := by omega
  clear o1 o2 o3 g1 g2 g3 hv
  go_enter Try.func100, Try.ntmps100
  go_wp2_with fail
  go_rounds 6
  go_ret
  have h := HR.out
  simpa using h

set_option maxHeartbeats 2000000 in
theorem next_4_1 (w : World) (base : Nat) (v : Value) (a b : Nat) (ha : a ≤ 36) (hb : b ≤ 36) (hv : IOwn w base v (natL [a, b + 1, 0, 0])) :
    Calls Try.prog 100 #[v] w (StepPost base v [a, b + 1, 0, 0] w) := by
  obtain ⟨g, cap, rfl, hc1, hc2⟩ := hv.form (by simp [natL])
  have hn : (natL [a, b + 1, 0, 0]).length = 4 := rfl
  rw [hn] at hc1 ⊢
  rw [hn] at hv
  have hc3 : (4 : Int) ≤ (cap : Int) := by omega
  have k0 : w.cell? ⟨g, 0, none⟩ = some (.int .i64 ((a : Nat) : Int)) := hv.cellk rfl
  have f0 : w.frozen? ⟨g, 0, none⟩ = false := hv.frz rfl 0
  have k1 : w.cell? ⟨g, 1, none⟩ = some (.int .i64 ((b + 1 : Nat) : Int)) := hv.cellk rfl
  have f1 : w.frozen? ⟨g, 1, none⟩ = false := hv.frz rfl 1
  have k2 : w.cell? ⟨g, 2, none⟩ = some (.int .i64 0) := hv.cellk rfl
  have f2 : w.frozen? ⟨g, 2, none⟩ = false := hv.frz rfl 2
  have k3 : w.cell? ⟨g, 3, none⟩ = some (.int .i64 0) := hv.cellk rfl
  have f3 : w.frozen? ⟨g, 3, none⟩ = false := hv.frz rfl 3
  obtain ⟨o1, g1⟩ := hv.set_ rfl 1 0
  obtain ⟨o2, g2⟩ := o1.set_ rfl 0 ((a : Int) + 1)
  obtain ⟨o3, g3⟩ := o2.set_ rfl 3 (b : Int)
  have HR := Lib.hid (step_yes (l := [a, b + 1, 0, 0]) (l' := [a + 1, 0, 0, b]) (by simp [stepL, firstL]) g1 g2 g3 o3 (by simp [natL]) (by simp [World.setCell]))
  have hne : (0 : Int) < ((b + 1 : Nat) : Int) := by omega
  have hne2 : (0 : Int) < (b : Int) + 1 := by omega
  clear o1 o2 o3 g1 g2 g3 hv
  go_enter Try.func100, Try.ntmps100
  go_wp2_with fail
  go_rounds 6
  go_ret
  have h := HR.out
  simpa using h

set_option maxHeartbeats 2000000 in
theorem next_4_0 (w : World) (base : Nat) (v : Value) (a : Nat) (ha : a ≤ 36) (hv : IOwn w base v (natL [a, 0, 0, 0])) :
    Calls Try.prog 100 #[v] w (StepPost base v [a, 0, 0, 0] w) := by
  obtain ⟨g, cap, rfl, hc1, hc2⟩ := hv.form (by simp [natL])
  have hn : (natL [a, 0, 0, 0]).length = 4 := rfl
  rw [hn] at hc1 ⊢
  rw [hn] at hv
  have hc3 : (4 : Int) ≤ (cap : Int) := by omega
  have k0 : w.cell? ⟨g, 0, none⟩ = some (.int .i64 ((a : Nat) : Int)) := hv.cellk rfl
  have f0 : w.frozen? ⟨g, 0, none⟩ = false := hv.frz rfl 0
  have k1 : w.cell? ⟨g, 1, none⟩ = some (.int .i64 0) := hv.cellk rfl
  have f1 : w.frozen? ⟨g, 1, none⟩ = false := hv.frz rfl 1
  have k2 : w.cell? ⟨g, 2, none⟩ = some (.int .i64 0) := hv.cellk rfl
  have f2 : w.frozen? ⟨g, 2, none⟩ = false := hv.frz rfl 2
  have k3 : w.cell? ⟨g, 3, none⟩ = some (.int .i64 0) := hv.cellk rfl
  have f3 : w.frozen? ⟨g, 3, none⟩ = false := hv.frz rfl 3
  have HR := Lib.hid (step_no (l := [a, 0, 0, 0]) (by simp [stepL]) hv)
  clear hv
  go_enter Try.func100, Try.ntmps100
  go_wp2_with fail
  go_rounds 6
  go_ret
  exact HR.out

theorem layNext_any (w : World) (base : Nat) (v : Value) (l : List Nat) (h1 : 1 ≤ l.length) (h4 : l.length ≤ 4) (hs : l.sum ≤ 36) (hv : IOwn w base v (natL l)) :
    Calls Try.prog 100 #[v] w (StepPost base v l w) := by
  match l, h1, h4, hs, hv with
  | [a], h1, h4, hs, hv =>
    simp only [List.sum_cons, List.sum_nil] at hs
    exact next_1_0 w base v a (by omega) hv
  | [a, b], h1, h4, hs, hv =>
    simp only [List.sum_cons, List.sum_nil] at hs
    cases b with
    | zero =>
      exact next_2_0 w base v a (by omega) hv
    | succ b => exact next_2_1 w base v a b (by omega) (by omega) hv
  | [a, b, c], h1, h4, hs, hv =>
    simp only [List.sum_cons, List.sum_nil] at hs
    cases c with
    | zero =>
      cases b with
      | zero =>
        exact next_3_0 w base v a (by omega) hv
      | succ b => exact next_3_1 w base v a b (by omega) (by omega) hv
    | succ c => exact next_3_2 w base v a b c (by omega) (by omega) (by omega) hv
  | [a, b, c, d], h1, h4, hs, hv =>
    simp only [List.sum_cons, List.sum_nil] at hs
    cases d with
    | zero =>
      cases c with
      | zero =>
        cases b with
        | zero =>
          exact next_4_0 w base v a (by omega) hv
        | succ b => exact next_4_1 w base v a b (by omega) (by omega) hv
      | succ c => exact next_4_2 w base v a b c (by omega) (by omega) (by omega) hv
    | succ d => exact next_4_3 w base v a b c d (by omega) (by omega) (by omega) (by omega) hv

end Go.Proofs.Ytebebcomhdjihaa
