/- The contract of spec.ReadWager. Conditions: a text of at most two million bytes. (gen_zd.py) -/
import Derived.Test.YtfdlfgokoponmaaDoorZc
import Derived.Test.YtfdlfgokoponmaaDoorXn
namespace Go.Proofs.YtfdlfgokoponmaaDoor
open Go.RowKit
set_option linter.unusedVariables false

theorem TOwn.cell {w : World} {base g n c : Nat} {ps : List ByteArray} (h : TOwn w base (.slice (some ⟨g, 0, none⟩) n c) ps) {k : Nat} {p : ByteArray} (hu : ps[k]? = some p) : w.cell? ⟨g, k, none⟩ = some (.string p) := by
  have hk : k < ps.length := (List.getElem?_eq_some_iff.1 hu).1
  have hn : n = ps.length := by
    rcases h.2 with ⟨e, -⟩ | ⟨g', cap, cur, e, -⟩
    · cases e
    · injection e with e1 e2 e3
  subst hn
  have := World.ownsRow.cellAt h k (by omega)
  rw [this, List.getElem?_map, hu]; rfl

theorem TOwn.below {w w' : World} {base : Nat} {v : Value} {ps : List ByteArray} (h : TOwn w base v ps) (hb : Below w.heap.size w w') : TOwn w' base v ps := by
  refine ⟨h.1, ?_⟩
  rcases h.2 with hn | ⟨g, cap, cur, rfl, hb', hg, rest⟩
  · exact .inl hn
  · exact .inr ⟨g, cap, cur, rfl, hb', (hb.block g (Array.getElem?_eq_some_iff.1 hg).1).trans hg, rest⟩

/-- a wager that was read, or none -/
def WRead (S : ByteArray) (w : World) (e : Ending) (w' : World) : Prop := ∃ v, e = .returned (.tuple #[.agg #[.int .i64 (rwS S), v, .int .i64 (rwP S)], .bool (rwB S)]) ∧ MOwn w' w.heap.size v (rwL S) ∧ Below w.heap.size w w'

theorem wread_no {S : ByteArray} {w w1 : World} (h : ∀ s T p, ¬ WReadsB (bs S) s T p) (b : Below w.heap.size w w1) : WRead S w (.returned (.tuple #[.agg #[.int .i64 0, .slice none 0 0, .int .i64 0], .bool false])) w1 := by
  obtain ⟨h1, h2, h3, h4⟩ := rw_no h
  exact ⟨.slice none 0 0, by rw [h1, h2, h4], by rw [h3]; exact GOwn.nil _ _ _ _ _, b⟩

theorem wread_yes {S : ByteArray} {w w1 : World} {v : Value} {s : Int} {T : Tm} {p : Int} (h : WReadsB (bs S) s T p) (o : MOwn w1 w.heap.size v (encT T)) (b : Below w.heap.size w w1) : WRead S w (.returned (.tuple #[.agg #[.int .i64 s, v, .int .i64 p], .bool true])) w1 := by
  obtain ⟨h1, h2, h3, h4⟩ := rw_yes h
  exact ⟨v, by rw [h1, h2, h4], by rw [h3]; exact o, b⟩

theorem read_facts {S A B C D : ByteArray} (h1 : [A, B].map bs = cutF 42 (bs S)) (h2 : [C, D].map bs = cutF 64 (bs B)) {s : Int} {T : Tm} {p : Int} (h : WReadsB (bs S) s T p) : bs A = num s ∧ bs C = txtT T ∧ bs D = num p := by
  obtain ⟨e1, e2⟩ := h.cuts
  rw [e1] at h1
  injection h1 with a1 a2
  injection a2 with a2 _
  rw [a2, e2] at h2
  injection h2 with b1 b2
  injection b2 with b2 _
  exact ⟨a1, b1, b2⟩

theorem cut_first {S : ByteArray} {ps : List ByteArray} (h1 : ps.map bs = cutF 42 (bs S)) (hl : ps.length ≠ 2) : ∀ s T p, ¬ WReadsB (bs S) s T p := by
  intro s T p h
  rw [h.cuts.1] at h1
  have := congrArg List.length h1
  simp at this
  exact hl this

theorem cut_second {S A B : ByteArray} {qs : List ByteArray} (h1 : [A, B].map bs = cutF 42 (bs S)) (h2 : qs.map bs = cutF 64 (bs B)) (hl : qs.length ≠ 2) : ∀ s T p, ¬ WReadsB (bs S) s T p := by
  intro s T p h
  rw [h.cuts.1] at h1
  injection h1 with a1 a2
  injection a2 with a2 _
  rw [a2, h.cuts.2] at h2
  have := congrArg List.length h2
  simp at this
  exact hl this

theorem two_of {ps : List ByteArray} (h : ps.length = 2) : ∃ A B, ps = [A, B] := by
  match ps, h with
  | [A, B], _ => exact ⟨A, B, rfl⟩

theorem nonempty_cut {S A B : ByteArray} (h1 : [A, B].map bs = cutF 42 (bs S)) : bs S ≠ [] := by
  intro e
  rw [e, cut_nil] at h1
  have := congrArg List.length h1
  simp at this

/-- what is read back is the wager of the text -/
theorem read_back {S A B : ByteArray} (h1 : [A, B].map bs = cutF 42 (bs S)) {st : Int} {t : List Mk} {p : Int} (h : wgT st t p = bs S) : ∃ T, encT T = t ∧ WReadsB (bs S) st T p := by
  cases hb : wgB st t p with
  | false => rw [wgT_no hb] at h; exact absurd h.symm (nonempty_cut h1)
  | true =>
    obtain ⟨T, e, hT⟩ := wreads_of hb
    rw [h] at hT
    exact ⟨T, e, hT⟩

theorem set1_grown (X : World) (g k : Nat) (u : Value) : X.grownBy (X.setCell ⟨g, k, none⟩ u) (some g) :=
  ⟨rfl, rfl, rfl, by simp [World.setCell], fun b hb hne => Below.heap_setCell X ⟨g, k, none⟩ u b (fun e => hne (by rw [e]))⟩

theorem grow3 {w w1 w2 : World} {r : Option Nat} (h : w.grownBy w1 r) (k : w1.grownBy w2 r) : w.grownBy w2 r :=
  ⟨k.os.trans h.os, k.tape.trans h.tape, k.output.trans h.output, Nat.le_trans h.size k.size, fun i hi hne => (k.block i (Nat.lt_of_lt_of_le hi h.size) hne).trans (h.block i hi hne)⟩

theorem set3_grown (X : World) (g : Nat) (u0 u1 u2 : Value) : X.grownBy (((X.setCell ⟨g, 0, none⟩ u0).setCell ⟨g, 1, none⟩ u1).setCell ⟨g, 2, none⟩ u2) (some g) :=
  grow3 (grow3 (set1_grown X g 0 u0) (set1_grown _ g 1 u1)) (set1_grown _ g 2 u2)

theorem MOwn.kept {X X' : World} {base g : Nat} {v : Value} {ms : List Mk} (o : MOwn X base v ms) (hg : X.grownBy X' (some g)) (hb : g < base) : MOwn X' base v ms := by
  refine GOwn.keep o (SameAt.of_grown hg ?_)
  rcases hv : v.ownBlock with _ | b
  · exact .inl rfl
  · refine .inr fun e => ?_
    have := (GOwn.ge o b hv).1
    injection e with e
    omega

/-- the zero wager's block -/
theorem zero_blk (w : World) (wr : World) (h : Below (w.alloc (.cells #[.int .i64 0, .slice none 0 0, .int .i64 0] 25)).heap.size (w.alloc (.cells #[.int .i64 0, .slice none 0 0, .int .i64 0] 25)) wr) : Blk wr w.heap.size 25 #[.int .i64 0, .slice none 0 0, .int .i64 0] := by
  have h1 : Blk (w.alloc (.cells #[.int .i64 0, .slice none 0 0, .int .i64 0] 25)) w.heap.size 25 #[.int .i64 0, .slice none 0 0, .int .i64 0] := heap_alloc_new w _
  exact (h.block w.heap.size (by simp)).trans h1

set_option maxRecDepth 100000 in
set_option maxHeartbeats 16000000 in
theorem specReadWager_any (S : ByteArray) (hS : S.size ≤ 2000000) (w : World) :
    Calls Tryd.prog 15 #[.string S] w (WRead S w) := by
  have HBK := Lib.hid (zero_blk w)
  have HB0 : Hid (Below w.heap.size w (w.alloc (.cells #[.int .i64 0, .slice none 0 0, .int .i64 0] 25))) := Lib.hid ((Below.refl _ _).alloc (Nat.le_refl _) _)
  go_enter Tryd.func15, Tryd.ntmps15
  go_wp2_with fail
  have HLT : Hid (w.heap.size < (w.alloc (.cells #[.int .i64 0, .slice none 0 0, .int .i64 0] 25)).heap.size) := Lib.hid (by simp)
  generalize w.alloc (.cells #[.int .i64 0, .slice none 0 0, .int .i64 0] 25) = w0 at HBK HB0 HLT ⊢
  refine (l1Cut_any S hS 42 42 rfl w0).mono ?_
  rintro e w1 ⟨g1, cc1, ps, rfl, o1, hps, hsz, b1⟩
  have HX1 := Lib.hid b1
  have OP1 := Lib.hid o1
  clear b1 o1
  by_cases hl : ps.length = 2
  · obtain ⟨A, B, rfl⟩ := two_of hl
    have hA : A.size ≤ S.size := hsz A (by simp)
    have hB : B.size ≤ S.size := hsz B (by simp)
    have HP := Lib.hid hps
    clear hsz hps hl
    have hcB := OP1.out.cell (k := 1) (p := B) rfl
    go_wp2_with fail
    refine (l1Cut_any B (by omega) 64 64 rfl w1).mono ?_
    rintro e w2 ⟨g2, cc2, qs, rfl, o2, hqs, hqz, b2⟩
    have HX2 := Lib.hid (below_step HX1.out b2 HX1.out.size)
    have OP2 := Lib.hid (OP1.out.below b2)
    have OQ2 := Lib.hid o2
    clear b2 o2 hcB
    by_cases hl2 : qs.length = 2
    · obtain ⟨C, D, rfl⟩ := two_of hl2
      have hC : C.size ≤ B.size := hqz C (by simp)
      have hD : D.size ≤ B.size := hqz D (by simp)
      have HQ := Lib.hid hqs
      clear hqs hqz hl2
      have hcC := OQ2.out.cell (k := 0) (p := C) rfl
      go_wp2_with fail
      refine (specReadTerm_any C (by omega) w2).mono ?_
      rintro e w3 ⟨vt, rfl, o3, b3⟩
      obtain ⟨At, ct, rfl, -, -⟩ := (GOwn.rd qC_len o3).form
      have HX3 := Lib.hid (below_step HX2.out b3 HX2.out.size)
      have OP3 := Lib.hid (OP2.out.below b3)
      have OQ3 := Lib.hid (OQ2.out.below b3)
      have OT3 : Hid (MOwn w3 w0.heap.size (.slice At (rdL C).length ct) (rdL C)) := Lib.hid (GOwn.base o3 HX2.out.size)
      clear b3 o3 hcC
      have hcA := OP3.out.cell (k := 0) (p := A) rfl
      go_wp2_with fail
      refine (l1Digits_any A (by omega) w3).mono ?_
      rintro e w4 ⟨d1, rfl, q1, q2, hq9, b4⟩
      have HX4 := Lib.hid (below_step HX3.out b4 HX3.out.size)
      have OP4 := Lib.hid (OP3.out.below b4)
      have OQ4 := Lib.hid (OQ3.out.below b4)
      have OT4 := Lib.hid (OT3.out.keep (SameAt.of_below b4))
      have HQ9 := Lib.hid hq9
      clear b4 hcA hq9
      have hcA := OP4.out.cell (k := 0) (p := A) rfl
      have hcs : A.size = 0 ∨ ∃ h0 : 0 < A.size, (A[0]'h0).toNat = 45 ∨ ∃ b, (A[0]'h0).toNat = b ∧ b ≠ 45 := by
        by_cases h0 : 0 < A.size
        · by_cases h1 : (A[0]'h0).toNat = 45
          · exact .inr ⟨h0, .inl h1⟩
          · exact .inr ⟨h0, .inr ⟨_, rfl, h1⟩⟩
        · exact .inl (by omega)
      rcases hcs with h0 | ⟨h0, h1 | ⟨b, hb, hb1⟩⟩
      · have HST : Hid (∀ s : Int, -9 ≤ s ∧ s ≤ 9 → bs A = num s → d1 = s) := Lib.hid (fun s hs h => by
          have h1 := congrArg List.length h
          rw [bs_len, h0] at h1
          by_cases hn : s < 0
          · rw [num_neg hn] at h1; simp at h1
          · rw [num_pos (by omega)] at h1; simp at h1)
        have hA0 : (A.size : Int) ≤ 0 := by omega
        clear h0
        have hcD := OQ4.out.cell (k := 1) (p := D) rfl
        go_wp2_with fail
        refine (l1Digits_any D (by omega) _).mono ?_
        rintro e w8 ⟨d3, rfl, p1, p2, hp9, b8⟩
        have HX8 := Lib.hid (below_step HX4.out b8 HX4.out.size)
        have OT8 := Lib.hid (OT4.out.keep (SameAt.of_below b8))
        have HP9 := Lib.hid hp9
        clear b8 hp9 hcD
        have hbA : Below w8.heap.size w8 (w8.alloc (.cells #[.int .i64 d1, .slice At (rdL C).length ct, .int .i64 d3] 25)) := (Below.refl _ _).alloc (Nat.le_refl _) _
        have HW8 := Lib.hid (wag_cells w8 d1 (.slice At (rdL C).length ct) d3)
        have HX9 := Lib.hid (below_step HX8.out hbA HX8.out.size)
        have OT9 := Lib.hid (OT8.out.keep (SameAt.of_below hbA))
        clear hbA
        rcases Bool.eq_false_or_eq_true (rdB C) with hok | hok
        · obtain ⟨hw0, hw1, hw2⟩ := HW8.out _ (Below.refl _ _)
          rw [hok]
          go_wp2_with fail
          refine (specWagerText_any _ d1 _ (rdL C) d3 (OT9.out.rd qC_len)).mono ?_
          rintro e w10 ⟨rfl, b10⟩
          have HX10 := Lib.hid (below_step HX9.out b10 HX9.out.size)
          have OT10 := Lib.hid (OT9.out.keep (SameAt.of_below b10))
          obtain ⟨hw0', hw1', hw2'⟩ := HW8.out _ b10
          clear b10 hw0 hw1 hw2
          by_cases he : wgT d1 (rdL C) d3 = bs S
          · have hb3 : (wgT d1 (rdL C) d3 == S.toList) = true := by rw [bs_list]; simpa using he
            have hb4 : (wgT d1 (rdL C) d3 != S.toList) = false := by rw [bs_list]; simpa using he
            obtain ⟨T, hT, hW⟩ := read_back HP.out he
            have HWR := Lib.hid hW
            have HTE := Lib.hid hT
            clear he hW hT
            have KB := HBK.out w10 HX10.out
            have hc0 : w10.cell? ⟨w.heap.size, 0, none⟩ = some (.int .i64 0) := KB.cell 0
            have hc1 : w10.cell? ⟨w.heap.size, 1, none⟩ = some (.slice none 0 0) := KB.cell 1
            have hc2 : w10.cell? ⟨w.heap.size, 2, none⟩ = some (.int .i64 0) := KB.cell 2
            have hf0 : w10.frozen? ⟨w.heap.size, 0, none⟩ = false := KB.frozen 0
            have hf1 : w10.frozen? ⟨w.heap.size, 1, none⟩ = false := KB.frozen 1
            have hf2 : w10.frozen? ⟨w.heap.size, 2, none⟩ = false := KB.frozen 2
            have BB := ((KB.set_ 0 (.int .i64 d1)).set_ 1 (.slice At (rdL C).length ct)).set_ 2 (.int .i64 d3)
            have HR0 : Hid ((((w10.setCell ⟨w.heap.size, 0, none⟩ (.int .i64 d1)).setCell ⟨w.heap.size, 1, none⟩ (.slice At (rdL C).length ct)).setCell ⟨w.heap.size, 2, none⟩ (.int .i64 d3)).cell? ⟨w.heap.size, 0, none⟩ = some (.int .i64 d1) ∧ (((w10.setCell ⟨w.heap.size, 0, none⟩ (.int .i64 d1)).setCell ⟨w.heap.size, 1, none⟩ (.slice At (rdL C).length ct)).setCell ⟨w.heap.size, 2, none⟩ (.int .i64 d3)).cell? ⟨w.heap.size, 1, none⟩ = some (.slice At (rdL C).length ct) ∧ (((w10.setCell ⟨w.heap.size, 0, none⟩ (.int .i64 d1)).setCell ⟨w.heap.size, 1, none⟩ (.slice At (rdL C).length ct)).setCell ⟨w.heap.size, 2, none⟩ (.int .i64 d3)).cell? ⟨w.heap.size, 2, none⟩ = some (.int .i64 d3)) := Lib.hid ⟨BB.cell 0, BB.cell 1, BB.cell 2⟩
            have HBZ := Lib.hid ((((below_step HB0.out HX10.out HB0.out.size).setCell (Nat.le_refl _) (.int .i64 d1) (p := ⟨w.heap.size, 0, none⟩)).setCell (Nat.le_refl _) (.slice At (rdL C).length ct) (p := ⟨w.heap.size, 1, none⟩)).setCell (Nat.le_refl _) (.int .i64 d3) (p := ⟨w.heap.size, 2, none⟩))
            clear BB KB
            go_wp2_with fail
            obtain ⟨hr0, hr1, hr2⟩ := HR0.out
            refine bodyPost_ret (v := .tuple #[.agg #[.int .i64 d1, .slice At (rdL C).length ct, .int .i64 d3], .bool true]) (by simp [results, Tryd.results15, go_sem, hr0, hr1, hr2]) rfl ?_
            exact wread_yes HWR.out (by rw [HTE.out]; exact GOwn.base (MOwn.kept OT10.out (set3_grown _ _ _ _ _) HLT.out) HB0.out.size) HBZ.out
          · have hb3 : (wgT d1 (rdL C) d3 == S.toList) = false := by rw [bs_list]; simpa using he
            have hb4 : (wgT d1 (rdL C) d3 != S.toList) = true := by rw [bs_list]; simpa using he
            have HNO : Hid (∀ s T p, ¬ WReadsB (bs S) s T p) := Lib.hid (fun s T p h => he (by
              obtain ⟨f1, f2, f3⟩ := read_facts HP.out HQ.out h
              have e1 := HST.out s h.2.1 f1
              have e3 := HP9.out p.toNat (by have := h.2.2.1; omega) (by rw [f3, num_pos h.2.2.1.1])
              have e2 := (rd_yes (S := C) (T := T) (by rw [f2]; exact reads_of h.2.2.2)).2
              have e3' : d3 = p := by have := h.2.2.1; omega
              rw [e1, e2, e3']
              exact h.ok.2))
            clear he
            have KB := HBK.out w10 HX10.out
            have hc0 : w10.cell? ⟨w.heap.size, 0, none⟩ = some (.int .i64 0) := KB.cell 0
            have hc1 : w10.cell? ⟨w.heap.size, 1, none⟩ = some (.slice none 0 0) := KB.cell 1
            have hc2 : w10.cell? ⟨w.heap.size, 2, none⟩ = some (.int .i64 0) := KB.cell 2
            have hf0 : w10.frozen? ⟨w.heap.size, 0, none⟩ = false := KB.frozen 0
            have hf1 : w10.frozen? ⟨w.heap.size, 1, none⟩ = false := KB.frozen 1
            have hf2 : w10.frozen? ⟨w.heap.size, 2, none⟩ = false := KB.frozen 2
            have BB := ((KB.set_ 0 (.int .i64 0)).set_ 1 (.slice none 0 0)).set_ 2 (.int .i64 0)
            have HR0 : Hid ((((w10.setCell ⟨w.heap.size, 0, none⟩ (.int .i64 0)).setCell ⟨w.heap.size, 1, none⟩ (.slice none 0 0)).setCell ⟨w.heap.size, 2, none⟩ (.int .i64 0)).cell? ⟨w.heap.size, 0, none⟩ = some (.int .i64 0) ∧ (((w10.setCell ⟨w.heap.size, 0, none⟩ (.int .i64 0)).setCell ⟨w.heap.size, 1, none⟩ (.slice none 0 0)).setCell ⟨w.heap.size, 2, none⟩ (.int .i64 0)).cell? ⟨w.heap.size, 1, none⟩ = some (.slice none 0 0) ∧ (((w10.setCell ⟨w.heap.size, 0, none⟩ (.int .i64 0)).setCell ⟨w.heap.size, 1, none⟩ (.slice none 0 0)).setCell ⟨w.heap.size, 2, none⟩ (.int .i64 0)).cell? ⟨w.heap.size, 2, none⟩ = some (.int .i64 0)) := Lib.hid ⟨BB.cell 0, BB.cell 1, BB.cell 2⟩
            have HBZ := Lib.hid ((((below_step HB0.out HX10.out HB0.out.size).setCell (Nat.le_refl _) (.int .i64 0) (p := ⟨w.heap.size, 0, none⟩)).setCell (Nat.le_refl _) (.slice none 0 0) (p := ⟨w.heap.size, 1, none⟩)).setCell (Nat.le_refl _) (.int .i64 0) (p := ⟨w.heap.size, 2, none⟩))
            clear BB KB
            go_wp2_with fail
            obtain ⟨hr0, hr1, hr2⟩ := HR0.out
            refine bodyPost_ret (v := .tuple #[.agg #[.int .i64 0, .slice none 0 0, .int .i64 0], .bool false]) (by simp [results, Tryd.results15, go_sem, hr0, hr1, hr2]) rfl ?_
            exact wread_no HNO.out HBZ.out
        · have HNO : Hid (∀ s T p, ¬ WReadsB (bs S) s T p) := Lib.hid (fun s T p h => by
            obtain ⟨f1, f2, f3⟩ := read_facts HP.out HQ.out h
            have := (rd_yes (S := C) (T := T) (by rw [f2]; exact reads_of h.2.2.2)).1
            rw [hok] at this
            cases this)
          rw [hok]
          have KB := HBK.out (w8.alloc (.cells #[.int .i64 d1, .slice At (rdL C).length ct, .int .i64 d3] 25)) HX9.out
          have hc0 : (w8.alloc (.cells #[.int .i64 d1, .slice At (rdL C).length ct, .int .i64 d3] 25)).cell? ⟨w.heap.size, 0, none⟩ = some (.int .i64 0) := KB.cell 0
          have hc1 : (w8.alloc (.cells #[.int .i64 d1, .slice At (rdL C).length ct, .int .i64 d3] 25)).cell? ⟨w.heap.size, 1, none⟩ = some (.slice none 0 0) := KB.cell 1
          have hc2 : (w8.alloc (.cells #[.int .i64 d1, .slice At (rdL C).length ct, .int .i64 d3] 25)).cell? ⟨w.heap.size, 2, none⟩ = some (.int .i64 0) := KB.cell 2
          have hf0 : (w8.alloc (.cells #[.int .i64 d1, .slice At (rdL C).length ct, .int .i64 d3] 25)).frozen? ⟨w.heap.size, 0, none⟩ = false := KB.frozen 0
          have hf1 : (w8.alloc (.cells #[.int .i64 d1, .slice At (rdL C).length ct, .int .i64 d3] 25)).frozen? ⟨w.heap.size, 1, none⟩ = false := KB.frozen 1
          have hf2 : (w8.alloc (.cells #[.int .i64 d1, .slice At (rdL C).length ct, .int .i64 d3] 25)).frozen? ⟨w.heap.size, 2, none⟩ = false := KB.frozen 2
          have BB := ((KB.set_ 0 (.int .i64 0)).set_ 1 (.slice none 0 0)).set_ 2 (.int .i64 0)
          have HR0 : Hid (((((w8.alloc (.cells #[.int .i64 d1, .slice At (rdL C).length ct, .int .i64 d3] 25)).setCell ⟨w.heap.size, 0, none⟩ (.int .i64 0)).setCell ⟨w.heap.size, 1, none⟩ (.slice none 0 0)).setCell ⟨w.heap.size, 2, none⟩ (.int .i64 0)).cell? ⟨w.heap.size, 0, none⟩ = some (.int .i64 0) ∧ ((((w8.alloc (.cells #[.int .i64 d1, .slice At (rdL C).length ct, .int .i64 d3] 25)).setCell ⟨w.heap.size, 0, none⟩ (.int .i64 0)).setCell ⟨w.heap.size, 1, none⟩ (.slice none 0 0)).setCell ⟨w.heap.size, 2, none⟩ (.int .i64 0)).cell? ⟨w.heap.size, 1, none⟩ = some (.slice none 0 0) ∧ ((((w8.alloc (.cells #[.int .i64 d1, .slice At (rdL C).length ct, .int .i64 d3] 25)).setCell ⟨w.heap.size, 0, none⟩ (.int .i64 0)).setCell ⟨w.heap.size, 1, none⟩ (.slice none 0 0)).setCell ⟨w.heap.size, 2, none⟩ (.int .i64 0)).cell? ⟨w.heap.size, 2, none⟩ = some (.int .i64 0)) := Lib.hid ⟨BB.cell 0, BB.cell 1, BB.cell 2⟩
          have HBZ := Lib.hid ((((below_step HB0.out HX9.out HB0.out.size).setCell (Nat.le_refl _) (.int .i64 0) (p := ⟨w.heap.size, 0, none⟩)).setCell (Nat.le_refl _) (.slice none 0 0) (p := ⟨w.heap.size, 1, none⟩)).setCell (Nat.le_refl _) (.int .i64 0) (p := ⟨w.heap.size, 2, none⟩))
          clear BB KB
          go_wp2_with fail
          obtain ⟨hr0, hr1, hr2⟩ := HR0.out
          refine bodyPost_ret (v := .tuple #[.agg #[.int .i64 0, .slice none 0 0, .int .i64 0], .bool false]) (by simp [results, Tryd.results15, go_sem, hr0, hr1, hr2]) rfl ?_
          exact wread_no HNO.out HBZ.out
      · have hA0 : (0 : Int) < (A.size : Int) := by omega
        have hA1 : 1 ≤ A.size := h0
        have hA2 : (1 : Int) ≤ (A.size : Int) := by omega
        have HA0 : Hid (A[0]'h0 = 45) := Lib.hid (u8_lit (d := 45) h1)
        go_wp2_with fail
        refine (l1Digits_any (A.extract 1 A.size) (by have := ext_le A 1 A.size; omega) w4).mono ?_
        rintro e w6 ⟨d2, rfl, r1, r2, hr9, b6⟩
        have HX6 := Lib.hid (below_step HX4.out b6 HX4.out.size)
        have OQ6 := Lib.hid (OQ4.out.below b6)
        have OT6 := Lib.hid (OT4.out.keep (SameAt.of_below b6))
        have HR9 := Lib.hid hr9
        obtain ⟨st, hst⟩ : ∃ st, -d2 = st := ⟨_, rfl⟩
        have hwn : IntKind.i64.wrap (-d2) = st := by rw [hst]; exact IntWalk.i64_in _ (by omega)
        have HST : Hid (∀ s : Int, -9 ≤ s ∧ s ≤ 9 → bs A = num s → st = s) := Lib.hid (fun s hs h => by
          have hb := bs_drop A h0
          rw [List.drop_zero, HA0.out] at hb
          by_cases hn : s < 0
          · rw [num_neg hn] at h
            have h2 : bs (A.extract 1 A.size) = [dg (-s).toNat] := by
              rw [bs_ext, h]
              have : A.size = 2 := by rw [← bs_len, h]; rfl
              rw [this]; rfl
            have := HR9.out (-s).toNat (by omega) h2
            omega
          · rw [num_pos (by omega), hb] at h
            injection h with h _
            exact absurd h.symm (dg_ne (n := s.toNat) (by omega)).2.2.1)
        clear b6 hr9 hst hcA
        have hcD := OQ6.out.cell (k := 1) (p := D) rfl
        go_wp2_with fail
        refine (l1Digits_any D (by omega) _).mono ?_
        rintro e w8 ⟨d3, rfl, p1, p2, hp9, b8⟩
        have HX8 := Lib.hid (below_step HX6.out b8 HX6.out.size)
        have OT8 := Lib.hid (OT6.out.keep (SameAt.of_below b8))
        have HP9 := Lib.hid hp9
        clear b8 hp9 hcD
        have hbA : Below w8.heap.size w8 (w8.alloc (.cells #[.int .i64 st, .slice At (rdL C).length ct, .int .i64 d3] 25)) := (Below.refl _ _).alloc (Nat.le_refl _) _
        have HW8 := Lib.hid (wag_cells w8 st (.slice At (rdL C).length ct) d3)
        have HX9 := Lib.hid (below_step HX8.out hbA HX8.out.size)
        have OT9 := Lib.hid (OT8.out.keep (SameAt.of_below hbA))
        clear hbA
        rcases Bool.eq_false_or_eq_true (rdB C) with hok | hok
        · obtain ⟨hw0, hw1, hw2⟩ := HW8.out _ (Below.refl _ _)
          rw [hok]
          go_wp2_with fail
          refine (specWagerText_any _ st _ (rdL C) d3 (OT9.out.rd qC_len)).mono ?_
          rintro e w10 ⟨rfl, b10⟩
          have HX10 := Lib.hid (below_step HX9.out b10 HX9.out.size)
          have OT10 := Lib.hid (OT9.out.keep (SameAt.of_below b10))
          obtain ⟨hw0', hw1', hw2'⟩ := HW8.out _ b10
          clear b10 hw0 hw1 hw2
          by_cases he : wgT st (rdL C) d3 = bs S
          · have hb3 : (wgT st (rdL C) d3 == S.toList) = true := by rw [bs_list]; simpa using he
            have hb4 : (wgT st (rdL C) d3 != S.toList) = false := by rw [bs_list]; simpa using he
            obtain ⟨T, hT, hW⟩ := read_back HP.out he
            have HWR := Lib.hid hW
            have HTE := Lib.hid hT
            clear he hW hT
            have KB := HBK.out w10 HX10.out
            have hc0 : w10.cell? ⟨w.heap.size, 0, none⟩ = some (.int .i64 0) := KB.cell 0
            have hc1 : w10.cell? ⟨w.heap.size, 1, none⟩ = some (.slice none 0 0) := KB.cell 1
            have hc2 : w10.cell? ⟨w.heap.size, 2, none⟩ = some (.int .i64 0) := KB.cell 2
            have hf0 : w10.frozen? ⟨w.heap.size, 0, none⟩ = false := KB.frozen 0
            have hf1 : w10.frozen? ⟨w.heap.size, 1, none⟩ = false := KB.frozen 1
            have hf2 : w10.frozen? ⟨w.heap.size, 2, none⟩ = false := KB.frozen 2
            have BB := ((KB.set_ 0 (.int .i64 st)).set_ 1 (.slice At (rdL C).length ct)).set_ 2 (.int .i64 d3)
            have HR0 : Hid ((((w10.setCell ⟨w.heap.size, 0, none⟩ (.int .i64 st)).setCell ⟨w.heap.size, 1, none⟩ (.slice At (rdL C).length ct)).setCell ⟨w.heap.size, 2, none⟩ (.int .i64 d3)).cell? ⟨w.heap.size, 0, none⟩ = some (.int .i64 st) ∧ (((w10.setCell ⟨w.heap.size, 0, none⟩ (.int .i64 st)).setCell ⟨w.heap.size, 1, none⟩ (.slice At (rdL C).length ct)).setCell ⟨w.heap.size, 2, none⟩ (.int .i64 d3)).cell? ⟨w.heap.size, 1, none⟩ = some (.slice At (rdL C).length ct) ∧ (((w10.setCell ⟨w.heap.size, 0, none⟩ (.int .i64 st)).setCell ⟨w.heap.size, 1, none⟩ (.slice At (rdL C).length ct)).setCell ⟨w.heap.size, 2, none⟩ (.int .i64 d3)).cell? ⟨w.heap.size, 2, none⟩ = some (.int .i64 d3)) := Lib.hid ⟨BB.cell 0, BB.cell 1, BB.cell 2⟩
            have HBZ := Lib.hid ((((below_step HB0.out HX10.out HB0.out.size).setCell (Nat.le_refl _) (.int .i64 st) (p := ⟨w.heap.size, 0, none⟩)).setCell (Nat.le_refl _) (.slice At (rdL C).length ct) (p := ⟨w.heap.size, 1, none⟩)).setCell (Nat.le_refl _) (.int .i64 d3) (p := ⟨w.heap.size, 2, none⟩))
            clear BB KB
            go_wp2_with fail
            obtain ⟨hr0, hr1, hr2⟩ := HR0.out
            refine bodyPost_ret (v := .tuple #[.agg #[.int .i64 st, .slice At (rdL C).length ct, .int .i64 d3], .bool true]) (by simp [results, Tryd.results15, go_sem, hr0, hr1, hr2]) rfl ?_
            exact wread_yes HWR.out (by rw [HTE.out]; exact GOwn.base (MOwn.kept OT10.out (set3_grown _ _ _ _ _) HLT.out) HB0.out.size) HBZ.out
          · have hb3 : (wgT st (rdL C) d3 == S.toList) = false := by rw [bs_list]; simpa using he
            have hb4 : (wgT st (rdL C) d3 != S.toList) = true := by rw [bs_list]; simpa using he
            have HNO : Hid (∀ s T p, ¬ WReadsB (bs S) s T p) := Lib.hid (fun s T p h => he (by
              obtain ⟨f1, f2, f3⟩ := read_facts HP.out HQ.out h
              have e1 := HST.out s h.2.1 f1
              have e3 := HP9.out p.toNat (by have := h.2.2.1; omega) (by rw [f3, num_pos h.2.2.1.1])
              have e2 := (rd_yes (S := C) (T := T) (by rw [f2]; exact reads_of h.2.2.2)).2
              have e3' : d3 = p := by have := h.2.2.1; omega
              rw [e1, e2, e3']
              exact h.ok.2))
            clear he
            have KB := HBK.out w10 HX10.out
            have hc0 : w10.cell? ⟨w.heap.size, 0, none⟩ = some (.int .i64 0) := KB.cell 0
            have hc1 : w10.cell? ⟨w.heap.size, 1, none⟩ = some (.slice none 0 0) := KB.cell 1
            have hc2 : w10.cell? ⟨w.heap.size, 2, none⟩ = some (.int .i64 0) := KB.cell 2
            have hf0 : w10.frozen? ⟨w.heap.size, 0, none⟩ = false := KB.frozen 0
            have hf1 : w10.frozen? ⟨w.heap.size, 1, none⟩ = false := KB.frozen 1
            have hf2 : w10.frozen? ⟨w.heap.size, 2, none⟩ = false := KB.frozen 2
            have BB := ((KB.set_ 0 (.int .i64 0)).set_ 1 (.slice none 0 0)).set_ 2 (.int .i64 0)
            have HR0 : Hid ((((w10.setCell ⟨w.heap.size, 0, none⟩ (.int .i64 0)).setCell ⟨w.heap.size, 1, none⟩ (.slice none 0 0)).setCell ⟨w.heap.size, 2, none⟩ (.int .i64 0)).cell? ⟨w.heap.size, 0, none⟩ = some (.int .i64 0) ∧ (((w10.setCell ⟨w.heap.size, 0, none⟩ (.int .i64 0)).setCell ⟨w.heap.size, 1, none⟩ (.slice none 0 0)).setCell ⟨w.heap.size, 2, none⟩ (.int .i64 0)).cell? ⟨w.heap.size, 1, none⟩ = some (.slice none 0 0) ∧ (((w10.setCell ⟨w.heap.size, 0, none⟩ (.int .i64 0)).setCell ⟨w.heap.size, 1, none⟩ (.slice none 0 0)).setCell ⟨w.heap.size, 2, none⟩ (.int .i64 0)).cell? ⟨w.heap.size, 2, none⟩ = some (.int .i64 0)) := Lib.hid ⟨BB.cell 0, BB.cell 1, BB.cell 2⟩
            have HBZ := Lib.hid ((((below_step HB0.out HX10.out HB0.out.size).setCell (Nat.le_refl _) (.int .i64 0) (p := ⟨w.heap.size, 0, none⟩)).setCell (Nat.le_refl _) (.slice none 0 0) (p := ⟨w.heap.size, 1, none⟩)).setCell (Nat.le_refl _) (.int .i64 0) (p := ⟨w.heap.size, 2, none⟩))
            clear BB KB
            go_wp2_with fail
            obtain ⟨hr0, hr1, hr2⟩ := HR0.out
            refine bodyPost_ret (v := .tuple #[.agg #[.int .i64 0, .slice none 0 0, .int .i64 0], .bool false]) (by simp [results, Tryd.results15, go_sem, hr0, hr1, hr2]) rfl ?_
            exact wread_no HNO.out HBZ.out
        · have HNO : Hid (∀ s T p, ¬ WReadsB (bs S) s T p) := Lib.hid (fun s T p h => by
            obtain ⟨f1, f2, f3⟩ := read_facts HP.out HQ.out h
            have := (rd_yes (S := C) (T := T) (by rw [f2]; exact reads_of h.2.2.2)).1
            rw [hok] at this
            cases this)
          rw [hok]
          have KB := HBK.out (w8.alloc (.cells #[.int .i64 st, .slice At (rdL C).length ct, .int .i64 d3] 25)) HX9.out
          have hc0 : (w8.alloc (.cells #[.int .i64 st, .slice At (rdL C).length ct, .int .i64 d3] 25)).cell? ⟨w.heap.size, 0, none⟩ = some (.int .i64 0) := KB.cell 0
          have hc1 : (w8.alloc (.cells #[.int .i64 st, .slice At (rdL C).length ct, .int .i64 d3] 25)).cell? ⟨w.heap.size, 1, none⟩ = some (.slice none 0 0) := KB.cell 1
          have hc2 : (w8.alloc (.cells #[.int .i64 st, .slice At (rdL C).length ct, .int .i64 d3] 25)).cell? ⟨w.heap.size, 2, none⟩ = some (.int .i64 0) := KB.cell 2
          have hf0 : (w8.alloc (.cells #[.int .i64 st, .slice At (rdL C).length ct, .int .i64 d3] 25)).frozen? ⟨w.heap.size, 0, none⟩ = false := KB.frozen 0
          have hf1 : (w8.alloc (.cells #[.int .i64 st, .slice At (rdL C).length ct, .int .i64 d3] 25)).frozen? ⟨w.heap.size, 1, none⟩ = false := KB.frozen 1
          have hf2 : (w8.alloc (.cells #[.int .i64 st, .slice At (rdL C).length ct, .int .i64 d3] 25)).frozen? ⟨w.heap.size, 2, none⟩ = false := KB.frozen 2
          have BB := ((KB.set_ 0 (.int .i64 0)).set_ 1 (.slice none 0 0)).set_ 2 (.int .i64 0)
          have HR0 : Hid (((((w8.alloc (.cells #[.int .i64 st, .slice At (rdL C).length ct, .int .i64 d3] 25)).setCell ⟨w.heap.size, 0, none⟩ (.int .i64 0)).setCell ⟨w.heap.size, 1, none⟩ (.slice none 0 0)).setCell ⟨w.heap.size, 2, none⟩ (.int .i64 0)).cell? ⟨w.heap.size, 0, none⟩ = some (.int .i64 0) ∧ ((((w8.alloc (.cells #[.int .i64 st, .slice At (rdL C).length ct, .int .i64 d3] 25)).setCell ⟨w.heap.size, 0, none⟩ (.int .i64 0)).setCell ⟨w.heap.size, 1, none⟩ (.slice none 0 0)).setCell ⟨w.heap.size, 2, none⟩ (.int .i64 0)).cell? ⟨w.heap.size, 1, none⟩ = some (.slice none 0 0) ∧ ((((w8.alloc (.cells #[.int .i64 st, .slice At (rdL C).length ct, .int .i64 d3] 25)).setCell ⟨w.heap.size, 0, none⟩ (.int .i64 0)).setCell ⟨w.heap.size, 1, none⟩ (.slice none 0 0)).setCell ⟨w.heap.size, 2, none⟩ (.int .i64 0)).cell? ⟨w.heap.size, 2, none⟩ = some (.int .i64 0)) := Lib.hid ⟨BB.cell 0, BB.cell 1, BB.cell 2⟩
          have HBZ := Lib.hid ((((below_step HB0.out HX9.out HB0.out.size).setCell (Nat.le_refl _) (.int .i64 0) (p := ⟨w.heap.size, 0, none⟩)).setCell (Nat.le_refl _) (.slice none 0 0) (p := ⟨w.heap.size, 1, none⟩)).setCell (Nat.le_refl _) (.int .i64 0) (p := ⟨w.heap.size, 2, none⟩))
          clear BB KB
          go_wp2_with fail
          obtain ⟨hr0, hr1, hr2⟩ := HR0.out
          refine bodyPost_ret (v := .tuple #[.agg #[.int .i64 0, .slice none 0 0, .int .i64 0], .bool false]) (by simp [results, Tryd.results15, go_sem, hr0, hr1, hr2]) rfl ?_
          exact wread_no HNO.out HBZ.out
      · have hA0 : (0 : Int) < (A.size : Int) := by omega
        have hbq : ((b : Int) == 45) = false := by rw [beq_eq_false_iff_ne]; omega
        have HST : Hid (∀ s : Int, -9 ≤ s ∧ s ≤ 9 → bs A = num s → d1 = s) := Lib.hid (fun s hs h => by
          have hbb := bs_drop A h0
          rw [List.drop_zero] at hbb
          by_cases hn : s < 0
          · rw [num_neg hn, hbb] at h
            injection h with h _
            rw [h] at hb
            exact absurd hb.symm hb1
          · rw [num_pos (by omega)] at h
            have := HQ9.out s.toNat (by omega) h
            omega)
        have hcD := OQ4.out.cell (k := 1) (p := D) rfl
        go_wp2_with fail
        refine (l1Digits_any D (by omega) _).mono ?_
        rintro e w8 ⟨d3, rfl, p1, p2, hp9, b8⟩
        have HX8 := Lib.hid (below_step HX4.out b8 HX4.out.size)
        have OT8 := Lib.hid (OT4.out.keep (SameAt.of_below b8))
        have HP9 := Lib.hid hp9
        clear b8 hp9 hcD
        have hbA : Below w8.heap.size w8 (w8.alloc (.cells #[.int .i64 d1, .slice At (rdL C).length ct, .int .i64 d3] 25)) := (Below.refl _ _).alloc (Nat.le_refl _) _
        have HW8 := Lib.hid (wag_cells w8 d1 (.slice At (rdL C).length ct) d3)
        have HX9 := Lib.hid (below_step HX8.out hbA HX8.out.size)
        have OT9 := Lib.hid (OT8.out.keep (SameAt.of_below hbA))
        clear hbA
        rcases Bool.eq_false_or_eq_true (rdB C) with hok | hok
        · obtain ⟨hw0, hw1, hw2⟩ := HW8.out _ (Below.refl _ _)
          rw [hok]
          go_wp2_with fail
          refine (specWagerText_any _ d1 _ (rdL C) d3 (OT9.out.rd qC_len)).mono ?_
          rintro e w10 ⟨rfl, b10⟩
          have HX10 := Lib.hid (below_step HX9.out b10 HX9.out.size)
          have OT10 := Lib.hid (OT9.out.keep (SameAt.of_below b10))
          obtain ⟨hw0', hw1', hw2'⟩ := HW8.out _ b10
          clear b10 hw0 hw1 hw2
          by_cases he : wgT d1 (rdL C) d3 = bs S
          · have hb3 : (wgT d1 (rdL C) d3 == S.toList) = true := by rw [bs_list]; simpa using he
            have hb4 : (wgT d1 (rdL C) d3 != S.toList) = false := by rw [bs_list]; simpa using he
            obtain ⟨T, hT, hW⟩ := read_back HP.out he
            have HWR := Lib.hid hW
            have HTE := Lib.hid hT
            clear he hW hT
            have KB := HBK.out w10 HX10.out
            have hc0 : w10.cell? ⟨w.heap.size, 0, none⟩ = some (.int .i64 0) := KB.cell 0
            have hc1 : w10.cell? ⟨w.heap.size, 1, none⟩ = some (.slice none 0 0) := KB.cell 1
            have hc2 : w10.cell? ⟨w.heap.size, 2, none⟩ = some (.int .i64 0) := KB.cell 2
            have hf0 : w10.frozen? ⟨w.heap.size, 0, none⟩ = false := KB.frozen 0
            have hf1 : w10.frozen? ⟨w.heap.size, 1, none⟩ = false := KB.frozen 1
            have hf2 : w10.frozen? ⟨w.heap.size, 2, none⟩ = false := KB.frozen 2
            have BB := ((KB.set_ 0 (.int .i64 d1)).set_ 1 (.slice At (rdL C).length ct)).set_ 2 (.int .i64 d3)
            have HR0 : Hid ((((w10.setCell ⟨w.heap.size, 0, none⟩ (.int .i64 d1)).setCell ⟨w.heap.size, 1, none⟩ (.slice At (rdL C).length ct)).setCell ⟨w.heap.size, 2, none⟩ (.int .i64 d3)).cell? ⟨w.heap.size, 0, none⟩ = some (.int .i64 d1) ∧ (((w10.setCell ⟨w.heap.size, 0, none⟩ (.int .i64 d1)).setCell ⟨w.heap.size, 1, none⟩ (.slice At (rdL C).length ct)).setCell ⟨w.heap.size, 2, none⟩ (.int .i64 d3)).cell? ⟨w.heap.size, 1, none⟩ = some (.slice At (rdL C).length ct) ∧ (((w10.setCell ⟨w.heap.size, 0, none⟩ (.int .i64 d1)).setCell ⟨w.heap.size, 1, none⟩ (.slice At (rdL C).length ct)).setCell ⟨w.heap.size, 2, none⟩ (.int .i64 d3)).cell? ⟨w.heap.size, 2, none⟩ = some (.int .i64 d3)) := Lib.hid ⟨BB.cell 0, BB.cell 1, BB.cell 2⟩
            have HBZ := Lib.hid ((((below_step HB0.out HX10.out HB0.out.size).setCell (Nat.le_refl _) (.int .i64 d1) (p := ⟨w.heap.size, 0, none⟩)).setCell (Nat.le_refl _) (.slice At (rdL C).length ct) (p := ⟨w.heap.size, 1, none⟩)).setCell (Nat.le_refl _) (.int .i64 d3) (p := ⟨w.heap.size, 2, none⟩))
            clear BB KB
            go_wp2_with fail
            obtain ⟨hr0, hr1, hr2⟩ := HR0.out
            refine bodyPost_ret (v := .tuple #[.agg #[.int .i64 d1, .slice At (rdL C).length ct, .int .i64 d3], .bool true]) (by simp [results, Tryd.results15, go_sem, hr0, hr1, hr2]) rfl ?_
            exact wread_yes HWR.out (by rw [HTE.out]; exact GOwn.base (MOwn.kept OT10.out (set3_grown _ _ _ _ _) HLT.out) HB0.out.size) HBZ.out
          · have hb3 : (wgT d1 (rdL C) d3 == S.toList) = false := by rw [bs_list]; simpa using he
            have hb4 : (wgT d1 (rdL C) d3 != S.toList) = true := by rw [bs_list]; simpa using he
            have HNO : Hid (∀ s T p, ¬ WReadsB (bs S) s T p) := Lib.hid (fun s T p h => he (by
              obtain ⟨f1, f2, f3⟩ := read_facts HP.out HQ.out h
              have e1 := HST.out s h.2.1 f1
              have e3 := HP9.out p.toNat (by have := h.2.2.1; omega) (by rw [f3, num_pos h.2.2.1.1])
              have e2 := (rd_yes (S := C) (T := T) (by rw [f2]; exact reads_of h.2.2.2)).2
              have e3' : d3 = p := by have := h.2.2.1; omega
              rw [e1, e2, e3']
              exact h.ok.2))
            clear he
            have KB := HBK.out w10 HX10.out
            have hc0 : w10.cell? ⟨w.heap.size, 0, none⟩ = some (.int .i64 0) := KB.cell 0
            have hc1 : w10.cell? ⟨w.heap.size, 1, none⟩ = some (.slice none 0 0) := KB.cell 1
            have hc2 : w10.cell? ⟨w.heap.size, 2, none⟩ = some (.int .i64 0) := KB.cell 2
            have hf0 : w10.frozen? ⟨w.heap.size, 0, none⟩ = false := KB.frozen 0
            have hf1 : w10.frozen? ⟨w.heap.size, 1, none⟩ = false := KB.frozen 1
            have hf2 : w10.frozen? ⟨w.heap.size, 2, none⟩ = false := KB.frozen 2
            have BB := ((KB.set_ 0 (.int .i64 0)).set_ 1 (.slice none 0 0)).set_ 2 (.int .i64 0)
            have HR0 : Hid ((((w10.setCell ⟨w.heap.size, 0, none⟩ (.int .i64 0)).setCell ⟨w.heap.size, 1, none⟩ (.slice none 0 0)).setCell ⟨w.heap.size, 2, none⟩ (.int .i64 0)).cell? ⟨w.heap.size, 0, none⟩ = some (.int .i64 0) ∧ (((w10.setCell ⟨w.heap.size, 0, none⟩ (.int .i64 0)).setCell ⟨w.heap.size, 1, none⟩ (.slice none 0 0)).setCell ⟨w.heap.size, 2, none⟩ (.int .i64 0)).cell? ⟨w.heap.size, 1, none⟩ = some (.slice none 0 0) ∧ (((w10.setCell ⟨w.heap.size, 0, none⟩ (.int .i64 0)).setCell ⟨w.heap.size, 1, none⟩ (.slice none 0 0)).setCell ⟨w.heap.size, 2, none⟩ (.int .i64 0)).cell? ⟨w.heap.size, 2, none⟩ = some (.int .i64 0)) := Lib.hid ⟨BB.cell 0, BB.cell 1, BB.cell 2⟩
            have HBZ := Lib.hid ((((below_step HB0.out HX10.out HB0.out.size).setCell (Nat.le_refl _) (.int .i64 0) (p := ⟨w.heap.size, 0, none⟩)).setCell (Nat.le_refl _) (.slice none 0 0) (p := ⟨w.heap.size, 1, none⟩)).setCell (Nat.le_refl _) (.int .i64 0) (p := ⟨w.heap.size, 2, none⟩))
            clear BB KB
            go_wp2_with fail
            obtain ⟨hr0, hr1, hr2⟩ := HR0.out
            refine bodyPost_ret (v := .tuple #[.agg #[.int .i64 0, .slice none 0 0, .int .i64 0], .bool false]) (by simp [results, Tryd.results15, go_sem, hr0, hr1, hr2]) rfl ?_
            exact wread_no HNO.out HBZ.out
        · have HNO : Hid (∀ s T p, ¬ WReadsB (bs S) s T p) := Lib.hid (fun s T p h => by
            obtain ⟨f1, f2, f3⟩ := read_facts HP.out HQ.out h
            have := (rd_yes (S := C) (T := T) (by rw [f2]; exact reads_of h.2.2.2)).1
            rw [hok] at this
            cases this)
          rw [hok]
          have KB := HBK.out (w8.alloc (.cells #[.int .i64 d1, .slice At (rdL C).length ct, .int .i64 d3] 25)) HX9.out
          have hc0 : (w8.alloc (.cells #[.int .i64 d1, .slice At (rdL C).length ct, .int .i64 d3] 25)).cell? ⟨w.heap.size, 0, none⟩ = some (.int .i64 0) := KB.cell 0
          have hc1 : (w8.alloc (.cells #[.int .i64 d1, .slice At (rdL C).length ct, .int .i64 d3] 25)).cell? ⟨w.heap.size, 1, none⟩ = some (.slice none 0 0) := KB.cell 1
          have hc2 : (w8.alloc (.cells #[.int .i64 d1, .slice At (rdL C).length ct, .int .i64 d3] 25)).cell? ⟨w.heap.size, 2, none⟩ = some (.int .i64 0) := KB.cell 2
          have hf0 : (w8.alloc (.cells #[.int .i64 d1, .slice At (rdL C).length ct, .int .i64 d3] 25)).frozen? ⟨w.heap.size, 0, none⟩ = false := KB.frozen 0
          have hf1 : (w8.alloc (.cells #[.int .i64 d1, .slice At (rdL C).length ct, .int .i64 d3] 25)).frozen? ⟨w.heap.size, 1, none⟩ = false := KB.frozen 1
          have hf2 : (w8.alloc (.cells #[.int .i64 d1, .slice At (rdL C).length ct, .int .i64 d3] 25)).frozen? ⟨w.heap.size, 2, none⟩ = false := KB.frozen 2
          have BB := ((KB.set_ 0 (.int .i64 0)).set_ 1 (.slice none 0 0)).set_ 2 (.int .i64 0)
          have HR0 : Hid (((((w8.alloc (.cells #[.int .i64 d1, .slice At (rdL C).length ct, .int .i64 d3] 25)).setCell ⟨w.heap.size, 0, none⟩ (.int .i64 0)).setCell ⟨w.heap.size, 1, none⟩ (.slice none 0 0)).setCell ⟨w.heap.size, 2, none⟩ (.int .i64 0)).cell? ⟨w.heap.size, 0, none⟩ = some (.int .i64 0) ∧ ((((w8.alloc (.cells #[.int .i64 d1, .slice At (rdL C).length ct, .int .i64 d3] 25)).setCell ⟨w.heap.size, 0, none⟩ (.int .i64 0)).setCell ⟨w.heap.size, 1, none⟩ (.slice none 0 0)).setCell ⟨w.heap.size, 2, none⟩ (.int .i64 0)).cell? ⟨w.heap.size, 1, none⟩ = some (.slice none 0 0) ∧ ((((w8.alloc (.cells #[.int .i64 d1, .slice At (rdL C).length ct, .int .i64 d3] 25)).setCell ⟨w.heap.size, 0, none⟩ (.int .i64 0)).setCell ⟨w.heap.size, 1, none⟩ (.slice none 0 0)).setCell ⟨w.heap.size, 2, none⟩ (.int .i64 0)).cell? ⟨w.heap.size, 2, none⟩ = some (.int .i64 0)) := Lib.hid ⟨BB.cell 0, BB.cell 1, BB.cell 2⟩
          have HBZ := Lib.hid ((((below_step HB0.out HX9.out HB0.out.size).setCell (Nat.le_refl _) (.int .i64 0) (p := ⟨w.heap.size, 0, none⟩)).setCell (Nat.le_refl _) (.slice none 0 0) (p := ⟨w.heap.size, 1, none⟩)).setCell (Nat.le_refl _) (.int .i64 0) (p := ⟨w.heap.size, 2, none⟩))
          clear BB KB
          go_wp2_with fail
          obtain ⟨hr0, hr1, hr2⟩ := HR0.out
          refine bodyPost_ret (v := .tuple #[.agg #[.int .i64 0, .slice none 0 0, .int .i64 0], .bool false]) (by simp [results, Tryd.results15, go_sem, hr0, hr1, hr2]) rfl ?_
          exact wread_no HNO.out HBZ.out
    · have HNO := Lib.hid (cut_second HP.out hqs hl2)
      have hlq : ((qs.length : Int) == 2) = false := by rw [beq_eq_false_iff_ne]; omega
      clear hqs hl2 hqz
      have KB := HBK.out w2 HX2.out
      have hc0 : w2.cell? ⟨w.heap.size, 0, none⟩ = some (.int .i64 0) := KB.cell 0
      have hc1 : w2.cell? ⟨w.heap.size, 1, none⟩ = some (.slice none 0 0) := KB.cell 1
      have hc2 : w2.cell? ⟨w.heap.size, 2, none⟩ = some (.int .i64 0) := KB.cell 2
      have hf0 : w2.frozen? ⟨w.heap.size, 0, none⟩ = false := KB.frozen 0
      have hf1 : w2.frozen? ⟨w.heap.size, 1, none⟩ = false := KB.frozen 1
      have hf2 : w2.frozen? ⟨w.heap.size, 2, none⟩ = false := KB.frozen 2
      have BB := ((KB.set_ 0 (.int .i64 0)).set_ 1 (.slice none 0 0)).set_ 2 (.int .i64 0)
      have HR0 : Hid ((((w2.setCell ⟨w.heap.size, 0, none⟩ (.int .i64 0)).setCell ⟨w.heap.size, 1, none⟩ (.slice none 0 0)).setCell ⟨w.heap.size, 2, none⟩ (.int .i64 0)).cell? ⟨w.heap.size, 0, none⟩ = some (.int .i64 0) ∧ (((w2.setCell ⟨w.heap.size, 0, none⟩ (.int .i64 0)).setCell ⟨w.heap.size, 1, none⟩ (.slice none 0 0)).setCell ⟨w.heap.size, 2, none⟩ (.int .i64 0)).cell? ⟨w.heap.size, 1, none⟩ = some (.slice none 0 0) ∧ (((w2.setCell ⟨w.heap.size, 0, none⟩ (.int .i64 0)).setCell ⟨w.heap.size, 1, none⟩ (.slice none 0 0)).setCell ⟨w.heap.size, 2, none⟩ (.int .i64 0)).cell? ⟨w.heap.size, 2, none⟩ = some (.int .i64 0)) := Lib.hid ⟨BB.cell 0, BB.cell 1, BB.cell 2⟩
      have HBZ := Lib.hid ((((below_step HB0.out HX2.out HB0.out.size).setCell (Nat.le_refl _) (.int .i64 0) (p := ⟨w.heap.size, 0, none⟩)).setCell (Nat.le_refl _) (.slice none 0 0) (p := ⟨w.heap.size, 1, none⟩)).setCell (Nat.le_refl _) (.int .i64 0) (p := ⟨w.heap.size, 2, none⟩))
      clear BB KB
      go_wp2_with fail
      obtain ⟨hr0, hr1, hr2⟩ := HR0.out
      refine bodyPost_ret (v := .tuple #[.agg #[.int .i64 0, .slice none 0 0, .int .i64 0], .bool false]) (by simp [results, Tryd.results15, go_sem, hr0, hr1, hr2]) rfl ?_
      exact wread_no HNO.out HBZ.out
  · have HNO := Lib.hid (cut_first hps hl)
    have hlq : ((ps.length : Int) == 2) = false := by rw [beq_eq_false_iff_ne]; omega
    clear hps hl hsz
    have KB := HBK.out w1 HX1.out
    have hc0 : w1.cell? ⟨w.heap.size, 0, none⟩ = some (.int .i64 0) := KB.cell 0
    have hc1 : w1.cell? ⟨w.heap.size, 1, none⟩ = some (.slice none 0 0) := KB.cell 1
    have hc2 : w1.cell? ⟨w.heap.size, 2, none⟩ = some (.int .i64 0) := KB.cell 2
    have hf0 : w1.frozen? ⟨w.heap.size, 0, none⟩ = false := KB.frozen 0
    have hf1 : w1.frozen? ⟨w.heap.size, 1, none⟩ = false := KB.frozen 1
    have hf2 : w1.frozen? ⟨w.heap.size, 2, none⟩ = false := KB.frozen 2
    have BB := ((KB.set_ 0 (.int .i64 0)).set_ 1 (.slice none 0 0)).set_ 2 (.int .i64 0)
    have HR0 : Hid ((((w1.setCell ⟨w.heap.size, 0, none⟩ (.int .i64 0)).setCell ⟨w.heap.size, 1, none⟩ (.slice none 0 0)).setCell ⟨w.heap.size, 2, none⟩ (.int .i64 0)).cell? ⟨w.heap.size, 0, none⟩ = some (.int .i64 0) ∧ (((w1.setCell ⟨w.heap.size, 0, none⟩ (.int .i64 0)).setCell ⟨w.heap.size, 1, none⟩ (.slice none 0 0)).setCell ⟨w.heap.size, 2, none⟩ (.int .i64 0)).cell? ⟨w.heap.size, 1, none⟩ = some (.slice none 0 0) ∧ (((w1.setCell ⟨w.heap.size, 0, none⟩ (.int .i64 0)).setCell ⟨w.heap.size, 1, none⟩ (.slice none 0 0)).setCell ⟨w.heap.size, 2, none⟩ (.int .i64 0)).cell? ⟨w.heap.size, 2, none⟩ = some (.int .i64 0)) := Lib.hid ⟨BB.cell 0, BB.cell 1, BB.cell 2⟩
    have HBZ := Lib.hid ((((below_step HB0.out HX1.out HB0.out.size).setCell (Nat.le_refl _) (.int .i64 0) (p := ⟨w.heap.size, 0, none⟩)).setCell (Nat.le_refl _) (.slice none 0 0) (p := ⟨w.heap.size, 1, none⟩)).setCell (Nat.le_refl _) (.int .i64 0) (p := ⟨w.heap.size, 2, none⟩))
    clear BB KB
    go_wp2_with fail
    obtain ⟨hr0, hr1, hr2⟩ := HR0.out
    refine bodyPost_ret (v := .tuple #[.agg #[.int .i64 0, .slice none 0 0, .int .i64 0], .bool false]) (by simp [results, Tryd.results15, go_sem, hr0, hr1, hr2]) rfl ?_
    exact wread_no HNO.out HBZ.out

end Go.Proofs.YtfdlfgokoponmaaDoor
