/- The walk of the law of TableOk. Conditions: a row of bytes that came in. -/
import Derived.Test.YtempdaodmjiloaaVa
import Derived.Test.YtempdaodmjiloaaUi
namespace Go.Proofs.Ytempdaodmjiloaa
open Go.RowKit
set_option linter.unusedVariables false

section
variable {P : Program} {ops : Array Oper} {Q : Exit → Act → World → Prop} {a : Act} {w : World} {rest : List Oper} {o : Oper}

/-- an append that is guarded, and wanted -/
theorem wpList_append_wanted (hw : Region.wanted o (yielded ops a.tmps) = true) (s x : Operand) (t : TypeId)
    (ho : o.op = .call { callee := .builtin .append, args := #[s, x], argTypes := #[t, t] })
    (base : Nat) (e : TypeId) (i : TypeInfo) (z : Value) (size bytes : Nat) (ht : P.underlying t = some (.slice e)) (hi : P.info? e = some i) (hz : i.zero = some z)
    (hsize : i.size = size) (hby : i.bytes = bytes) (hzs : z.cells.size = size) (hsz : 0 < size)
    (v : Value) (n : Nat) (xs : List Value) (hs : a.eval s = v) (hown : w.ownsRow base e size v n xs)
    (ad : Addr) (m c : Nat) (news : List Value) (hx : a.eval x = .slice (some ad) m c) (hl : news.length = m * size) (hnews : ∀ j u, news[j]? = some u → w.cell? (ad.add j) = some u) (h1 : ∀ u ∈ news, u.oneCell' = true)
    (h63 : n + m ≤ maxLen) (hbytes : (n + m) * bytes ≤ 140737488355328) (hbase : base ≤ w.heap.size)
    (h : ∀ v' w', w'.ownsRow base e size v' (n + m) (xs ++ news) → w.grownBy w' v.ownBlock → (v' = .slice none 0 0 ↔ v = .slice none 0 0 ∧ m = 0) → wpList P ops Q rest (a.put o.dst v') w') : wpList P ops Q (o :: rest) a w :=
  wpList_step fun K hK => by
    rw [if_pos hw]
    exact wp_append_own w s x t ho base e i z size bytes ht hi hz hsize hby hzs hsz v n xs hs hown ad m c news hx hl hnews h1 h63 hbytes hbase fun v' w' h2 h3 h4 => hK _ _ (h v' w' h2 h3 h4)

end

theorem news_of_rd {w : World} {G off n c : Nat} {t : List Int} (h : IRd w (.slice (some ⟨G, off, none⟩) n c) t) : ∀ j u, (t.map (Value.int .i64))[j]? = some u → w.cell? ((⟨G, off, none⟩ : Addr).add j) = some u := by
  intro j u hu
  rw [List.getElem?_map] at hu
  obtain ⟨x, hx, rfl⟩ := Option.map_eq_some_iff.1 hu
  rw [addr_add]; exact IRd.cellk h hx

theorem ones_int (t : List Int) : ∀ u ∈ t.map (Value.int .i64), u.oneCell' = true := by
  intro u hu
  obtain ⟨x, -, rfl⟩ := List.mem_map.1 hu
  rfl

set_option maxRecDepth 100000 in
set_option maxHeartbeats 8000000 in
theorem FnTableOk_walk (a0 : Option Addr) (len0 cap0 : Nat) (z0 : List Int) (w : World) (w0 : IsRowC .u8 w a0 len0 cap0 z0) :
    Calls Try.prog 3 #[.slice a0 len0 cap0] w fun e w' => e = .returned (.bool true) ∧ Below w.heap.size w w' := by
  by_cases hlen : 1048576 < len0
  · clear w0
    go_enter Try.func3, Try.ntmps3
    go_wp2
    go_ret
    exact ⟨rfl, Below.refl _ _⟩
  · have hlen' : decide (1048576 < len0) = false := by simpa using hlen
    go_enter Try.func3, Try.ntmps3
    go_wp2_with fail
    refine (drawTableOk_any _ _ _ _ _ w0).mono ?_
    rintro e w1 ⟨n, vt, t, rfl, ovt1, hl17, hn1, hn5, B1⟩
    clear hlen hlen' w0
    have z1 := B1.size
    obtain ⟨i0, hi, hz0, hz1, hz2⟩ := info_parts Try_intinfo
    obtain rfl | rfl | rfl | rfl | rfl : n = 5 ∨ n = 1 ∨ n = 2 ∨ n = 3 ∨ n = 4 := by omega
    · have HT : Hid (tokB 5 t = false) := Lib.hid (by rw [tokB]; rfl)
      clear hi hz0 hz1 hz2
      go_wp2_with fail
      refine (implTableOk_any _ _ _ _ (ovt1.rd)).mono ?_
      rintro e w' ⟨rfl, rfl⟩
      rw [HT.out]
      go_wp2_with fail
      refine (specTableOk_any _ _ _ _ (ovt1.rd)).mono ?_
      rintro e w' ⟨rfl, rfl⟩
      rw [HT.out]
      go_wp2_with fail
      refine (alive_any _).mono ?_
      rintro e w' ⟨rfl, rfl⟩
      go_wp2_with fail
      go_ret
      exact ⟨ret_bool (by simp), B1⟩
    · have hmk : ∀ w : World, (Instr.makeSlice 23 (.int .i64 2) (.int .i64 2)).run Try.prog w = .ok (.slice (some ⟨w.heap.size, 0, none⟩) 2 2) (w.alloc (.cells #[.int .i64 0, .int .i64 0] 3)) := by
        intro w
        have h := run_make (P := Try.prog) w 23 3 i0 (.int .i64 0) Try.underlying23 hi hz0 .i64 .i64 2 2 (by omega) (Int.le_refl _) (by rw [hz2]; omega) (by omega)
        rw [hz1] at h
        have e : madeCells (Value.int .i64 0).cells (Int.toNat 2 * 1) = #[.int .i64 0, .int .i64 0] := by kernel_rfl
        rw [e] at h
        exact h
      have HZ0 : Hid (∀ w : World, IOwn (w.alloc (.cells #[.int .i64 0, .int .i64 0] 3)) w.heap.size (.slice (some ⟨w.heap.size, 0, none⟩) 2 2) [0, 0]) := Lib.hid (fun w => World.ownsRow_lit w #[.int .i64 0, .int .i64 0] 2 (Nat.le_refl _) (by unfold maxLen; omega) rfl)
      have HZT : Hid (tokB 1 [0, 0] = true) := Lib.hid (by decide)
      rcases Bool.eq_false_or_eq_true (tokB 1 t) with h | h
      · have HT := Lib.hid h
        have HT2 := Lib.hid (tok_more h)
        obtain ⟨-, -, -, -, -, h16, hN⟩ := tok_len h
        have HNN := Lib.hid hN
        clear h hN
        go_wp2_with fail
        refine (implTableOk_any _ _ _ _ (ovt1.rd)).mono ?_
        rintro e w' ⟨rfl, rfl⟩
        rw [HT.out]
        go_wp2_with fail
        refine (specTableOk_any _ _ _ _ (ovt1.rd)).mono ?_
        rintro e w' ⟨rfl, rfl⟩
        rw [HT.out]
        obtain ⟨A, c, rfl, hlc, hmc, -⟩ := id ovt1.rd
        obtain ⟨G, off, x0, rfl, -, -, -⟩ := ovt1.rd.at_ (k := 0) (by have := HNN.out; omega)
        have HO2 : Hid (IRd (w1.alloc (.cells #[.int .i64 0, .int .i64 0] 3)) (.slice (some ⟨G, off, none⟩) t.length c) t) := Lib.hid (ovt1.rd.keep (SameAt.of_below ((Below.refl _ w1).alloc (Nat.le_refl _) _)))
        have HB2 : Hid (Below w.heap.size w (w1.alloc (.cells #[.int .i64 0, .int .i64 0] 3))) := Lib.hid (B1.alloc B1.size _)
        go_wp2_with fail
        refine (implTableOk_any _ _ _ [0, 0] (HZ0.out _).rd).mono ?_
        rintro e w' ⟨rfl, rfl⟩
        rw [HZT.out]
        generalize w1.alloc (.cells #[.int .i64 0, .int .i64 0] 3) = w2 at HO2 HB2 ⊢
        have HO3 : Hid (IRd (w2.alloc (.cells #[] 3)) (.slice (some ⟨G, off, none⟩) t.length c) t) := Lib.hid (HO2.out.keep (SameAt.of_below ((Below.refl _ w2).alloc (Nat.le_refl _) _)))
        have hown0 := lit_own w2 w2.heap.size (Nat.le_refl _)
        unfold IOwn at hown0
        have hown := Lib.hid hown0
        clear hown0
        go_wp2_with (at_builtin; refine wpList_append_wanted rfl _ _ 23 rfl w2.heap.size 3 i0 (.int .i64 0) 1 8 Try.underlying23 hi hz0 hz1 hz2 rfl (by decide) _ _ _ rfl hown.out ⟨G, off, none⟩ t.length c (t.map (Value.int .i64)) rfl (by simp) (news_of_rd HO3.out) (ones_int t) ?_ ?_ ?_ ?_)
        · unfold maxLen; (first | omega | (simp only [List.length_nil]; omega))
        · (first | omega | (simp only [List.length_nil]; omega))
        · rw [World.size_alloc]; omega
        intro v3 w3 hown3 hgrow3 _
        have HG3 : Hid (IOwn w3 w2.heap.size v3 t) := Lib.hid (by simpa [IOwn] using hown3)
        have HB3 : Hid (Below w.heap.size w w3) := Lib.hid ((HB2.out.alloc HB2.out.size _).grown hgrow3 (by have := HB2.out.size; simp; omega) (fun g hg => by have := HB2.out.size; have hg' : w2.heap.size = g := Option.some.inj hg; omega))
        have hs3 : w2.heap.size ≤ w3.heap.size := by have := hgrow3.size; simp at this; omega
        clear hown3 hgrow3 hown HO3
        have hown0 := HG3.out
        unfold IOwn at hown0
        have hown := Lib.hid (World.ownsRow.alloc (w := w3) hown0 (.cells #[.int .i64 0] 3))
        clear hown0
        go_wp2_with (at_builtin; refine wpList_append_wanted rfl _ _ 23 rfl w2.heap.size 3 i0 (.int .i64 0) 1 8 Try.underlying23 hi hz0 hz1 hz2 rfl (by decide) _ _ _ rfl hown.out ⟨w3.heap.size, 0, none⟩ 1 1 [.int .i64 0] rfl rfl (one_new w3 _ _) one_int ?_ ?_ ?_ ?_)
        · unfold maxLen; (first | omega | (simp only [List.length_nil]; omega))
        · (first | omega | (simp only [List.length_nil]; omega))
        · rw [World.size_alloc]; omega
        intro v4 w4 hown4 hgrow4 _
        have HG4 : Hid (IOwn w4 w2.heap.size v4 (t ++ [0])) := Lib.hid (by simpa [IOwn] using hown4)
        have HB4 : Hid (Below w.heap.size w w4) := Lib.hid (below_grown HB3.out (grown_after (w := w3) ((Below.refl _ w3).alloc (Nat.le_refl _) _) hgrow4) HG3.out HB2.out.size HB3.out.size)
        clear hown4 hgrow4 hown
        go_wp2_with fail
        refine (implTableOk_any _ _ _ _ HG4.out.rd).mono ?_
        rintro e w' ⟨rfl, rfl⟩
        rw [HT2.out]
        go_wp2_with fail
        refine (alive_any _).mono ?_
        rintro e w' ⟨rfl, rfl⟩
        go_wp2_with fail
        go_ret
        exact ⟨ret_bool (by simp), HB4.out⟩
      · have HT := Lib.hid h
        clear h
        go_wp2_with fail
        refine (implTableOk_any _ _ _ _ (ovt1.rd)).mono ?_
        rintro e w' ⟨rfl, rfl⟩
        rw [HT.out]
        go_wp2_with fail
        refine (specTableOk_any _ _ _ _ (ovt1.rd)).mono ?_
        rintro e w' ⟨rfl, rfl⟩
        rw [HT.out]
        have HB2 : Hid (Below w.heap.size w (w1.alloc (.cells #[.int .i64 0, .int .i64 0] 3))) := Lib.hid (B1.alloc B1.size _)
        go_wp2_with fail
        refine (implTableOk_any _ _ _ [0, 0] (HZ0.out _).rd).mono ?_
        rintro e w' ⟨rfl, rfl⟩
        rw [HZT.out]
        go_wp2_with fail
        refine (alive_any _).mono ?_
        rintro e w' ⟨rfl, rfl⟩
        go_wp2_with fail
        go_ret
        exact ⟨ret_bool (by simp), HB2.out⟩
    · have hmk : ∀ w : World, (Instr.makeSlice 23 (.int .i64 4) (.int .i64 4)).run Try.prog w = .ok (.slice (some ⟨w.heap.size, 0, none⟩) 4 4) (w.alloc (.cells #[.int .i64 0, .int .i64 0, .int .i64 0, .int .i64 0] 3)) := by
        intro w
        have h := run_make (P := Try.prog) w 23 3 i0 (.int .i64 0) Try.underlying23 hi hz0 .i64 .i64 4 4 (by omega) (Int.le_refl _) (by rw [hz2]; omega) (by omega)
        rw [hz1] at h
        have e : madeCells (Value.int .i64 0).cells (Int.toNat 4 * 1) = #[.int .i64 0, .int .i64 0, .int .i64 0, .int .i64 0] := by kernel_rfl
        rw [e] at h
        exact h
      have HZ0 : Hid (∀ w : World, IOwn (w.alloc (.cells #[.int .i64 0, .int .i64 0, .int .i64 0, .int .i64 0] 3)) w.heap.size (.slice (some ⟨w.heap.size, 0, none⟩) 4 4) [0, 0, 0, 0]) := Lib.hid (fun w => World.ownsRow_lit w #[.int .i64 0, .int .i64 0, .int .i64 0, .int .i64 0] 4 (Nat.le_refl _) (by unfold maxLen; omega) rfl)
      have HZT : Hid (tokB 2 [0, 0, 0, 0] = true) := Lib.hid (by decide)
      rcases Bool.eq_false_or_eq_true (tokB 2 t) with h | h
      · have HT := Lib.hid h
        have HT2 := Lib.hid (tok_more h)
        obtain ⟨-, -, -, -, -, h16, hN⟩ := tok_len h
        have HNN := Lib.hid hN
        clear h hN
        go_wp2_with fail
        refine (implTableOk_any _ _ _ _ (ovt1.rd)).mono ?_
        rintro e w' ⟨rfl, rfl⟩
        rw [HT.out]
        go_wp2_with fail
        refine (specTableOk_any _ _ _ _ (ovt1.rd)).mono ?_
        rintro e w' ⟨rfl, rfl⟩
        rw [HT.out]
        obtain ⟨A, c, rfl, hlc, hmc, -⟩ := id ovt1.rd
        obtain ⟨G, off, x0, rfl, -, -, -⟩ := ovt1.rd.at_ (k := 0) (by have := HNN.out; omega)
        have HO2 : Hid (IRd (w1.alloc (.cells #[.int .i64 0, .int .i64 0, .int .i64 0, .int .i64 0] 3)) (.slice (some ⟨G, off, none⟩) t.length c) t) := Lib.hid (ovt1.rd.keep (SameAt.of_below ((Below.refl _ w1).alloc (Nat.le_refl _) _)))
        have HB2 : Hid (Below w.heap.size w (w1.alloc (.cells #[.int .i64 0, .int .i64 0, .int .i64 0, .int .i64 0] 3))) := Lib.hid (B1.alloc B1.size _)
        go_wp2_with fail
        refine (implTableOk_any _ _ _ [0, 0, 0, 0] (HZ0.out _).rd).mono ?_
        rintro e w' ⟨rfl, rfl⟩
        rw [HZT.out]
        generalize w1.alloc (.cells #[.int .i64 0, .int .i64 0, .int .i64 0, .int .i64 0] 3) = w2 at HO2 HB2 ⊢
        have HO3 : Hid (IRd (w2.alloc (.cells #[] 3)) (.slice (some ⟨G, off, none⟩) t.length c) t) := Lib.hid (HO2.out.keep (SameAt.of_below ((Below.refl _ w2).alloc (Nat.le_refl _) _)))
        have hown0 := lit_own w2 w2.heap.size (Nat.le_refl _)
        unfold IOwn at hown0
        have hown := Lib.hid hown0
        clear hown0
        go_wp2_with (at_builtin; refine wpList_append_wanted rfl _ _ 23 rfl w2.heap.size 3 i0 (.int .i64 0) 1 8 Try.underlying23 hi hz0 hz1 hz2 rfl (by decide) _ _ _ rfl hown.out ⟨G, off, none⟩ t.length c (t.map (Value.int .i64)) rfl (by simp) (news_of_rd HO3.out) (ones_int t) ?_ ?_ ?_ ?_)
        · unfold maxLen; (first | omega | (simp only [List.length_nil]; omega))
        · (first | omega | (simp only [List.length_nil]; omega))
        · rw [World.size_alloc]; omega
        intro v3 w3 hown3 hgrow3 _
        have HG3 : Hid (IOwn w3 w2.heap.size v3 t) := Lib.hid (by simpa [IOwn] using hown3)
        have HB3 : Hid (Below w.heap.size w w3) := Lib.hid ((HB2.out.alloc HB2.out.size _).grown hgrow3 (by have := HB2.out.size; simp; omega) (fun g hg => by have := HB2.out.size; have hg' : w2.heap.size = g := Option.some.inj hg; omega))
        have hs3 : w2.heap.size ≤ w3.heap.size := by have := hgrow3.size; simp at this; omega
        clear hown3 hgrow3 hown HO3
        have hown0 := HG3.out
        unfold IOwn at hown0
        have hown := Lib.hid (World.ownsRow.alloc (w := w3) hown0 (.cells #[.int .i64 0] 3))
        clear hown0
        go_wp2_with (at_builtin; refine wpList_append_wanted rfl _ _ 23 rfl w2.heap.size 3 i0 (.int .i64 0) 1 8 Try.underlying23 hi hz0 hz1 hz2 rfl (by decide) _ _ _ rfl hown.out ⟨w3.heap.size, 0, none⟩ 1 1 [.int .i64 0] rfl rfl (one_new w3 _ _) one_int ?_ ?_ ?_ ?_)
        · unfold maxLen; (first | omega | (simp only [List.length_nil]; omega))
        · (first | omega | (simp only [List.length_nil]; omega))
        · rw [World.size_alloc]; omega
        intro v4 w4 hown4 hgrow4 _
        have HG4 : Hid (IOwn w4 w2.heap.size v4 (t ++ [0])) := Lib.hid (by simpa [IOwn] using hown4)
        have HB4 : Hid (Below w.heap.size w w4) := Lib.hid (below_grown HB3.out (grown_after (w := w3) ((Below.refl _ w3).alloc (Nat.le_refl _) _) hgrow4) HG3.out HB2.out.size HB3.out.size)
        clear hown4 hgrow4 hown
        go_wp2_with fail
        refine (implTableOk_any _ _ _ _ HG4.out.rd).mono ?_
        rintro e w' ⟨rfl, rfl⟩
        rw [HT2.out]
        go_wp2_with fail
        refine (alive_any _).mono ?_
        rintro e w' ⟨rfl, rfl⟩
        go_wp2_with fail
        go_ret
        exact ⟨ret_bool (by simp), HB4.out⟩
      · have HT := Lib.hid h
        clear h
        go_wp2_with fail
        refine (implTableOk_any _ _ _ _ (ovt1.rd)).mono ?_
        rintro e w' ⟨rfl, rfl⟩
        rw [HT.out]
        go_wp2_with fail
        refine (specTableOk_any _ _ _ _ (ovt1.rd)).mono ?_
        rintro e w' ⟨rfl, rfl⟩
        rw [HT.out]
        have HB2 : Hid (Below w.heap.size w (w1.alloc (.cells #[.int .i64 0, .int .i64 0, .int .i64 0, .int .i64 0] 3))) := Lib.hid (B1.alloc B1.size _)
        go_wp2_with fail
        refine (implTableOk_any _ _ _ [0, 0, 0, 0] (HZ0.out _).rd).mono ?_
        rintro e w' ⟨rfl, rfl⟩
        rw [HZT.out]
        go_wp2_with fail
        refine (alive_any _).mono ?_
        rintro e w' ⟨rfl, rfl⟩
        go_wp2_with fail
        go_ret
        exact ⟨ret_bool (by simp), HB2.out⟩
    · have hmk : ∀ w : World, (Instr.makeSlice 23 (.int .i64 8) (.int .i64 8)).run Try.prog w = .ok (.slice (some ⟨w.heap.size, 0, none⟩) 8 8) (w.alloc (.cells #[.int .i64 0, .int .i64 0, .int .i64 0, .int .i64 0, .int .i64 0, .int .i64 0, .int .i64 0, .int .i64 0] 3)) := by
        intro w
        have h := run_make (P := Try.prog) w 23 3 i0 (.int .i64 0) Try.underlying23 hi hz0 .i64 .i64 8 8 (by omega) (Int.le_refl _) (by rw [hz2]; omega) (by omega)
        rw [hz1] at h
        have e : madeCells (Value.int .i64 0).cells (Int.toNat 8 * 1) = #[.int .i64 0, .int .i64 0, .int .i64 0, .int .i64 0, .int .i64 0, .int .i64 0, .int .i64 0, .int .i64 0] := by kernel_rfl
        rw [e] at h
        exact h
      have HZ0 : Hid (∀ w : World, IOwn (w.alloc (.cells #[.int .i64 0, .int .i64 0, .int .i64 0, .int .i64 0, .int .i64 0, .int .i64 0, .int .i64 0, .int .i64 0] 3)) w.heap.size (.slice (some ⟨w.heap.size, 0, none⟩) 8 8) [0, 0, 0, 0, 0, 0, 0, 0]) := Lib.hid (fun w => World.ownsRow_lit w #[.int .i64 0, .int .i64 0, .int .i64 0, .int .i64 0, .int .i64 0, .int .i64 0, .int .i64 0, .int .i64 0] 8 (Nat.le_refl _) (by unfold maxLen; omega) rfl)
      have HZT : Hid (tokB 3 [0, 0, 0, 0, 0, 0, 0, 0] = true) := Lib.hid (by decide)
      rcases Bool.eq_false_or_eq_true (tokB 3 t) with h | h
      · have HT := Lib.hid h
        have HT2 := Lib.hid (tok_more h)
        obtain ⟨-, -, -, -, -, h16, hN⟩ := tok_len h
        have HNN := Lib.hid hN
        clear h hN
        go_wp2_with fail
        refine (implTableOk_any _ _ _ _ (ovt1.rd)).mono ?_
        rintro e w' ⟨rfl, rfl⟩
        rw [HT.out]
        go_wp2_with fail
        refine (specTableOk_any _ _ _ _ (ovt1.rd)).mono ?_
        rintro e w' ⟨rfl, rfl⟩
        rw [HT.out]
        obtain ⟨A, c, rfl, hlc, hmc, -⟩ := id ovt1.rd
        obtain ⟨G, off, x0, rfl, -, -, -⟩ := ovt1.rd.at_ (k := 0) (by have := HNN.out; omega)
        have HO2 : Hid (IRd (w1.alloc (.cells #[.int .i64 0, .int .i64 0, .int .i64 0, .int .i64 0, .int .i64 0, .int .i64 0, .int .i64 0, .int .i64 0] 3)) (.slice (some ⟨G, off, none⟩) t.length c) t) := Lib.hid (ovt1.rd.keep (SameAt.of_below ((Below.refl _ w1).alloc (Nat.le_refl _) _)))
        have HB2 : Hid (Below w.heap.size w (w1.alloc (.cells #[.int .i64 0, .int .i64 0, .int .i64 0, .int .i64 0, .int .i64 0, .int .i64 0, .int .i64 0, .int .i64 0] 3))) := Lib.hid (B1.alloc B1.size _)
        go_wp2_with fail
        refine (implTableOk_any _ _ _ [0, 0, 0, 0, 0, 0, 0, 0] (HZ0.out _).rd).mono ?_
        rintro e w' ⟨rfl, rfl⟩
        rw [HZT.out]
        generalize w1.alloc (.cells #[.int .i64 0, .int .i64 0, .int .i64 0, .int .i64 0, .int .i64 0, .int .i64 0, .int .i64 0, .int .i64 0] 3) = w2 at HO2 HB2 ⊢
        have HO3 : Hid (IRd (w2.alloc (.cells #[] 3)) (.slice (some ⟨G, off, none⟩) t.length c) t) := Lib.hid (HO2.out.keep (SameAt.of_below ((Below.refl _ w2).alloc (Nat.le_refl _) _)))
        have hown0 := lit_own w2 w2.heap.size (Nat.le_refl _)
        unfold IOwn at hown0
        have hown := Lib.hid hown0
        clear hown0
        go_wp2_with (at_builtin; refine wpList_append_wanted rfl _ _ 23 rfl w2.heap.size 3 i0 (.int .i64 0) 1 8 Try.underlying23 hi hz0 hz1 hz2 rfl (by decide) _ _ _ rfl hown.out ⟨G, off, none⟩ t.length c (t.map (Value.int .i64)) rfl (by simp) (news_of_rd HO3.out) (ones_int t) ?_ ?_ ?_ ?_)
        · unfold maxLen; (first | omega | (simp only [List.length_nil]; omega))
        · (first | omega | (simp only [List.length_nil]; omega))
        · rw [World.size_alloc]; omega
        intro v3 w3 hown3 hgrow3 _
        have HG3 : Hid (IOwn w3 w2.heap.size v3 t) := Lib.hid (by simpa [IOwn] using hown3)
        have HB3 : Hid (Below w.heap.size w w3) := Lib.hid ((HB2.out.alloc HB2.out.size _).grown hgrow3 (by have := HB2.out.size; simp; omega) (fun g hg => by have := HB2.out.size; have hg' : w2.heap.size = g := Option.some.inj hg; omega))
        have hs3 : w2.heap.size ≤ w3.heap.size := by have := hgrow3.size; simp at this; omega
        clear hown3 hgrow3 hown HO3
        have hown0 := HG3.out
        unfold IOwn at hown0
        have hown := Lib.hid (World.ownsRow.alloc (w := w3) hown0 (.cells #[.int .i64 0] 3))
        clear hown0
        go_wp2_with (at_builtin; refine wpList_append_wanted rfl _ _ 23 rfl w2.heap.size 3 i0 (.int .i64 0) 1 8 Try.underlying23 hi hz0 hz1 hz2 rfl (by decide) _ _ _ rfl hown.out ⟨w3.heap.size, 0, none⟩ 1 1 [.int .i64 0] rfl rfl (one_new w3 _ _) one_int ?_ ?_ ?_ ?_)
        · unfold maxLen; (first | omega | (simp only [List.length_nil]; omega))
        · (first | omega | (simp only [List.length_nil]; omega))
        · rw [World.size_alloc]; omega
        intro v4 w4 hown4 hgrow4 _
        have HG4 : Hid (IOwn w4 w2.heap.size v4 (t ++ [0])) := Lib.hid (by simpa [IOwn] using hown4)
        have HB4 : Hid (Below w.heap.size w w4) := Lib.hid (below_grown HB3.out (grown_after (w := w3) ((Below.refl _ w3).alloc (Nat.le_refl _) _) hgrow4) HG3.out HB2.out.size HB3.out.size)
        clear hown4 hgrow4 hown
        go_wp2_with fail
        refine (implTableOk_any _ _ _ _ HG4.out.rd).mono ?_
        rintro e w' ⟨rfl, rfl⟩
        rw [HT2.out]
        go_wp2_with fail
        refine (alive_any _).mono ?_
        rintro e w' ⟨rfl, rfl⟩
        go_wp2_with fail
        go_ret
        exact ⟨ret_bool (by simp), HB4.out⟩
      · have HT := Lib.hid h
        clear h
        go_wp2_with fail
        refine (implTableOk_any _ _ _ _ (ovt1.rd)).mono ?_
        rintro e w' ⟨rfl, rfl⟩
        rw [HT.out]
        go_wp2_with fail
        refine (specTableOk_any _ _ _ _ (ovt1.rd)).mono ?_
        rintro e w' ⟨rfl, rfl⟩
        rw [HT.out]
        have HB2 : Hid (Below w.heap.size w (w1.alloc (.cells #[.int .i64 0, .int .i64 0, .int .i64 0, .int .i64 0, .int .i64 0, .int .i64 0, .int .i64 0, .int .i64 0] 3))) := Lib.hid (B1.alloc B1.size _)
        go_wp2_with fail
        refine (implTableOk_any _ _ _ [0, 0, 0, 0, 0, 0, 0, 0] (HZ0.out _).rd).mono ?_
        rintro e w' ⟨rfl, rfl⟩
        rw [HZT.out]
        go_wp2_with fail
        refine (alive_any _).mono ?_
        rintro e w' ⟨rfl, rfl⟩
        go_wp2_with fail
        go_ret
        exact ⟨ret_bool (by simp), HB2.out⟩
    · have hmk : ∀ w : World, (Instr.makeSlice 23 (.int .i64 16) (.int .i64 16)).run Try.prog w = .ok (.slice (some ⟨w.heap.size, 0, none⟩) 16 16) (w.alloc (.cells #[.int .i64 0, .int .i64 0, .int .i64 0, .int .i64 0, .int .i64 0, .int .i64 0, .int .i64 0, .int .i64 0, .int .i64 0, .int .i64 0, .int .i64 0, .int .i64 0, .int .i64 0, .int .i64 0, .int .i64 0, .int .i64 0] 3)) := by
        intro w
        have h := run_make (P := Try.prog) w 23 3 i0 (.int .i64 0) Try.underlying23 hi hz0 .i64 .i64 16 16 (by omega) (Int.le_refl _) (by rw [hz2]; omega) (by omega)
        rw [hz1] at h
        have e : madeCells (Value.int .i64 0).cells (Int.toNat 16 * 1) = #[.int .i64 0, .int .i64 0, .int .i64 0, .int .i64 0, .int .i64 0, .int .i64 0, .int .i64 0, .int .i64 0, .int .i64 0, .int .i64 0, .int .i64 0, .int .i64 0, .int .i64 0, .int .i64 0, .int .i64 0, .int .i64 0] := by kernel_rfl
        rw [e] at h
        exact h
      have HZ0 : Hid (∀ w : World, IOwn (w.alloc (.cells #[.int .i64 0, .int .i64 0, .int .i64 0, .int .i64 0, .int .i64 0, .int .i64 0, .int .i64 0, .int .i64 0, .int .i64 0, .int .i64 0, .int .i64 0, .int .i64 0, .int .i64 0, .int .i64 0, .int .i64 0, .int .i64 0] 3)) w.heap.size (.slice (some ⟨w.heap.size, 0, none⟩) 16 16) [0, 0, 0, 0, 0, 0, 0, 0, 0, 0, 0, 0, 0, 0, 0, 0]) := Lib.hid (fun w => World.ownsRow_lit w #[.int .i64 0, .int .i64 0, .int .i64 0, .int .i64 0, .int .i64 0, .int .i64 0, .int .i64 0, .int .i64 0, .int .i64 0, .int .i64 0, .int .i64 0, .int .i64 0, .int .i64 0, .int .i64 0, .int .i64 0, .int .i64 0] 16 (Nat.le_refl _) (by unfold maxLen; omega) rfl)
      have HZT : Hid (tokB 4 [0, 0, 0, 0, 0, 0, 0, 0, 0, 0, 0, 0, 0, 0, 0, 0] = true) := Lib.hid (by decide)
      rcases Bool.eq_false_or_eq_true (tokB 4 t) with h | h
      · have HT := Lib.hid h
        have HT2 := Lib.hid (tok_more h)
        obtain ⟨-, -, -, -, -, h16, hN⟩ := tok_len h
        have HNN := Lib.hid hN
        clear h hN
        go_wp2_with fail
        refine (implTableOk_any _ _ _ _ (ovt1.rd)).mono ?_
        rintro e w' ⟨rfl, rfl⟩
        rw [HT.out]
        go_wp2_with fail
        refine (specTableOk_any _ _ _ _ (ovt1.rd)).mono ?_
        rintro e w' ⟨rfl, rfl⟩
        rw [HT.out]
        obtain ⟨A, c, rfl, hlc, hmc, -⟩ := id ovt1.rd
        obtain ⟨G, off, x0, rfl, -, -, -⟩ := ovt1.rd.at_ (k := 0) (by have := HNN.out; omega)
        have HO2 : Hid (IRd (w1.alloc (.cells #[.int .i64 0, .int .i64 0, .int .i64 0, .int .i64 0, .int .i64 0, .int .i64 0, .int .i64 0, .int .i64 0, .int .i64 0, .int .i64 0, .int .i64 0, .int .i64 0, .int .i64 0, .int .i64 0, .int .i64 0, .int .i64 0] 3)) (.slice (some ⟨G, off, none⟩) t.length c) t) := Lib.hid (ovt1.rd.keep (SameAt.of_below ((Below.refl _ w1).alloc (Nat.le_refl _) _)))
        have HB2 : Hid (Below w.heap.size w (w1.alloc (.cells #[.int .i64 0, .int .i64 0, .int .i64 0, .int .i64 0, .int .i64 0, .int .i64 0, .int .i64 0, .int .i64 0, .int .i64 0, .int .i64 0, .int .i64 0, .int .i64 0, .int .i64 0, .int .i64 0, .int .i64 0, .int .i64 0] 3))) := Lib.hid (B1.alloc B1.size _)
        go_wp2_with fail
        refine (implTableOk_any _ _ _ [0, 0, 0, 0, 0, 0, 0, 0, 0, 0, 0, 0, 0, 0, 0, 0] (HZ0.out _).rd).mono ?_
        rintro e w' ⟨rfl, rfl⟩
        rw [HZT.out]
        generalize w1.alloc (.cells #[.int .i64 0, .int .i64 0, .int .i64 0, .int .i64 0, .int .i64 0, .int .i64 0, .int .i64 0, .int .i64 0, .int .i64 0, .int .i64 0, .int .i64 0, .int .i64 0, .int .i64 0, .int .i64 0, .int .i64 0, .int .i64 0] 3) = w2 at HO2 HB2 ⊢
        have HO3 : Hid (IRd (w2.alloc (.cells #[] 3)) (.slice (some ⟨G, off, none⟩) t.length c) t) := Lib.hid (HO2.out.keep (SameAt.of_below ((Below.refl _ w2).alloc (Nat.le_refl _) _)))
        have hown0 := lit_own w2 w2.heap.size (Nat.le_refl _)
        unfold IOwn at hown0
        have hown := Lib.hid hown0
        clear hown0
        go_wp2_with (at_builtin; refine wpList_append_wanted rfl _ _ 23 rfl w2.heap.size 3 i0 (.int .i64 0) 1 8 Try.underlying23 hi hz0 hz1 hz2 rfl (by decide) _ _ _ rfl hown.out ⟨G, off, none⟩ t.length c (t.map (Value.int .i64)) rfl (by simp) (news_of_rd HO3.out) (ones_int t) ?_ ?_ ?_ ?_)
        · unfold maxLen; (first | omega | (simp only [List.length_nil]; omega))
        · (first | omega | (simp only [List.length_nil]; omega))
        · rw [World.size_alloc]; omega
        intro v3 w3 hown3 hgrow3 _
        have HG3 : Hid (IOwn w3 w2.heap.size v3 t) := Lib.hid (by simpa [IOwn] using hown3)
        have HB3 : Hid (Below w.heap.size w w3) := Lib.hid ((HB2.out.alloc HB2.out.size _).grown hgrow3 (by have := HB2.out.size; simp; omega) (fun g hg => by have := HB2.out.size; have hg' : w2.heap.size = g := Option.some.inj hg; omega))
        have hs3 : w2.heap.size ≤ w3.heap.size := by have := hgrow3.size; simp at this; omega
        clear hown3 hgrow3 hown HO3
        have hown0 := HG3.out
        unfold IOwn at hown0
        have hown := Lib.hid (World.ownsRow.alloc (w := w3) hown0 (.cells #[.int .i64 0] 3))
        clear hown0
        go_wp2_with (at_builtin; refine wpList_append_wanted rfl _ _ 23 rfl w2.heap.size 3 i0 (.int .i64 0) 1 8 Try.underlying23 hi hz0 hz1 hz2 rfl (by decide) _ _ _ rfl hown.out ⟨w3.heap.size, 0, none⟩ 1 1 [.int .i64 0] rfl rfl (one_new w3 _ _) one_int ?_ ?_ ?_ ?_)
        · unfold maxLen; (first | omega | (simp only [List.length_nil]; omega))
        · (first | omega | (simp only [List.length_nil]; omega))
        · rw [World.size_alloc]; omega
        intro v4 w4 hown4 hgrow4 _
        have HG4 : Hid (IOwn w4 w2.heap.size v4 (t ++ [0])) := Lib.hid (by simpa [IOwn] using hown4)
        have HB4 : Hid (Below w.heap.size w w4) := Lib.hid (below_grown HB3.out (grown_after (w := w3) ((Below.refl _ w3).alloc (Nat.le_refl _) _) hgrow4) HG3.out HB2.out.size HB3.out.size)
        clear hown4 hgrow4 hown
        go_wp2_with fail
        refine (implTableOk_any _ _ _ _ HG4.out.rd).mono ?_
        rintro e w' ⟨rfl, rfl⟩
        rw [HT2.out]
        go_wp2_with fail
        refine (alive_any _).mono ?_
        rintro e w' ⟨rfl, rfl⟩
        go_wp2_with fail
        go_ret
        exact ⟨ret_bool (by simp), HB4.out⟩
      · have HT := Lib.hid h
        clear h
        go_wp2_with fail
        refine (implTableOk_any _ _ _ _ (ovt1.rd)).mono ?_
        rintro e w' ⟨rfl, rfl⟩
        rw [HT.out]
        go_wp2_with fail
        refine (specTableOk_any _ _ _ _ (ovt1.rd)).mono ?_
        rintro e w' ⟨rfl, rfl⟩
        rw [HT.out]
        have HB2 : Hid (Below w.heap.size w (w1.alloc (.cells #[.int .i64 0, .int .i64 0, .int .i64 0, .int .i64 0, .int .i64 0, .int .i64 0, .int .i64 0, .int .i64 0, .int .i64 0, .int .i64 0, .int .i64 0, .int .i64 0, .int .i64 0, .int .i64 0, .int .i64 0, .int .i64 0] 3))) := Lib.hid (B1.alloc B1.size _)
        go_wp2_with fail
        refine (implTableOk_any _ _ _ [0, 0, 0, 0, 0, 0, 0, 0, 0, 0, 0, 0, 0, 0, 0, 0] (HZ0.out _).rd).mono ?_
        rintro e w' ⟨rfl, rfl⟩
        rw [HZT.out]
        go_wp2_with fail
        refine (alive_any _).mono ?_
        rintro e w' ⟨rfl, rfl⟩
        go_wp2_with fail
        go_ret
        exact ⟨ret_bool (by simp), HB2.out⟩

end Go.Proofs.Ytempdaodmjiloaa
