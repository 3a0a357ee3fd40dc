/- spec.GainOf. Conditions: none. -/
import Derived.Test.YtdgaakdlnihejaaQb
namespace Go.Proofs.Ytdgaakdlnihejaa
open Go.RowKit
set_option linter.unusedVariables false

theorem AppRel.keep {w wr w' : World} {zs : List Int} {k : Nat} {p : Value} (h : AppRel w zs k p wr) (hb : Below wr.heap.size wr w') : AppRel w zs k p w' :=
  ⟨h.1.keep (SameAt.of_below hb), below_step h.2 hb h.2.size⟩

theorem inB_stB (s : Int) : inB s (-9) 9 = stB s := rfl

theorem app_start' (W : World) (o : Obj) (zs : List Int) : AppRel (W.alloc o) zs 0 (.slice (some ⟨W.heap.size + 1, 0, none⟩) 0 0) ((W.alloc o).alloc (.cells #[] 3)) := by
  have h := app_start (W.alloc o) zs
  rw [show (W.alloc o).heap.size = W.heap.size + 1 from by simp] at h
  exact h

theorem lit_own' (W : World) (o : Obj) : IOwn ((W.alloc o).alloc (.cells #[] 3)) W.heap.size (.slice (some ⟨W.heap.size + 1, 0, none⟩) 0 0) [] := by
  have h := lit_own (W.alloc o) W.heap.size (by simp)
  rw [show (W.alloc o).heap.size = W.heap.size + 1 from by simp] at h
  exact h

set_option maxHeartbeats 4000000 in
theorem specGainOf_any (w : Int) (q : Qt) (s : Int) (W : World) :
    Calls Try.prog 24 #[.int .i64 w, qV q, .int .i64 s] W (NewInts (gainR w q s) W) := by
  rcases Bool.eq_false_or_eq_true (gainB w q s) with h | h
  · have HG := Lib.hid h
    obtain ⟨hw1, hw2⟩ := gain_wok h
    have HF := Lib.hid (fit_of h)
    have hqs : qokB w q = true ∧ stB s = true := by rw [gainB, Bool.and_eq_true] at h; exact h
    obtain ⟨hq, hs⟩ := hqs
    obtain ⟨n, rfl⟩ : ∃ n : Nat, w = n := ⟨w.toNat, by omega⟩
    have HZ : Hid ((gainL (n : Int) q s).length = n) := Lib.hid (by rw [gainL_len, Int.toNat_natCast])
    have HAT : Hid (∀ k, k < n → (gainL (n : Int) q s)[k]? = some (gainI q s k)) := Lib.hid (fun k hk => gainL_at _ _ _ (by rw [Int.toNat_natCast]; exact hk))
    obtain ⟨e, p⟩ := q
    have H0 : Hid (AppRel (W.alloc (qBlk (e, p))) (gainL (n : Int) (e, p) s) 0 (.slice (some ⟨W.heap.size + 1, 0, none⟩) 0 0) ((W.alloc (qBlk (e, p))).alloc (.cells #[] 3))) := Lib.hid (app_start' _ _ _)
    have HC : Hid (∀ wr, Below (W.alloc (qBlk (e, p))).heap.size (W.alloc (qBlk (e, p))) wr → wr.cell? ⟨W.heap.size, 0, none⟩ = some (.int .i64 e) ∧ wr.cell? ⟨W.heap.size, 1, none⟩ = some (.int .i64 p)) := Lib.hid (fun wr hb => box_cells (q := (e, p)) hb)
    have HLT : Hid (Below W.heap.size W (W.alloc (qBlk (e, p)))) := Lib.hid ((Below.refl _ _).alloc (Nat.le_refl _) _)
    unfold qV qBlk at *
    clear h
    obtain ⟨i0, hi, hz0, hz1, hz2⟩ := info_parts Try_intinfo
    go_enter Try.func24, Try.ntmps24
    go_wp2_with fail
    go_loopw [7, 8] (fun p' i wr => ∃ k : Nat, i = .int .i64 k ∧ k ≤ n ∧ Hid (AppRel (W.alloc (.cells #[.int .i64 e, .int .i64 p] 24)) (gainL (n : Int) (e, p) s) k p' wr)) (fun _ i _ => n - (intOf i).toNat)
    case atStart => exact ⟨0, rfl, Nat.zero_le _, H0⟩
    case round =>
      obtain ⟨k, rfl, hk, HA⟩ := hrel
      clear H0
      generalize hw1' : W.alloc (.cells #[.int .i64 e, .int .i64 p] 24) = w1 at *
      have HW1 := Lib.hid hw1'
      clear hw1'
      by_cases hlt : k < n
      · have hlt' : (k : Int) < (n : Int) := by omega
        obtain ⟨hc0, hc1⟩ := HC.out wr HA.out.2
        have HX := Lib.hid (HAT.out k hlt)
        go_wp2_with fail
        refine (specQuoteOk_any n (e, p) _).mono ?_
        rintro r w2 ⟨rfl, b2⟩
        rw [hq]
        have HA2 := Lib.hid (HA.out.keep b2)
        clear b2 HA hc0 hc1
        go_wp2_with fail
        refine (l1In_any _ _ _ _).mono ?_
        rintro r w' ⟨rfl, rfl⟩
        rw [inB_stB, hs]
        obtain ⟨hc0, hc1⟩ := HC.out w2 HA2.out.2
        go_wp2_with fail
        refine (l3Gain_any (e, p) s k HF.out (by omega) _).mono ?_
        rintro r w3 ⟨rfl, b3⟩
        have HA3 := Lib.hid (HA2.out.keep b3)
        clear b3 HA2 hc0 hc1
        have hown0 := HA3.out.1
        unfold IOwn at hown0
        have hown := Lib.hid (World.ownsRow.alloc (w := w3) hown0 (.cells #[.int .i64 (gainI (e, p) s k)] 3))
        have hsz := HA3.out.2.size
        have hl3 : (List.take k (gainL (n : Int) (e, p) s)).length = k := by have := HZ.out; simp; omega
        clear hown0
        go_wp2_with (at_builtin; refine wpList_append_own _ rfl _ _ 37 rfl w1.heap.size 3 i0 (.int .i64 0) 1 8 Try.underlying37 hi hz0 hz1 hz2 rfl (by decide) _ _ _ rfl hown.out ⟨w3.heap.size, 0, none⟩ 1 1 [.int .i64 (gainI (e, p) s k)] rfl rfl ?c1 one_int ?c3 ?c4 ?c5 ?_)
        case c1 => exact one_new w3 _ _
        case c3 => unfold maxLen; omega
        case c4 => omega
        case c5 => simp; omega
        intro v' w' hown' hgrow _
        have HL := Lib.hid (HA3.out.step HX.out (show IOwn w' w1.heap.size v' ((gainL (n : Int) (e, p) s).take k ++ [gainI (e, p) s k]) from by simpa [IOwn, hl3] using hown') (grown_after (w := w3) ((Below.refl _ w3).alloc (Nat.le_refl _) _) hgrow))
        clear hown' hgrow hown hl3
        go_wp2_with fail
        go_roundw
        case rel => exact ⟨k + 1, by go_num, by omega, HL⟩
        case measure => simp [intOf]; omega
      · obtain ⟨o1, b1⟩ := HA.out.all (by have := HZ.out; omega)
        have B1 := Lib.hid b1
        have O1 := Lib.hid o1
        clear b1 o1
        go_wp2_with fail
        go_ret
        exact newInts_ret (gainR_yes HG.out) (O1.out.base HLT.out.size) (below_step HLT.out B1.out HLT.out.size)
  · have HY := Lib.hid (gainR_no h)
    by_cases h0 : 0 < w
    · rcases Bool.eq_false_or_eq_true (qokB w q) with hq | hq
      · have hs : stB s = false := by rw [gainB, hq] at h; simpa using h
        unfold qV
        clear h
        go_enter Try.func24, Try.ntmps24
        go_wp2_with fail
        refine wp_loop_rounds 1 ?_
        rw [rounds_succ]
        go_wp2_with fail
        refine (specQuoteOk_w w q _).mono ?_
        rintro r w2 ⟨rfl, rfl⟩
        rw [hq]
        unfold qBlk
        go_wp2_with fail
        refine (l1In_any _ _ _ _).mono ?_
        rintro r w' ⟨rfl, rfl⟩
        rw [inB_stB, hs]
        go_wp2_with fail
        go_ret
        exact newInts_ret HY.out ((lit_own' _ _).keep (SameAt.of_below (by go_grown))) (by go_grown)
      · unfold qV
        clear h
        go_enter Try.func24, Try.ntmps24
        go_wp2_with fail
        refine wp_loop_rounds 1 ?_
        rw [rounds_succ]
        go_wp2_with fail
        refine (specQuoteOk_w w q _).mono ?_
        rintro r w2 ⟨rfl, rfl⟩
        rw [hq]
        unfold qBlk
        go_wp2_with fail
        go_ret
        exact newInts_ret HY.out ((lit_own' _ _).keep (SameAt.of_below (by go_grown))) (by go_grown)
    · have h1 : w ≤ 0 := by omega
      unfold qV
      clear h
      go_enter Try.func24, Try.ntmps24
      go_wp2_with fail
      refine wp_loop_rounds 1 ?_
      rw [rounds_succ]
      go_wp2_with fail
      go_ret
      exact newInts_ret HY.out (lit_own' _ _) (by go_grown)

end Go.Proofs.Ytdgaakdlnihejaa
