/- The walk of the law of EvidenceOk. Conditions: rows of bytes that came in. (gen_fh.py) -/
import Derived.Test.YtbjmhbkpeglpkaaHp
import Derived.Test.YtbjmhbkpeglpkaaHf
import Derived.Test.YtbjmhbkpeglpkaaGf
namespace Go.Proofs.Ytbjmhbkpeglpkaa
open Go.RowKit
set_option linter.unusedVariables false

theorem wp_app12 {ops : Array Oper} {rest : List Oper} {o : Oper} {a : Act} {Q : Exit → Act → World → Prop} (hgd : o.guard = none) (s x : Operand)
    (ho : o.op = .call { callee := .builtin .append, args := #[s, x], argTypes := #[23, 23] }) (w : World) (base : Nat) (v : Value) (xs : List Int) (L : Nat) (hL : xs.length = L) (n : Int)
    (hs : a.eval s = v) (hown : IOwn w base v xs) (hx : a.eval x = .slice (some ⟨w.heap.size, 0, none⟩) 1 1)
    (h1 : L ≤ 1000000) (hb : base ≤ w.heap.size)
    (h : ∀ g c w', IOwn w' base (.slice (some ⟨g, 0, none⟩) (L + 1) c) (xs ++ [n]) → w.grownBy w' v.ownBlock → wpList Try.prog ops Q rest (a.put o.dst (.slice (some ⟨g, 0, none⟩) (L + 1) c)) w') :
    wpList Try.prog ops Q (o :: rest) a (w.alloc (.cells #[.int .i64 n] 3)) := by
  subst hL
  obtain ⟨i0, hi, hz0, hz1, hz2⟩ := info_parts Try_intinfo
  have hown2 : (w.alloc (.cells #[.int .i64 n] 3)).ownsRow base 3 1 v xs.length (xs.map (Value.int .i64)) := World.ownsRow.alloc hown _
  refine wpList_append_own_at _ hgd s x 23 ho base 3 i0 (.int .i64 0) 1 8 Try.underlying23 hi hz0 hz1 hz2 rfl (by decide) v xs.length (xs.map (Value.int .i64)) hs hown2 ⟨w.heap.size, 0, none⟩ 1 1 [.int .i64 n] hx rfl (one_new w _ _) one_int (by unfold maxLen; omega) (by omega) (by simp; omega) ?_
  intro v' w' k1 k2 k3 k4
  have hl : (xs ++ [n]).length = xs.length + 1 := by simp
  obtain ⟨g, c, hv, -⟩ : ∃ g c, v' = .slice (some ⟨g, 0, none⟩) (xs.length + 1) c ∧ True := by
    rcases k1.2 with ⟨-, hz⟩ | ⟨g, cap, cur, e, -⟩
    · omega
    · exact ⟨g, cap, e, trivial⟩
  subst hv
  refine h g c w' ?_ (grown_after (w := w) ((Below.refl _ w).alloc (Nat.le_refl _) _) k2)
  unfold IOwn
  rw [hl, List.map_append]
  exact k1

/-- the row so far: k of its places -/
def App12 (w : World) (zs : List Int) (k : Nat) (p : Value) (wr : World) : Prop := AppRel w zs k p wr ∧ ∃ g c, p = .slice (some ⟨g, 0, none⟩) k c

theorem app12_start (w : World) (zs : List Int) : App12 w zs 0 (.slice (some ⟨w.heap.size, 0, none⟩) 0 0) (w.alloc (.cells #[] 3)) := ⟨app_start w zs, _, _, rfl⟩

theorem App12.step {w wr w' : World} {zs : List Int} {k g c : Nat} {p : Value} {x : Int} (h : App12 w zs k p wr) (hx : zs[k]? = some x) (ho : IOwn w' w.heap.size (.slice (some ⟨g, 0, none⟩) (k + 1) c) (zs.take k ++ [x])) (hg : wr.grownBy w' p.ownBlock) :
    App12 w zs (k + 1) (.slice (some ⟨g, 0, none⟩) (k + 1) c) w' := ⟨h.1.step hx ho hg, _, _, rfl⟩

set_option maxRecDepth 100000 in
set_option maxHeartbeats 8000000 in
theorem FnEvidenceOk_walk (a0 : Option Addr) (len0 cap0 : Nat) (z0 : List Int) (w : World) (w0 : IsRowC .u8 w a0 len0 cap0 z0) :
    Calls Try.prog 5 #[.slice a0 len0 cap0] w fun e w' => e = .returned (.bool true) ∧ Below w.heap.size w w' := by
  by_cases hlen : 1048576 < len0
  · clear w0
    go_enter Try.func5, Try.ntmps5
    go_wp2
    go_ret
    exact ⟨rfl, Below.refl _ _⟩
  · have hlen' : decide (1048576 < len0) = false := by simpa using hlen
    go_enter Try.func5, Try.ntmps5
    go_wp2_with fail
    refine (drawEvidenceOk_any _ _ _ _ _ w0).mono ?_
    rintro e w1 ⟨n, v, xs, rfl, n1, n5, ov, hl4, B1⟩
    have HB1 := Lib.hid B1
    have ord := ov.rd
    obtain ⟨A, c, rfl, hl, hmx, -⟩ := id ord
    have HV : Hid (∀ wr, Below w1.heap.size w1 wr → IRd wr (.slice A xs.length c) xs) := Lib.hid (fun wr hb => ord.keep (SameAt.of_below hb))
    have C1 := Lib.hid (Below.refl w1.heap.size w1)
    clear ov B1 w0 ord
    obtain ⟨i0, hi, hz0, hz1, hz2⟩ := info_parts Try_intinfo
    obtain ⟨t, ht⟩ : ∃ t, eviB n xs = t := ⟨_, rfl⟩
    obtain rfl | rfl | rfl | rfl | rfl : n = 1 ∨ n = 2 ∨ n = 3 ∨ n = 4 ∨ n = 5 := by omega
    · have HB := Lib.hid ht
      clear ht
      have hmk : ∀ w : World, (Instr.makeSlice 23 (.int .i64 1) (.int .i64 1)).run Try.prog w = .ok (.slice (some ⟨w.heap.size, 0, none⟩) 1 1) (w.alloc (.cells #[.int .i64 0] 3)) := by
        intro w
        have h := run_make (P := Try.prog) w 23 3 i0 (.int .i64 0) Try.underlying23 hi hz0 .i64 .i64 1 1 (by omega) (Int.le_refl _) (by rw [hz2]; omega) (by omega)
        rw [hz1] at h
        have e : madeCells (Value.int .i64 0).cells (Int.toNat 1 * 1) = #[.int .i64 0] := by kernel_rfl
        rw [e] at h
        exact h
      have hmkz : Hid (∀ w : World, IOwn (w.alloc (.cells #[.int .i64 0] 3)) w.heap.size (.slice (some ⟨w.heap.size, 0, none⟩) 1 1) ([0] : List Int)) := Lib.hid (fun w => World.ownsRow_lit w #[.int .i64 0] 1 (Nat.le_refl _) (by unfold maxLen; omega) rfl)
      have hml : ∀ w : World, (Instr.makeSlice 23 (.int .i64 2) (.int .i64 2)).run Try.prog w = .ok (.slice (some ⟨w.heap.size, 0, none⟩) 2 2) (w.alloc (.cells #[.int .i64 0, .int .i64 0] 3)) := by
        intro w
        have h := run_make (P := Try.prog) w 23 3 i0 (.int .i64 0) Try.underlying23 hi hz0 .i64 .i64 2 2 (by omega) (Int.le_refl _) (by rw [hz2]; omega) (by omega)
        rw [hz1] at h
        have e : madeCells (Value.int .i64 0).cells (Int.toNat 2 * 1) = #[.int .i64 0, .int .i64 0] := by kernel_rfl
        rw [e] at h
        exact h
      have hmlz : Hid (∀ w : World, IOwn (w.alloc (.cells #[.int .i64 0, .int .i64 0] 3)) w.heap.size (.slice (some ⟨w.heap.size, 0, none⟩) 2 2) ([0, 0] : List Int)) := Lib.hid (fun w => World.ownsRow_lit w #[.int .i64 0, .int .i64 0] 2 (Nat.le_refl _) (by unfold maxLen; omega) rfl)
      have HE0 : Hid (eviB 1 ([0] : List Int) = true) := Lib.hid (by decide)
      have HE9 : Hid (eviB 1 ([9] : List Int) = true) := Lib.hid (by decide)
      have HEM : Hid (eviB 1 ([0, 0] : List Int) = false) := Lib.hid (by decide)
      have HAT : Hid (∀ k, k < 1 → (([9] : List Int))[k]? = some 9) := Lib.hid (by decide)
      clear hi hz0 hz1 hz2
      go_wp2_with fail
      refine (implEvidenceOk_any w1 1 _ xs (HV.out w1 C1.out)).mono ?_
      rintro e w2 ⟨rfl, b2⟩
      rw [HB.out]
      have C2 := Lib.hid (below_step C1.out b2 C1.out.size)
      clear b2
      go_wp2_with fail
      refine (specEvidenceOk_any w2 1 _ xs (HV.out w2 C2.out)).mono ?_
      rintro e w' ⟨rfl, rfl⟩
      rw [HB.out]
      have H0 : Hid (App12 w2 ([9] : List Int) 0 (.slice (some ⟨w2.heap.size, 0, none⟩) 0 0) (w2.alloc (.cells #[] 3))) := Lib.hid (app12_start w2 _)
      go_wp2_with fail
      go_loopw [6, 7] (fun p i wr => ∃ k : Nat, i = .int .i64 (k : Int) ∧ k ≤ 1 ∧ Hid (App12 w2 ([9] : List Int) k p wr)) (fun _ i _ => 1 - (intOf i).toNat)
      case atStart => exact ⟨0, rfl, Nat.zero_le _, H0⟩
      case round =>
        obtain ⟨k, rfl, hk, HF⟩ := hrel
        obtain ⟨g0, c0, rfl⟩ := HF.out.2
        clear H0
        by_cases hlt : k < 1
        · have hlt' : (k : Int) < 1 := by omega
          have hlk : Hid (((([9] : List Int)).take k).length = k) := Lib.hid (by rw [List.length_take]; simp; omega)
          go_wp2_with (at_builtin; refine wp_app12 rfl _ _ rfl _ w2.heap.size _ _ k hlk.out 9 (by rfl) HF.out.1.1 (by rfl) (by omega) HF.out.1.2.size ?_)
          intro g c w' hown' hgrow
          have HL := Lib.hid (HF.out.step (HAT.out k hlt) hown' hgrow)
          clear hown' hgrow
          go_wp2_with fail
          go_roundw
          case rel => exact ⟨k + 1, by first | rfl | go_num, by omega, HL⟩
          case measure => simp [intOf]; omega
        · obtain rfl : k = 1 := by omega
          obtain ⟨o1, b1⟩ := HF.out.1.all (by simp)
          have O1 := Lib.hid o1
          have D1 := Lib.hid b1
          have C3 := Lib.hid (below_step C2.out b1 C2.out.size)
          clear o1 b1 HF
          go_wp2_with fail
          refine (implEvidenceOk_any _ 1 _ ([0] : List Int) (hmkz.out wr).rd).mono ?_
          rintro e w4 ⟨rfl, b4⟩
          rw [HE0.out]
          have D4 := Lib.hid (below_step ((Below.refl wr.heap.size wr).alloc (Nat.le_refl _) _) b4 (by simp))
          have C4 := Lib.hid (below_step C3.out D4.out C3.out.size)
          have O4 := Lib.hid (O1.out.keep (SameAt.of_below D4.out)).rd
          clear b4 D4
          go_wp2_with fail
          refine (implEvidenceOk_any w4 1 _ ([9] : List Int) O4.out).mono ?_
          rintro e w5 ⟨rfl, b5⟩
          rw [HE9.out]
          have C5 := Lib.hid (below_step C4.out b5 C4.out.size)
          clear b5
          go_wp2_with fail
          refine (implEvidenceOk_any _ 1 _ ([0, 0] : List Int) (hmlz.out w5).rd).mono ?_
          rintro e w6 ⟨rfl, b6⟩
          rw [HEM.out]
          have D6 := Lib.hid (below_step ((Below.refl w5.heap.size w5).alloc (Nat.le_refl _) _) b6 (by simp))
          have C6 := Lib.hid (below_step C5.out D6.out C5.out.size)
          clear b6 D6
          go_wp2_with fail
          refine (alive_any _).mono ?_
          rintro e w' ⟨rfl, rfl⟩
          go_wp2_with fail
          go_ret
          exact ⟨rfl, below_step HB1.out C6.out HB1.out.size⟩
    · have HB := Lib.hid ht
      clear ht
      have hmk : ∀ w : World, (Instr.makeSlice 23 (.int .i64 2) (.int .i64 2)).run Try.prog w = .ok (.slice (some ⟨w.heap.size, 0, none⟩) 2 2) (w.alloc (.cells #[.int .i64 0, .int .i64 0] 3)) := by
        intro w
        have h := run_make (P := Try.prog) w 23 3 i0 (.int .i64 0) Try.underlying23 hi hz0 .i64 .i64 2 2 (by omega) (Int.le_refl _) (by rw [hz2]; omega) (by omega)
        rw [hz1] at h
        have e : madeCells (Value.int .i64 0).cells (Int.toNat 2 * 1) = #[.int .i64 0, .int .i64 0] := by kernel_rfl
        rw [e] at h
        exact h
      have hmkz : Hid (∀ w : World, IOwn (w.alloc (.cells #[.int .i64 0, .int .i64 0] 3)) w.heap.size (.slice (some ⟨w.heap.size, 0, none⟩) 2 2) ([0, 0] : List Int)) := Lib.hid (fun w => World.ownsRow_lit w #[.int .i64 0, .int .i64 0] 2 (Nat.le_refl _) (by unfold maxLen; omega) rfl)
      have hml : ∀ w : World, (Instr.makeSlice 23 (.int .i64 3) (.int .i64 3)).run Try.prog w = .ok (.slice (some ⟨w.heap.size, 0, none⟩) 3 3) (w.alloc (.cells #[.int .i64 0, .int .i64 0, .int .i64 0] 3)) := by
        intro w
        have h := run_make (P := Try.prog) w 23 3 i0 (.int .i64 0) Try.underlying23 hi hz0 .i64 .i64 3 3 (by omega) (Int.le_refl _) (by rw [hz2]; omega) (by omega)
        rw [hz1] at h
        have e : madeCells (Value.int .i64 0).cells (Int.toNat 3 * 1) = #[.int .i64 0, .int .i64 0, .int .i64 0] := by kernel_rfl
        rw [e] at h
        exact h
      have hmlz : Hid (∀ w : World, IOwn (w.alloc (.cells #[.int .i64 0, .int .i64 0, .int .i64 0] 3)) w.heap.size (.slice (some ⟨w.heap.size, 0, none⟩) 3 3) ([0, 0, 0] : List Int)) := Lib.hid (fun w => World.ownsRow_lit w #[.int .i64 0, .int .i64 0, .int .i64 0] 3 (Nat.le_refl _) (by unfold maxLen; omega) rfl)
      have HE0 : Hid (eviB 2 ([0, 0] : List Int) = true) := Lib.hid (by decide)
      have HE9 : Hid (eviB 2 ([9, 9] : List Int) = true) := Lib.hid (by decide)
      have HEM : Hid (eviB 2 ([0, 0, 0] : List Int) = false) := Lib.hid (by decide)
      have HAT : Hid (∀ k, k < 2 → (([9, 9] : List Int))[k]? = some 9) := Lib.hid (by decide)
      clear hi hz0 hz1 hz2
      go_wp2_with fail
      refine (implEvidenceOk_any w1 2 _ xs (HV.out w1 C1.out)).mono ?_
      rintro e w2 ⟨rfl, b2⟩
      rw [HB.out]
      have C2 := Lib.hid (below_step C1.out b2 C1.out.size)
      clear b2
      go_wp2_with fail
      refine (specEvidenceOk_any w2 2 _ xs (HV.out w2 C2.out)).mono ?_
      rintro e w' ⟨rfl, rfl⟩
      rw [HB.out]
      have H0 : Hid (App12 w2 ([9, 9] : List Int) 0 (.slice (some ⟨w2.heap.size, 0, none⟩) 0 0) (w2.alloc (.cells #[] 3))) := Lib.hid (app12_start w2 _)
      go_wp2_with fail
      go_loopw [6, 7] (fun p i wr => ∃ k : Nat, i = .int .i64 (k : Int) ∧ k ≤ 2 ∧ Hid (App12 w2 ([9, 9] : List Int) k p wr)) (fun _ i _ => 2 - (intOf i).toNat)
      case atStart => exact ⟨0, rfl, Nat.zero_le _, H0⟩
      case round =>
        obtain ⟨k, rfl, hk, HF⟩ := hrel
        obtain ⟨g0, c0, rfl⟩ := HF.out.2
        clear H0
        by_cases hlt : k < 2
        · have hlt' : (k : Int) < 2 := by omega
          have hlk : Hid (((([9, 9] : List Int)).take k).length = k) := Lib.hid (by rw [List.length_take]; simp; omega)
          go_wp2_with (at_builtin; refine wp_app12 rfl _ _ rfl _ w2.heap.size _ _ k hlk.out 9 (by rfl) HF.out.1.1 (by rfl) (by omega) HF.out.1.2.size ?_)
          intro g c w' hown' hgrow
          have HL := Lib.hid (HF.out.step (HAT.out k hlt) hown' hgrow)
          clear hown' hgrow
          go_wp2_with fail
          go_roundw
          case rel => exact ⟨k + 1, by first | rfl | go_num, by omega, HL⟩
          case measure => simp [intOf]; omega
        · obtain rfl : k = 2 := by omega
          obtain ⟨o1, b1⟩ := HF.out.1.all (by simp)
          have O1 := Lib.hid o1
          have D1 := Lib.hid b1
          have C3 := Lib.hid (below_step C2.out b1 C2.out.size)
          clear o1 b1 HF
          go_wp2_with fail
          refine (implEvidenceOk_any _ 2 _ ([0, 0] : List Int) (hmkz.out wr).rd).mono ?_
          rintro e w4 ⟨rfl, b4⟩
          rw [HE0.out]
          have D4 := Lib.hid (below_step ((Below.refl wr.heap.size wr).alloc (Nat.le_refl _) _) b4 (by simp))
          have C4 := Lib.hid (below_step C3.out D4.out C3.out.size)
          have O4 := Lib.hid (O1.out.keep (SameAt.of_below D4.out)).rd
          clear b4 D4
          go_wp2_with fail
          refine (implEvidenceOk_any w4 2 _ ([9, 9] : List Int) O4.out).mono ?_
          rintro e w5 ⟨rfl, b5⟩
          rw [HE9.out]
          have C5 := Lib.hid (below_step C4.out b5 C4.out.size)
          clear b5
          go_wp2_with fail
          refine (implEvidenceOk_any _ 2 _ ([0, 0, 0] : List Int) (hmlz.out w5).rd).mono ?_
          rintro e w6 ⟨rfl, b6⟩
          rw [HEM.out]
          have D6 := Lib.hid (below_step ((Below.refl w5.heap.size w5).alloc (Nat.le_refl _) _) b6 (by simp))
          have C6 := Lib.hid (below_step C5.out D6.out C5.out.size)
          clear b6 D6
          go_wp2_with fail
          refine (alive_any _).mono ?_
          rintro e w' ⟨rfl, rfl⟩
          go_wp2_with fail
          go_ret
          exact ⟨rfl, below_step HB1.out C6.out HB1.out.size⟩
    · have HB := Lib.hid ht
      clear ht
      have hmk : ∀ w : World, (Instr.makeSlice 23 (.int .i64 3) (.int .i64 3)).run Try.prog w = .ok (.slice (some ⟨w.heap.size, 0, none⟩) 3 3) (w.alloc (.cells #[.int .i64 0, .int .i64 0, .int .i64 0] 3)) := by
        intro w
        have h := run_make (P := Try.prog) w 23 3 i0 (.int .i64 0) Try.underlying23 hi hz0 .i64 .i64 3 3 (by omega) (Int.le_refl _) (by rw [hz2]; omega) (by omega)
        rw [hz1] at h
        have e : madeCells (Value.int .i64 0).cells (Int.toNat 3 * 1) = #[.int .i64 0, .int .i64 0, .int .i64 0] := by kernel_rfl
        rw [e] at h
        exact h
      have hmkz : Hid (∀ w : World, IOwn (w.alloc (.cells #[.int .i64 0, .int .i64 0, .int .i64 0] 3)) w.heap.size (.slice (some ⟨w.heap.size, 0, none⟩) 3 3) ([0, 0, 0] : List Int)) := Lib.hid (fun w => World.ownsRow_lit w #[.int .i64 0, .int .i64 0, .int .i64 0] 3 (Nat.le_refl _) (by unfold maxLen; omega) rfl)
      have hml : ∀ w : World, (Instr.makeSlice 23 (.int .i64 4) (.int .i64 4)).run Try.prog w = .ok (.slice (some ⟨w.heap.size, 0, none⟩) 4 4) (w.alloc (.cells #[.int .i64 0, .int .i64 0, .int .i64 0, .int .i64 0] 3)) := by
        intro w
        have h := run_make (P := Try.prog) w 23 3 i0 (.int .i64 0) Try.underlying23 hi hz0 .i64 .i64 4 4 (by omega) (Int.le_refl _) (by rw [hz2]; omega) (by omega)
        rw [hz1] at h
        have e : madeCells (Value.int .i64 0).cells (Int.toNat 4 * 1) = #[.int .i64 0, .int .i64 0, .int .i64 0, .int .i64 0] := by kernel_rfl
        rw [e] at h
        exact h
      have hmlz : Hid (∀ w : World, IOwn (w.alloc (.cells #[.int .i64 0, .int .i64 0, .int .i64 0, .int .i64 0] 3)) w.heap.size (.slice (some ⟨w.heap.size, 0, none⟩) 4 4) ([0, 0, 0, 0] : List Int)) := Lib.hid (fun w => World.ownsRow_lit w #[.int .i64 0, .int .i64 0, .int .i64 0, .int .i64 0] 4 (Nat.le_refl _) (by unfold maxLen; omega) rfl)
      have HE0 : Hid (eviB 3 ([0, 0, 0] : List Int) = true) := Lib.hid (by decide)
      have HE9 : Hid (eviB 3 ([9, 9, 9] : List Int) = true) := Lib.hid (by decide)
      have HEM : Hid (eviB 3 ([0, 0, 0, 0] : List Int) = false) := Lib.hid (by decide)
      have HAT : Hid (∀ k, k < 3 → (([9, 9, 9] : List Int))[k]? = some 9) := Lib.hid (by decide)
      clear hi hz0 hz1 hz2
      go_wp2_with fail
      refine (implEvidenceOk_any w1 3 _ xs (HV.out w1 C1.out)).mono ?_
      rintro e w2 ⟨rfl, b2⟩
      rw [HB.out]
      have C2 := Lib.hid (below_step C1.out b2 C1.out.size)
      clear b2
      go_wp2_with fail
      refine (specEvidenceOk_any w2 3 _ xs (HV.out w2 C2.out)).mono ?_
      rintro e w' ⟨rfl, rfl⟩
      rw [HB.out]
      have H0 : Hid (App12 w2 ([9, 9, 9] : List Int) 0 (.slice (some ⟨w2.heap.size, 0, none⟩) 0 0) (w2.alloc (.cells #[] 3))) := Lib.hid (app12_start w2 _)
      go_wp2_with fail
      go_loopw [6, 7] (fun p i wr => ∃ k : Nat, i = .int .i64 (k : Int) ∧ k ≤ 3 ∧ Hid (App12 w2 ([9, 9, 9] : List Int) k p wr)) (fun _ i _ => 3 - (intOf i).toNat)
      case atStart => exact ⟨0, rfl, Nat.zero_le _, H0⟩
      case round =>
        obtain ⟨k, rfl, hk, HF⟩ := hrel
        obtain ⟨g0, c0, rfl⟩ := HF.out.2
        clear H0
        by_cases hlt : k < 3
        · have hlt' : (k : Int) < 3 := by omega
          have hlk : Hid (((([9, 9, 9] : List Int)).take k).length = k) := Lib.hid (by rw [List.length_take]; simp; omega)
          go_wp2_with (at_builtin; refine wp_app12 rfl _ _ rfl _ w2.heap.size _ _ k hlk.out 9 (by rfl) HF.out.1.1 (by rfl) (by omega) HF.out.1.2.size ?_)
          intro g c w' hown' hgrow
          have HL := Lib.hid (HF.out.step (HAT.out k hlt) hown' hgrow)
          clear hown' hgrow
          go_wp2_with fail
          go_roundw
          case rel => exact ⟨k + 1, by first | rfl | go_num, by omega, HL⟩
          case measure => simp [intOf]; omega
        · obtain rfl : k = 3 := by omega
          obtain ⟨o1, b1⟩ := HF.out.1.all (by simp)
          have O1 := Lib.hid o1
          have D1 := Lib.hid b1
          have C3 := Lib.hid (below_step C2.out b1 C2.out.size)
          clear o1 b1 HF
          go_wp2_with fail
          refine (implEvidenceOk_any _ 3 _ ([0, 0, 0] : List Int) (hmkz.out wr).rd).mono ?_
          rintro e w4 ⟨rfl, b4⟩
          rw [HE0.out]
          have D4 := Lib.hid (below_step ((Below.refl wr.heap.size wr).alloc (Nat.le_refl _) _) b4 (by simp))
          have C4 := Lib.hid (below_step C3.out D4.out C3.out.size)
          have O4 := Lib.hid (O1.out.keep (SameAt.of_below D4.out)).rd
          clear b4 D4
          go_wp2_with fail
          refine (implEvidenceOk_any w4 3 _ ([9, 9, 9] : List Int) O4.out).mono ?_
          rintro e w5 ⟨rfl, b5⟩
          rw [HE9.out]
          have C5 := Lib.hid (below_step C4.out b5 C4.out.size)
          clear b5
          go_wp2_with fail
          refine (implEvidenceOk_any _ 3 _ ([0, 0, 0, 0] : List Int) (hmlz.out w5).rd).mono ?_
          rintro e w6 ⟨rfl, b6⟩
          rw [HEM.out]
          have D6 := Lib.hid (below_step ((Below.refl w5.heap.size w5).alloc (Nat.le_refl _) _) b6 (by simp))
          have C6 := Lib.hid (below_step C5.out D6.out C5.out.size)
          clear b6 D6
          go_wp2_with fail
          refine (alive_any _).mono ?_
          rintro e w' ⟨rfl, rfl⟩
          go_wp2_with fail
          go_ret
          exact ⟨rfl, below_step HB1.out C6.out HB1.out.size⟩
    · have HB := Lib.hid ht
      clear ht
      have hmk : ∀ w : World, (Instr.makeSlice 23 (.int .i64 4) (.int .i64 4)).run Try.prog w = .ok (.slice (some ⟨w.heap.size, 0, none⟩) 4 4) (w.alloc (.cells #[.int .i64 0, .int .i64 0, .int .i64 0, .int .i64 0] 3)) := by
        intro w
        have h := run_make (P := Try.prog) w 23 3 i0 (.int .i64 0) Try.underlying23 hi hz0 .i64 .i64 4 4 (by omega) (Int.le_refl _) (by rw [hz2]; omega) (by omega)
        rw [hz1] at h
        have e : madeCells (Value.int .i64 0).cells (Int.toNat 4 * 1) = #[.int .i64 0, .int .i64 0, .int .i64 0, .int .i64 0] := by kernel_rfl
        rw [e] at h
        exact h
      have hmkz : Hid (∀ w : World, IOwn (w.alloc (.cells #[.int .i64 0, .int .i64 0, .int .i64 0, .int .i64 0] 3)) w.heap.size (.slice (some ⟨w.heap.size, 0, none⟩) 4 4) ([0, 0, 0, 0] : List Int)) := Lib.hid (fun w => World.ownsRow_lit w #[.int .i64 0, .int .i64 0, .int .i64 0, .int .i64 0] 4 (Nat.le_refl _) (by unfold maxLen; omega) rfl)
      have hml : ∀ w : World, (Instr.makeSlice 23 (.int .i64 5) (.int .i64 5)).run Try.prog w = .ok (.slice (some ⟨w.heap.size, 0, none⟩) 5 5) (w.alloc (.cells #[.int .i64 0, .int .i64 0, .int .i64 0, .int .i64 0, .int .i64 0] 3)) := by
        intro w
        have h := run_make (P := Try.prog) w 23 3 i0 (.int .i64 0) Try.underlying23 hi hz0 .i64 .i64 5 5 (by omega) (Int.le_refl _) (by rw [hz2]; omega) (by omega)
        rw [hz1] at h
        have e : madeCells (Value.int .i64 0).cells (Int.toNat 5 * 1) = #[.int .i64 0, .int .i64 0, .int .i64 0, .int .i64 0, .int .i64 0] := by kernel_rfl
        rw [e] at h
        exact h
      have hmlz : Hid (∀ w : World, IOwn (w.alloc (.cells #[.int .i64 0, .int .i64 0, .int .i64 0, .int .i64 0, .int .i64 0] 3)) w.heap.size (.slice (some ⟨w.heap.size, 0, none⟩) 5 5) ([0, 0, 0, 0, 0] : List Int)) := Lib.hid (fun w => World.ownsRow_lit w #[.int .i64 0, .int .i64 0, .int .i64 0, .int .i64 0, .int .i64 0] 5 (Nat.le_refl _) (by unfold maxLen; omega) rfl)
      have HE0 : Hid (eviB 4 ([0, 0, 0, 0] : List Int) = true) := Lib.hid (by decide)
      have HE9 : Hid (eviB 4 ([9, 9, 9, 9] : List Int) = true) := Lib.hid (by decide)
      have HEM : Hid (eviB 4 ([0, 0, 0, 0, 0] : List Int) = false) := Lib.hid (by decide)
      have HAT : Hid (∀ k, k < 4 → (([9, 9, 9, 9] : List Int))[k]? = some 9) := Lib.hid (by decide)
      clear hi hz0 hz1 hz2
      go_wp2_with fail
      refine (implEvidenceOk_any w1 4 _ xs (HV.out w1 C1.out)).mono ?_
      rintro e w2 ⟨rfl, b2⟩
      rw [HB.out]
      have C2 := Lib.hid (below_step C1.out b2 C1.out.size)
      clear b2
      go_wp2_with fail
      refine (specEvidenceOk_any w2 4 _ xs (HV.out w2 C2.out)).mono ?_
      rintro e w' ⟨rfl, rfl⟩
      rw [HB.out]
      have H0 : Hid (App12 w2 ([9, 9, 9, 9] : List Int) 0 (.slice (some ⟨w2.heap.size, 0, none⟩) 0 0) (w2.alloc (.cells #[] 3))) := Lib.hid (app12_start w2 _)
      go_wp2_with fail
      go_loopw [6, 7] (fun p i wr => ∃ k : Nat, i = .int .i64 (k : Int) ∧ k ≤ 4 ∧ Hid (App12 w2 ([9, 9, 9, 9] : List Int) k p wr)) (fun _ i _ => 4 - (intOf i).toNat)
      case atStart => exact ⟨0, rfl, Nat.zero_le _, H0⟩
      case round =>
        obtain ⟨k, rfl, hk, HF⟩ := hrel
        obtain ⟨g0, c0, rfl⟩ := HF.out.2
        clear H0
        by_cases hlt : k < 4
        · have hlt' : (k : Int) < 4 := by omega
          have hlk : Hid (((([9, 9, 9, 9] : List Int)).take k).length = k) := Lib.hid (by rw [List.length_take]; simp; omega)
          go_wp2_with (at_builtin; refine wp_app12 rfl _ _ rfl _ w2.heap.size _ _ k hlk.out 9 (by rfl) HF.out.1.1 (by rfl) (by omega) HF.out.1.2.size ?_)
          intro g c w' hown' hgrow
          have HL := Lib.hid (HF.out.step (HAT.out k hlt) hown' hgrow)
          clear hown' hgrow
          go_wp2_with fail
          go_roundw
          case rel => exact ⟨k + 1, by first | rfl | go_num, by omega, HL⟩
          case measure => simp [intOf]; omega
        · obtain rfl : k = 4 := by omega
          obtain ⟨o1, b1⟩ := HF.out.1.all (by simp)
          have O1 := Lib.hid o1
          have D1 := Lib.hid b1
          have C3 := Lib.hid (below_step C2.out b1 C2.out.size)
          clear o1 b1 HF
          go_wp2_with fail
          refine (implEvidenceOk_any _ 4 _ ([0, 0, 0, 0] : List Int) (hmkz.out wr).rd).mono ?_
          rintro e w4 ⟨rfl, b4⟩
          rw [HE0.out]
          have D4 := Lib.hid (below_step ((Below.refl wr.heap.size wr).alloc (Nat.le_refl _) _) b4 (by simp))
          have C4 := Lib.hid (below_step C3.out D4.out C3.out.size)
          have O4 := Lib.hid (O1.out.keep (SameAt.of_below D4.out)).rd
          clear b4 D4
          go_wp2_with fail
          refine (implEvidenceOk_any w4 4 _ ([9, 9, 9, 9] : List Int) O4.out).mono ?_
          rintro e w5 ⟨rfl, b5⟩
          rw [HE9.out]
          have C5 := Lib.hid (below_step C4.out b5 C4.out.size)
          clear b5
          go_wp2_with fail
          refine (implEvidenceOk_any _ 4 _ ([0, 0, 0, 0, 0] : List Int) (hmlz.out w5).rd).mono ?_
          rintro e w6 ⟨rfl, b6⟩
          rw [HEM.out]
          have D6 := Lib.hid (below_step ((Below.refl w5.heap.size w5).alloc (Nat.le_refl _) _) b6 (by simp))
          have C6 := Lib.hid (below_step C5.out D6.out C5.out.size)
          clear b6 D6
          go_wp2_with fail
          refine (alive_any _).mono ?_
          rintro e w' ⟨rfl, rfl⟩
          go_wp2_with fail
          go_ret
          exact ⟨rfl, below_step HB1.out C6.out HB1.out.size⟩
    · have ht5 : t = false := by
        rw [← ht]
        rcases Bool.eq_false_or_eq_true (eviB 5 xs) with h | h
        · exact absurd ((eviB_iff 5 xs).1 h).2.1.2 (by decide)
        · exact h
      rw [ht5] at ht
      have HB := Lib.hid ht
      clear ht
      go_wp2_with fail
      refine (implEvidenceOk_any w1 5 _ xs (HV.out w1 C1.out)).mono ?_
      rintro e w2 ⟨rfl, b2⟩
      rw [HB.out]
      have C2 := Lib.hid (below_step C1.out b2 C1.out.size)
      clear b2
      go_wp2_with fail
      refine (specEvidenceOk_any w2 5 _ xs (HV.out w2 C2.out)).mono ?_
      rintro e w' ⟨rfl, rfl⟩
      rw [HB.out]
      go_wp2_with fail
      refine (alive_any _).mono ?_
      rintro e w' ⟨rfl, rfl⟩
      go_wp2_with fail
      go_ret
      exact ⟨rfl, below_step HB1.out C2.out HB1.out.size⟩

end Go.Proofs.Ytbjmhbkpeglpkaa
