/- Contracts of the functions on gambles that return a row: spec. Conditions: rows that read as lists. -/
import Derived.Test.YtpkecmcgpiimkaaGd
import Derived.Deep.AppendLies
import Derived.Deep.RegionLaw
namespace Go.Proofs.Ytpkecmcgpiimkaa
open Go.RowKit
set_option linter.unusedVariables false

/-- the row p holds the first k of zs -/
def AppRel (w : World) (zs : List Int) (k : Nat) (p : Value) (wr : World) : Prop := IOwn wr w.heap.size p (zs.take k) ∧ Below w.heap.size w wr

theorem AppRel.step {w wr w' : World} {zs : List Int} {k : Nat} {p p' : Value} {x : Int} (h : AppRel w zs k p wr) (hx : zs[k]? = some x) (ho : IOwn w' w.heap.size p' (zs.take k ++ [x])) (hg : wr.grownBy w' p.ownBlock) : AppRel w zs (k + 1) p' w' := by
  obtain ⟨h1, h2⟩ := h
  refine ⟨?_, below_grown h2 hg h1 (Nat.le_refl _) h2.size⟩
  rw [List.take_add_one, hx]; exact ho

theorem AppRel.all {w wr : World} {zs : List Int} {k : Nat} {p : Value} (h : AppRel w zs k p wr) (hk : zs.length ≤ k) : IOwn wr w.heap.size p zs ∧ Below w.heap.size w wr := by
  obtain ⟨h1, h2⟩ := h
  rw [List.take_of_length_le hk] at h1
  exact ⟨h1, h2⟩

theorem app_start (w : World) (zs : List Int) : AppRel w zs 0 (.slice (some ⟨w.heap.size, 0, none⟩) 0 0) (w.alloc (.cells #[] 3)) :=
  ⟨World.ownsRow_lit w #[] 0 (Nat.le_refl _) (by unfold maxLen; omega) rfl, (Below.refl _ _).alloc (Nat.le_refl _) _⟩

theorem lit_own (w : World) (base : Nat) (hb : base ≤ w.heap.size) : IOwn (w.alloc (.cells #[] 3)) base (.slice (some ⟨w.heap.size, 0, none⟩) 0 0) [] :=
  World.ownsRow_lit w #[] 0 hb (by unfold maxLen; omega) rfl

theorem AppRel.below {w wr : World} {zs : List Int} {k : Nat} {p : Value} (h : AppRel w zs k p wr) : Below w.heap.size w wr := h.2

set_option maxHeartbeats 2000000 in
theorem specTimesGamble_any (w : World) (v : Value) (xs : List Int) (t : Int) (hv : IRd w v xs) :
    Calls Try.prog 29 #[v, .int .i64 t] w (RowOk w.heap.size (timesR xs t) (timesB xs t) w) := by
  obtain ⟨A, c, rfl, hlc, hm, -⟩ := id hv
  have HV := Lib.hid hv
  clear hv
  rcases Bool.eq_false_or_eq_true (gokB xs) with h | h
  · rcases Bool.eq_false_or_eq_true (amB t) with ht | ht
    · have H := Lib.hid h
      have HT := Lib.hid ht
      have HX := Lib.hid (small3_of h)
      have hn4 := (small3_of h).1
      have HZ := Lib.hid (mulL_len xs t)
      have H0 : Hid (AppRel w (mulL xs t) 0 (.slice (some ⟨w.heap.size, 0, none⟩) 0 0) (w.alloc (.cells #[] 3))) := Lib.hid (app_start w (mulL xs t))
      have ht2 : inB t (-1000) 1000 = true := by rw [inB_amB]; exact ht
      obtain ⟨i0, hi, hz0, hz1, hz2⟩ := info_parts Try_intinfo
      go_enter Try.func29, Try.ntmps29
      go_wp2_with fail
      refine (specGambleOk_any _ _ _ HV.out).mono ?_
      rintro e w' ⟨rfl, rfl⟩
      go_wp2_with fail
      refine (l1In_any _ _ _ _).mono ?_
      rintro e w' ⟨rfl, rfl⟩
      go_wp2_with fail
      clear h ht ht2
      go_loopw [6, 7] (fun p i wr => ∃ k : Nat, i = .int .i64 k ∧ k ≤ xs.length ∧ Hid (AppRel w (mulL xs t) k p wr)) (fun _ i _ => xs.length - (intOf i).toNat)
      case atStart => exact ⟨0, rfl, Nat.zero_le _, H0⟩
      case round =>
        obtain ⟨k, rfl, hk, HF⟩ := hrel
        clear H0
        by_cases hlt : k < xs.length
        · obtain ⟨b, off, x, rfl, -, hx, hcx⟩ := (HV.out.keep (SameAt.of_below HF.out.2)).at_ hlt
          obtain ⟨hp1, hp2⟩ := mul_1000 (HX.out.2 k x hx) ((amB_iff t).1 HT.out)
          have hwr : IntKind.i64.wrap (x * t) = x * t := IntWalk.i64_in _ (by omega)
          have HS := Lib.hid (mulL_at xs t hx)
          have hown0 := HF.out.1
          unfold IOwn at hown0
          have hown := Lib.hid (World.ownsRow.alloc (w := wr) hown0 (.cells #[.int .i64 (x * t)] 3))
          have hsz := HF.out.2.size
          clear hx hown0
          go_wp2_with (at_builtin; refine wpList_append_own _ rfl _ _ 23 rfl w.heap.size 3 i0 (.int .i64 0) 1 8 Try.underlying23 hi hz0 hz1 hz2 rfl (by decide) _ _ _ rfl hown.out ⟨wr.heap.size, 0, none⟩ 1 1 [.int .i64 (x * t)] rfl rfl ?c1 one_int ?c3 ?c4 ?c5 ?_)
          case c1 => exact one_new wr _ _
          case c3 => unfold maxLen; simp; omega
          case c4 => simp; omega
          case c5 => simp; omega
          intro v' w' hown' hgrow _
          have HL := Lib.hid (HF.out.step HS.out (show IOwn w' w.heap.size v' ((mulL xs t).take k ++ [x * t]) from by simpa [IOwn] using hown') (grown_after (w := wr) ((Below.refl _ wr).alloc (Nat.le_refl _) _) hgrow))
          clear hown' hgrow hown hi hz0 hz1 hz2
          go_wp2_with fail
          go_roundw
          case rel => exact ⟨k + 1, by go_num, by omega, HL⟩
          case measure => simp [intOf]; omega
        · obtain ⟨o1, b1⟩ := HF.out.all (by have := HZ.out; omega)
          have B1 := Lib.hid b1
          have O1 := Lib.hid o1
          clear b1 o1
          go_wp2_with fail
          refine (specGambleOk_any _ _ _ O1.out.rd).mono ?_
          rintro e w2 ⟨rfl, rfl⟩
          rcases Bool.eq_false_or_eq_true (gokB (mulL xs t)) with hg | hg
          · have HG := Lib.hid hg
            clear hg
            rw [HG.out]
            go_wp2_with fail
            go_ret2
            exact rowOk_ret ((times_yes H.out HT.out).trans HG.out) (by rw [timesR, times_yes H.out HT.out, HG.out]; rfl) O1.out B1.out
          · have HG := Lib.hid hg
            clear hg
            rw [HG.out]
            go_wp2_with fail
            go_ret2
            exact rowOk_ret ((times_yes H.out HT.out).trans HG.out) (by rw [timesR, times_yes H.out HT.out, HG.out]; rfl) (lit_own _ _ B1.out.size) (B1.out.alloc B1.out.size _)
    · have HT := Lib.hid (times_no2 (g := xs) ht)
      have ht2 : inB t (-1000) 1000 = false := by rw [inB_amB]; exact ht
      go_enter Try.func29, Try.ntmps29
      go_wp2_with fail
      refine (specGambleOk_any _ _ _ HV.out).mono ?_
      rintro e w' ⟨rfl, rfl⟩
      go_wp2_with fail
      refine (l1In_any _ _ _ _).mono ?_
      rintro e w' ⟨rfl, rfl⟩
      go_wp2_with fail
      go_ret2
      exact rowOk_ret HT.out.1 HT.out.2 (lit_own _ _ (Nat.le_refl _)) ((Below.refl _ _).alloc (Nat.le_refl _) _)
  · have HT := Lib.hid (times_no1 (t := t) h)
    go_enter Try.func29, Try.ntmps29
    go_wp2_with fail
    refine (specGambleOk_any _ _ _ HV.out).mono ?_
    rintro e w' ⟨rfl, rfl⟩
    go_wp2_with fail
    go_ret2
    exact rowOk_ret HT.out.1 HT.out.2 (lit_own _ _ (Nat.le_refl _)) ((Below.refl _ _).alloc (Nat.le_refl _) _)

end Go.Proofs.Ytpkecmcgpiimkaa
