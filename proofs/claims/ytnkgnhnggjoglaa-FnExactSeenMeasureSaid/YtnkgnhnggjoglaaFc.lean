/- The contract of spec's SeenMeasure, and the facts of its answer. Conditions: a row that reads as a list. -/
import Derived.Test.YtnkgnhnggjoglaaFb
import Derived.Test.YtnkgnhnggjoglaaMe
namespace Go.Proofs.Ytnkgnhnggjoglaa
open Go.RowKit
set_option linter.unusedVariables false

/-- how often each world turned out, times 36 -/
def cnt11 (N : Nat) (ss : List Int) : List Int := (List.range N).map fun j => seenN ss j * 36

/-- the shares -/
def shr11 (N : Nat) (ss : List Int) : List Int := (List.range N).map fun j => seenN ss j * 36 / (ss.length : Int)

def seenB (W : Int) (ss : List Int) : Bool := inB W 1 4 && (inB (ss.length : Int) 1 12 && (ss.all (fun x => inB x 0 (W - 1)) && (List.range W.toNat).all (fun j => seenN ss j * 36 % (ss.length : Int) == 0)))

theorem seenB_iff (W : Int) (ss : List Int) : seenB W ss = true ↔ (1 ≤ W ∧ W ≤ 4) ∧ (1 ≤ ss.length ∧ ss.length ≤ 12) ∧ (∀ x ∈ ss, 0 ≤ x ∧ x ≤ W - 1) ∧ ∀ j : Nat, j < W.toNat → seenN ss j * 36 % (ss.length : Int) = 0 := by
  simp only [seenB, Bool.and_eq_true, inB_iff, List.all_eq_true, List.mem_range, beq_iff_eq]
  refine and_congr_right fun _ => and_congr_left fun _ => ?_
  omega

def seenR (W : Int) (ss : List Int) : List Int := if seenB W ss = true then shr11 W.toNat ss else []

theorem cnt_len (N : Nat) (ss : List Int) : (cnt11 N ss).length = N := by simp [cnt11]

theorem shr_len (N : Nat) (ss : List Int) : (shr11 N ss).length = N := by simp [shr11]

theorem cnt_at {N : Nat} {ss : List Int} {j : Nat} (h : j < N) : (cnt11 N ss)[j]? = some (seenN ss j * 36) := by simp [cnt11, h]

theorem shr_at {N : Nat} {ss : List Int} {j : Nat} (h : j < N) : (shr11 N ss)[j]? = some (seenN ss j * 36 / (ss.length : Int)) := by simp [shr11, h]

theorem seen_app (a b : List Int) (j : Nat) : seenN (a ++ b) j = seenN a j + seenN b j := by simp [seenN]

theorem seen_take {ss : List Int} {k : Nat} {x : Int} (h : ss[k]? = some x) (j : Nat) : seenN (ss.take (k + 1)) j = seenN (ss.take k) j + (if x = (j : Int) then 1 else 0) := by
  rw [List.take_add_one, h, Option.toList_some, seen_app, seen_cons]; simp [seenN]

theorem cnt_nil (N : Nat) : cnt11 N [] = List.replicate N 0 := by
  apply List.ext_getElem?
  intro i
  rcases Nat.lt_or_ge i N with h | h
  · rw [cnt_at h, List.getElem?_replicate, if_pos h]; simp [seenN]
  · rw [List.getElem?_eq_none (by rw [cnt_len]; exact h), List.getElem?_eq_none (by simpa using h)]

theorem cnt_set {N : Nat} {ss : List Int} {k u : Nat} (h : ss[k]? = some (u : Int)) (hu : u < N) : cnt11 N (ss.take (k + 1)) = (cnt11 N (ss.take k)).set u (seenN (ss.take k) u * 36 + 36) := by
  apply List.ext_getElem?
  intro i
  rcases Nat.lt_or_ge i N with hi | hi
  · rw [cnt_at hi, seen_take h]
    by_cases e : u = i
    · subst e
      rw [List.getElem?_set_self (by rw [cnt_len]; exact hi), if_pos rfl]; congr 1; omega
    · rw [List.getElem?_set_ne e, cnt_at hi, if_neg (by omega)]; congr 1; omega
  · rw [List.getElem?_eq_none (by rw [cnt_len]; exact hi), List.getElem?_eq_none (by rw [List.length_set, cnt_len]; exact hi)]

/-- the rows O and S, up to k and from k on -/
def mid11 (O S : List Int) (k : Nat) : List Int := O.take k ++ S.drop k

theorem mid_len {O S : List Int} (h : O.length = S.length) {k : Nat} (hk : k ≤ S.length) : (mid11 O S k).length = S.length := by
  simp only [mid11, List.length_append, List.length_take, List.length_drop]; omega

theorem mid_at {O S : List Int} (h : O.length = S.length) {k : Nat} (hk : k < S.length) : (mid11 O S k)[k]? = S[k]? := by
  rw [mid11, List.getElem?_append_right (by rw [List.length_take]; omega), List.length_take, Nat.min_eq_left (by omega), Nat.sub_self, List.getElem?_drop, Nat.add_zero]

theorem mid_set {O S : List Int} (h : O.length = S.length) {k : Nat} {o : Int} (ho : O[k]? = some o) : mid11 O S (k + 1) = (mid11 O S k).set k o := by
  have hk : k < O.length := (List.getElem?_eq_some_iff.1 ho).1
  unfold mid11
  rw [List.set_append_right _ _ (by rw [List.length_take]; omega), List.length_take, Nat.min_eq_left (by omega), Nat.sub_self, List.take_add_one, ho, Option.toList_some, List.append_assoc]
  congr 1
  rw [List.drop_eq_getElem_cons (show k < S.length by omega)]
  rfl

theorem mid_zero (O S : List Int) : mid11 O S 0 = S := by simp [mid11]

theorem mid_all {O S : List Int} (h : O.length = S.length) {k : Nat} (hk : k = S.length) : mid11 O S k = O := by
  subst hk; rw [mid11, ← h, List.take_length, List.drop_eq_nil_of_le (by omega), List.append_nil]

theorem lit11 (w : World) (base : Nat) (hb : base ≤ w.heap.size) : IOwn (w.alloc (.cells #[] 3)) base (.slice (some ⟨w.heap.size, 0, none⟩) 0 0) [] :=
  World.ownsRow_lit w #[] 0 hb (by unfold maxLen; omega) rfl

set_option maxRecDepth 100000 in
set_option maxHeartbeats 8000000 in
theorem specSeenMeasure_any (w : World) (W : Int) (v : Value) (ss : List Int) (hv : IRd w v ss) :
    Calls Try.prog 38 #[.int .i64 W, v] w (RowOk w.heap.size (seenR W ss) (seenB W ss) w) := by
  obtain ⟨A, c, rfl, hl, hmx, -⟩ := id hv
  have HV : Hid (∀ wr, Below w.heap.size w wr → IRd wr (.slice A ss.length c) ss) := Lib.hid (fun wr hb => hv.keep (SameAt.of_below hb))
  clear hv
  have HL0 : Hid (∀ w' : World, w.heap.size ≤ w'.heap.size → IOwn (w'.alloc (.cells #[] 3)) w.heap.size (.slice (some ⟨w'.heap.size, 0, none⟩) 0 0) []) := Lib.hid (fun w' h => lit11 w' _ h)
  have HNO : Hid (seenB W ss = false → seenR W ss = []) := Lib.hid (fun h => by rw [seenR, h]; rfl)
  rcases Bool.eq_false_or_eq_true (inB W 1 4) with h1 | h1
  · rcases Bool.eq_false_or_eq_true (inB (ss.length : Int) 1 12) with h2 | h2
    · obtain ⟨w1, w4⟩ := (inB_iff _ _ _).1 h1
      obtain ⟨l1, l12⟩ := (inB_iff _ _ _).1 h2
      obtain ⟨N, rfl⟩ : ∃ N : Nat, W = N := ⟨W.toNat, by omega⟩
      have hN4 : N ≤ 4 := by omega
      have hwn : IntKind.i64.wrap ((N : Int) - 1) = (N : Int) - 1 := IntWalk.i64_in _ (by omega)
      obtain ⟨i0, hi, hz0, hz1, hz2⟩ := info_parts Try_intinfo
      go_enter Try.func38, Try.ntmps38
      go_wp2_with fail
      refine (l1In_any _ _ _ _).mono ?_
      rintro r w' ⟨rfl, rfl⟩
      rw [h1]
      go_wp2_with fail
      refine (l1In_any _ _ _ _).mono ?_
      rintro r w' ⟨rfl, rfl⟩
      rw [h2]
      go_wp2_with (at_make; refine wpList_make_full _ rfl _ _ 23 rfl w.heap.size 3 i0 (.int .i64 0) 1 Try.underlying23 hi hz0 hz1 .i64 .i64 _ _ N rfl rfl rfl rfl ?b2 ?b3 (Nat.le_refl _) ?_)
      case b2 => rw [hz2]; omega
      case b3 => unfold maxLen; omega
      intro w0 hown0 hgrow0
      have H0 : Hid (IOwn w0 w.heap.size (.slice (some ⟨w.heap.size, 0, none⟩) N N) (cnt11 N (ss.take 0)) ∧ Below w.heap.size w w0) := Lib.hid ⟨by rw [List.take_zero, cnt_nil]; unfold IOwn; simpa [toList_madeCells_one, Value.cells] using hown0, (Below.refl _ _).grown hgrow0 (Nat.le_refl _) (fun k hk => by cases hk)⟩
      have HIN1 := Lib.hid h1
      have HIN2 := Lib.hid h2
      clear hown0 hgrow0 hi hz0 hz1 hz2 h1 h2
      go_wp2_with fail
      go_loopw [7] (fun i wr => ∃ k : Nat, i = .int .i64 (k : Int) ∧ k ≤ ss.length ∧ Hid (∀ x ∈ ss.take k, 0 ≤ x ∧ x ≤ (N : Int) - 1) ∧ Hid (IOwn wr w.heap.size (.slice (some ⟨w.heap.size, 0, none⟩) N N) (cnt11 N (ss.take k)) ∧ Below w.heap.size w wr)) (fun i _ => ss.length - (intOf i).toNat)
      case atStart => exact ⟨0, rfl, Nat.zero_le _, Lib.hid (fun x hx => by simp at hx), H0⟩
      case round =>
        obtain ⟨k, rfl, hk, HA, HF⟩ := hrel
        clear H0
        by_cases hlt : k < ss.length
        · have hlt' : (k : Int) < (ss.length : Int) := by omega
          have hk0 : (0 : Int) ≤ (k : Int) := by omega
          obtain ⟨b, off, x, rfl, -, hx, hcx⟩ := (HV.out wr HF.out.2).at_ hlt
          have HX := Lib.hid hx
          clear hx
          rcases Bool.eq_false_or_eq_true (inB x 0 ((N : Int) - 1)) with h3 | h3
          · obtain ⟨x0, x1⟩ := (inB_iff _ _ _).1 h3
            obtain ⟨u, rfl⟩ : ∃ u : Nat, x = u := ⟨x.toNat, by omega⟩
            have hu : u < N := by omega
            have hu' : (u : Int) < (N : Int) := by omega
            have hu0 : (0 : Int) ≤ (u : Int) := by omega
            obtain ⟨y, hy⟩ : ∃ y, seenN (ss.take k) u * 36 = y := ⟨_, rfl⟩
            have hyb : 0 ≤ y ∧ y ≤ 36 * 12 := by
              have := seen_nonneg (ss.take k) u
              rw [List.length_take] at this
              omega
            have hcy : wr.cell? ⟨w.heap.size, u, none⟩ = some (.int .i64 y) := IOwn.cellk HF.out.1 (by rw [cnt_at hu, hy])
            have hfz : wr.frozen? ⟨w.heap.size, u, none⟩ = false := IOwn.frz HF.out.1 (by rw [cnt_len]) u
            have hwy : IntKind.i64.wrap (y + 36) = y + 36 := IntWalk.i64_in _ (by omega)
            have HS := Lib.hid (cnt_set (N := N) HX.out hu)
            rw [hy] at HS
            have HF2 : Hid (IOwn (wr.setCell ⟨w.heap.size, u, none⟩ (.int .i64 (y + 36))) w.heap.size (.slice (some ⟨w.heap.size, 0, none⟩) N N) (cnt11 N (ss.take (k + 1))) ∧ Below w.heap.size w (wr.setCell ⟨w.heap.size, u, none⟩ (.int .i64 (y + 36)))) := Lib.hid ⟨by rw [HS.out]; exact (IOwn.set_ HF.out.1 (by rw [cnt_len]) u _).1, HF.out.2.setCell (p := ⟨w.heap.size, u, none⟩) (Nat.le_refl _) _⟩
            have HN := Lib.hid (take_mem11 HX.out HA.out (show 0 ≤ (u : Int) ∧ (u : Int) ≤ (N : Int) - 1 by omega))
            clear hy hyb HF
            go_wp2_with fail
            refine (l1In_any _ _ _ _).mono ?_
            rintro r w' ⟨rfl, rfl⟩
            rw [h3]
            clear h3
            go_wp2_with fail
            go_region
            all_goals
              go_wp2_with fail
              go_roundw
              case rel => exact ⟨k + 1, by go_num, by omega, HN, Lib.hid ⟨HF2.out.1, HF2.out.2.drew⟩⟩
              case measure => simp [intOf]; omega
          · have HT : Hid (seenB (N : Int) ss = false) := Lib.hid (by
              rw [← Bool.not_eq_true, seenB_iff]
              rintro ⟨-, -, h4, -⟩
              rw [← Bool.not_eq_true, inB_iff] at h3
              exact h3 (h4 x (List.mem_of_getElem? HX.out)))
            have HR := Lib.hid (HNO.out HT.out)
            go_wp2_with fail
            refine (l1In_any _ _ _ _).mono ?_
            rintro r w' ⟨rfl, rfl⟩
            rw [h3]
            clear h3
            go_wp2_with fail
            go_ret2
            exact rowOk_ret HT.out HR.out (HL0.out _ HF.out.2.size) (HF.out.2.alloc HF.out.2.size _)
        · obtain rfl : k = ss.length := by omega
          have HALL : Hid (∀ x ∈ ss, 0 ≤ x ∧ x ≤ (N : Int) - 1) := Lib.hid (by have := HA.out; rwa [List.take_length] at this)
          have HOL : Hid ((shr11 N ss).length = (cnt11 N ss).length) := Lib.hid (by rw [shr_len, cnt_len])
          have HF2 : Hid (IOwn wr w.heap.size (.slice (some ⟨w.heap.size, 0, none⟩) N N) (mid11 (shr11 N ss) (cnt11 N ss) 0) ∧ Below w.heap.size w wr) := Lib.hid (by have := HF.out; rw [List.take_length] at this; rw [mid_zero]; exact this)
          clear HF HA
          go_wp2_with fail
          go_loopw [8] (fun i wr => ∃ k : Nat, i = .int .i64 (k : Int) ∧ k ≤ N ∧ Hid (∀ j : Nat, j < k → seenN ss j * 36 % (ss.length : Int) = 0) ∧ Hid (IOwn wr w.heap.size (.slice (some ⟨w.heap.size, 0, none⟩) N N) (mid11 (shr11 N ss) (cnt11 N ss) k) ∧ Below w.heap.size w wr)) (fun i _ => N - (intOf i).toNat)
          case atStart => exact ⟨0, rfl, Nat.zero_le _, Lib.hid (fun j hj => absurd hj (Nat.not_lt_zero _)), HF2⟩
          case round =>
            obtain ⟨k, rfl, hk2, HD, HQ⟩ := hrel
            clear HF2
            by_cases hlt : k < N
            · have hlt' : (k : Int) < (N : Int) := by omega
              obtain ⟨y, hy⟩ : ∃ y, seenN ss k * 36 = y := ⟨_, rfl⟩
              have hyb : 0 ≤ y ∧ y ≤ 36 * 12 := by
                have := seen_nonneg ss k
                omega
              have hcy : wr.cell? ⟨w.heap.size, k, none⟩ = some (.int .i64 y) := IOwn.cellk HQ.out.1 (by rw [mid_at HOL.out (by rw [cnt_len]; exact hlt), cnt_at hlt, hy])
              have hfz : wr.frozen? ⟨w.heap.size, k, none⟩ = false := IOwn.frz HQ.out.1 (by rw [mid_len HOL.out (by rw [cnt_len]; omega), cnt_len]) k
              have hne : ¬ ((ss.length : Int) = 0) := by omega
              obtain ⟨r, hr⟩ : ∃ r, y % (ss.length : Int) = r := ⟨_, rfl⟩
              obtain ⟨q, hq⟩ : ∃ q, y / (ss.length : Int) = q := ⟨_, rfl⟩
              have hr1 : y.tmod (ss.length : Int) = r := by rw [Int.tmod_eq_emod_of_nonneg hyb.1]; exact hr
              have hq1 : y.tdiv (ss.length : Int) = q := by rw [Int.tdiv_eq_ediv_of_nonneg hyb.1]; exact hq
              have hqb : 0 ≤ q ∧ q ≤ y := by rw [← hq]; exact ⟨Int.ediv_nonneg hyb.1 (by omega), Int.ediv_le_self _ hyb.1⟩
              have hrb : 0 ≤ r ∧ r < (ss.length : Int) := by rw [← hr]; exact ⟨Int.emod_nonneg _ hne, Int.emod_lt_of_pos _ (by omega)⟩
              have hwq : IntKind.i64.wrap q = q := IntWalk.i64_in _ (by omega)
              have hwq2 : wrap64 q = q := IntWalk.wrap64_in _ (by omega)
              have hwr : IntKind.i64.wrap r = r := IntWalk.i64_in _ (by omega)
              have hwr2 : wrap64 r = r := IntWalk.wrap64_in _ (by omega)
              by_cases hr0 : r = 0
              · subst hr0
                have HD2 : Hid (∀ j : Nat, j < k + 1 → seenN ss j * 36 % (ss.length : Int) = 0) := Lib.hid (fun j hj => by
                  rcases Nat.lt_or_ge j k with h | h
                  · exact HD.out j h
                  · obtain rfl : j = k := by omega
                    rw [hy]; exact hr)
                have HF3 : Hid (IOwn (wr.setCell ⟨w.heap.size, k, none⟩ (.int .i64 q)) w.heap.size (.slice (some ⟨w.heap.size, 0, none⟩) N N) (mid11 (shr11 N ss) (cnt11 N ss) (k + 1)) ∧ Below w.heap.size w (wr.setCell ⟨w.heap.size, k, none⟩ (.int .i64 q))) := Lib.hid ⟨by rw [mid_set HOL.out (o := q) (by rw [shr_at hlt, hy, hq])]; exact (IOwn.set_ HQ.out.1 (by rw [mid_len HOL.out (by rw [cnt_len]; omega), cnt_len]) k _).1, HQ.out.2.setCell (p := ⟨w.heap.size, k, none⟩) (Nat.le_refl _) _⟩
                clear hy hyb hr hq hqb hrb HQ
                go_wp2_with fail
                go_roundw
                case rel => exact ⟨k + 1, by go_num, by omega, HD2, HF3⟩
                case measure => simp [intOf]; omega
              · have hr0' : (r != 0) = true := by simpa using hr0
                have HT : Hid (seenB (N : Int) ss = false) := Lib.hid (by
                  rw [← Bool.not_eq_true, seenB_iff]
                  rintro ⟨-, -, -, h4⟩
                  have := h4 k (by omega)
                  rw [hy, hr] at this
                  exact hr0 this)
                have HR := Lib.hid (HNO.out HT.out)
                clear hy hyb hr hq hqb hrb hr0
                go_wp2_with fail
                go_ret2
                exact rowOk_ret HT.out HR.out (HL0.out _ HQ.out.2.size) (HQ.out.2.alloc HQ.out.2.size _)
            · obtain rfl : k = N := by omega
              have HT : Hid (seenB (k : Int) ss = true) := Lib.hid ((seenB_iff _ _).2 ⟨by omega, by omega, HALL.out, fun j hj => HD.out j (by omega)⟩)
              have HR : Hid (seenR (k : Int) ss = shr11 k ss) := Lib.hid (by rw [seenR, if_pos HT.out, Int.toNat_natCast])
              have HQ2 : Hid (IOwn wr w.heap.size (.slice (some ⟨w.heap.size, 0, none⟩) k k) (shr11 k ss)) := Lib.hid (by have := HQ.out.1; rwa [mid_all HOL.out (by rw [cnt_len])] at this)
              go_wp2_with fail
              go_ret2
              exact rowOk_ret HT.out HR.out HQ2.out HQ.out.2
    · have HT : Hid (seenB W ss = false) := Lib.hid (by rw [seenB, h2]; simp)
      have HR := Lib.hid (HNO.out HT.out)
      go_enter Try.func38, Try.ntmps38
      go_wp2_with fail
      refine (l1In_any _ _ _ _).mono ?_
      rintro r w' ⟨rfl, rfl⟩
      rw [h1]
      go_wp2_with fail
      refine (l1In_any _ _ _ _).mono ?_
      rintro r w' ⟨rfl, rfl⟩
      rw [h2]
      go_wp2_with fail
      go_ret2
      exact rowOk_ret HT.out HR.out (HL0.out _ (Nat.le_refl _)) (by go_grown)
  · have HT : Hid (seenB W ss = false) := Lib.hid (by rw [seenB, h1]; simp)
    have HR := Lib.hid (HNO.out HT.out)
    go_enter Try.func38, Try.ntmps38
    go_wp2_with fail
    refine (l1In_any _ _ _ _).mono ?_
    rintro r w' ⟨rfl, rfl⟩
    rw [h1]
    go_wp2_with fail
    go_ret2
    exact rowOk_ret HT.out HR.out (HL0.out _ (Nat.le_refl _)) (by go_grown)

end Go.Proofs.Ytnkgnhnggjoglaa
