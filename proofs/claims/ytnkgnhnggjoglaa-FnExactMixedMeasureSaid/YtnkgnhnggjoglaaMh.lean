/- Contracts of MixedMeasure, spec and program. Conditions: rows that read as lists. -/
import Derived.Test.YtnkgnhnggjoglaaNc
import Derived.Test.YtnkgnhnggjoglaaGf
import Derived.Test.YtnkgnhnggjoglaaMe
namespace Go.Proofs.Ytnkgnhnggjoglaa
open Go.RowKit
set_option linter.unusedVariables false

theorem mixL_len (a b : List Int) (h : a.length = b.length) : (mixL a b).length = a.length := by
  induction a generalizing b with
  | nil => cases b <;> simp_all [mixL]
  | cons x a ih =>
    cases b with
    | nil => simp at h
    | cons y b => simp [mixL, ih b (by simpa using h)]

theorem mixL_at (a b : List Int) {k : Nat} {x y : Int} (hx : a[k]? = some x) (hy : b[k]? = some y) : (mixL a b)[k]? = some ((x + y) / 2) := by
  induction a generalizing b k with
  | nil => simp at hx
  | cons z a ih =>
    cases b with
    | nil => simp at hy
    | cons u b =>
      cases k with
      | zero => simp at hx hy; subst hx; subst hy; rfl
      | succ k => exact ih b (by simpa using hx) (by simpa using hy)

theorem even_all (a b : List Int) (h : ∀ (j : Nat) (x y : Int), a[j]? = some x → b[j]? = some y → (x + y) % 2 = 0) : evenB a b = true := by
  induction a generalizing b with
  | nil => cases b <;> rfl
  | cons x a ih =>
    cases b with
    | nil => rfl
    | cons y b =>
      rw [evenB, ih b (fun j u v hu hv => h (j + 1) u v (by simpa using hu) (by simpa using hv)), Bool.and_true, beq_iff_eq]
      exact h 0 x y rfl rfl

theorem even_at (a b : List Int) (he : evenB a b = true) {k : Nat} {x y : Int} (hx : a[k]? = some x) (hy : b[k]? = some y) : (x + y) % 2 = 0 := by
  induction a generalizing b k with
  | nil => simp at hx
  | cons z a ih =>
    cases b with
    | nil => simp at hy
    | cons u b =>
      rw [evenB, Bool.and_eq_true, beq_iff_eq] at he
      cases k with
      | zero => simp at hx hy; subst hx; subst hy; exact he.1
      | succ k => exact ih b he.2 (by simpa using hx) (by simpa using hy)

/-- up to place k both together are even -/
def EvTo (a b : List Int) (k : Nat) : Prop := ∀ (j : Nat) (x y : Int), j < k → a[j]? = some x → b[j]? = some y → (x + y) % 2 = 0

theorem EvTo.step {a b : List Int} {k : Nat} {x y : Int} (h : EvTo a b k) (hx : a[k]? = some x) (hy : b[k]? = some y) (he : (x + y) % 2 = 0) : EvTo a b (k + 1) := by
  intro j u v hj hu hv
  rcases Nat.lt_succ_iff_lt_or_eq.1 hj with h1 | h1
  · exact h j u v h1 hu hv
  · subst h1
    rw [hx] at hu; rw [hy] at hv
    obtain rfl := Option.some.inj hu
    obtain rfl := Option.some.inj hv
    exact he

theorem EvTo.all {a b : List Int} {k : Nat} (h : EvTo a b k) (hk : a.length ≤ k) : evenB a b = true :=
  even_all a b (fun j x y hx hy => h j x y (by have := (List.getElem?_eq_some_iff.1 hx).1; omega) hx hy)

def mixR (a b : List Int) : List Int := if mixB a b = true then mixL a b else []

theorem mix_yes {a b : List Int} (h : mixB a b = true) : mixR a b = mixL a b := by rw [mixR, if_pos h]

theorem mix_no {a b : List Int} (h : mixB a b = false) : mixR a b = [] := by rw [mixR, h]; rfl

theorem mix_is {a b : List Int} (h1 : meaB a = true) (h2 : meaB b = true) (h3 : a.length = b.length) : mixB a b = evenB a b := by
  rw [mixB, h1, h2, decide_eq_true h3]; rfl

theorem mix_odd {a b : List Int} {k : Nat} {x y : Int} (hx : a[k]? = some x) (hy : b[k]? = some y) (h : ¬ (x + y) % 2 = 0) : mixB a b = false := by
  rw [← Bool.not_eq_true, mixB, Bool.and_eq_true]
  exact fun h2 => h (even_at a b h2.2 hx hy)

theorem half_facts {x y : Int} (hx : 0 ≤ x ∧ x ≤ 36) (hy : 0 ≤ y ∧ y ≤ 36) : (x + y).tmod 2 = (x + y) % 2 ∧ (x + y).tdiv 2 = (x + y) / 2 ∧ 0 ≤ (x + y) / 2 ∧ (x + y) / 2 ≤ 36 :=
  ⟨Int.tmod_eq_emod_of_nonneg (by omega), Int.tdiv_eq_ediv_of_nonneg (by omega), by omega, by omega⟩

set_option maxHeartbeats 8000000 in
theorem specMixedMeasure_any (w : World) (v u : Value) (a b : List Int) (hv : IRd w v a) (hu : IRd w u b) :
    Calls Try.prog 50 #[v, u] w (RowOk w.heap.size (mixR a b) (mixB a b) w) := by
  obtain ⟨A, c, rfl, hl, hm, -⟩ := id hv
  obtain ⟨A', c', rfl, hl', hm', -⟩ := id hu
  have HV := Lib.hid hv
  have HU := Lib.hid hu
  clear hv hu
  rcases Bool.eq_false_or_eq_true (meaB a) with h1 | h1
  · rcases Bool.eq_false_or_eq_true (meaB b) with h2 | h2
    · by_cases hlen : a.length = b.length
      · have HI := Lib.hid (mix_is h1 h2 hlen)
        have HX := Lib.hid (grs_of h1)
        have HY := Lib.hid (grs_of h2)
        have hn4 := (grs_of h1).2
        have HZ := Lib.hid (mixL_len a b hlen)
        have hs1 : ((a.length : Int) == (b.length : Int)) = true := by simp; omega
        have hs2 : ((a.length : Int) != (b.length : Int)) = false := by simp; omega
        have HL := Lib.hid hlen
        have H0 : Hid (AppRel w (mixL a b) 0 (.slice (some ⟨w.heap.size, 0, none⟩) 0 0) (w.alloc (.cells #[] 3))) := Lib.hid (app_start w (mixL a b))
        obtain ⟨i0, hi, hz0, hz1, hz2⟩ := info_parts Try_intinfo
        clear hlen
        go_enter Try.func50, Try.ntmps50
        go_wp2_with fail
        refine (specMeasureOk_any _ _ _ HV.out).mono ?_
        rintro e w' ⟨rfl, rfl⟩
        rw [h1]
        go_wp2_with fail
        refine (specMeasureOk_any _ _ _ HU.out).mono ?_
        rintro e w' ⟨rfl, rfl⟩
        rw [h2]
        clear h1 h2
        go_wp2_with fail
        clear hs1 hs2
        go_loopw [6, 7] (fun p i wr => ∃ k : Nat, i = .int .i64 k ∧ k ≤ a.length ∧ Hid (AppRel w (mixL a b) k p wr) ∧ Hid (EvTo a b k)) (fun _ i _ => a.length - (intOf i).toNat)
        case atStart => exact ⟨0, rfl, Nat.zero_le _, H0, Lib.hid (fun j _ _ hj => absurd hj (Nat.not_lt_zero _))⟩
        case round =>
          obtain ⟨k, rfl, hk, HF, HE⟩ := hrel
          clear H0
          by_cases hlt : k < a.length
          · have hlt' : k < b.length := by have := HL.out; omega
            obtain ⟨B, off, x, rfl, -, hx, hcx⟩ := (HV.out.keep (SameAt.of_below HF.out.2)).at_ hlt
            obtain ⟨B', off', y, rfl, -, hy, hcy⟩ := (HU.out.keep (SameAt.of_below HF.out.2)).at_ hlt'
            obtain ⟨hx1, hx2⟩ := HX.out.1 x (List.mem_of_getElem? hx)
            obtain ⟨hy1, hy2⟩ := HY.out.1 y (List.mem_of_getElem? hy)
            have HS := Lib.hid (mixL_at a b hx hy)
            obtain ⟨q1, q2, q3, q4⟩ := half_facts ⟨hx1, hx2⟩ ⟨hy1, hy2⟩
            by_cases hev : (x + y) % 2 = 0
            · have HE2 := Lib.hid (HE.out.step hx hy hev)
              have q1' : (x + y).tmod 2 = 0 := by rw [q1]; exact hev
              clear hx hy hev q1
              go_wp2_with fail
              go_region
              have HF5 : Hid (AppRel w (mixL a b) k u6 wr.drew) := Lib.hid ⟨HF.out.1, HF.out.2.drew⟩
              have hcx5 : wr.drew.cell? ⟨B, off + k, none⟩ = some (.int .i64 x) := hcx
              have hcy5 : wr.drew.cell? ⟨B', off' + k, none⟩ = some (.int .i64 y) := hcy
              clear hcx hcy HF
              generalize wr.drew = w5 at HF5 hcx5 hcy5 ⊢
              have hown0 := HF5.out.1
              unfold IOwn at hown0
              have hown := Lib.hid (World.ownsRow.alloc (w := w5) hown0 (.cells #[.int .i64 ((x + y) / 2)] 3))
              have hsz := HF5.out.2.size
              have hwr : IntKind.i64.wrap ((x + y) / 2) = (x + y) / 2 := IntWalk.i64_in _ (by omega)
              have hwr1 : IntKind.i64.wrap (x + y) = x + y := IntWalk.i64_in _ (by omega)
              clear hown0
              go_wp2_with fail
              go_region_law (refine step_append_lies _ rfl (.tmp 43) (.tmp 54) 23 rfl w.heap.size 3 i0 (.int .i64 0) 1 8 Try.underlying23 hi hz0 hz1 hz2 rfl (by decide) _ _ _ (by simp [Act.eval]) hown.out ⟨w5.heap.size, 0, none⟩ 1 1 [.int .i64 ((x + y) / 2)] (by simp [Act.eval]) rfl (one_new w5 _ _) one_int (by decide) (by unfold maxLen; simp; omega) (by simp; omega) (by simp; omega) _ rfl ?_; intro g cap w' hown' hgrow hat hlt2)
              all_goals go_wp2_with fail
              all_goals
                have HL5 := Lib.hid (HF5.out.step HS.out (show IOwn w' w.heap.size _ ((mixL a b).take k ++ [(x + y) / 2]) from by simpa [IOwn] using hown') (grown_after (w := w5) (below_drewN ((Below.refl _ w5).alloc (Nat.le_refl _) _) 1) hgrow))
                clear hown' hgrow hat hlt2 hown hi hz0 hz1 hz2
                go_roundw
                case rel => exact ⟨k + 1, by go_num, by omega, by simpa using HL5, HE2⟩
                case measure => simp [intOf]; omega
            · have HN := Lib.hid (mix_odd hx hy hev)
              have HB := Lib.hid HF.out.2
              have q1' : (x + y).tmod 2 = 1 := by omega
              clear hx hy hev q1
              go_wp2_with fail
              go_region
              go_wp2_with fail
              go_ret2
              exact rowOk_ret HN.out (mix_no HN.out) (lit_own wr.drew _ HB.out.size) (HB.out.drew.alloc HB.out.size _)
          · obtain ⟨o1, b1⟩ := HF.out.all (by have := HZ.out; omega)
            have B1 := Lib.hid b1
            have O1 := Lib.hid o1
            have HB : Hid (mixB a b = true) := Lib.hid (by rw [HI.out]; exact HE.out.all (by omega))
            clear b1 o1
            go_wp2_with fail
            go_ret2
            exact rowOk_ret HB.out (mix_yes HB.out) O1.out B1.out
      · have HN : Hid (mixB a b = false) := Lib.hid (by rw [mixB, decide_eq_false hlen]; simp)
        have hs1 : ((a.length : Int) == (b.length : Int)) = false := by simp; omega
        have hs2 : ((a.length : Int) != (b.length : Int)) = true := by simp; omega
        clear hlen
        go_enter Try.func50, Try.ntmps50
        go_wp2_with fail
        refine (specMeasureOk_any _ _ _ HV.out).mono ?_
        rintro e w' ⟨rfl, rfl⟩
        rw [h1]
        go_wp2_with fail
        refine (specMeasureOk_any _ _ _ HU.out).mono ?_
        rintro e w' ⟨rfl, rfl⟩
        rw [h2]
        go_wp2_with fail
        go_ret2
        exact rowOk_ret HN.out (mix_no HN.out) (lit_own _ _ (Nat.le_refl _)) ((Below.refl _ _).alloc (Nat.le_refl _) _)
    · have HN : Hid (mixB a b = false) := Lib.hid (by rw [mixB, h2]; simp)
      go_enter Try.func50, Try.ntmps50
      go_wp2_with fail
      refine (specMeasureOk_any _ _ _ HV.out).mono ?_
      rintro e w' ⟨rfl, rfl⟩
      rw [h1]
      go_wp2_with fail
      refine (specMeasureOk_any _ _ _ HU.out).mono ?_
      rintro e w' ⟨rfl, rfl⟩
      rw [h2]
      go_wp2_with fail
      go_ret2
      exact rowOk_ret HN.out (mix_no HN.out) (lit_own _ _ (Nat.le_refl _)) ((Below.refl _ _).alloc (Nat.le_refl _) _)
  · have HN : Hid (mixB a b = false) := Lib.hid (by rw [mixB, h1]; simp)
    go_enter Try.func50, Try.ntmps50
    go_wp2_with fail
    refine (specMeasureOk_any _ _ _ HV.out).mono ?_
    rintro e w' ⟨rfl, rfl⟩
    rw [h1]
    go_wp2_with fail
    go_ret2
    exact rowOk_ret HN.out (mix_no HN.out) (lit_own _ _ (Nat.le_refl _)) ((Below.refl _ _).alloc (Nat.le_refl _) _)

end Go.Proofs.Ytnkgnhnggjoglaa
