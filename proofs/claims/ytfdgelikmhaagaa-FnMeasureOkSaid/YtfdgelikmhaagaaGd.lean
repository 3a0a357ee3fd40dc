/- Contracts of the functions on gambles that return a row: impl. Conditions: rows that read as lists. -/
import Derived.Test.YtfdgelikmhaagaaGc
import Derived.BigRegion
namespace Go.Proofs.Ytfdgelikmhaagaa
open Go.RowKit
set_option linter.unusedVariables false

/-- a row and whether it is told -/
def RowOk (base : Nat) (xs : List Int) (b : Bool) (w : World) (e : Ending) (w' : World) : Prop := ∃ v, e = .returned (.tuple #[v, .bool b]) ∧ IOwn w' base v xs ∧ Below w.heap.size w w'

theorem rowOk_ret {base : Nat} {xs ys : List Int} {b c : Bool} {w w' : World} {v : Value} (h : b = c) (k : xs = ys) (o : IOwn w' base v ys) (hb : Below w.heap.size w w') : RowOk base xs b w (.returned (.tuple #[v, .bool c])) w' := by
  subst h; subst k; exact ⟨v, rfl, o, hb⟩

/-- up to place k the fresh row is filled -/
def FillRel (w : World) (zs : List Int) (n k : Nat) (wr : World) : Prop :=
  wr.ownsRow w.heap.size 3 1 (.slice (some ⟨w.heap.size, 0, none⟩) n n) n (copied zs k) ∧ Below w.heap.size w wr

theorem FillRel.step {w wr : World} {zs : List Int} {n k : Nat} {x : Int} (h : FillRel w zs n k wr) (hx : zs[k]? = some x) : FillRel w zs n (k + 1) (wr.setCell ⟨w.heap.size, k, none⟩ (.int .i64 x)) := by
  obtain ⟨h1, h2⟩ := h
  obtain ⟨h3, h4⟩ := h1.stored k (.int .i64 x)
  rw [copied_set hx] at h3
  exact ⟨h3, h2.setCell (Nat.le_refl _) _⟩

theorem FillRel.drew {w wr : World} {zs : List Int} {n k : Nat} (h : FillRel w zs n k wr) (q : Nat) : FillRel w zs n k (wr.drewN q) := ⟨h.1, below_drewN h.2 q⟩

theorem FillRel.drew1 {w wr : World} {zs : List Int} {n k : Nat} (h : FillRel w zs n k wr) : FillRel w zs n k wr.drew := ⟨h.1, below_drewN h.2 1⟩

theorem FillRel.all {w wr : World} {zs : List Int} {n k : Nat} (h : FillRel w zs n k wr) (hn : zs.length = n) (hk : k = n) : IOwn wr w.heap.size (.slice (some ⟨w.heap.size, 0, none⟩) n n) zs ∧ Below w.heap.size w wr := by
  subst hk
  subst hn
  obtain ⟨h1, h2⟩ := h
  rw [copied_all] at h1
  exact ⟨h1, h2⟩

def Small3 (xs : List Int) : Prop := xs.length ≤ 4 ∧ ∀ (k : Nat) (x : Int), xs[k]? = some x → -1000 ≤ x ∧ x ≤ 1000

theorem small3_of {xs : List Int} (h : gokB xs = true) : Small3 xs := ⟨((gokB_iff xs).1 h).2.1, fun k x hx => gokB_at h hx⟩

set_option maxHeartbeats 2000000 in
theorem addRows_any (w : World) (v u : Value) (xs ys : List Int) (hv : IRd w v xs) (hu : IRd w u ys) (hl : xs.length = ys.length) (hx : Small3 xs) (hy : Small3 ys) :
    Calls Try.prog 91 #[v, u] w (NewInts (sumL xs ys) w) := by
  obtain ⟨A, c, rfl, hlc, hm, -⟩ := id hv
  obtain ⟨A', c', rfl, hlc', hm', -⟩ := id hu
  have hn4 := hx.1
  have HV := Lib.hid hv
  have HU := Lib.hid hu
  have HL := Lib.hid hl
  have HZ := Lib.hid (sumL_len xs ys hl)
  have HX := Lib.hid hx
  have HY := Lib.hid hy
  clear hv hu hl hx hy
  obtain ⟨i0, hi, hz0, hz1, hz2⟩ := info_parts Try_intinfo
  go_enter Try.func91, Try.ntmps91
  go_wp2_with (at_make; refine wpList_make_full _ rfl _ _ 23 rfl w.heap.size 3 i0 (.int .i64 0) 1 Try.underlying23 hi hz0 hz1 .i64 .i64 _ _ xs.length rfl rfl rfl rfl ?b2 ?b3 (Nat.le_refl _) ?_)
  case b2 => rw [hz2]; omega
  case b3 => unfold maxLen; omega
  intro w0 hown0 hgrow0
  have H0 : Hid (FillRel w (sumL xs ys) xs.length 0 w0) := Lib.hid ⟨by rw [copied_zero, HZ.out]; simpa [toList_madeCells_one, Value.cells] using hown0, (Below.refl _ _).grown hgrow0 (Nat.le_refl _) (fun k hk => by cases hk)⟩
  clear hown0 hgrow0 hi hz0 hz1 hz2
  go_wp2_with fail
  go_loopw [12] (fun i wr => ∃ k : Nat, i = .int .i64 k ∧ k ≤ xs.length ∧ Hid (FillRel w (sumL xs ys) xs.length k wr)) (fun i _ => xs.length - (intOf i).toNat)
  case atStart => exact ⟨0, rfl, Nat.zero_le _, H0⟩
  case round =>
    obtain ⟨k, rfl, hk, H⟩ := hrel
    clear H0
    by_cases hlt : k < xs.length
    · have hlt' : k < ys.length := by have := HL.out; omega
      obtain ⟨b, off, x, rfl, -, hx, hcx⟩ := (HV.out.keep (SameAt.of_below H.out.2)).at_ hlt
      obtain ⟨b', off', y, rfl, -, hy, hcy⟩ := (HU.out.keep (SameAt.of_below H.out.2)).at_ hlt'
      obtain ⟨hx1, hx2⟩ := HX.out.2 k x hx
      obtain ⟨hy1, hy2⟩ := HY.out.2 k y hy
      have hfz := H.out.1.frozenAt k
      obtain ⟨old, hold⟩ := some_cell H.out.1 (k := k) (by omega)
      have HS := Lib.hid (sumL_at xs ys hx hy)
      clear hx hy
      go_wp2_with fail
      go_region
      go_wp2_with fail
      go_roundw
      case rel => exact ⟨k + 1, by go_num, by omega, (show Hid _ from (H.out.step HS.out).drew1)⟩
      case measure => simp [intOf]; omega
    · go_wp2_with fail
      go_ret
      obtain ⟨h1, h2⟩ := H.out.all HZ.out (by omega)
      exact ⟨_, rfl, h1, h2⟩

def IfOk (base : Nat) (xs : List Int) (w : World) (e : Ending) (w' : World) : Prop := ∃ v, e = .returned (.tuple #[v, .bool (gokB xs)]) ∧ IOwn w base v (if gokB xs = true then xs else []) ∧ w = w'

theorem ifOk_ret {base : Nat} {xs ys : List Int} {c : Bool} {w : World} {v : Value} (h : gokB xs = c) (k : (if c = true then xs else []) = ys) (o : IOwn w base v ys) : IfOk base xs w (.returned (.tuple #[v, .bool c])) w := by
  subst h; subst k; exact ⟨v, rfl, o, rfl⟩

set_option maxHeartbeats 1000000 in
theorem ifGamble_any (w : World) (base : Nat) (v : Value) (xs : List Int) (hv : IOwn w base v xs) :
    Calls Try.prog 79 #[v] w (IfOk base xs w) := by
  have HV := Lib.hid hv
  clear hv
  rcases Bool.eq_false_or_eq_true (gokB xs) with h | h
  · have H := Lib.hid h
    clear h
    go_enter Try.func79, Try.ntmps79
    go_wp2_with fail
    refine (implGambleOk_any _ _ _ HV.out.rd).mono ?_
    rintro e w' ⟨rfl, rfl⟩
    rw [H.out]
    go_wp2_with fail
    go_ret2
    exact ifOk_ret H.out rfl HV.out
  · have H := Lib.hid h
    clear h
    go_enter Try.func79, Try.ntmps79
    go_wp2_with fail
    refine (implGambleOk_any _ _ _ HV.out.rd).mono ?_
    rintro e w' ⟨rfl, rfl⟩
    rw [H.out]
    go_wp2_with fail
    go_ret2
    exact ifOk_ret H.out rfl (nil_own _ _)

theorem mul_1000 {x t : Int} (hx : -1000 ≤ x ∧ x ≤ 1000) (ht : -1000 ≤ t ∧ t ≤ 1000) : -1000000 ≤ x * t ∧ x * t ≤ 1000000 := by
  have h1 : 0 ≤ (1000 - x) * (1000 + t) := Int.mul_nonneg (by omega) (by omega)
  have h2 : 0 ≤ (1000 + x) * (1000 - t) := Int.mul_nonneg (by omega) (by omega)
  have h3 : 0 ≤ (1000 + x) * (1000 + t) := Int.mul_nonneg (by omega) (by omega)
  have h4 : 0 ≤ (1000 - x) * (1000 - t) := Int.mul_nonneg (by omega) (by omega)
  simp only [Int.sub_mul, Int.add_mul, Int.mul_add, Int.mul_sub] at h1 h2 h3 h4
  omega

theorem mulL_small {g : List Int} {t : Int} (hg : gokB g = true) (ht : amB t = true) : (mulL g t).length ≤ 4 := by
  rw [mulL_len]; exact ((gokB_iff g).1 hg).2.1

theorem times_no1 {g : List Int} {t : Int} (h : gokB g = false) : timesB g t = false ∧ timesR g t = [] := by
  have : timesB g t = false := by rw [timesB, h]; rfl
  exact ⟨this, by rw [timesR, this]; rfl⟩

theorem times_no2 {g : List Int} {t : Int} (h : amB t = false) : timesB g t = false ∧ timesR g t = [] := by
  have : timesB g t = false := by rw [timesB, h]; simp
  exact ⟨this, by rw [timesR, this]; rfl⟩

theorem times_yes {g : List Int} {t : Int} (h : gokB g = true) (h2 : amB t = true) : timesB g t = gokB (mulL g t) := by rw [timesB, h, h2]; rfl

set_option maxHeartbeats 2000000 in
theorem implTimesGamble_any (w : World) (v : Value) (xs : List Int) (t : Int) (hv : IRd w v xs) :
    Calls Try.prog 32 #[v, .int .i64 t] w (RowOk w.heap.size (timesR xs t) (timesB xs t) w) := by
  obtain ⟨A, c, rfl, hlc, hm, -⟩ := id hv
  have HV := Lib.hid hv
  clear hv
  rcases Bool.eq_false_or_eq_true (gokB xs) with h | h
  · rcases Bool.eq_false_or_eq_true (amB t) with ht | ht
    · have H := Lib.hid h
      have HT := Lib.hid ht
      have HX := Lib.hid (small3_of h)
      have hn4 := (small3_of h).1
      have HZ := Lib.hid (mulL_len xs t)
      obtain ⟨i0, hi, hz0, hz1, hz2⟩ := info_parts Try_intinfo
      go_enter Try.func32, Try.ntmps32
      go_wp2_with fail
      refine (implGambleOk_any _ _ _ HV.out).mono ?_
      rintro e w' ⟨rfl, rfl⟩
      go_wp2_with fail
      refine (amountOk_any _ _).mono ?_
      rintro e w' ⟨rfl, rfl⟩
      go_wp2_with (at_make; refine wpList_make_full _ rfl _ _ 23 rfl w.heap.size 3 i0 (.int .i64 0) 1 Try.underlying23 hi hz0 hz1 .i64 .i64 _ _ xs.length rfl rfl rfl rfl ?b2 ?b3 (Nat.le_refl _) ?_)
      case b2 => rw [hz2]; omega
      case b3 => unfold maxLen; omega
      intro w0 hown0 hgrow0
      have H0 : Hid (FillRel w (mulL xs t) xs.length 0 w0) := Lib.hid ⟨by rw [copied_zero, HZ.out]; simpa [toList_madeCells_one, Value.cells] using hown0, (Below.refl _ _).grown hgrow0 (Nat.le_refl _) (fun k hk => by cases hk)⟩
      clear hown0 hgrow0 hi hz0 hz1 hz2 h ht
      go_wp2_with fail
      go_loopw [22] (fun i wr => ∃ k : Nat, i = .int .i64 k ∧ k ≤ xs.length ∧ Hid (FillRel w (mulL xs t) xs.length k wr)) (fun i _ => xs.length - (intOf i).toNat)
      case atStart => exact ⟨0, rfl, Nat.zero_le _, H0⟩
      case round =>
        obtain ⟨k, rfl, hk, HF⟩ := hrel
        clear H0
        by_cases hlt : k < xs.length
        · obtain ⟨b, off, x, rfl, -, hx, hcx⟩ := (HV.out.keep (SameAt.of_below HF.out.2)).at_ hlt
          obtain ⟨hp1, hp2⟩ := mul_1000 (HX.out.2 k x hx) ((amB_iff t).1 HT.out)
          have hwr : IntKind.i64.wrap (x * t) = x * t := IntWalk.i64_in _ (by omega)
          have hfz := HF.out.1.frozenAt k
          obtain ⟨old, hold⟩ := some_cell HF.out.1 (k := k) (by omega)
          have HS := Lib.hid (mulL_at xs t hx)
          clear hx
          go_wp2_with fail
          go_roundw
          case rel => exact ⟨k + 1, by go_num, by omega, (show Hid _ from HF.out.step HS.out)⟩
          case measure => simp [intOf]; omega
        · obtain ⟨o1, b1⟩ := HF.out.all HZ.out (by omega)
          have B1 := Lib.hid b1
          have O1 := Lib.hid o1
          clear b1 o1
          go_wp2_with fail
          refine (ifGamble_any _ _ _ _ O1.out).mono ?_
          rintro e w2 ⟨v2, rfl, o2, rfl⟩
          have O2 := Lib.hid o2
          clear o2
          go_wp2_with fail
          go_ret2
          exact rowOk_ret (times_yes H.out HT.out) (by rw [timesR, times_yes H.out HT.out]) O2.out B1.out
    · have HT := Lib.hid (times_no2 (g := xs) ht)
      go_enter Try.func32, Try.ntmps32
      go_wp2_with fail
      refine (implGambleOk_any _ _ _ HV.out).mono ?_
      rintro e w' ⟨rfl, rfl⟩
      go_wp2_with fail
      refine (amountOk_any _ _).mono ?_
      rintro e w' ⟨rfl, rfl⟩
      go_wp2_with fail
      go_ret2
      exact rowOk_ret HT.out.1 HT.out.2 (nil_own _ _) (Below.refl _ _)
  · have HT := Lib.hid (times_no1 (t := t) h)
    go_enter Try.func32, Try.ntmps32
    go_wp2_with fail
    refine (implGambleOk_any _ _ _ HV.out).mono ?_
    rintro e w' ⟨rfl, rfl⟩
    go_wp2_with fail
    go_ret2
    exact rowOk_ret HT.out.1 HT.out.2 (nil_own _ _) (Below.refl _ _)

end Go.Proofs.Ytfdgelikmhaagaa
