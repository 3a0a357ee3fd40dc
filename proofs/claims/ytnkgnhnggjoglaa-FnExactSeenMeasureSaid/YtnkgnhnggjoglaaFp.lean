/- The program's contracts of chapter 11: ScoreOf, ExpectedScore, FarApart, TotalScore, BestReport, SeenMeasure. Conditions: rows that read as lists. -/
import Derived.Test.YtnkgnhnggjoglaaFe
import Derived.Test.YtnkgnhnggjoglaaGf
import Derived.Test.YtnkgnhnggjoglaaMi
import Derived.Test.YtnkgnhnggjoglaaRh
namespace Go.Proofs.Ytnkgnhnggjoglaa
open Go.RowKit
set_option linter.unusedVariables false

theorem square_any (n : Int) (h1 : -36 ≤ n) (h2 : n ≤ 36) (W : World) :
    Calls Try.prog 66 #[.int .i64 n] W fun r W' => r = .returned (.int .i64 (n * n)) ∧ W = W' := by
  have hq := sq36 h1 h2
  obtain ⟨q, he⟩ : ∃ q, n * n = q := ⟨_, rfl⟩
  rw [he] at hq
  have hw : IntKind.i64.wrap (n * n) = n * n := by rw [he]; exact IntWalk.i64_in _ (by omega)
  clear he hq
  go_enter Try.func66, Try.ntmps66
  go_wp2_with fail
  go_ret
  exact ⟨rfl, rfl⟩

/-- the function value that score folds with: it has captured the world at block B -/
def scF (B : Nat) : Value := .func (.func 84) #[] #[.pointer (some ⟨B, 0, none⟩)]

set_option maxHeartbeats 2000000 in
theorem score1_any (W : World) (s g x : Int) (k B : Nat) (hB : W.cell? ⟨B, 0, none⟩ = some (.int .i64 x)) (s0 : 0 ≤ s) (s1 : s ≤ 5184) (g0 : 0 ≤ g) (g1 : g ≤ 36) (z : Int) (hz : z = if (k : Int) = x then g - 36 else g) :
    Calls Try.prog 84 #[.int .i64 s, .int .i64 (k : Int), .int .i64 g, .pointer (some ⟨B, 0, none⟩)] W fun r W' => r = .returned (.int .i64 (s + z * z)) ∧ W = W' := by
  by_cases he : (k : Int) = x
  · have heq : ((k : Int) == x) = true := by simpa using he
    rw [if_pos he] at hz
    obtain ⟨y, hy⟩ : ∃ y, 36 - g = y := ⟨_, rfl⟩
    have hw1 : IntKind.i64.wrap (36 - g) = y := by rw [hy]; exact IntWalk.i64_in _ (by omega)
    have hyz : y * y = z * z := by rw [← hy, hz]; grind
    have h3 := sq36 (z := y) (by omega) (by omega)
    rw [hyz] at h3
    obtain ⟨q, hq⟩ : ∃ q, z * z = q := ⟨_, rfl⟩
    rw [hq] at hyz h3
    have hw3 : IntKind.i64.wrap (s + q) = s + q := IntWalk.i64_in _ (by omega)
    have HY := Lib.hid hyz
    have y1 : -36 ≤ y := by omega
    have y2 : y ≤ 36 := by omega
    rw [hq]
    clear hq hyz h3 hy hz he
    go_enter Try.func84, Try.ntmps84
    go_wp2_with fail
    refine (square_any y y1 y2 _).mono ?_
    rintro r w' ⟨rfl, rfl⟩
    rw [HY.out]
    go_wp2_with fail
    go_ret
    exact ⟨rfl, rfl⟩
  · have heq : ((k : Int) == x) = false := by simpa using he
    rw [if_neg he] at hz
    subst hz
    have h3 := sq36 (z := z) (by omega) (by omega)
    obtain ⟨q, hq⟩ : ∃ q, z * z = q := ⟨_, rfl⟩
    rw [hq] at h3
    have hw3 : IntKind.i64.wrap (s + q) = s + q := IntWalk.i64_in _ (by omega)
    have HY := Lib.hid hq
    have y1 : -36 ≤ z := by omega
    have y2 : z ≤ 36 := by omega
    rw [hq]
    clear hq h3 he
    go_enter Try.func84, Try.ntmps84
    go_wp2_with fail
    refine (square_any z y1 y2 _).mono ?_
    rintro r w' ⟨rfl, rfl⟩
    rw [HY.out]
    go_wp2_with fail
    go_ret
    exact ⟨rfl, rfl⟩

set_option maxHeartbeats 2000000 in
theorem foldScore_any (w : World) (v : Value) (m : List Int) (x0 : Int) (B : Nat) (hv : IRd w v m) (hB : w.cell? ⟨B, 0, none⟩ = some (.int .i64 x0)) (hm : Grs m) :
    Calls Try.prog 64 #[v, .int .i64 0, scF B] w fun r w' => r = .returned (.int .i64 (scI m x0)) ∧ w = w' := by
  obtain ⟨A, c, rfl, hl, hmx, -⟩ := id hv
  have HV := Lib.hid hv
  have HM := Lib.hid hm
  have HB := Lib.hid hB
  have hm4 := hm.2
  clear hv hm hB
  unfold scF
  go_enter Try.func64, Try.ntmps64
  go_wp2_with fail
  go_loop [7, 13] (fun s i => ∃ k : Nat, s = .int .i64 (rsum (fun k => offI m x0 k * offI m x0 k) k) ∧ i = .int .i64 (k : Int) ∧ k ≤ m.length) (fun _ i => m.length - (intOf i).toNat)
  case atStart => exact ⟨0, rfl, rfl, Nat.zero_le _⟩
  case round =>
    obtain ⟨k, rfl, rfl, hk⟩ := hrel
    obtain ⟨s, hs⟩ : ∃ s, rsum (fun k => offI m x0 k * offI m x0 k) k = s := ⟨_, rfl⟩
    have hsb := off_bound HM.out x0 k hk
    have hss := rsum_succ (fun k => offI m x0 k * offI m x0 k) k
    have HS := Lib.hid hs
    simp only [hs] at hsb hss ⊢
    clear hs
    by_cases hlt : k < m.length
    · have hlt' : (k : Int) < (m.length : Int) := by omega
      obtain ⟨b, off, x, rfl, -, hx, hcx⟩ := HV.out.at_ hlt
      have bx := HM.out.1 x (List.mem_of_getElem? hx)
      obtain ⟨z, hz⟩ : ∃ z, offI m x0 k = z := ⟨_, rfl⟩
      have HZ : Hid (z = if (k : Int) = x0 then x - 36 else x) := Lib.hid (by rw [← hz, offI, at0_of hx])
      rw [hz] at hss
      have HD := Lib.hid hss
      have s1 : s ≤ 5184 := by omega
      clear hx hz hss
      go_wp2_with fail
      refine (score1_any w s x x0 k B HB.out hsb.1 s1 bx.1 bx.2 z HZ.out).mono ?_
      rintro r w' ⟨rfl, rfl⟩
      go_wp2_with fail
      go_round
      case rel => exact ⟨k + 1, by rw [HD.out], by go_num, by omega⟩
      case measure => simp [intOf]; omega
    · obtain rfl : k = m.length := by omega
      have hlt' : decide ((m.length : Int) < (m.length : Int)) = false := by simp
      go_wp2_with fail
      go_ret
      exact ⟨by rw [← HS.out]; rfl, rfl⟩

set_option maxHeartbeats 2000000 in
theorem implScore_any (w : World) (v : Value) (m : List Int) (x : Int) (hv : IRd w v m) (hm : Grs m) :
    Calls Try.prog 58 #[v, .int .i64 x] w (IntPost (scI m x) w) := by
  have HK : Hid ((w.alloc (.cells #[.int .i64 x] 3)).cell? ⟨w.heap.size, 0, none⟩ = some (.int .i64 x) ∧ IRd (w.alloc (.cells #[.int .i64 x] 3)) v m) := Lib.hid ⟨one_new w _ _ 0 _ rfl, hv.keep (SameAt.grow rfl)⟩
  have HM := Lib.hid hm
  clear hm hv
  go_enter Try.func58, Try.ntmps58
  go_wp2_with fail
  refine (foldScore_any _ v m x w.heap.size HK.out.2 HK.out.1 HM.out).mono ?_
  rintro r w2 ⟨rfl, rfl⟩
  go_wp2_with fail
  go_ret
  exact ⟨rfl, (Below.refl _ _).alloc (Nat.le_refl _) _⟩

/-- the function value that expected folds with: it has captured the report at block B -/
def expF (B : Nat) : Value := .func (.func 86) #[] #[.pointer (some ⟨B, 0, none⟩)]

set_option maxHeartbeats 2000000 in
theorem expected1_any (W : World) (s g : Int) (k B : Nat) (u : Value) (r : List Int) (hB : W.cell? ⟨B, 0, none⟩ = some u) (hu : IRd W u r) (hr : Grs r) (s0 : 0 ≤ s) (s1 : s ≤ 1000000) (hg : 0 ≤ g ∧ g ≤ 36) :
    Calls Try.prog 86 #[.int .i64 s, .int .i64 (k : Int), .int .i64 g, .pointer (some ⟨B, 0, none⟩)] W (IntPost (s + g * scI r (k : Int)) W) := by
  obtain ⟨A, c, rfl, hl, hmx, -⟩ := id hu
  have HU := Lib.hid hu
  have HR := Lib.hid hr
  have hb := sc_bound hr (k : Int)
  have hgb := mul_near hg hb
  obtain ⟨n, hn⟩ : ∃ n, scI r (k : Int) = n := ⟨_, rfl⟩
  rw [hn] at hgb hb ⊢
  have HN := Lib.hid hn
  obtain ⟨p, hp⟩ : ∃ p, g * n = p := ⟨_, rfl⟩
  rw [hp] at hgb ⊢
  have hw1 : IntKind.i64.wrap (g * n) = p := by rw [hp]; exact IntWalk.i64_in _ (by omega)
  have hw2 : IntKind.i64.wrap (s + p) = s + p := IntWalk.i64_in _ (by omega)
  clear hu hr hn hp hgb hb hg
  go_enter Try.func86, Try.ntmps86
  go_wp2_with fail
  refine (implScore_any _ _ r (k : Int) HU.out HR.out).mono ?_
  rintro e w2 ⟨rfl, b2⟩
  rw [HN.out]
  have HB2 := Lib.hid b2
  clear b2
  go_wp2_with fail
  go_ret
  exact ⟨rfl, HB2.out⟩

set_option maxHeartbeats 2000000 in
theorem foldExpected_any (w : World) (v u : Value) (t r : List Int) (B : Nat) (hv : IRd w v t) (hB : w.cell? ⟨B, 0, none⟩ = some u) (hu : IRd w u r) (ht : Grs t) (hr : Grs r) :
    Calls Try.prog 64 #[v, .int .i64 0, expF B] w (IntPost (expI t r) w) := by
  obtain ⟨A, c, rfl, hl, hmx, -⟩ := id hv
  have hlt : B < w.heap.size := World.block_lt_of_cell? w _ hB
  have HV : Hid (∀ wr, Below w.heap.size w wr → IRd wr (.slice A t.length c) t) := Lib.hid (fun wr h => hv.keep (SameAt.of_below h))
  have HU : Hid (∀ wr, Below w.heap.size w wr → wr.cell? ⟨B, 0, none⟩ = some u ∧ IRd wr u r) := Lib.hid (fun wr h => ⟨(h.cell (p := ⟨B, 0, none⟩) hlt).trans hB, hu.keep (SameAt.of_below h)⟩)
  have HT := Lib.hid ht
  have HR := Lib.hid hr
  have hm4 := ht.2
  clear hv hu hB ht hr hlt
  unfold expF
  go_enter Try.func64, Try.ntmps64
  go_wp2_with fail
  go_loopw [7, 13] (fun s i wr => ∃ k : Nat, s = .int .i64 (rsum (fun k => at0 t k * scI r (k : Int)) k) ∧ i = .int .i64 (k : Int) ∧ k ≤ t.length ∧ Hid (Below w.heap.size w wr)) (fun _ i _ => t.length - (intOf i).toNat)
  case atStart => exact ⟨0, rfl, rfl, Nat.zero_le _, Lib.hid (Below.refl _ _)⟩
  case round =>
    obtain ⟨k, rfl, rfl, hk, HB⟩ := hrel
    obtain ⟨s, hs⟩ : ∃ s, rsum (fun k => at0 t k * scI r (k : Int)) k = s := ⟨_, rfl⟩
    have hsb := exp_part HT.out HR.out k hk
    have hss := rsum_succ (fun k => at0 t k * scI r (k : Int)) k
    have HS := Lib.hid hs
    simp only [hs] at hsb hss ⊢
    clear hs
    by_cases hlt : k < t.length
    · have hlt' : (k : Int) < (t.length : Int) := by omega
      obtain ⟨b, off, x, rfl, -, hx, hcx⟩ := (HV.out wr HB.out).at_ hlt
      have HX := Lib.hid (HT.out.1 x (List.mem_of_getElem? hx))
      rw [at0_of hx] at hss
      have HD := Lib.hid hss
      have s1 : s ≤ 1000000 := by omega
      clear hx hss
      go_wp2_with fail
      refine (expected1_any wr s x k B u r (HU.out wr HB.out).1 (HU.out wr HB.out).2 HR.out hsb.1 s1 HX.out).mono ?_
      rintro e w2 ⟨rfl, b2⟩
      have HB2 := Lib.hid (below_step HB.out b2 HB.out.size)
      clear b2 hcx
      obtain ⟨n, hn⟩ : ∃ n, s + x * scI r (k : Int) = n := ⟨_, rfl⟩
      rw [hn]
      have HN := Lib.hid hn
      clear hn
      go_wp2_with fail
      go_roundw
      case rel => exact ⟨k + 1, by rw [HD.out, HN.out], by go_num, by omega, HB2⟩
      case measure => simp [intOf]; omega
    · obtain rfl : k = t.length := by omega
      have hlt' : decide ((t.length : Int) < (t.length : Int)) = false := by simp
      go_wp2_with fail
      go_ret
      exact ⟨by rw [← HS.out]; rfl, HB.out⟩

set_option maxHeartbeats 2000000 in
theorem implExpected_any (w : World) (v u : Value) (t r : List Int) (hv : IRd w v t) (hu : IRd w u r) (ht : Grs t) (hr : Grs r) :
    Calls Try.prog 63 #[v, u] w (IntPost (expI t r) w) := by
  have HK : Hid ((w.alloc (.cells #[u] 23)).cell? ⟨w.heap.size, 0, none⟩ = some u ∧ IRd (w.alloc (.cells #[u] 23)) v t ∧ IRd (w.alloc (.cells #[u] 23)) u r) := Lib.hid ⟨one_new w _ _ 0 _ rfl, hv.keep (SameAt.grow rfl), hu.keep (SameAt.grow rfl)⟩
  have HT := Lib.hid ht
  have HR := Lib.hid hr
  obtain ⟨A, c, rfl, -, -, -⟩ := id hu
  clear ht hr hv hu
  go_enter Try.func63, Try.ntmps63
  go_wp2_with fail
  refine (foldExpected_any _ v _ t r w.heap.size HK.out.2.1 HK.out.1 HK.out.2.2 HT.out HR.out).mono ?_
  rintro e w2 ⟨rfl, b2⟩
  have HB2 := Lib.hid (below_step ((Below.refl w.heap.size w).alloc (Nat.le_refl _) _) b2 (by simp))
  clear b2
  go_wp2_with fail
  go_ret
  exact ⟨rfl, HB2.out⟩

/-- the function value that FarApart folds with: it has captured the second measure at block B -/
def farF (B : Nat) : Value := .func (.func 65) #[] #[.pointer (some ⟨B, 0, none⟩)]

set_option maxHeartbeats 2000000 in
theorem far1_any (W : World) (s g y : Int) (k B : Nat) (u : Value) (b : List Int) (hB : W.cell? ⟨B, 0, none⟩ = some u) (hu : IRd W u b) (hy : b[k]? = some y) (s0 : 0 ≤ s) (s1 : s ≤ 100000) (hg : 0 ≤ g ∧ g ≤ 36) (hyb : 0 ≤ y ∧ y ≤ 36) :
    Calls Try.prog 65 #[.int .i64 s, .int .i64 (k : Int), .int .i64 g, .pointer (some ⟨B, 0, none⟩)] W fun r W' => r = .returned (.int .i64 (s + (g - y) * (g - y))) ∧ W = W' := by
  obtain ⟨A, c, rfl, hl, hmx, -⟩ := id hu
  have hk : k < b.length := (List.getElem?_eq_some_iff.1 hy).1
  have hk' : (k : Int) < (b.length : Int) := by omega
  have hk0 : (0 : Int) ≤ (k : Int) := by omega
  obtain ⟨b1, o1, x, rfl, -, hx, hcx⟩ := hu.at_ hk
  obtain rfl : x = y := Option.some.inj (hx.symm.trans hy)
  obtain ⟨z, hz⟩ : ∃ z, g - x = z := ⟨_, rfl⟩
  have hw1 : IntKind.i64.wrap (g - x) = z := by rw [hz]; exact IntWalk.i64_in _ (by omega)
  rw [hz]
  have z1 : -36 ≤ z := by omega
  have z2 : z ≤ 36 := by omega
  have h3 := sq36 z1 z2
  obtain ⟨q, hq⟩ : ∃ q, z * z = q := ⟨_, rfl⟩
  rw [hq] at h3 ⊢
  have hw3 : IntKind.i64.wrap (s + q) = s + q := IntWalk.i64_in _ (by omega)
  have HY := Lib.hid hq
  clear hq h3 hz hx hy hu hg hyb
  go_enter Try.func65, Try.ntmps65
  go_wp2_with fail
  refine (square_any z z1 z2 _).mono ?_
  rintro r w' ⟨rfl, rfl⟩
  rw [HY.out]
  go_wp2_with fail
  go_ret
  exact ⟨rfl, rfl⟩

set_option maxHeartbeats 2000000 in
theorem foldFar_any (w : World) (v u : Value) (a b : List Int) (B : Nat) (hv : IRd w v a) (hB : w.cell? ⟨B, 0, none⟩ = some u) (hu : IRd w u b) (ha : Grs a) (hb : Grs b) (hl : a.length = b.length) :
    Calls Try.prog 64 #[v, .int .i64 0, farF B] w fun r w' => r = .returned (.int .i64 (farI a b)) ∧ w = w' := by
  obtain ⟨A, c, rfl, hlc, hmx, -⟩ := id hv
  have HV := Lib.hid hv
  have HU := Lib.hid hu
  have HA := Lib.hid ha
  have HB := Lib.hid hb
  have HL := Lib.hid hl
  have HC := Lib.hid hB
  have hm4 := ha.2
  clear hv hu ha hb hB hl
  unfold farF
  go_enter Try.func64, Try.ntmps64
  go_wp2_with fail
  go_loop [7, 13] (fun s i => ∃ k : Nat, s = .int .i64 (rsum (fun k => (at0 a k - at0 b k) * (at0 a k - at0 b k)) k) ∧ i = .int .i64 (k : Int) ∧ k ≤ a.length) (fun _ i => a.length - (intOf i).toNat)
  case atStart => exact ⟨0, rfl, rfl, Nat.zero_le _⟩
  case round =>
    obtain ⟨k, rfl, rfl, hk⟩ := hrel
    obtain ⟨s, hs⟩ : ∃ s, rsum (fun k => (at0 a k - at0 b k) * (at0 a k - at0 b k)) k = s := ⟨_, rfl⟩
    have hsb := far_part HA.out HB.out HL.out k hk
    have hss := rsum_succ (fun k => (at0 a k - at0 b k) * (at0 a k - at0 b k)) k
    have HS := Lib.hid hs
    simp only [hs] at hsb hss ⊢
    clear hs
    by_cases hlt : k < a.length
    · have hlt' : (k : Int) < (a.length : Int) := by omega
      obtain ⟨b1, off, x, rfl, -, hx, hcx⟩ := HV.out.at_ hlt
      obtain ⟨y, hy⟩ : ∃ y, b[k]? = some y := ⟨_, List.getElem?_eq_getElem (by have := HL.out; omega)⟩
      have HX := Lib.hid (HA.out.1 x (List.mem_of_getElem? hx))
      have HY := Lib.hid (HB.out.1 y (List.mem_of_getElem? hy))
      rw [at0_of hx, at0_of hy] at hss
      have HD := Lib.hid hss
      have HYB := Lib.hid hy
      have s1 : s ≤ 100000 := by omega
      clear hx hy hss
      go_wp2_with fail
      refine (far1_any w s x y k B u b HC.out HU.out HYB.out hsb.1 s1 HX.out HY.out).mono ?_
      rintro r w' ⟨rfl, rfl⟩
      obtain ⟨n, hn⟩ : ∃ n, s + (x - y) * (x - y) = n := ⟨_, rfl⟩
      rw [hn]
      have HN := Lib.hid hn
      clear hn
      go_wp2_with fail
      go_round
      case rel => exact ⟨k + 1, by rw [HD.out, HN.out], by go_num, by omega⟩
      case measure => simp [intOf]; omega
    · obtain rfl : k = a.length := by omega
      have hlt' : decide ((a.length : Int) < (a.length : Int)) = false := by simp
      go_wp2_with fail
      go_ret
      exact ⟨by rw [← HS.out]; rfl, rfl⟩

set_option maxHeartbeats 2000000 in
theorem implScoreOf_any (w : World) (v : Value) (m : List Int) (x : Int) (hv : IRd w v m) :
    Calls Try.prog 19 #[v, .int .i64 x] w (IntPost (scR m x) w) := by
  obtain ⟨A, c, rfl, hl, hmx, -⟩ := id hv
  have HV := Lib.hid hv
  clear hv
  obtain ⟨t, ht⟩ : ∃ t, meaB m = t := ⟨_, rfl⟩
  have HM := Lib.hid ht
  cases t
  · have HR : Hid (scR m x = -1) := Lib.hid (by rw [scR, if_neg (by rw [scB, ht]; simp)])
    clear ht
    go_enter Try.func19, Try.ntmps19
    go_wp2_with fail
    refine (implMeasureOk_any _ _ _ HV.out).mono ?_
    rintro r w' ⟨rfl, rfl⟩
    rw [HM.out]
    go_wp2_with fail
    go_ret
    exact ⟨by rw [HR.out]; rfl, Below.refl _ _⟩
  · have HG := Lib.hid (grs_of ht)
    obtain ⟨u, hu⟩ : ∃ u, inB x 0 ((m.length : Int) - 1) = u := ⟨_, rfl⟩
    have HR : Hid (scR m x = if u = true then scI m x else -1) := Lib.hid (by rw [scR, scB, ht, hu, Bool.true_and])
    have HI := Lib.hid hu
    clear ht hu
    cases u
    all_goals
      go_enter Try.func19, Try.ntmps19
      go_wp2_with fail
      refine (implMeasureOk_any _ _ _ HV.out).mono ?_
      rintro r w' ⟨rfl, rfl⟩
      rw [HM.out]
      go_wp2_with fail
      refine (isWorld_any _ _ _).mono ?_
      rintro r w' ⟨rfl, rfl⟩
      rw [HI.out]
      go_wp2_with fail
    · go_ret
      exact ⟨by rw [HR.out]; rfl, Below.refl _ _⟩
    · refine (implScore_any _ _ m x HV.out HG.out).mono ?_
      rintro r w2 ⟨rfl, b2⟩
      have B2 := Lib.hid b2
      clear b2
      go_wp2_with fail
      go_ret
      exact ⟨by rw [HR.out]; rfl, B2.out⟩

set_option maxHeartbeats 2000000 in
theorem implExpectedScore_any (w : World) (v u : Value) (a b : List Int) (hv : IRd w v a) (hu : IRd w u b) :
    Calls Try.prog 23 #[v, u] w (IntPost (expR a b) w) := by
  have HV := Lib.hid hv
  have HU := Lib.hid hu
  clear hv hu
  obtain ⟨t, ht⟩ : ∃ t, twoB a b = t := ⟨_, rfl⟩
  have HT : Hid ((meaB a && meaB b && decide (a.length = b.length)) = t) := Lib.hid ht
  cases t
  · have HR : Hid (expR a b = -1) := Lib.hid (by rw [expR, ht]; rfl)
    clear ht
    go_enter Try.func23, Try.ntmps23
    go_wp2_with fail
    refine (measuresOk_any _ _ _ _ _ HV.out HU.out).mono ?_
    rintro r w' ⟨rfl, rfl⟩
    rw [HT.out]
    go_wp2_with fail
    go_ret
    exact ⟨by rw [HR.out]; rfl, Below.refl _ _⟩
  · have HR : Hid (expR a b = expI a b) := Lib.hid (by rw [expR, if_pos ht])
    obtain ⟨h1, h2, h3⟩ := (twoB_iff a b).1 ht
    have HA := Lib.hid (grs_of h1)
    have HB := Lib.hid (grs_of h2)
    clear ht h1 h2 h3
    go_enter Try.func23, Try.ntmps23
    go_wp2_with fail
    refine (measuresOk_any _ _ _ _ _ HV.out HU.out).mono ?_
    rintro r w' ⟨rfl, rfl⟩
    rw [HT.out]
    go_wp2_with fail
    refine (implExpected_any _ _ _ _ _ HV.out HU.out HA.out HB.out).mono ?_
    rintro r w2 ⟨rfl, b2⟩
    have B2 := Lib.hid b2
    clear b2
    go_wp2_with fail
    go_ret
    exact ⟨by rw [HR.out]; rfl, B2.out⟩

set_option maxHeartbeats 2000000 in
theorem implFarApart_any (w : World) (v u : Value) (a b : List Int) (hv : IRd w v a) (hu : IRd w u b) :
    Calls Try.prog 25 #[v, u] w (IntPost (farR a b) w) := by
  have HK : Hid ((w.alloc (.cells #[u] 23)).cell? ⟨w.heap.size, 0, none⟩ = some u ∧ IRd (w.alloc (.cells #[u] 23)) v a ∧ IRd (w.alloc (.cells #[u] 23)) u b) := Lib.hid ⟨one_new w _ _ 0 _ rfl, hv.keep (SameAt.grow rfl), hu.keep (SameAt.grow rfl)⟩
  have HB1 : Hid (Below w.heap.size w (w.alloc (.cells #[u] 23))) := Lib.hid ((Below.refl _ _).alloc (Nat.le_refl _) _)
  obtain ⟨A, c, rfl, -, -, -⟩ := id hu
  have hcell := HK.out.1
  clear hv hu
  obtain ⟨t, ht⟩ : ∃ t, twoB a b = t := ⟨_, rfl⟩
  have HT : Hid ((meaB a && meaB b && decide (a.length = b.length)) = t) := Lib.hid ht
  cases t
  · have HR : Hid (farR a b = -1) := Lib.hid (by rw [farR, ht]; rfl)
    clear ht
    go_enter Try.func25, Try.ntmps25
    go_wp2_with fail
    refine (measuresOk_any _ _ _ _ _ HK.out.2.1 HK.out.2.2).mono ?_
    rintro r w' ⟨rfl, rfl⟩
    rw [HT.out]
    go_wp2_with fail
    go_ret
    exact ⟨by rw [HR.out]; rfl, HB1.out⟩
  · have HR : Hid (farR a b = farI a b) := Lib.hid (by rw [farR, if_pos ht])
    obtain ⟨h1, h2, h3⟩ := (twoB_iff a b).1 ht
    have HA := Lib.hid (grs_of h1)
    have HB := Lib.hid (grs_of h2)
    have HL := Lib.hid h3
    clear ht h1 h2 h3
    go_enter Try.func25, Try.ntmps25
    go_wp2_with fail
    refine (measuresOk_any _ _ _ _ _ HK.out.2.1 HK.out.2.2).mono ?_
    rintro r w' ⟨rfl, rfl⟩
    rw [HT.out]
    go_wp2_with fail
    refine (foldFar_any _ _ _ a b w.heap.size HK.out.2.1 HK.out.1 HK.out.2.2 HA.out HB.out HL.out).mono ?_
    rintro r w2 ⟨rfl, rfl⟩
    go_wp2_with fail
    go_ret
    exact ⟨by rw [HR.out]; rfl, HB1.out⟩

/-! worlds that turned out -/

def seenOkB (W : Int) (ss : List Int) : Bool := decide (ss.length ≤ 12) && ss.all (fun x => inB x 0 (W - 1))

theorem seenOkB_iff (W : Int) (ss : List Int) : seenOkB W ss = true ↔ ss.length ≤ 12 ∧ ∀ x ∈ ss, 0 ≤ x ∧ x ≤ W - 1 := by
  simp only [seenOkB, Bool.and_eq_true, decide_eq_true_eq, List.all_eq_true, inB_iff]

set_option maxHeartbeats 2000000 in
theorem seenOk_any (w : World) (W : Int) (v : Value) (ss : List Int) (hv : IRd w v ss) :
    Calls Try.prog 74 #[.int .i64 W, v] w fun r w' => r = .returned (.bool (seenOkB W ss)) ∧ w = w' := by
  obtain ⟨A, c, rfl, hl, hmx, -⟩ := id hv
  have HV := Lib.hid hv
  clear hv
  by_cases h12 : ss.length ≤ 12
  · have hd : decide ((12 : Int) < (ss.length : Int)) = false := by simp; omega
    have H12 := Lib.hid h12
    go_enter Try.func74, Try.ntmps74
    go_wp2_with fail
    go_loop [12] (fun i => ∃ k : Nat, i = .int .i64 (k : Int) ∧ k ≤ ss.length ∧ Hid (∀ x ∈ ss.take k, 0 ≤ x ∧ x ≤ W - 1)) (fun i => ss.length - (intOf i).toNat)
    case atStart => exact ⟨0, rfl, Nat.zero_le _, Lib.hid (fun x hx => by simp at hx)⟩
    case round =>
      obtain ⟨k, rfl, hk, HA⟩ := hrel
      by_cases hlt : k < ss.length
      · have hlt' : (k : Int) < (ss.length : Int) := by omega
        obtain ⟨b, off, x, rfl, -, hx, hcx⟩ := HV.out.at_ hlt
        have HX := Lib.hid hx
        clear hx
        obtain ⟨t, ht⟩ : ∃ t, inB x 0 (W - 1) = t := ⟨_, rfl⟩
        have HT := Lib.hid ht
        cases t
        · have HR : Hid (seenOkB W ss = false) := Lib.hid (by
            rw [← Bool.not_eq_true, seenOkB_iff]
            rintro ⟨-, h⟩
            have := (inB_iff _ _ _).2 (h x (List.mem_of_getElem? HX.out))
            rw [ht] at this; cases this)
          clear ht
          go_wp2_with fail
          refine (isWorld_any _ _ _).mono ?_
          rintro r w' ⟨rfl, rfl⟩
          rw [HT.out]
          go_wp2_with fail
          go_ret
          exact ⟨ret_bool HR.out.symm, rfl⟩
        · have HN := Lib.hid (take_mem4 (P := fun x => 0 ≤ x ∧ x ≤ W - 1) HX.out HA.out ((inB_iff _ _ _).1 ht))
          clear ht
          go_wp2_with fail
          refine (isWorld_any _ _ _).mono ?_
          rintro r w' ⟨rfl, rfl⟩
          rw [HT.out]
          go_wp2_with fail
          go_round
          case rel => exact ⟨k + 1, by go_num, by omega, HN⟩
          case measure => simp [intOf]; omega
      · obtain rfl : k = ss.length := by omega
        have hlt' : decide ((ss.length : Int) < (ss.length : Int)) = false := by simp
        have HR : Hid (seenOkB W ss = true) := Lib.hid ((seenOkB_iff W ss).2 ⟨H12.out, by have := HA.out; rwa [List.take_length] at this⟩)
        go_wp2_with fail
        go_ret
        exact ⟨ret_bool HR.out.symm, rfl⟩
  · have hd : (12 : Int) < (ss.length : Int) := by omega
    have HR : Hid (seenOkB W ss = false) := Lib.hid (by rw [← Bool.not_eq_true, seenOkB_iff]; exact fun h => h12 h.1)
    clear h12
    go_enter Try.func74, Try.ntmps74
    go_wp2_with fail
    go_ret
    exact ⟨ret_bool HR.out.symm, rfl⟩

/-- the function value that TotalScore folds with: it has captured the measure at block B -/
def totF (B : Nat) : Value := .func (.func 76) #[] #[.pointer (some ⟨B, 0, none⟩)]

set_option maxHeartbeats 2000000 in
theorem total1_any (W : World) (s x : Int) (B : Nat) (u : Value) (m : List Int) (hB : W.cell? ⟨B, 0, none⟩ = some u) (hu : IRd W u m) (hm : Grs m) (s0 : 0 ≤ s) (s1 : s ≤ 100000) :
    Calls Try.prog 76 #[.int .i64 s, .int .i64 x, .pointer (some ⟨B, 0, none⟩)] W (IntPost (s + scI m x) W) := by
  obtain ⟨A, c, rfl, hl, hmx, -⟩ := id hu
  have HU := Lib.hid hu
  have HM := Lib.hid hm
  have hb := sc_bound hm x
  obtain ⟨n, hn⟩ : ∃ n, scI m x = n := ⟨_, rfl⟩
  rw [hn] at hb ⊢
  have HN := Lib.hid hn
  have hw2 : IntKind.i64.wrap (s + n) = s + n := IntWalk.i64_in _ (by omega)
  clear hu hm hn hb
  go_enter Try.func76, Try.ntmps76
  go_wp2_with fail
  refine (implScore_any _ _ m x HU.out HM.out).mono ?_
  rintro e w2 ⟨rfl, b2⟩
  rw [HN.out]
  have HB2 := Lib.hid b2
  clear b2
  go_wp2_with fail
  go_ret
  exact ⟨rfl, HB2.out⟩

theorem tot_part {m : List Int} (hm : Grs m) (ss : List Int) : 0 ≤ totI m ss ∧ totI m ss ≤ 5184 * (ss.length : Int) := by
  induction ss with
  | nil => simp [totI]
  | cons x ss ih =>
    have h2 := sc_bound hm x
    simp only [totI, List.map_cons, List.sum_cons, List.length_cons] at ih ⊢; omega

set_option maxHeartbeats 2000000 in
theorem foldTotal_any (w : World) (v u : Value) (m ss : List Int) (B : Nat) (hv : IRd w v ss) (hB : w.cell? ⟨B, 0, none⟩ = some u) (hu : IRd w u m) (hm : Grs m) (h12 : ss.length ≤ 12) :
    Calls Try.prog 75 #[v, .int .i64 0, totF B] w (IntPost (totI m ss) w) := by
  obtain ⟨A, c, rfl, hl, hmx, -⟩ := id hv
  have hlt : B < w.heap.size := World.block_lt_of_cell? w _ hB
  have HV : Hid (∀ wr, Below w.heap.size w wr → IRd wr (.slice A ss.length c) ss) := Lib.hid (fun wr h => hv.keep (SameAt.of_below h))
  have HU : Hid (∀ wr, Below w.heap.size w wr → wr.cell? ⟨B, 0, none⟩ = some u ∧ IRd wr u m) := Lib.hid (fun wr h => ⟨(h.cell (p := ⟨B, 0, none⟩) hlt).trans hB, hu.keep (SameAt.of_below h)⟩)
  have HM := Lib.hid hm
  clear hv hu hB hm hlt
  unfold totF
  go_enter Try.func75, Try.ntmps75
  go_wp2_with fail
  go_loopw [1, 11] (fun s i wr => ∃ k : Nat, s = .int .i64 (totI m (ss.take k)) ∧ i = .int .i64 (k : Int) ∧ k ≤ ss.length ∧ Hid (Below w.heap.size w wr)) (fun _ i _ => ss.length - (intOf i).toNat)
  case atStart => exact ⟨0, rfl, rfl, Nat.zero_le _, Lib.hid (Below.refl _ _)⟩
  case round =>
    obtain ⟨k, rfl, rfl, hk, HB⟩ := hrel
    have hsb := tot_part HM.out (ss.take k)
    have hsl : (ss.take k).length ≤ 12 := by rw [List.length_take]; omega
    obtain ⟨s, hs⟩ : ∃ s, totI m (ss.take k) = s := ⟨_, rfl⟩
    have HS := Lib.hid hs
    rw [hs] at hsb ⊢
    have s0 : 0 ≤ s := hsb.1
    have s1 : s ≤ 100000 := by omega
    clear hs hsb hsl
    by_cases hlt : k < ss.length
    · have hlt' : (k : Int) < (ss.length : Int) := by omega
      obtain ⟨b, off, x, rfl, -, hx, hcx⟩ := (HV.out wr HB.out).at_ hlt
      have HD := Lib.hid (tot_take (m := m) hx)
      clear hx
      go_wp2_with fail
      refine (total1_any wr s x B u m (HU.out wr HB.out).1 (HU.out wr HB.out).2 HM.out s0 s1).mono ?_
      rintro e w2 ⟨rfl, b2⟩
      have HB2 := Lib.hid (below_step HB.out b2 HB.out.size)
      clear b2 hcx
      go_wp2_with fail
      go_roundw
      case rel => exact ⟨k + 1, by rw [HD.out, HS.out], by go_num, by omega, HB2⟩
      case measure => simp [intOf]; omega
    · obtain rfl : k = ss.length := by omega
      have hlt' : decide ((ss.length : Int) < (ss.length : Int)) = false := by simp
      go_wp2_with fail
      go_ret
      exact ⟨by have h := HS.out; rw [List.take_length] at h; rw [h]; rfl, HB.out⟩

theorem tot_of (m ss : List Int) : totB m ss = (meaB m && seenOkB (m.length : Int) ss) := by rw [totB, seenOkB, Bool.and_assoc]

set_option maxHeartbeats 2000000 in
theorem implTotalScore_any (w : World) (v u : Value) (m ss : List Int) (hv : IRd w v m) (hu : IRd w u ss) :
    Calls Try.prog 34 #[v, u] w (IntPost (totR m ss) w) := by
  have HK : Hid ((w.alloc (.cells #[v] 23)).cell? ⟨w.heap.size, 0, none⟩ = some v ∧ IRd (w.alloc (.cells #[v] 23)) v m ∧ IRd (w.alloc (.cells #[v] 23)) u ss) := Lib.hid ⟨one_new w _ _ 0 _ rfl, hv.keep (SameAt.grow rfl), hu.keep (SameAt.grow rfl)⟩
  have HB1 : Hid (Below w.heap.size w (w.alloc (.cells #[v] 23))) := Lib.hid ((Below.refl _ _).alloc (Nat.le_refl _) _)
  obtain ⟨A, c, rfl, hl1, hm1, -⟩ := id hv
  have hcell := HK.out.1
  clear hv hu
  obtain ⟨t, ht⟩ : ∃ t, meaB m = t := ⟨_, rfl⟩
  have HM := Lib.hid ht
  cases t
  · have HR : Hid (totR m ss = -1) := Lib.hid (by rw [totR, tot_of, ht]; rfl)
    clear ht
    go_enter Try.func34, Try.ntmps34
    go_wp2_with fail
    refine (implMeasureOk_any _ _ _ HK.out.2.1).mono ?_
    rintro r w' ⟨rfl, rfl⟩
    rw [HM.out]
    go_wp2_with fail
    go_ret
    exact ⟨by rw [HR.out]; rfl, HB1.out⟩
  · have HG := Lib.hid (grs_of ht)
    obtain ⟨q, hq⟩ : ∃ q, seenOkB (m.length : Int) ss = q := ⟨_, rfl⟩
    have HQ := Lib.hid hq
    have HR : Hid (totR m ss = if q = true then totI m ss else -1) := Lib.hid (by rw [totR, tot_of, ht, hq, Bool.true_and])
    have H12 : Hid (q = true → ss.length ≤ 12) := Lib.hid (fun h => ((seenOkB_iff _ _).1 (hq.trans h)).1)
    clear ht hq
    cases q
    all_goals
      go_enter Try.func34, Try.ntmps34
      go_wp2_with fail
      refine (implMeasureOk_any _ _ _ HK.out.2.1).mono ?_
      rintro r w' ⟨rfl, rfl⟩
      rw [HM.out]
      go_wp2_with fail
      refine (seenOk_any _ _ _ _ HK.out.2.2).mono ?_
      rintro r w' ⟨rfl, rfl⟩
      rw [HQ.out]
      go_wp2_with fail
    · go_ret
      exact ⟨by rw [HR.out]; rfl, HB1.out⟩
    · refine (foldTotal_any _ _ _ m ss w.heap.size HK.out.2.2 HK.out.1 HK.out.2.1 HG.out (H12.out (by trivial))).mono ?_
      rintro r w2 ⟨rfl, b2⟩
      have HB2 := Lib.hid (below_step HB1.out b2 HB1.out.size)
      clear b2
      go_wp2_with fail
      go_ret
      exact ⟨by rw [HR.out]; rfl, HB2.out⟩

theorem shr_quo (N : Nat) (ss : List Int) : quoL (cnt11 N ss) (ss.length : Int) = shr11 N ss := by simp [quoL, cnt11, shr11]

theorem seen_of {W : Int} {ss : List Int} (h1 : wokB W = true) (h2 : ss.length ≠ 0) (h3 : seenOkB W ss = true) : seenB W ss = divB (cnt11 W.toNat ss) (ss.length : Int) := by
  obtain ⟨k1, k2⟩ := (seenOkB_iff W ss).1 h3
  simp only [wokB, Bool.and_eq_true, decide_eq_true_eq] at h1
  apply bool_eq
  rw [seenB_iff, div_iff]
  constructor
  · rintro ⟨-, -, -, h⟩ x hx
    simp only [cnt11, List.mem_map, List.mem_range] at hx
    obtain ⟨j, hj, rfl⟩ := hx
    exact h j hj
  · intro h
    exact ⟨h1, by omega, k2, fun j hj => h _ (by simp only [cnt11, List.mem_map, List.mem_range]; exact ⟨j, hj, rfl⟩)⟩

theorem seen_no {W : Int} {ss : List Int} (h : ¬ (wokB W = true ∧ ss.length ≠ 0 ∧ seenOkB W ss = true)) : seenB W ss = false := by
  rw [← Bool.not_eq_true, seenB_iff]
  rintro ⟨h1, h2, h3, -⟩
  exact h ⟨by simp [wokB, h1], by omega, (seenOkB_iff W ss).2 ⟨by omega, h3⟩⟩

theorem cnt_le11 {N : Nat} {ss : List Int} (h : ss.length ≤ 12) : ∀ x ∈ cnt11 N ss, 0 ≤ x ∧ x ≤ 1000 := by
  intro x hx
  simp only [cnt11, List.mem_map, List.mem_range] at hx
  obtain ⟨j, hj, rfl⟩ := hx
  have := seen_nonneg ss j
  omega

set_option maxHeartbeats 4000000 in
theorem implSeenMeasure_any (w : World) (W : Int) (v : Value) (ss : List Int) (hv : IRd w v ss) :
    Calls Try.prog 37 #[.int .i64 W, v] w (RowOk w.heap.size (seenR W ss) (seenB W ss) w) := by
  obtain ⟨A, c, rfl, hl, hmx, -⟩ := id hv
  have HV : Hid (∀ wr, Below w.heap.size w wr → IRd wr (.slice A ss.length c) ss) := Lib.hid (fun wr hb => hv.keep (SameAt.of_below hb))
  have HNO : Hid (seenB W ss = false → seenR W ss = []) := Lib.hid (fun h => by rw [seenR, h]; rfl)
  clear hv
  obtain ⟨t, ht⟩ : ∃ t, wokB W = t := ⟨_, rfl⟩
  have H1 := Lib.hid ht
  cases t
  · have HN : Hid (seenB W ss = false) := Lib.hid (seen_no (fun h => by rw [ht] at h; exact Bool.noConfusion h.1))
    clear ht
    go_enter Try.func37, Try.ntmps37
    go_wp2_with fail
    refine (worldsOk_any _ _).mono ?_
    rintro r w' ⟨rfl, rfl⟩
    rw [H1.out]
    go_wp2_with fail
    go_ret2
    exact rowOk_ret HN.out (HNO.out HN.out) (nil_own _ _) (Below.refl _ _)
  · by_cases h0 : ss.length = 0
    · have HN : Hid (seenB W ss = false) := Lib.hid (seen_no (fun h => h.2.1 h0))
      have hz : ((ss.length : Int) == 0) = true := by rw [h0]; rfl
      clear ht h0
      go_enter Try.func37, Try.ntmps37
      go_wp2_with fail
      refine (worldsOk_any _ _).mono ?_
      rintro r w' ⟨rfl, rfl⟩
      rw [H1.out]
      go_wp2_with fail
      go_ret2
      exact rowOk_ret HN.out (HNO.out HN.out) (nil_own _ _) (Below.refl _ _)
    · have hz : ((ss.length : Int) == 0) = false := beq_false_of_ne (by omega)
      obtain ⟨q, hq⟩ : ∃ q, seenOkB W ss = q := ⟨_, rfl⟩
      have HQ := Lib.hid hq
      cases q
      · have HN : Hid (seenB W ss = false) := Lib.hid (seen_no (fun h => by rw [hq] at h; exact Bool.noConfusion h.2.2))
        clear ht hq
        go_enter Try.func37, Try.ntmps37
        go_wp2_with fail
        refine (worldsOk_any _ _).mono ?_
        rintro r w' ⟨rfl, rfl⟩
        rw [H1.out]
        go_wp2_with fail
        refine (seenOk_any _ _ _ _ (HV.out _ (Below.refl _ _))).mono ?_
        rintro r w' ⟨rfl, rfl⟩
        rw [HQ.out]
        go_wp2_with fail
        go_ret2
        exact rowOk_ret HN.out (HNO.out HN.out) (nil_own _ _) (Below.refl _ _)
      · obtain ⟨w1, w4⟩ : 1 ≤ W ∧ W ≤ 4 := by simpa [wokB] using ht
        obtain ⟨N, rfl⟩ : ∃ N : Nat, W = N := ⟨W.toNat, by omega⟩
        have hN4 : N ≤ 4 := by omega
        have hN0 : (0 : Int) ≤ (N : Int) := by omega
        have HBB : Hid (seenB (N : Int) ss = divB (cnt11 N ss) (ss.length : Int)) := Lib.hid (seen_of ht h0 hq)
        have HRR : Hid (seenR (N : Int) ss = partsR (cnt11 N ss) (ss.length : Int)) := Lib.hid (by rw [seenR, partsR, shr_quo, HBB.out]; rfl)
        obtain ⟨h12, hin⟩ := (seenOkB_iff _ _).1 hq
        have l1 : 1 ≤ (ss.length : Int) := by omega
        have l12 : (ss.length : Int) ≤ 12 := by omega
        have HIN := Lib.hid hin
        have HLE : Hid (∀ x ∈ cnt11 N ss, 0 ≤ x ∧ x ≤ 1000) := Lib.hid (cnt_le11 h12)
        clear ht hq hin
        obtain ⟨i0, hi, hz0, hz1, hz2⟩ := info_parts Try_intinfo
        go_enter Try.func37, Try.ntmps37
        go_wp2_with fail
        refine (worldsOk_any _ _).mono ?_
        rintro r w' ⟨rfl, rfl⟩
        rw [H1.out]
        go_wp2_with fail
        refine (seenOk_any _ _ _ _ (HV.out _ (Below.refl _ _))).mono ?_
        rintro r w' ⟨rfl, rfl⟩
        rw [HQ.out]
        go_wp2_with (at_make; refine wpList_make_full _ rfl _ _ 23 rfl w.heap.size 3 i0 (.int .i64 0) 1 Try.underlying23 hi hz0 hz1 .i64 .i64 _ _ N rfl rfl rfl rfl ?b2 ?b3 (Nat.le_refl _) ?_)
        case b2 => rw [hz2]; omega
        case b3 => unfold maxLen; omega
        intro w0 hown0 hgrow0
        have H0 : Hid (IOwn w0 w.heap.size (.slice (some ⟨w.heap.size, 0, none⟩) N N) (cnt11 N (ss.take 0)) ∧ Below w.heap.size w w0) := Lib.hid ⟨by rw [List.take_zero, cnt_nil]; unfold IOwn; simpa [toList_madeCells_one, Value.cells] using hown0, (Below.refl _ _).grown hgrow0 (Nat.le_refl _) (fun k hk => by cases hk)⟩
        clear hown0 hgrow0 hi hz0 hz1 hz2
        go_wp2_with fail
        go_loopw [27] (fun i wr => ∃ k : Nat, i = .int .i64 (k : Int) ∧ k ≤ ss.length ∧ Hid (IOwn wr w.heap.size (.slice (some ⟨w.heap.size, 0, none⟩) N N) (cnt11 N (ss.take k)) ∧ Below w.heap.size w wr)) (fun i _ => ss.length - (intOf i).toNat)
        case atStart => exact ⟨0, rfl, Nat.zero_le _, H0⟩
        case round =>
          obtain ⟨k, rfl, hk, HF⟩ := hrel
          clear H0
          by_cases hlt : k < ss.length
          · have hlt' : (k : Int) < (ss.length : Int) := by omega
            have hk0 : (0 : Int) ≤ (k : Int) := by omega
            obtain ⟨b, off, x, rfl, -, hx, hcx⟩ := (HV.out wr HF.out.2).at_ hlt
            have HX := Lib.hid hx
            clear hx
            obtain ⟨x0, x1⟩ := HIN.out x (List.mem_of_getElem? HX.out)
            obtain ⟨u, rfl⟩ : ∃ u : Nat, x = u := ⟨x.toNat, by omega⟩
            have hu : u < N := by omega
            have hu' : (u : Int) < (N : Int) := by omega
            have hu0 : (0 : Int) ≤ (u : Int) := by omega
            obtain ⟨y, hy⟩ : ∃ y, seenN (ss.take k) u * 36 = y := ⟨_, rfl⟩
            have hyb : 0 ≤ y ∧ y ≤ 36 * 12 := by
              have := seen_nonneg (ss.take k) u
              rw [List.length_take] at this
              omega
            have hcy : wr.cell? ⟨w.heap.size, u, none⟩ = some (.int .i64 y) := IOwn.cellk HF.out.1 (by rw [cnt_at hu, hy])
            have hfz : wr.frozen? ⟨w.heap.size, u, none⟩ = false := IOwn.frz HF.out.1 (by rw [cnt_len]) u
            have hwy : IntKind.i64.wrap (y + 36) = y + 36 := IntWalk.i64_in _ (by omega)
            have HS := Lib.hid (cnt_set (N := N) HX.out hu)
            rw [hy] at HS
            have HF2 : Hid (IOwn (wr.setCell ⟨w.heap.size, u, none⟩ (.int .i64 (y + 36))) w.heap.size (.slice (some ⟨w.heap.size, 0, none⟩) N N) (cnt11 N (ss.take (k + 1))) ∧ Below w.heap.size w (wr.setCell ⟨w.heap.size, u, none⟩ (.int .i64 (y + 36)))) := Lib.hid ⟨by rw [HS.out]; exact (IOwn.set_ HF.out.1 (by rw [cnt_len]) u _).1, HF.out.2.setCell (p := ⟨w.heap.size, u, none⟩) (Nat.le_refl _) _⟩
            clear hy hyb HF
            go_wp2_with fail
            go_roundw
            case rel => exact ⟨k + 1, by go_num, by omega, HF2⟩
            case measure => simp [intOf]; omega
          · obtain rfl : k = ss.length := by omega
            have hlt' : decide ((ss.length : Int) < (ss.length : Int)) = false := by simp
            have HC : Hid (IOwn wr w.heap.size (.slice (some ⟨w.heap.size, 0, none⟩) N N) (cnt11 N ss)) := Lib.hid (by have := HF.out.1; rwa [List.take_length] at this)
            have HB : Hid (Below w.heap.size w wr) := Lib.hid HF.out.2
            clear HF
            go_wp2_with fail
            refine (wholeParts_any wr _ (cnt11 N ss) (ss.length : Int) HC.out.rd (by rw [cnt_len]; exact hN4) l1 (by omega) HLE.out).mono ?_
            rintro e w2 ⟨v2, rfl, o2, b2⟩
            have O2 := Lib.hid (o2.base HB.out.size)
            have B2 := Lib.hid (below_step HB.out b2 HB.out.size)
            clear o2 b2
            go_wp2_with fail
            go_ret2
            exact rowOk_ret HBB.out HRR.out O2.out B2.out

/-! reports -/

set_option maxHeartbeats 2000000 in
theorem reportsOk_any (w : World) (v u : Value) (t : List Int) (rs : List (List Int)) (hv : IRd w v t) (hu : SRd w u rs) :
    Calls Try.prog 70 #[v, u] w fun r w' => r = .returned (.bool (bestB t rs)) ∧ w = w' := by
  obtain ⟨A', c', rfl, hl', hm'⟩ := hu.form
  have HV := Lib.hid hv
  have HU := Lib.hid hu
  clear hv hu
  by_cases h0 : rs.length = 0
  · have hz : ((rs.length : Int) == 0) = true := by rw [h0]; rfl
    have HR : Hid (bestB t rs = false) := Lib.hid (by rw [← Bool.not_eq_true, bestB_iff]; omega)
    clear h0
    go_enter Try.func70, Try.ntmps70
    go_wp2_with fail
    go_ret
    exact ⟨ret_bool HR.out.symm, rfl⟩
  · have hz : ((rs.length : Int) == 0) = false := beq_false_of_ne (by omega)
    by_cases h6 : rs.length ≤ 6
    · have hd : decide ((6 : Int) < (rs.length : Int)) = false := by simp; omega
      have HL : Hid (1 ≤ rs.length ∧ rs.length ≤ 6) := Lib.hid (by omega)
      clear h0
      go_enter Try.func70, Try.ntmps70
      go_wp2_with fail
      go_loop [17] (fun i => ∃ k : Nat, i = .int .i64 (k : Int) ∧ k ≤ rs.length ∧ Hid (∀ r ∈ rs.take k, twoB t r = true)) (fun i => rs.length - (intOf i).toNat)
      case atStart => exact ⟨0, rfl, Nat.zero_le _, Lib.hid (by simp)⟩
      case round =>
        obtain ⟨k, rfl, hk, HA⟩ := hrel
        by_cases hlt : k < rs.length
        · have hlt' : (k : Int) < (rs.length : Int) := by omega
          obtain ⟨b, off, p, r, rfl, -, hr, hc, hp⟩ := HU.out.at_ hlt
          obtain ⟨A2, c2, rfl, -, -, -⟩ := id hp
          have HP := Lib.hid hp
          obtain ⟨q, hq⟩ : ∃ q, twoB t r = q := ⟨_, rfl⟩
          have HQ : Hid ((meaB t && meaB r && decide (t.length = r.length)) = q) := Lib.hid hq
          cases q
          · have HR : Hid (bestB t rs = false) := Lib.hid (by
              rw [← Bool.not_eq_true, bestB_iff]
              rintro ⟨-, -, h⟩
              have := h r (List.mem_of_getElem? hr)
              rw [hq] at this; cases this)
            clear hr hp hq
            go_wp2_with fail
            refine (measuresOk_any w _ _ t r HV.out HP.out).mono ?_
            rintro e w' ⟨rfl, rfl⟩
            rw [HQ.out]
            go_wp2_with fail
            go_ret
            exact ⟨ret_bool HR.out.symm, rfl⟩
          · have HN := Lib.hid (two_take hr hq HA.out)
            clear hr hp hq
            go_wp2_with fail
            refine (measuresOk_any w _ _ t r HV.out HP.out).mono ?_
            rintro e w' ⟨rfl, rfl⟩
            rw [HQ.out]
            go_wp2_with fail
            go_round
            case rel => exact ⟨k + 1, by go_num, by omega, HN⟩
            case measure => simp [intOf]; omega
        · obtain rfl : k = rs.length := by omega
          have hlt' : decide ((rs.length : Int) < (rs.length : Int)) = false := by simp
          have HR : Hid (bestB t rs = true) := Lib.hid ((bestB_iff t rs).2 ⟨HL.out.1, HL.out.2, by have := HA.out; rwa [List.take_length] at this⟩)
          go_wp2_with fail
          go_ret
          exact ⟨ret_bool HR.out.symm, rfl⟩
    · have hd : (6 : Int) < (rs.length : Int) := by omega
      have HR : Hid (bestB t rs = false) := Lib.hid (by rw [← Bool.not_eq_true, bestB_iff]; omega)
      clear h0 h6
      go_enter Try.func70, Try.ntmps70
      go_wp2_with fail
      go_ret
      exact ⟨ret_bool HR.out.symm, rfl⟩

/-- the function value that BestReport folds with: it has captured the measure at block B, the reports at block C -/
def bestV (B C : Nat) : Value := .func (.func 72) #[] #[.pointer (some ⟨B, 0, none⟩), .pointer (some ⟨C, 0, none⟩)]

set_option maxHeartbeats 4000000 in
set_option maxRecDepth 100000 in
theorem best1_any (W : World) (bn : Nat) (k : Nat) (u v1 v2 : Value) (r t s : List Int) (rs : List (List Int)) (B C : Nat) (hB : W.cell? ⟨B, 0, none⟩ = some v1) (hC : W.cell? ⟨C, 0, none⟩ = some v2)
    (hv1 : IRd W v1 t) (hv2 : SRd W v2 rs) (hu : IRd W u r) (hs : rs[bn]? = some s) (ht : Grs t) (hr : Grs r) (hgs : Grs s) :
    Calls Try.prog 72 #[.int .i64 (bn : Int), .int .i64 (k : Int), u, .pointer (some ⟨B, 0, none⟩), .pointer (some ⟨C, 0, none⟩)] W (IntPost (if expI t r < expI t s then (k : Int) else (bn : Int)) W) := by
  have hlB : B < W.heap.size := World.block_lt_of_cell? W _ hB
  have hlC : C < W.heap.size := World.block_lt_of_cell? W _ hC
  obtain ⟨A2, c2, rfl, hl2, hm2⟩ := hv2.form
  obtain ⟨A1, c1, rfl, -, -, -⟩ := id hv1
  obtain ⟨A3, c3, rfl, -, -, -⟩ := id hu
  have hbl : bn < rs.length := (List.getElem?_eq_some_iff.1 hs).1
  have hbl' : (bn : Int) < (rs.length : Int) := by omega
  have hb0 : (0 : Int) ≤ (bn : Int) := by omega
  obtain ⟨b, off, p, s', rfl, hbb, hs', hcp, hps⟩ := hv2.at_ hbl
  obtain rfl : s = s' := Option.some.inj (hs.symm.trans hs')
  obtain ⟨A4, c4, rfl, -, -, -⟩ := id hps
  have HC : Hid (∀ w', Below W.heap.size W w' → w'.cell? ⟨B, 0, none⟩ = some (.slice A1 t.length c1) ∧ w'.cell? ⟨C, 0, none⟩ = some (.slice (some ⟨b, off, none⟩) rs.length c2) ∧ w'.cell? ⟨b, off + bn, none⟩ = some (.slice A4 s.length c4)) := Lib.hid (fun w' h => ⟨(h.cell (p := ⟨B, 0, none⟩) hlB).trans hB, (h.cell (p := ⟨C, 0, none⟩) hlC).trans hC, (h.cell (p := ⟨b, off + bn, none⟩) hbb).trans hcp⟩)
  have HT : Hid (∀ w', Below W.heap.size W w' → IRd w' (.slice A1 t.length c1) t ∧ IRd w' (.slice A3 r.length c3) r ∧ IRd w' (.slice A4 s.length c4) s) := Lib.hid (fun w' h => ⟨hv1.keep (SameAt.of_below h), hu.keep (SameAt.of_below h), hps.keep (SameAt.of_below h)⟩)
  have HG : Hid (Grs t ∧ Grs r ∧ Grs s) := Lib.hid ⟨ht, hr, hgs⟩
  obtain ⟨n, hn⟩ : ∃ n, expI t r = n := ⟨_, rfl⟩
  obtain ⟨m, hm⟩ : ∃ m, expI t s = m := ⟨_, rfl⟩
  have HN := Lib.hid hn
  have HM := Lib.hid hm
  rw [hn, hm]
  clear hB hC hv1 hv2 hu hs hs' ht hr hgs hcp hps hn hm hlB hlC
  have key : ∀ (P : Bool), decide (n < m) = P → Calls Try.prog 72 #[.int .i64 (bn : Int), .int .i64 (k : Int), .slice A3 r.length c3, .pointer (some ⟨B, 0, none⟩), .pointer (some ⟨C, 0, none⟩)] W (IntPost (if P = true then (k : Int) else (bn : Int)) W) := by
    intro P hP
    cases P
    all_goals
      go_enter Try.func72, Try.ntmps72
      go_wp2_with fail
      have s0 : Below W.heap.size W W.drew := (Below.refl _ _).drew
      refine wp_region_held_drew (S := fun w' => Below W.heap.size W w') (by kernel_rfl) s0 (fun hHeld => ?_)
      refine take_in (i := 0) (v := ?_) rfl (by kernel_rfl) (fun _ _ _ h => h) rfl ?_ hHeld ?_
      rotate_left
      · intro w' hSw; obtain ⟨c1, c2, c3⟩ := HC.out w' hSw; go_simp; all_goals with_reducible rfl
      try simp only [Act.put, List.setIfInBounds_toArray, List.set_cons_zero, List.set_cons_succ]
      refine take_in (i := 1) (v := ?_) rfl (by kernel_rfl) (fun _ _ _ h => h) rfl ?_ hHeld ?_
      rotate_left
      · intro w' hSw; obtain ⟨c1, c2, c3⟩ := HC.out w' hSw; go_simp; all_goals with_reducible rfl
      try simp only [Act.put, List.setIfInBounds_toArray, List.set_cons_zero, List.set_cons_succ]
      refine take_in (i := 3) (v := ?_) rfl (by kernel_rfl) (fun _ _ _ h => h) rfl ?_ hHeld ?_
      rotate_left
      · intro w' hSw; obtain ⟨c1, c2, c3⟩ := HC.out w' hSw; go_simp; all_goals with_reducible rfl
      try simp only [Act.put, List.setIfInBounds_toArray, List.set_cons_zero, List.set_cons_succ]
      refine take_in (i := 4) (v := ?_) rfl (by kernel_rfl) (fun _ _ _ h => h) rfl ?_ hHeld ?_
      rotate_left
      · intro w' hSw; obtain ⟨c1, c2, c3⟩ := HC.out w' hSw; go_simp; all_goals with_reducible rfl
      try simp only [Act.put, List.setIfInBounds_toArray, List.set_cons_zero, List.set_cons_succ]
      refine take_in (i := 5) (v := ?_) rfl (by kernel_rfl) (fun _ _ _ h => h) rfl ?_ hHeld ?_
      rotate_left
      · intro w' hSw; obtain ⟨c1, c2, c3⟩ := HC.out w' hSw; go_simp; all_goals with_reducible rfl
      try simp only [Act.put, List.setIfInBounds_toArray, List.set_cons_zero, List.set_cons_succ]
      refine take_in (i := 6) (v := ?_) rfl (by kernel_rfl) (fun _ _ _ h => h) rfl ?_ hHeld ?_
      rotate_left
      · intro w' hSw; obtain ⟨c1, c2, c3⟩ := HC.out w' hSw; go_simp; all_goals with_reducible rfl
      try simp only [Act.put, List.setIfInBounds_toArray, List.set_cons_zero, List.set_cons_succ]
      refine take_in (i := 7) (v := ?_) rfl (by kernel_rfl) (fun _ _ _ h => h) rfl ?_ hHeld ?_
      rotate_left
      · intro w' hSw; obtain ⟨c1, c2, c3⟩ := HC.out w' hSw; go_simp; all_goals with_reducible rfl
      try simp only [Act.put, List.setIfInBounds_toArray, List.set_cons_zero, List.set_cons_succ]
      refine ready_one (i := 2) rfl (by kernel_rfl) (fun K hK => ?_)
      go_simp
      go_at_call 63
      refine (implExpected_any W.drew _ _ t r (HT.out _ s0).1 (HT.out _ s0).2.1 HG.out.1 HG.out.2.1).mono ?_
      rintro e x1 ⟨rfl, y1⟩
      rw [HN.out]
      have s1 := below_step s0 y1 s0.size
      refine hK.out _ x1 s1 (fun hHeld => ?_)
      clear hK K
      try simp only [Act.put, List.setIfInBounds_toArray, List.set_cons_zero, List.set_cons_succ]
      refine ready_one (i := 8) rfl (by kernel_rfl) (fun K hK => ?_)
      go_simp
      go_at_call 63
      refine (implExpected_any x1 _ _ t s (HT.out _ s1).1 (HT.out _ s1).2.2 HG.out.1 HG.out.2.2).mono ?_
      rintro e x2 ⟨rfl, y2⟩
      rw [HM.out]
      have s2 := below_step s1 y2 s1.size
      refine hK.out _ x2 s2 (fun hHeld => ?_)
      clear hK K
      try simp only [Act.put, List.setIfInBounds_toArray, List.set_cons_zero, List.set_cons_succ]
      refine take_in (i := 9) (v := ?_) rfl (by kernel_rfl) (fun _ _ _ h => h) rfl ?_ hHeld ?_
      rotate_left
      · intro w' hSw; obtain ⟨c1, c2, c3⟩ := HC.out w' hSw; go_simp; all_goals with_reducible rfl
      try simp only [Act.put, List.setIfInBounds_toArray, List.set_cons_zero, List.set_cons_succ]
      refine wpAnyH_done (by kernel_rfl) ?_ _
      have SF := Lib.hid s2
      clear s0 s1 s2 y1 y2
      go_wp2_with fail
      go_ret
      exact ⟨rfl, SF.out⟩
  by_cases h : n < m
  · have := key true (by simpa using h)
    rw [if_pos h]; exact this
  · have := key false (by simpa using h)
    rw [if_neg h]; exact this

theorem two_grs {t r : List Int} (h : twoB t r = true) : Grs t ∧ Grs r := ⟨grs_of ((twoB_iff t r).1 h).1, grs_of ((twoB_iff t r).1 h).2.1⟩

/-- the place that is held behind k rounds -/
def bsF (t : List Int) (rs : List (List Int)) (k : Nat) : Nat := bestF t rs (k - 1)

theorem bsF_step {t : List Int} {rs : List (List Int)} {k : Nat} {r s : List Int} (hr : rs[k]? = some r) (hs : rs[bsF t rs k]? = some s) : ((bsF t rs (k + 1) : Nat) : Int) = if expI t r < expI t s then (k : Int) else ((bsF t rs k : Nat) : Int) := by
  cases k with
  | zero =>
    have e : s = r := by
      have : bsF t rs 0 = 0 := rfl
      rw [this] at hs
      exact Option.some.inj (hs.symm.trans hr)
    rw [e, if_neg (Int.lt_irrefl _)]; rfl
  | succ j =>
    have e1 : bsF t rs (j + 1) = bestF t rs j := rfl
    rw [e1] at hs ⊢
    show ((bestF t rs (j + 1) : Nat) : Int) = _
    rw [bestF, getD_of hr, getD_of hs]
    split <;> rfl

theorem bsF_lt (t : List Int) (rs : List (List Int)) {k : Nat} (hk : k < rs.length) : bsF t rs k < rs.length := by
  have := best_le t rs (k - 1)
  unfold bsF; omega

set_option maxHeartbeats 4000000 in
theorem foldBest_any (w : World) (v1 v2 : Value) (t : List Int) (rs : List (List Int)) (B C : Nat) (hB : w.cell? ⟨B, 0, none⟩ = some v1) (hC : w.cell? ⟨C, 0, none⟩ = some v2) (hv1 : IRd w v1 t) (hv2 : SRd w v2 rs) (hb : bestB t rs = true) :
    Calls Try.prog 71 #[v2, .int .i64 0, bestV B C] w (IntPost (bestR t rs) w) := by
  have hlB : B < w.heap.size := World.block_lt_of_cell? w _ hB
  have hlC : C < w.heap.size := World.block_lt_of_cell? w _ hC
  obtain ⟨A2, c2, rfl, hl2, hm2⟩ := hv2.form
  have HC : Hid (∀ w', Below w.heap.size w w' → w'.cell? ⟨B, 0, none⟩ = some v1 ∧ w'.cell? ⟨C, 0, none⟩ = some (.slice A2 rs.length c2) ∧ IRd w' v1 t ∧ SRd w' (.slice A2 rs.length c2) rs) := Lib.hid (fun w' h => ⟨(h.cell (p := ⟨B, 0, none⟩) hlB).trans hB, (h.cell (p := ⟨C, 0, none⟩) hlC).trans hC, hv1.keep (SameAt.of_below h), hv2.below h⟩)
  obtain ⟨q1, q2, q3⟩ := (bestB_iff t rs).1 hb
  have HT : Hid (∀ r ∈ rs, Grs t ∧ Grs r) := Lib.hid (fun r hr => two_grs (q3 r hr))
  have HR : Hid (bestR t rs = ((bsF t rs rs.length : Nat) : Int)) := Lib.hid (by
    rw [bestR, if_pos hb]
    obtain ⟨j, hj⟩ : ∃ j, rs.length = j + 1 := ⟨rs.length - 1, by omega⟩
    rw [hj]; rfl)
  clear hB hC hv1 hv2 hb q3 hlB hlC
  unfold bestV
  go_enter Try.func71, Try.ntmps71
  go_wp2_with fail
  go_loopw [7, 13] (fun s i wr => ∃ (k bn : Nat), s = .int .i64 (bn : Int) ∧ i = .int .i64 (k : Int) ∧ k ≤ rs.length ∧ Hid (bsF t rs k = bn) ∧ Hid (Below w.heap.size w wr)) (fun _ i _ => rs.length - (intOf i).toNat)
  case atStart => exact ⟨0, 0, rfl, rfl, Nat.zero_le _, Lib.hid rfl, Lib.hid (Below.refl _ _)⟩
  case round =>
    obtain ⟨k, bn, rfl, rfl, hk, HBN, HB⟩ := hrel
    by_cases hlt : k < rs.length
    · have hlt' : (k : Int) < (rs.length : Int) := by omega
      obtain ⟨h1, h2, h3, h4⟩ := HC.out wr HB.out
      obtain ⟨b, off, p, r, rfl, -, hr, hc, hp⟩ := h4.at_ hlt
      have hbl : bn < rs.length := by rw [← HBN.out]; exact bsF_lt t rs hlt
      obtain ⟨s, hs⟩ : ∃ s, rs[bn]? = some s := ⟨_, List.getElem?_eq_getElem hbl⟩
      have HX : Hid (((bsF t rs (k + 1) : Nat) : Int) = if expI t r < expI t s then (k : Int) else (bn : Int)) := Lib.hid (by
        have := bsF_step (t := t) hr (s := s) (by rw [HBN.out]; exact hs)
        rwa [HBN.out] at this)
      have HA := Lib.hid (best1_any wr bn k p v1 _ r t s rs B C h1 h2 h3 h4 hp hs (HT.out r (List.mem_of_getElem? hr)).1 (HT.out r (List.mem_of_getElem? hr)).2 (HT.out s (List.mem_of_getElem? hs)).2)
      clear h1 h2 h3 h4 hr hp hs
      go_wp2_with fail
      refine HA.out.mono ?_
      rintro e w2 ⟨rfl, b2⟩
      have HB2 := Lib.hid (below_step HB.out b2 HB.out.size)
      rw [← HX.out]
      clear b2 hc HA
      obtain ⟨n, hn⟩ : ∃ n, bsF t rs (k + 1) = n := ⟨_, rfl⟩
      rw [hn]
      have HN := Lib.hid hn
      clear hn
      go_wp2_with fail
      go_roundw
      case rel => exact ⟨k + 1, n, rfl, by go_num, by omega, HN, HB2⟩
      case measure => simp [intOf]; omega
    · obtain rfl : k = rs.length := by omega
      have hlt' : decide ((rs.length : Int) < (rs.length : Int)) = false := by simp
      go_wp2_with fail
      go_ret
      exact ⟨by rw [HR.out, HBN.out]; rfl, HB.out⟩

set_option maxHeartbeats 2000000 in
theorem implBestReport_any (w : World) (v u : Value) (a : List Int) (b : List (List Int)) (hv : IRd w v a) (hu : SRd w u b) :
    Calls Try.prog 31 #[v, u] w (IntPost (bestR a b) w) := by
  obtain ⟨A2, c2, rfl, hl2, hm2⟩ := hu.form
  obtain ⟨A1, c1, rfl, -, -, -⟩ := id hv
  have HK : Hid (∃ w1 w2, w1 = w.alloc (.cells #[.slice A1 a.length c1] 23) ∧ w2 = w1.alloc (.cells #[.slice A2 b.length c2] 35) ∧ w1.heap.size = w.heap.size + 1 ∧ Below w.heap.size w w2 ∧ w2.cell? ⟨w.heap.size, 0, none⟩ = some (.slice A1 a.length c1) ∧ w2.cell? ⟨w.heap.size + 1, 0, none⟩ = some (.slice A2 b.length c2)) := Lib.hid (by
    refine ⟨_, _, rfl, rfl, by simp, ((Below.refl _ _).alloc (Nat.le_refl _) _).alloc (by simp) _, ?_, ?_⟩
    · have h1 := one_new w (.slice A1 a.length c1) 23 0 _ rfl
      have h2 := (Below.refl (w.heap.size + 1) (w.alloc (.cells #[.slice A1 a.length c1] 23))).alloc (by simp) (.cells #[.slice A2 b.length c2] 35)
      exact (h2.cell (p := ⟨w.heap.size, 0, none⟩) (Nat.lt_succ_self _)).trans h1
    · have h1 := one_new (w.alloc (.cells #[.slice A1 a.length c1] 23)) (.slice A2 b.length c2) 35 0 _ rfl
      rw [World.size_alloc] at h1
      exact h1)
  have HV : Hid (∀ w', Below w.heap.size w w' → IRd w' (.slice A1 a.length c1) a ∧ SRd w' (.slice A2 b.length c2) b) := Lib.hid (fun w' h => ⟨hv.keep (SameAt.of_below h), hu.below h⟩)
  clear hv hu
  obtain ⟨w1, w2, e1, e2, hsz, hB, hcell1, hcell2⟩ := HK.out
  have HB := Lib.hid hB
  have HE1 := Lib.hid e1
  have HE2 := Lib.hid e2
  clear HK hB e1 e2 hsz
  obtain ⟨t, ht⟩ : ∃ t, bestB a b = t := ⟨_, rfl⟩
  have HT := Lib.hid ht
  cases t
  · have HR : Hid (bestR a b = -1) := Lib.hid (by rw [bestR, ht]; rfl)
    clear ht
    go_enter Try.func31, Try.ntmps31
    go_wp2_with fail
    rw [← HE1.out, ← HE2.out]
    go_wp2_with fail
    refine (reportsOk_any _ _ _ _ _ (HV.out _ HB.out).1 (HV.out _ HB.out).2).mono ?_
    rintro r w' ⟨rfl, rfl⟩
    rw [HT.out]
    go_wp2_with fail
    go_ret
    exact ⟨by rw [HR.out]; rfl, HB.out⟩
  · clear ht
    go_enter Try.func31, Try.ntmps31
    go_wp2_with fail
    rw [← HE1.out, ← HE2.out]
    go_wp2_with fail
    refine (reportsOk_any _ _ _ _ _ (HV.out _ HB.out).1 (HV.out _ HB.out).2).mono ?_
    rintro r w' ⟨rfl, rfl⟩
    rw [HT.out]
    go_wp2_with fail
    refine (foldBest_any w2 _ _ a b w.heap.size (w.heap.size + 1) hcell1 hcell2 (HV.out _ HB.out).1 (HV.out _ HB.out).2 HT.out).mono ?_
    rintro r w3 ⟨rfl, b3⟩
    have HB3 := Lib.hid (below_step HB.out b3 HB.out.size)
    clear b3
    go_wp2_with fail
    go_ret
    exact ⟨rfl, HB3.out⟩

end Go.Proofs.Ytnkgnhnggjoglaa
