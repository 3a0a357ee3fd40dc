/- Contracts of spec's functions of chapter 12 but LearnedAll. Conditions: rows that read as lists. (gen_hc.py) -/
import Derived.Test.YtbjmhbkpeglpkaaHb
import Derived.Test.YtbjmhbkpeglpkaaGf
import Derived.Test.YtbjmhbkpeglpkaaRh
import Derived.BigRegion
namespace Go.Proofs.Ytbjmhbkpeglpkaa
open Go.RowKit
set_option linter.unusedVariables false

theorem someB_take {w : List Int} {k : Nat} {x : Int} (h : w[k]? = some x) : someB (w.take (k + 1)) = (someB (w.take k) || decide (0 < x)) := by
  rw [someB, someB, List.take_add_one, h, Option.toList_some, List.any_append]; simp

theorem rng_take {w : List Int} {k : Nat} {x : Int} {B : Int} (h : w[k]? = some x) (ih : ∀ y ∈ w.take k, 0 ≤ y ∧ y ≤ B) (hx : 0 ≤ x ∧ x ≤ B) : ∀ y ∈ w.take (k + 1), 0 ≤ y ∧ y ≤ B := by
  intro y hy
  rw [List.take_add_one, h, Option.toList_some, List.mem_append, List.mem_singleton] at hy
  rcases hy with hy | rfl
  · exact ih y hy
  · exact hx

theorem wgtB_end {w : List Int} (h : ∀ y ∈ w, 0 ≤ y ∧ y ≤ 1000000) : wgtB w = (inB (w.length : Int) 1 4 && someB w) := by
  have : w.all (fun x => inB x 0 1000000) = true := List.all_eq_true.2 (fun x hx => (inB_iff _ _ _).2 (h x hx))
  rw [wgtB, this, Bool.true_and]; rfl

theorem wgtB_bad {w : List Int} {k : Nat} {x : Int} (h : w[k]? = some x) (hx : inB x 0 1000000 = false) : wgtB w = false := by
  rw [← Bool.not_eq_true, wgtB_iff]
  rintro ⟨h1, -⟩
  rw [← Bool.not_eq_true, inB_iff] at hx
  exact hx (h1 x (List.mem_of_getElem? h))

set_option maxHeartbeats 4000000 in
theorem specWeightsOk_any (w : World) (v : Value) (xs : List Int) (hv : IRd w v xs) :
    Calls Try.prog 18 #[v] w fun r w' => r = .returned (.bool (wgtB xs)) ∧ w = w' := by
  obtain ⟨A, c, rfl, hl, hmx, -⟩ := id hv
  have HV := Lib.hid hv
  clear hv
  go_enter Try.func18, Try.ntmps18
  go_wp2_with fail
  go_loop [3, 4] (fun s i => ∃ (k : Nat) (t : Bool), i = .int .i64 (k : Int) ∧ s = .bool t ∧ k ≤ xs.length ∧ Hid (t = someB (xs.take k)) ∧ Hid (∀ y ∈ xs.take k, 0 ≤ y ∧ y ≤ 1000000)) (fun _ i => xs.length - (intOf i).toNat)
  case atStart => exact ⟨0, false, rfl, rfl, Nat.zero_le _, Lib.hid (by simp [someB]), Lib.hid (by simp)⟩
  case round =>
    obtain ⟨k, t, rfl, rfl, hk, HT, HA⟩ := hrel
    by_cases hlt : k < xs.length
    · have hlt' : (k : Int) < (xs.length : Int) := by omega
      obtain ⟨b, off, x, rfl, -, hx, hcx⟩ := HV.out.at_ hlt
      have HX := Lib.hid hx
      clear hx
      rcases Bool.eq_false_or_eq_true (inB x 0 1000000) with h1 | h1
      · have HA2 := Lib.hid (rng_take HX.out HA.out ((inB_iff _ _ _).1 h1))
        have HT2 := Lib.hid (someB_take HX.out)
        by_cases h0 : 0 < x
        · have HS : Hid (true = someB (xs.take (k + 1))) := Lib.hid (by rw [HT2.out, decide_eq_true h0, Bool.or_true])
          cases t
          all_goals
            go_wp2_with fail
            refine (l1In_any _ _ _ _).mono ?_
            rintro r w' ⟨rfl, rfl⟩
            rw [h1]
            go_wp2_with fail
            go_round
            case rel => exact ⟨k + 1, true, by go_num, rfl, by omega, HS, HA2⟩
            case measure => simp [intOf]; omega
        · have h0' : decide (0 < x) = false := decide_eq_false h0
          have HS : Hid (t = someB (xs.take (k + 1))) := Lib.hid (by rw [HT2.out, h0', Bool.or_false]; exact HT.out)
          cases t
          all_goals
            go_wp2_with fail
            refine (l1In_any _ _ _ _).mono ?_
            rintro r w' ⟨rfl, rfl⟩
            rw [h1]
            go_wp2_with fail
            go_round
            case rel => exact ⟨k + 1, _, by go_num, rfl, by omega, HS, HA2⟩
            case measure => simp [intOf]; omega
      · have HN := Lib.hid (wgtB_bad HX.out h1)
        go_wp2_with fail
        refine (l1In_any _ _ _ _).mono ?_
        rintro r w' ⟨rfl, rfl⟩
        rw [h1]
        go_wp2_with fail
        go_ret
        exact ⟨ret_bool HN.out.symm, rfl⟩
    · obtain rfl : k = xs.length := by omega
      have hlt' : decide ((xs.length : Int) < (xs.length : Int)) = false := by simp
      have HE : Hid (wgtB xs = (inB (xs.length : Int) 1 4 && t)) := Lib.hid (by have h1 := HA.out; have h2 := HT.out; rw [List.take_length] at h1 h2; rw [wgtB_end h1, h2])
      obtain ⟨u, hu⟩ : ∃ u, inB (xs.length : Int) 1 4 = u := ⟨_, rfl⟩
      rw [hu] at HE
      go_wp2_with fail
      refine (l1In_any _ _ _ _).mono ?_
      rintro r w' ⟨rfl, rfl⟩
      rw [hu]
      clear hu
      cases u
      · go_wp2_with fail
        go_ret
        exact ⟨ret_bool (by rw [HE.out]; rfl), rfl⟩
      · go_wp2_with fail
        go_ret
        exact ⟨ret_bool (by rw [HE.out]; rfl), rfl⟩

theorem eviB_end {W : Int} {row : List Int} (h : ∀ y ∈ row, 0 ≤ y ∧ y ≤ 9) : eviB W row = (inB W 1 4 && ((row.length : Int) == W)) := by
  have : row.all (fun x => inB x 0 9) = true := List.all_eq_true.2 (fun x hx => (inB_iff _ _ _).2 (h x hx))
  rw [eviB, this, Bool.true_and]

theorem eviB_bad {W : Int} {row : List Int} {k : Nat} {x : Int} (h : row[k]? = some x) (hx : inB x 0 9 = false) : eviB W row = false := by
  rw [← Bool.not_eq_true, eviB_iff]
  rintro ⟨h1, -⟩
  rw [← Bool.not_eq_true, inB_iff] at hx
  exact hx (h1 x (List.mem_of_getElem? h))

set_option maxHeartbeats 4000000 in
theorem specEvidenceOk_any (w : World) (W : Int) (v : Value) (xs : List Int) (hv : IRd w v xs) :
    Calls Try.prog 27 #[.int .i64 W, v] w fun r w' => r = .returned (.bool (eviB W xs)) ∧ w = w' := by
  obtain ⟨A, c, rfl, hl, hmx, -⟩ := id hv
  have HV := Lib.hid hv
  clear hv
  go_enter Try.func27, Try.ntmps27
  go_wp2_with fail
  go_loop [5] (fun i => ∃ k : Nat, i = .int .i64 (k : Int) ∧ k ≤ xs.length ∧ Hid (∀ y ∈ xs.take k, 0 ≤ y ∧ y ≤ 9)) (fun i => xs.length - (intOf i).toNat)
  case atStart => exact ⟨0, rfl, Nat.zero_le _, Lib.hid (by simp)⟩
  case round =>
    obtain ⟨k, rfl, hk, HA⟩ := hrel
    by_cases hlt : k < xs.length
    · have hlt' : (k : Int) < (xs.length : Int) := by omega
      obtain ⟨b, off, x, rfl, -, hx, hcx⟩ := HV.out.at_ hlt
      have HX := Lib.hid hx
      clear hx
      rcases Bool.eq_false_or_eq_true (inB x 0 9) with h1 | h1
      · have HA2 := Lib.hid (rng_take HX.out HA.out ((inB_iff _ _ _).1 h1))
        go_wp2_with fail
        refine (l1In_any _ _ _ _).mono ?_
        rintro r w' ⟨rfl, rfl⟩
        rw [h1]
        go_wp2_with fail
        go_round
        case rel => exact ⟨k + 1, by go_num, by omega, HA2⟩
        case measure => simp [intOf]; omega
      · have HN := Lib.hid (eviB_bad (W := W) HX.out h1)
        go_wp2_with fail
        refine (l1In_any _ _ _ _).mono ?_
        rintro r w' ⟨rfl, rfl⟩
        rw [h1]
        go_wp2_with fail
        go_ret
        exact ⟨ret_bool HN.out.symm, rfl⟩
    · obtain rfl : k = xs.length := by omega
      have hlt' : decide ((xs.length : Int) < (xs.length : Int)) = false := by simp
      have HE : Hid (eviB W xs = (inB W 1 4 && ((xs.length : Int) == W))) := Lib.hid (by have h1 := HA.out; rw [List.take_length] at h1; exact eviB_end h1)
      obtain ⟨u, hu⟩ : ∃ u, inB W 1 4 = u := ⟨_, rfl⟩
      rw [hu] at HE
      go_wp2_with fail
      refine (l1In_any _ _ _ _).mono ?_
      rintro r w' ⟨rfl, rfl⟩
      rw [hu]
      clear hu
      cases u
      · go_wp2_with fail
        go_ret
        exact ⟨ret_bool (by rw [HE.out]; rfl), rfl⟩
      · go_wp2_with fail
        go_ret
        exact ⟨ret_bool (by rw [HE.out]; rfl), rfl⟩

set_option maxRecDepth 100000 in
set_option maxHeartbeats 2000000 in
theorem specCommon12_any (a b : Int) (h1 : 0 ≤ a ∧ a ≤ 1000000000) (h2 : 0 ≤ b ∧ b ≤ 1000000000) (W : World) :
    Calls Try.prog 69 #[.int .i64 a, .int .i64 b] W fun r W' => r = .returned (.int .i64 (gcI a b)) ∧ W = W' := by
  obtain ⟨n, rfl⟩ : ∃ n : Nat, a = n := ⟨a.toNat, by omega⟩
  obtain ⟨d, rfl⟩ : ∃ d : Nat, b = d := ⟨b.toNat, by omega⟩
  have hn : n ≤ 1000000000 := by omega
  have hd : d ≤ 1000000000 := by omega
  clear h1 h2
  go_enter Try.func69, Try.ntmps69
  go_wp2_with fail
  go_loop [0, 1] (fun x y => ∃ u v : Nat, x = .int .i64 (u : Int) ∧ y = .int .i64 (v : Int) ∧ u ≤ 1000000000 ∧ v ≤ 1000000000 ∧ Hid (Nat.gcd v u = Nat.gcd d n)) (fun _ y => (intOf y).toNat)
  case atStart => exact ⟨n, d, rfl, rfl, hn, hd, Lib.hid rfl⟩
  case round =>
    obtain ⟨u, v, rfl, rfl, hu, hv, HG⟩ := hrel
    by_cases hv0 : 0 < v
    · have hv1 : (0 : Int) < (v : Int) := by omega
      have hvn : ((v : Int) == 0) = false := by rw [beq_eq_false_iff_ne]; omega
      have ht : (u : Int).tmod (v : Int) = ((u % v : Nat) : Int) := by rw [Int.tmod_eq_emod_of_nonneg (by omega)]; rfl
      have hr : u % v < v := Nat.mod_lt _ hv0
      have HG2 := Lib.hid (show Nat.gcd (u % v) v = Nat.gcd d n by rw [← HG.out, Nat.gcd_rec v u])
      obtain ⟨x, hx⟩ : ∃ x, u % v = x := ⟨_, rfl⟩
      rw [hx] at ht hr HG2
      clear hx
      go_wp2_with fail
      go_round
      case rel => exact ⟨v, x, rfl, rfl, hv, by omega, HG2⟩
      case measure => simp [intOf]; omega
    · obtain rfl : v = 0 := by omega
      have HE : Hid (u = Nat.gcd n d) := Lib.hid (by have := HG.out; rw [Nat.gcd_zero_left] at this; rw [this, Nat.gcd_comm])
      have HR : Hid (gcI (n : Int) (d : Int) = ((max u 1 : Nat) : Int)) := Lib.hid (by unfold gcI; rw [Int.toNat_natCast, Int.toNat_natCast, ← HE.out])
      clear HG
      by_cases h1 : u < 1
      · have h1' : (u : Int) < 1 := by omega
        go_wp2_with fail
        go_ret
        exact ⟨ret_int (by rw [HR.out]; omega), rfl⟩
      · have h1' : (1 : Int) ≤ (u : Int) := by omega
        go_wp2_with fail
        go_ret
        exact ⟨ret_int (by rw [HR.out]; omega), rfl⟩

theorem gcn_bound {xs : List Int} (h : ∀ x ∈ xs, 0 ≤ x ∧ x ≤ 1000000) (k : Nat) : gcn (xs.take k) ≤ 1000000 := by
  by_cases hs : ∃ x ∈ xs.take k, 0 < x
  · obtain ⟨x, hx, h0⟩ := hs
    have := gcn_le hx h0
    have := h x (List.mem_of_mem_take hx)
    omega
  · have : ∀ ys : List Int, (∀ x ∈ ys, x.toNat = 0) → gcn ys = 0 := by
      intro ys
      induction ys with
      | nil => intro _; rfl
      | cons y ys ih =>
        intro hy
        rw [gcn, hy y (by simp), ih (fun x hx => hy x (List.mem_cons_of_mem _ hx)), Nat.gcd_zero_left]
    rw [this _ (fun x hx => by
      have := h x (List.mem_of_mem_take hx)
      rcases (show x = 0 ∨ 0 < x from by omega) with h1 | h1
      · omega
      · exact absurd ⟨x, hx, h1⟩ hs)]
    omega

set_option maxRecDepth 100000 in
set_option maxHeartbeats 8000000 in
theorem specDiv12_any (w : World) (v : Value) (xs : List Int) (hv : IRd w v xs) (hb : ∀ x ∈ xs, 0 ≤ x ∧ x ≤ 1000000) :
    Calls Try.prog 60 #[v] w fun r w' => r = .returned (.int .i64 ((max (gcn xs) 1 : Nat) : Int)) ∧ w = w' := by
  obtain ⟨A, c, rfl, hl, hmx, -⟩ := id hv
  have HV := Lib.hid hv
  have HB := Lib.hid hb
  clear hv hb
  go_enter Try.func60, Try.ntmps60
  go_wp2_with fail
  go_loop [3, 4] (fun s i => ∃ k g : Nat, i = .int .i64 (k : Int) ∧ s = .int .i64 (g : Int) ∧ k ≤ xs.length ∧ g ≤ 1000000 ∧ Hid (g = gcn (xs.take k))) (fun _ i => xs.length - (intOf i).toNat)
  case atStart => exact ⟨0, 0, rfl, rfl, Nat.zero_le _, by omega, Lib.hid rfl⟩
  case round =>
    obtain ⟨k, g, rfl, rfl, hk, hg, HG⟩ := hrel
    by_cases hlt : k < xs.length
    · have hlt' : (k : Int) < (xs.length : Int) := by omega
      obtain ⟨b, off, x, rfl, -, hx, hcx⟩ := HV.out.at_ hlt
      have HNX := Lib.hid (gcn_take hx)
      have hx0 := HB.out x (List.mem_of_getElem? hx)
      have HLE := Lib.hid (gcn_bound HB.out (k + 1))
      obtain ⟨n, rfl⟩ : ∃ n : Nat, x = n := ⟨x.toNat, by omega⟩
      have hn6 : n ≤ 1000000 := by omega
      clear hx hx0
      by_cases hn0 : n = 0
      · subst hn0
        have HNX2 : Hid (g = gcn (xs.take (k + 1))) := Lib.hid (by rw [HNX.out, ← HG.out]; simp)
        go_wp2_with fail
        go_round
        case rel => exact ⟨k + 1, g, by go_num, rfl, by omega, hg, HNX2⟩
        case measure => simp [intOf]; omega
      · have hnb : ((n : Int) == 0) = false := by rw [beq_eq_false_iff_ne]; omega
        by_cases hg0 : g = 0
        · subst hg0
          have HNX2 : Hid (n = gcn (xs.take (k + 1))) := Lib.hid (by rw [HNX.out, ← HG.out, Nat.gcd_zero_left, Int.toNat_natCast])
          go_wp2_with fail
          go_round
          case rel => exact ⟨k + 1, n, by go_num, rfl, by omega, hn6, HNX2⟩
          case measure => simp [intOf]; omega
        · have hgb : ((g : Int) == 0) = false := by rw [beq_eq_false_iff_ne]; omega
          have HGC : Hid (gcI (g : Int) (n : Int) = ((gcn (xs.take (k + 1)) : Nat) : Int)) := Lib.hid (by
            unfold gcI
            rw [Int.toNat_natCast, Int.toNat_natCast, HNX.out, ← HG.out, Int.toNat_natCast, Nat.max_eq_left]
            exact Nat.gcd_pos_of_pos_right _ (by omega))
          go_wp2_with fail
          refine (specCommon12_any (g : Int) (n : Int) (by omega) (by omega) _).mono ?_
          rintro r w' ⟨rfl, rfl⟩
          rw [HGC.out]
          go_wp2_with fail
          go_round
          case rel => exact ⟨k + 1, _, by go_num, rfl, by omega, HLE.out, Lib.hid rfl⟩
          case measure => simp [intOf]; omega
    · have hge : (xs.length : Int) ≤ (k : Int) := by omega
      have HE : Hid (((max (gcn xs) 1 : Nat) : Int) = ((max g 1 : Nat) : Int)) := Lib.hid (by rw [HG.out, show k = xs.length by omega, List.take_length])
      by_cases h1 : g < 1
      · have h1' : (g : Int) < 1 := by omega
        go_wp2_with fail
        go_ret
        exact ⟨ret_int (by rw [HE.out]; omega), rfl⟩
      · have h1' : (1 : Int) ≤ (g : Int) := by omega
        go_wp2_with fail
        go_ret
        exact ⟨ret_int (by rw [HE.out]; omega), rfl⟩

/-- a fresh row of ints holds the first k of zs -/
def ARel12 (w : World) (zs : List Int) (k : Nat) (p : Value) (wr : World) : Prop := IOwn wr w.heap.size p (zs.take k) ∧ Below w.heap.size w wr

theorem lit12 (w : World) (base : Nat) (hb : base ≤ w.heap.size) : IOwn (w.alloc (.cells #[] 3)) base (.slice (some ⟨w.heap.size, 0, none⟩) 0 0) [] :=
  World.ownsRow_lit w #[] 0 hb (by unfold maxLen; omega) rfl

theorem ARel12.start (w : World) (zs : List Int) : ARel12 w zs 0 (.slice (some ⟨w.heap.size, 0, none⟩) 0 0) (w.alloc (.cells #[] 3)) := ⟨lit12 w _ (Nat.le_refl _), (Below.refl _ _).alloc (Nat.le_refl _) _⟩

theorem run_app12 (w : World) (base : Nat) (v : Value) (xs : List Int) (L : Nat) (hL : xs.length = L) (n : Int) (hown : IOwn w base v xs) (h1 : L ≤ 1000000) (hb : base ≤ w.heap.size) :
    ∃ g c w', (Builtin.append_ #[23, 23] 23 #[v, .slice (some ⟨w.heap.size, 0, none⟩) 1 1]).run Try.prog (w.alloc (.cells #[.int .i64 n] 3)) = .ok (.slice (some ⟨g, 0, none⟩) (L + 1) c) w' ∧ IOwn w' base (.slice (some ⟨g, 0, none⟩) (L + 1) c) (xs ++ [n]) ∧ w.grownBy w' v.ownBlock := by
  subst hL
  obtain ⟨i0, hi, hz0, hz1, hz2⟩ := info_parts Try_intinfo
  have hown2 : (w.alloc (.cells #[.int .i64 n] 3)).ownsRow base 3 1 v xs.length (xs.map (Value.int .i64)) := World.ownsRow.alloc hown _
  obtain ⟨v', w', k0, k1, k2, -, k4⟩ := run_append_own_at (P := Try.prog) (w.alloc (.cells #[.int .i64 n] 3)) base 23 23 3 i0 (.int .i64 0) 1 8 Try.underlying23 hi hz0 hz1 hz2 rfl (by decide) v xs.length (xs.map (Value.int .i64)) hown2 ⟨w.heap.size, 0, none⟩ 1 1 [.int .i64 n] rfl (one_new w _ _) one_int (by unfold maxLen; omega) (by omega) (by simp; omega)
  have hl : (xs ++ [n]).length = xs.length + 1 := by simp
  obtain ⟨g, c, hv, -⟩ : ∃ g c, v' = .slice (some ⟨g, 0, none⟩) (xs.length + 1) c ∧ True := by
    rcases k1.2 with ⟨-, hz⟩ | ⟨g, cap, cur, e, -⟩
    · omega
    · exact ⟨g, cap, e, trivial⟩
  subst hv
  refine ⟨g, c, w', k0, ?_, grown_after ((Below.refl _ w).alloc (Nat.le_refl _) _) k2⟩
  unfold IOwn
  rw [hl, List.map_append]
  exact k1

set_option maxRecDepth 100000 in
set_option maxHeartbeats 8000000 in
theorem specReducedWeights_any (w : World) (v : Value) (xs : List Int) (hv : IRd w v xs) :
    Calls Try.prog 23 #[v] w (NewInts (redR xs) w) := by
  obtain ⟨A, c, rfl, hl, hmx, -⟩ := id hv
  have HV : Hid (∀ wr, Below w.heap.size w wr → IRd wr (.slice A xs.length c) xs) := Lib.hid (fun wr hb => hv.keep (SameAt.of_below hb))
  clear hv
  have D0 := Lib.hid (ARel12.start w (redL xs))
  rcases Bool.eq_false_or_eq_true (wgtB xs) with h | h
  · have HR : Hid (redR xs = redL xs) := Lib.hid (by rw [redR, if_pos h])
    have HB := Lib.hid ((wgtB_iff xs).1 h).1
    have hl4 := ((wgtB_iff xs).1 h).2.1.2
    have HZ := Lib.hid (red_len xs)
    have hgp := wgt_gcn h
    have HW := Lib.hid (wgt_of h)
    have HGB := Lib.hid (gcn_bound HB.out xs.length)
    obtain ⟨g, hg⟩ : ∃ g, gcn xs = g := ⟨_, rfl⟩
    rw [hg] at hgp
    have HD : Hid (((max (gcn xs) 1 : Nat) : Int) = (g : Int)) := Lib.hid (by rw [hg]; omega)
    have HGG := Lib.hid hg
    have H := Lib.hid h
    clear hg h
    go_enter Try.func23, Try.ntmps23
    go_wp2_with fail
    go_loopw [3, 4] (fun p i wr => ∃ (k g1 c1 : Nat), p = .slice (some ⟨g1, 0, none⟩) k c1 ∧ i = .int .i64 (k : Int) ∧ k ≤ xs.length ∧ Hid (ARel12 w (redL xs) k (.slice (some ⟨g1, 0, none⟩) k c1) wr)) (fun _ i _ => xs.length - (intOf i).toNat)
    case atStart => exact ⟨0, w.heap.size, 0, rfl, rfl, Nat.zero_le _, D0⟩
    case round =>
      obtain ⟨k, g1, c1, rfl, rfl, hk, HF⟩ := hrel
      clear D0
      by_cases hlt : k < xs.length
      · have hlt' : (k : Int) < (xs.length : Int) := by omega
        have hk0 : (0 : Int) ≤ (k : Int) := by omega
        obtain ⟨b, off, x, rfl, -, hx, -⟩ := (HV.out wr HF.out.2).at_ hlt
        have HC : Hid (∀ w', Below w.heap.size w w' → w'.cell? ⟨b, off + k, none⟩ = some (.int .i64 x)) := Lib.hid (fun w' hb => by
          obtain ⟨b', off', x', e, -, hx', hc⟩ := (HV.out w' hb).at_ hlt
          injection e with e
          injection e with e1 e2
          subst e1; subst e2
          rw [hx] at hx'
          obtain rfl := Option.some.inj hx'
          exact hc)
        have hxb := HB.out x (List.mem_of_getElem? hx)
        have hg0 : ¬ ((g : Int) = 0) := by omega
        have hg0' : ¬ (g = 0) := by omega
        obtain ⟨y, hy⟩ : ∃ y, x / (g : Int) = y := ⟨_, rfl⟩
        have hyb : 0 ≤ y ∧ y ≤ x := by rw [← hy]; exact ⟨Int.ediv_nonneg hxb.1 (by omega), Int.ediv_le_self _ hxb.1⟩
        have hq : x.tdiv (g : Int) = y := by rw [Int.tdiv_eq_ediv_of_nonneg hxb.1]; exact hy
        have HS : Hid ((redL xs)[k]? = some y) := Lib.hid (by rw [red_at hx, HGG.out, hy])
        have HLK : Hid (((redL xs).take k).length = k) := Lib.hid (by rw [List.length_take, HZ.out]; omega)
        have hw1 : wrap64 y = y := IntWalk.wrap64_in _ (by omega)
        have hw2 : IntKind.i64.wrap y = y := IntWalk.i64_in _ (by omega)
        clear hx hy hyb hxb
        go_wp2_with fail
        refine (specWeightsOk_any wr _ xs (HV.out wr HF.out.2)).mono ?_
        rintro r w' ⟨rfl, rfl⟩
        rw [H.out]
        go_wp2_with fail
        have k0 : Below w.heap.size w wr.drew := HF.out.2.drew
        refine wp_region_held_drew (S := fun w' => Below w.heap.size w w') (by kernel_rfl) k0 (fun hHeld => ?_)
        refine take_in (i := 0) (v := ?_) rfl (by kernel_rfl) (fun _ _ _ h => h) rfl ?_ hHeld ?_
        rotate_left
        · intro w' hSw; go_simp; all_goals with_reducible rfl
        try simp only [Act.put, List.setIfInBounds_toArray, List.set_cons_zero, List.set_cons_succ]
        refine take_in (i := 1) (v := ?_) rfl (by kernel_rfl) (fun _ _ _ h => h) rfl ?_ hHeld ?_
        rotate_left
        · intro w' hSw; go_simp; all_goals with_reducible rfl
        try simp only [Act.put, List.setIfInBounds_toArray, List.set_cons_zero, List.set_cons_succ]
        refine take_in (i := 2) (v := ?_) rfl (by kernel_rfl) (fun _ _ _ h => h) rfl ?_ hHeld ?_
        rotate_left
        · intro w' hSw; go_simp; all_goals with_reducible rfl
        try simp only [Act.put, List.setIfInBounds_toArray, List.set_cons_zero, List.set_cons_succ]
        refine take_in (i := 3) (v := ?_) rfl (by kernel_rfl) (fun _ _ _ h => h) rfl ?_ hHeld ?_
        rotate_left
        · intro w' hSw; go_simp; all_goals with_reducible rfl
        try simp only [Act.put, List.setIfInBounds_toArray, List.set_cons_zero, List.set_cons_succ]
        refine take_in (i := 4) (v := ?_) rfl (by kernel_rfl) (fun _ _ _ h => h) rfl ?_ hHeld ?_
        rotate_left
        · intro w' hSw; have d0 := HC.out w' hSw; go_simp; all_goals with_reducible rfl
        try simp only [Act.put, List.setIfInBounds_toArray, List.set_cons_zero, List.set_cons_succ]
        refine take_in (i := 5) (v := ?_) rfl (by kernel_rfl) (fun _ _ _ h => h) rfl ?_ hHeld ?_
        rotate_left
        · intro w' hSw; go_simp; all_goals with_reducible rfl
        try simp only [Act.put, List.setIfInBounds_toArray, List.set_cons_zero, List.set_cons_succ]
        refine ready_one (i := 6) rfl (by kernel_rfl) (fun K hK => ?_)
        go_simp
        go_at_call 60
        refine (specDiv12_any wr.drew _ xs (HV.out _ k0) HB.out).mono ?_
        rintro e w' ⟨rfl, rfl⟩
        rw [HD.out]
        refine hK.out _ wr.drew k0 (fun hHeld => ?_)
        clear hK K
        try simp only [Act.put, List.setIfInBounds_toArray, List.set_cons_zero, List.set_cons_succ]
        refine take_in (i := 7) (v := ?_) rfl (by kernel_rfl) (fun _ _ _ h => h) rfl ?_ hHeld ?_
        rotate_left
        · intro w' hSw; go_simp; all_goals with_reducible rfl
        try simp only [Act.put, List.setIfInBounds_toArray, List.set_cons_zero, List.set_cons_succ]
        refine ready_one (i := 8) rfl (by kernel_rfl) (fun K hK => ?_)
        go_simp
        have k2 : Below w.heap.size w (wr.drew.alloc (.cells #[.int .i64 y] 3)) := k0.alloc k0.size _
        refine hK.out _ (wr.drew.alloc (.cells #[.int .i64 y] 3)) k2 (fun hHeld => ?_)
        clear hK K
        try simp only [Act.put, List.setIfInBounds_toArray, List.set_cons_zero, List.set_cons_succ]
        refine ready_one (i := 9) rfl (by kernel_rfl) (fun K hK => ?_)
        obtain ⟨g9, c9, x9, r9, o9, q9⟩ := run_app12 wr.drew w.heap.size _ _ k HLK.out y (show IOwn wr.drew w.heap.size _ _ from HF.out.1) (by omega) k0.size
        refine step_append (s := .tmp 16) (x := .tmp 24) rfl rfl r9 ?_
        have k9 : Below w.heap.size w x9 := k0.grown q9 k0.size (fun g' hg' => (IOwn.ge (show IOwn wr.drew w.heap.size _ _ from HF.out.1) g' hg').1)
        have HF9 : Hid (ARel12 w (redL xs) (k + 1) (.slice (some ⟨g9, 0, none⟩) (k + 1) c9) x9) := Lib.hid ⟨by rw [List.take_add_one, HS.out]; exact o9, k9⟩
        refine hK.out _ x9 k9 (fun hHeld => ?_)
        clear hK K
        try simp only [Act.put, List.setIfInBounds_toArray, List.set_cons_zero, List.set_cons_succ]
        refine take_in (i := 10) (v := ?_) rfl (by kernel_rfl) (fun _ _ _ h => h) rfl ?_ hHeld ?_
        rotate_left
        · intro w' hSw; go_simp; all_goals with_reducible rfl
        try simp only [Act.put, List.setIfInBounds_toArray, List.set_cons_zero, List.set_cons_succ]
        refine wpAnyH_done (by kernel_rfl) ?_ _
        clear k0 k2 k9 o9 q9 r9
        go_wp2_with fail
        go_roundw
        case rel => exact ⟨k + 1, g9, c9, rfl, by go_num, by omega, HF9⟩
        case measure => simp [intOf]; omega
      · obtain rfl : k = xs.length := by omega
        have hlt' : decide ((xs.length : Int) < (xs.length : Int)) = false := by simp
        go_wp2_with fail
        go_ret
        exact ⟨_, rfl, by rw [HR.out]; have := HF.out.1; rwa [List.take_of_length_le (by rw [HZ.out]; exact Nat.le_refl _)] at this, HF.out.2⟩
  · have HR : Hid (redR xs = []) := Lib.hid (by rw [redR, h]; rfl)
    go_enter Try.func23, Try.ntmps23
    go_wp2_with fail
    refine wp_loop_rounds 1 ?_
    rw [rounds_succ]
    by_cases h0 : 0 < xs.length
    · have h0' : (0 : Int) < (xs.length : Int) := by omega
      go_wp2_with fail
      refine (specWeightsOk_any _ _ xs (HV.out _ D0.out.2)).mono ?_
      rintro r w' ⟨rfl, rfl⟩
      rw [h]
      go_wp2_with fail
      go_ret
      exact ⟨_, rfl, by rw [HR.out]; exact D0.out.1, D0.out.2⟩
    · have h0' : decide ((0 : Int) < (xs.length : Int)) = false := decide_eq_false (by omega)
      have h0'' : ¬ ((0 : Int) < (xs.length : Int)) := by omega
      go_wp2_with fail
      go_ret
      exact ⟨_, rfl, by rw [HR.out]; exact D0.out.1, D0.out.2⟩

end Go.Proofs.Ytbjmhbkpeglpkaa
