/- The walk of the law of the quotes out of a table. Conditions: two rows of bytes that came in. -/
import Derived.Test.YteljcicdibbhdaaVb
import Derived.Test.YteljcicdibbhdaaUi
import Derived.Test.YteljcicdibbhdaaSi
namespace Go.Proofs.Yteljcicdibbhdaa
open Go.RowKit
set_option linter.unusedVariables false

theorem row_byte7 {w : World} {a : Option Addr} {len cap : Nat} {zs : List Int} (h : IsRowC .u8 w a len cap zs) {i : Nat} (hi : i < len) : ∃ b off, ∃ v : Nat, a = some ⟨b, off, none⟩ ∧ b < w.heap.size ∧ v ≤ 255 ∧ w.cell? ⟨b, off + i, none⟩ = some (.int .u8 (v : Int)) := by
  rcases h with ⟨rfl, rfl, rfl, rfl⟩ | ⟨x, rfl, hl, hm, hz, hcell, hwz⟩
  · omega
  · obtain ⟨b, off, spot⟩ := x
    have hc := hcell 0 (by omega)
    have hspot : spot = none := by simpa [Addr.add] using World.cell?_spot hc
    subst hspot
    have hlt := World.block_lt_of_cell? w _ hc
    rw [addr_add] at hlt
    obtain ⟨v, hv, e⟩ := u8_of hwz i
    have := hcell i (by omega)
    rw [addr_add, e] at this
    exact ⟨b, off, v, rfl, hlt, hv, this⟩

theorem safe_fair7 (n : Int) (qs : List Qt) : safeB n qs = fairB n qs := by
  rw [safeB, fairB]
  cases hb : bokB n qs with
  | false => rfl
  | true =>
    have h1 : 1 ≤ n := ((bokB_iff _ _).1 hb).1.1
    obtain ⟨m, rfl⟩ : ∃ m : Nat, n = m := ⟨n.toNat, by omega⟩
    rw [lossOk, losing_fair hb, Int.toNat_natCast, Bool.not_not]

/-- quotes out of an additive table: a book that fits, is fair, is safe -/
theorem book_facts {n : Int} {t : List Int} (h : addB n t = true) {qs : List Qt} (hl : qs.length ≤ 3) (hq : ∀ q ∈ qs, okQt n t q) : fitB (measL n t) qs = true ∧ fairB n qs = true ∧ safeB n qs = true := by
  obtain ⟨k1, k2, k3⟩ := add_meas h
  obtain ⟨b1, b2⟩ := table_book h hl hq
  have hf : fitB (measL n t) qs = true := by rw [fitB, k1, k3, b1, b2]; rfl
  have hfair : fairB n qs = true := by
    obtain ⟨⟨h1, h4⟩, l, hl2, e⟩ := (mea_lay _).1 k1
    have hn : n.toNat = (measL n t).length := by omega
    rw [fairB, b1, Bool.true_and, any_iff, hn]
    exact ⟨l, hl2, by rw [← e]; exact b2⟩
  exact ⟨hf, hfair, by rw [safe_fair7]; exact hfair⟩

/-- quotes out of a table so far -/
def BkB (w : World) (n : Int) (t : List Int) (k : Nat) (p : Value) (wr : World) : Prop := ∃ qs : List Qt, QOwn wr w.heap.size p qs ∧ qs.length ≤ k ∧ (∀ q ∈ qs, okQt n t q) ∧ Below w.heap.size w wr

theorem litq7 (w : World) : QOwn (w.alloc (.cells #[] 35)) w.heap.size (.slice (some ⟨w.heap.size, 0, none⟩) 0 0) [] :=
  World.ownsRow_lit w #[] 0 (Nat.le_refl _) (by unfold maxLen; omega) rfl

theorem BkB.start (w : World) (n : Int) (t : List Int) : BkB w n t 0 (.slice (some ⟨w.heap.size, 0, none⟩) 0 0) (w.alloc (.cells #[] 35)) :=
  ⟨[], litq7 w, Nat.le_refl _, (fun q hq => by cases hq), (Below.refl _ _).alloc (Nat.le_refl _) _⟩

theorem two_one7 {a b : Int} : ∀ u ∈ [Value.int .i64 a, .int .i64 b], u.oneCell' = true := by
  intro u hu
  simp only [List.mem_cons, List.not_mem_nil, or_false] at hu
  rcases hu with rfl | rfl <;> rfl

set_option maxRecDepth 100000 in
set_option maxHeartbeats 8000000 in
theorem FnTableBook_walk (a0 : Option Addr) (len0 cap0 : Nat) (z0 : List Int) (a1 : Option Addr) (len1 cap1 : Nat) (z1 : List Int) (w : World) (h0 : IsRowC .u8 w a0 len0 cap0 z0) (h1 : IsRowC .u8 w a1 len1 cap1 z1) :
    Calls Try.prog 14 #[.slice a0 len0 cap0, .slice a1 len1 cap1] w fun e w' => e = .returned (.bool true) ∧ Below w.heap.size w w' := by
  by_cases hlen : 1048576 < len0
  · clear h0 h1
    have hlen2 : (1048576 : Int) < (len0 : Int) := by omega
    go_enter Try.func14, Try.ntmps14
    go_wp2
    go_ret
    exact ⟨rfl, Below.refl _ _⟩
  have hlen' : (len0 : Int) ≤ 1048576 := by omega
  by_cases hlen1 : 1048576 < len1
  · clear h0 h1
    have hlen2 : (1048576 : Int) < (len1 : Int) := by omega
    go_enter Try.func14, Try.ntmps14
    go_wp2
    go_ret
    exact ⟨rfl, Below.refl _ _⟩
  · have hlen1' : (len1 : Int) ≤ 1048576 := by omega
    clear hlen hlen1
    go_enter Try.func14, Try.ntmps14
    go_wp2_with fail
    refine (drawAdditiveOk_any _ _ _ _ _ h0).mono ?_
    rintro e w1 ⟨n, vt, t, rfl, ovt1, hl17, hn1, hn5, B1⟩
    have z1 := B1.size
    have HM := Lib.hid h1
    clear h0 h1 hlen'
    rcases Bool.eq_false_or_eq_true (addB n t) with h | h
    · obtain ⟨m, rfl, m1, m4, hlen, h16, -⟩ := tok_len ((addB_iff _ _).1 h).1
      have HA := Lib.hid h
      have HG := Lib.hid (tok_get ((addB_iff _ _).1 h).1)
      have HBF : Hid (∀ qs : List Qt, qs.length ≤ 3 → (∀ q ∈ qs, okQt (m : Int) t q) → fitB (measL (m : Int) t) qs = true ∧ fairB (m : Int) qs = true ∧ safeB (m : Int) qs = true) := Lib.hid (fun qs hl hq => book_facts h hl hq)
      have HEV : Hid (∀ e : Nat, e < t.length → evB (m : Int) (e : Int) = true) := Lib.hid (fun e he => ev_lt m1 m4 hlen he)
      have HLN := Lib.hid hlen
      obtain ⟨j0, hj, hy0, hy1, hy2⟩ := info_parts Try_quoteinfo
      clear h hlen
      go_wp2_with fail
      refine (implAdditiveOk_any w1 _ vt t (ovt1.rd)).mono ?_
      rintro e w2 ⟨rfl, b2⟩
      rw [HA.out]
      have z2 := b2.size
      have B2 := below_step B1 b2 (by omega)
      have ovt2 := ovt1.keep (SameAt.of_below b2)
      clear B1 b2 ovt1
      go_wp2_with fail
      refine (specAdditiveOk_any w2 _ vt t (ovt2.rd)).mono ?_
      rintro e w3 ⟨rfl, b3⟩
      rw [HA.out]
      have z3 := b3.size
      have B3 := below_step B2 b3 (by omega)
      have ovt3 := ovt2.keep (SameAt.of_below b3)
      clear B2 b3 ovt2
      obtain ⟨At, ct, rfl, hlt0, hmt, -⟩ := id ovt3.rd
      have HVT : Hid (∀ wr, Below w3.heap.size w3 wr → IRd wr (.slice At t.length ct) t) := Lib.hid (fun wr h => ovt3.rd.keep (SameAt.of_below h))
      have HB3 := Lib.hid B3
      have H0 := Lib.hid (BkB.start w3 (m : Int) t)
      clear ovt3 B3
      obtain rfl | rfl | rfl | rfl : m = 1 ∨ m = 2 ∨ m = 3 ∨ m = 4 := by omega
      · go_wp2_with fail
        go_loopw [7, 8] (fun p i wr => ∃ k : Nat, i = .int .i64 (k : Int) ∧ k ≤ 3 ∧ Hid (BkB w3 1 t k p wr)) (fun _ i _ => 3 - (intOf i).toNat)
        case atStart => exact ⟨0, rfl, Nat.zero_le _, H0⟩
        case round =>
          obtain ⟨k, rfl, hk, HF⟩ := hrel
          clear H0
          obtain ⟨qs, os, hs1, hs2, hs3⟩ := id HF.out
          have HO := Lib.hid os
          have HS1 := Lib.hid hs1
          have HS2 := Lib.hid hs2
          have HS3 := Lib.hid hs3
          clear os hs1 hs2 hs3 HF
          by_cases hlt : k < 3 ∧ k < len1
          · obtain ⟨hk3, hkl⟩ := hlt
            have hk3' : (k : Int) < 3 := by omega
            have hkl' : (k : Int) < (len1 : Int) := by omega
            have hk0 : (0 : Int) ≤ (k : Int) := by omega
            obtain ⟨bb, off, v, rfl, hbl, hv, hcv⟩ := row_byte7 HM.out hkl
            have hcv2 : wr.cell? ⟨bb, off + k, none⟩ = some (.int .u8 (v : Int)) := (HS3.out.cell (p := ⟨bb, off + k, none⟩) (show bb < w3.heap.size by have := HB3.out.size; omega)).trans ((HB3.out.cell (p := ⟨bb, off + k, none⟩) hbl).trans hcv)
            have hv2 : (0 : Int) ≤ (v : Int) := by omega
            have hv3 : (v : Int) ≤ 255 := by omega
            obtain ⟨e, he⟩ : ∃ e : Nat, v % 2 = e := ⟨_, rfl⟩
            have e16 : e < 2 := by rw [← he]; exact Nat.mod_lt _ (by decide)
            have hmod : (v : Int).tmod 2 = (e : Int) := by rw [Int.tmod_eq_emod_of_nonneg (by omega)]; omega
            have hel : e < t.length := by have := HLN.out; simp only [Nat.reducePow] at this; omega
            obtain ⟨G, off2, x, rfl, -, hx, hcx⟩ := (HVT.out wr HS3.out).at_ hel
            obtain ⟨x1, x2⟩ : 0 ≤ x ∧ x ≤ 36 := by have := HG.out e; rwa [tget_at hx] at this
            have HX := Lib.hid (tget_at hx)
            have e0 : (0 : Int) ≤ (e : Int) := by omega
            have e1 : (e : Int) < (t.length : Int) := by omega
            have hw1 : IntKind.i64.wrap (x * 6) = x * 6 := IntWalk.i64_in _ (by omega)
            have hq : (x * 6).tdiv 36 = x / 6 := by rw [Int.tdiv_eq_ediv_of_nonneg (by omega)]; omega
            clear hx hcv he
            by_cases hz : x % 6 = 0
            · have hr : (x * 6).tmod 36 = 0 := by rw [Int.tmod_eq_emod_of_nonneg (by omega)]; omega
              have hqq : (x * 6) / 36 = x / 6 := by omega
              have HNEW : Hid (okQt 1 t ((e : Int), x / 6)) := Lib.hid ⟨HEV.out e hel, by rw [Int.toNat_natCast, HX.out]; show x = 6 * (x / 6); omega⟩
              obtain ⟨y, hy⟩ : ∃ y, x / 6 = y := ⟨_, rfl⟩
              rw [hy] at hq HNEW hqq
              have HYX := Lib.hid hy
              clear hy
              have hql : qs.length ≤ 3 := by have := HS1.out; omega
              have hown := Lib.hid (World.ownsRow.alloc (w := wr.drew) (show wr.drew.ownsRow w3.heap.size 35 2 u7 qs.length (qs.flatMap qC) from HO.out) (.cells #[.int .i64 (e : Int), .int .i64 y] 35))
              have hsz := HS3.out.size
              go_wp2_with fail
              go_region
              go_wp2_with (at_builtin; refine wpList_append_own _ rfl _ _ 23 rfl w3.heap.size 35 j0 (.agg #[.int .i64 0, .int .i64 0]) 2 16 Try.underlying23 hj hy0 hy1 hy2 rfl (by decide) _ _ _ rfl hown.out ⟨wr.drew.heap.size, 0, none⟩ 1 1 [.int .i64 (e : Int), .int .i64 y] rfl rfl ?d1a two_one7 ?d1b ?d1c ?d1d ?_)
              case d1a => exact World.news_of_block (heap_alloc_new wr.drew _)
              case d1b => unfold maxLen; omega
              case d1c => omega
              case d1d => (show w3.heap.size ≤ (wr.alloc _).heap.size; rw [World.size_alloc]; exact Nat.le_succ_of_le hsz)
              intro v' w' hown' hgrow _
              have HNX : Hid (BkB w3 1 t (k + 1) v' w') := Lib.hid ⟨qs ++ [((e : Int), y)], by simpa [GOwn, qC] using hown', by rw [List.length_append]; have := HS1.out; simp; omega, fun q hq => by
                rcases List.mem_append.1 hq with h | h
                · exact HS2.out q h
                · obtain rfl := List.mem_singleton.1 h; exact HNEW.out, (HS3.out.drew.alloc HS3.out.size _).grown hgrow (by rw [World.size_alloc]; exact Nat.le_succ_of_le hsz) (fun g hg => (HO.out.ge g hg).1)⟩
              clear hown' hgrow hown
              go_wp2_with fail
              go_roundw
              case rel => exact ⟨k + 1, by go_num, by omega, HNX⟩
              case measure => simp [intOf]; omega
            · obtain ⟨r, hr0⟩ : ∃ r, (x * 6) % 36 = r := ⟨_, rfl⟩
              have hrne : r ≠ 0 := by omega
              have hr : (x * 6).tmod 36 = r := by rw [Int.tmod_eq_emod_of_nonneg (by omega)]; exact hr0
              have hrb : (r == 0) = false := by rw [beq_eq_false_iff_ne]; exact hrne
              have HNX : Hid (BkB w3 1 t (k + 1) u7 wr.drew) := Lib.hid ⟨qs, HO.out, by have := HS1.out; omega, HS2.out, HS3.out.drew⟩
              clear hz hr0
              go_wp2_with fail
              go_region
              all_goals
                go_wp2_with fail
                go_roundw
                case rel => exact ⟨k + 1, by go_num, by omega, HNX⟩
                case measure => simp [intOf]; omega
          · obtain ⟨f1, f2, f3⟩ := HBF.out qs (by have := HS1.out; omega) HS2.out
            have HF1 : Hid (fitB (measL 1 t) qs = true) := Lib.hid f1
            have HF2 : Hid (fairB 1 qs = true) := Lib.hid f2
            have HF3 : Hid (safeB 1 qs = true) := Lib.hid f3
            have HA2 : Hid (addB 1 t = true) := HA
            have HB4 := Lib.hid (below_step HB3.out HS3.out HB3.out.size)
            have HT4 := Lib.hid (HVT.out wr HS3.out)
            clear f1 f2 f3 hj hy0 hy1 hy2
            have hor : (3 : Int) ≤ (k : Int) ∨ ((k : Int) < 3 ∧ (len1 : Int) ≤ (k : Int)) := by omega
            rcases hor with h3 | ⟨h3, h4⟩
            all_goals
              go_wp2_with fail
              refine (implMeasureOf_any _ _ _ _ HT4.out).mono ?_
              rintro r w5 ⟨vm, rfl, o5, b5⟩
              rw [HA2.out]
              rw [measR_yes HA2.out] at o5
              have O5 := Lib.hid o5
              have HB5 := Lib.hid (below_step HB4.out b5 HB4.out.size)
              have HQ5 := Lib.hid (HO.out.keep (SameAt.of_below b5))
              clear o5 b5
              go_wp2_with fail
              refine (implFitsOk_any _ _ _ _ qs O5.out.rd (HQ5.out.rd qC_len)).mono ?_
              rintro r w6 ⟨rfl, b6⟩
              rw [HF1.out]
              have HB6 := Lib.hid (below_step HB5.out b6 HB5.out.size)
              have HQ6 := Lib.hid (HQ5.out.keep (SameAt.of_below b6))
              clear b6
              go_wp2_with fail
              refine (implFairOk_any _ _ _ qs (HQ6.out.rd qC_len)).mono ?_
              rintro r w7 ⟨rfl, b7⟩
              rw [HF2.out]
              have HB7 := Lib.hid (below_step HB6.out b7 HB6.out.size)
              have HQ7 := Lib.hid (HQ6.out.keep (SameAt.of_below b7))
              clear b7
              go_wp2_with fail
              refine (implSafeOk_any _ _ _ qs (HQ7.out.rd qC_len)).mono ?_
              rintro r w8 ⟨rfl, b8⟩
              rw [HF3.out]
              have HB8 := Lib.hid (below_step HB7.out b8 HB7.out.size)
              clear b8
              go_wp2_with fail
              go_ret
              exact ⟨ret_bool (by simp), HB8.out⟩
      · go_wp2_with fail
        go_loopw [7, 8] (fun p i wr => ∃ k : Nat, i = .int .i64 (k : Int) ∧ k ≤ 3 ∧ Hid (BkB w3 2 t k p wr)) (fun _ i _ => 3 - (intOf i).toNat)
        case atStart => exact ⟨0, rfl, Nat.zero_le _, H0⟩
        case round =>
          obtain ⟨k, rfl, hk, HF⟩ := hrel
          clear H0
          obtain ⟨qs, os, hs1, hs2, hs3⟩ := id HF.out
          have HO := Lib.hid os
          have HS1 := Lib.hid hs1
          have HS2 := Lib.hid hs2
          have HS3 := Lib.hid hs3
          clear os hs1 hs2 hs3 HF
          by_cases hlt : k < 3 ∧ k < len1
          · obtain ⟨hk3, hkl⟩ := hlt
            have hk3' : (k : Int) < 3 := by omega
            have hkl' : (k : Int) < (len1 : Int) := by omega
            have hk0 : (0 : Int) ≤ (k : Int) := by omega
            obtain ⟨bb, off, v, rfl, hbl, hv, hcv⟩ := row_byte7 HM.out hkl
            have hcv2 : wr.cell? ⟨bb, off + k, none⟩ = some (.int .u8 (v : Int)) := (HS3.out.cell (p := ⟨bb, off + k, none⟩) (show bb < w3.heap.size by have := HB3.out.size; omega)).trans ((HB3.out.cell (p := ⟨bb, off + k, none⟩) hbl).trans hcv)
            have hv2 : (0 : Int) ≤ (v : Int) := by omega
            have hv3 : (v : Int) ≤ 255 := by omega
            obtain ⟨e, he⟩ : ∃ e : Nat, v % 4 = e := ⟨_, rfl⟩
            have e16 : e < 4 := by rw [← he]; exact Nat.mod_lt _ (by decide)
            have hmod : (v : Int).tmod 4 = (e : Int) := by rw [Int.tmod_eq_emod_of_nonneg (by omega)]; omega
            have hel : e < t.length := by have := HLN.out; simp only [Nat.reducePow] at this; omega
            obtain ⟨G, off2, x, rfl, -, hx, hcx⟩ := (HVT.out wr HS3.out).at_ hel
            obtain ⟨x1, x2⟩ : 0 ≤ x ∧ x ≤ 36 := by have := HG.out e; rwa [tget_at hx] at this
            have HX := Lib.hid (tget_at hx)
            have e0 : (0 : Int) ≤ (e : Int) := by omega
            have e1 : (e : Int) < (t.length : Int) := by omega
            have hw1 : IntKind.i64.wrap (x * 6) = x * 6 := IntWalk.i64_in _ (by omega)
            have hq : (x * 6).tdiv 36 = x / 6 := by rw [Int.tdiv_eq_ediv_of_nonneg (by omega)]; omega
            clear hx hcv he
            by_cases hz : x % 6 = 0
            · have hr : (x * 6).tmod 36 = 0 := by rw [Int.tmod_eq_emod_of_nonneg (by omega)]; omega
              have hqq : (x * 6) / 36 = x / 6 := by omega
              have HNEW : Hid (okQt 2 t ((e : Int), x / 6)) := Lib.hid ⟨HEV.out e hel, by rw [Int.toNat_natCast, HX.out]; show x = 6 * (x / 6); omega⟩
              obtain ⟨y, hy⟩ : ∃ y, x / 6 = y := ⟨_, rfl⟩
              rw [hy] at hq HNEW hqq
              have HYX := Lib.hid hy
              clear hy
              have hql : qs.length ≤ 3 := by have := HS1.out; omega
              have hown := Lib.hid (World.ownsRow.alloc (w := wr.drew) (show wr.drew.ownsRow w3.heap.size 35 2 u7 qs.length (qs.flatMap qC) from HO.out) (.cells #[.int .i64 (e : Int), .int .i64 y] 35))
              have hsz := HS3.out.size
              go_wp2_with fail
              go_region
              go_wp2_with (at_builtin; refine wpList_append_own _ rfl _ _ 23 rfl w3.heap.size 35 j0 (.agg #[.int .i64 0, .int .i64 0]) 2 16 Try.underlying23 hj hy0 hy1 hy2 rfl (by decide) _ _ _ rfl hown.out ⟨wr.drew.heap.size, 0, none⟩ 1 1 [.int .i64 (e : Int), .int .i64 y] rfl rfl ?d2a two_one7 ?d2b ?d2c ?d2d ?_)
              case d2a => exact World.news_of_block (heap_alloc_new wr.drew _)
              case d2b => unfold maxLen; omega
              case d2c => omega
              case d2d => (show w3.heap.size ≤ (wr.alloc _).heap.size; rw [World.size_alloc]; exact Nat.le_succ_of_le hsz)
              intro v' w' hown' hgrow _
              have HNX : Hid (BkB w3 2 t (k + 1) v' w') := Lib.hid ⟨qs ++ [((e : Int), y)], by simpa [GOwn, qC] using hown', by rw [List.length_append]; have := HS1.out; simp; omega, fun q hq => by
                rcases List.mem_append.1 hq with h | h
                · exact HS2.out q h
                · obtain rfl := List.mem_singleton.1 h; exact HNEW.out, (HS3.out.drew.alloc HS3.out.size _).grown hgrow (by rw [World.size_alloc]; exact Nat.le_succ_of_le hsz) (fun g hg => (HO.out.ge g hg).1)⟩
              clear hown' hgrow hown
              go_wp2_with fail
              go_roundw
              case rel => exact ⟨k + 1, by go_num, by omega, HNX⟩
              case measure => simp [intOf]; omega
            · obtain ⟨r, hr0⟩ : ∃ r, (x * 6) % 36 = r := ⟨_, rfl⟩
              have hrne : r ≠ 0 := by omega
              have hr : (x * 6).tmod 36 = r := by rw [Int.tmod_eq_emod_of_nonneg (by omega)]; exact hr0
              have hrb : (r == 0) = false := by rw [beq_eq_false_iff_ne]; exact hrne
              have HNX : Hid (BkB w3 2 t (k + 1) u7 wr.drew) := Lib.hid ⟨qs, HO.out, by have := HS1.out; omega, HS2.out, HS3.out.drew⟩
              clear hz hr0
              go_wp2_with fail
              go_region
              all_goals
                go_wp2_with fail
                go_roundw
                case rel => exact ⟨k + 1, by go_num, by omega, HNX⟩
                case measure => simp [intOf]; omega
          · obtain ⟨f1, f2, f3⟩ := HBF.out qs (by have := HS1.out; omega) HS2.out
            have HF1 : Hid (fitB (measL 2 t) qs = true) := Lib.hid f1
            have HF2 : Hid (fairB 2 qs = true) := Lib.hid f2
            have HF3 : Hid (safeB 2 qs = true) := Lib.hid f3
            have HA2 : Hid (addB 2 t = true) := HA
            have HB4 := Lib.hid (below_step HB3.out HS3.out HB3.out.size)
            have HT4 := Lib.hid (HVT.out wr HS3.out)
            clear f1 f2 f3 hj hy0 hy1 hy2
            have hor : (3 : Int) ≤ (k : Int) ∨ ((k : Int) < 3 ∧ (len1 : Int) ≤ (k : Int)) := by omega
            rcases hor with h3 | ⟨h3, h4⟩
            all_goals
              go_wp2_with fail
              refine (implMeasureOf_any _ _ _ _ HT4.out).mono ?_
              rintro r w5 ⟨vm, rfl, o5, b5⟩
              rw [HA2.out]
              rw [measR_yes HA2.out] at o5
              have O5 := Lib.hid o5
              have HB5 := Lib.hid (below_step HB4.out b5 HB4.out.size)
              have HQ5 := Lib.hid (HO.out.keep (SameAt.of_below b5))
              clear o5 b5
              go_wp2_with fail
              refine (implFitsOk_any _ _ _ _ qs O5.out.rd (HQ5.out.rd qC_len)).mono ?_
              rintro r w6 ⟨rfl, b6⟩
              rw [HF1.out]
              have HB6 := Lib.hid (below_step HB5.out b6 HB5.out.size)
              have HQ6 := Lib.hid (HQ5.out.keep (SameAt.of_below b6))
              clear b6
              go_wp2_with fail
              refine (implFairOk_any _ _ _ qs (HQ6.out.rd qC_len)).mono ?_
              rintro r w7 ⟨rfl, b7⟩
              rw [HF2.out]
              have HB7 := Lib.hid (below_step HB6.out b7 HB6.out.size)
              have HQ7 := Lib.hid (HQ6.out.keep (SameAt.of_below b7))
              clear b7
              go_wp2_with fail
              refine (implSafeOk_any _ _ _ qs (HQ7.out.rd qC_len)).mono ?_
              rintro r w8 ⟨rfl, b8⟩
              rw [HF3.out]
              have HB8 := Lib.hid (below_step HB7.out b8 HB7.out.size)
              clear b8
              go_wp2_with fail
              go_ret
              exact ⟨ret_bool (by simp), HB8.out⟩
      · go_wp2_with fail
        go_loopw [7, 8] (fun p i wr => ∃ k : Nat, i = .int .i64 (k : Int) ∧ k ≤ 3 ∧ Hid (BkB w3 3 t k p wr)) (fun _ i _ => 3 - (intOf i).toNat)
        case atStart => exact ⟨0, rfl, Nat.zero_le _, H0⟩
        case round =>
          obtain ⟨k, rfl, hk, HF⟩ := hrel
          clear H0
          obtain ⟨qs, os, hs1, hs2, hs3⟩ := id HF.out
          have HO := Lib.hid os
          have HS1 := Lib.hid hs1
          have HS2 := Lib.hid hs2
          have HS3 := Lib.hid hs3
          clear os hs1 hs2 hs3 HF
          by_cases hlt : k < 3 ∧ k < len1
          · obtain ⟨hk3, hkl⟩ := hlt
            have hk3' : (k : Int) < 3 := by omega
            have hkl' : (k : Int) < (len1 : Int) := by omega
            have hk0 : (0 : Int) ≤ (k : Int) := by omega
            obtain ⟨bb, off, v, rfl, hbl, hv, hcv⟩ := row_byte7 HM.out hkl
            have hcv2 : wr.cell? ⟨bb, off + k, none⟩ = some (.int .u8 (v : Int)) := (HS3.out.cell (p := ⟨bb, off + k, none⟩) (show bb < w3.heap.size by have := HB3.out.size; omega)).trans ((HB3.out.cell (p := ⟨bb, off + k, none⟩) hbl).trans hcv)
            have hv2 : (0 : Int) ≤ (v : Int) := by omega
            have hv3 : (v : Int) ≤ 255 := by omega
            obtain ⟨e, he⟩ : ∃ e : Nat, v % 8 = e := ⟨_, rfl⟩
            have e16 : e < 8 := by rw [← he]; exact Nat.mod_lt _ (by decide)
            have hmod : (v : Int).tmod 8 = (e : Int) := by rw [Int.tmod_eq_emod_of_nonneg (by omega)]; omega
            have hel : e < t.length := by have := HLN.out; simp only [Nat.reducePow] at this; omega
            obtain ⟨G, off2, x, rfl, -, hx, hcx⟩ := (HVT.out wr HS3.out).at_ hel
            obtain ⟨x1, x2⟩ : 0 ≤ x ∧ x ≤ 36 := by have := HG.out e; rwa [tget_at hx] at this
            have HX := Lib.hid (tget_at hx)
            have e0 : (0 : Int) ≤ (e : Int) := by omega
            have e1 : (e : Int) < (t.length : Int) := by omega
            have hw1 : IntKind.i64.wrap (x * 6) = x * 6 := IntWalk.i64_in _ (by omega)
            have hq : (x * 6).tdiv 36 = x / 6 := by rw [Int.tdiv_eq_ediv_of_nonneg (by omega)]; omega
            clear hx hcv he
            by_cases hz : x % 6 = 0
            · have hr : (x * 6).tmod 36 = 0 := by rw [Int.tmod_eq_emod_of_nonneg (by omega)]; omega
              have hqq : (x * 6) / 36 = x / 6 := by omega
              have HNEW : Hid (okQt 3 t ((e : Int), x / 6)) := Lib.hid ⟨HEV.out e hel, by rw [Int.toNat_natCast, HX.out]; show x = 6 * (x / 6); omega⟩
              obtain ⟨y, hy⟩ : ∃ y, x / 6 = y := ⟨_, rfl⟩
              rw [hy] at hq HNEW hqq
              have HYX := Lib.hid hy
              clear hy
              have hql : qs.length ≤ 3 := by have := HS1.out; omega
              have hown := Lib.hid (World.ownsRow.alloc (w := wr.drew) (show wr.drew.ownsRow w3.heap.size 35 2 u7 qs.length (qs.flatMap qC) from HO.out) (.cells #[.int .i64 (e : Int), .int .i64 y] 35))
              have hsz := HS3.out.size
              go_wp2_with fail
              go_region
              go_wp2_with (at_builtin; refine wpList_append_own _ rfl _ _ 23 rfl w3.heap.size 35 j0 (.agg #[.int .i64 0, .int .i64 0]) 2 16 Try.underlying23 hj hy0 hy1 hy2 rfl (by decide) _ _ _ rfl hown.out ⟨wr.drew.heap.size, 0, none⟩ 1 1 [.int .i64 (e : Int), .int .i64 y] rfl rfl ?d3a two_one7 ?d3b ?d3c ?d3d ?_)
              case d3a => exact World.news_of_block (heap_alloc_new wr.drew _)
              case d3b => unfold maxLen; omega
              case d3c => omega
              case d3d => (show w3.heap.size ≤ (wr.alloc _).heap.size; rw [World.size_alloc]; exact Nat.le_succ_of_le hsz)
              intro v' w' hown' hgrow _
              have HNX : Hid (BkB w3 3 t (k + 1) v' w') := Lib.hid ⟨qs ++ [((e : Int), y)], by simpa [GOwn, qC] using hown', by rw [List.length_append]; have := HS1.out; simp; omega, fun q hq => by
                rcases List.mem_append.1 hq with h | h
                · exact HS2.out q h
                · obtain rfl := List.mem_singleton.1 h; exact HNEW.out, (HS3.out.drew.alloc HS3.out.size _).grown hgrow (by rw [World.size_alloc]; exact Nat.le_succ_of_le hsz) (fun g hg => (HO.out.ge g hg).1)⟩
              clear hown' hgrow hown
              go_wp2_with fail
              go_roundw
              case rel => exact ⟨k + 1, by go_num, by omega, HNX⟩
              case measure => simp [intOf]; omega
            · obtain ⟨r, hr0⟩ : ∃ r, (x * 6) % 36 = r := ⟨_, rfl⟩
              have hrne : r ≠ 0 := by omega
              have hr : (x * 6).tmod 36 = r := by rw [Int.tmod_eq_emod_of_nonneg (by omega)]; exact hr0
              have hrb : (r == 0) = false := by rw [beq_eq_false_iff_ne]; exact hrne
              have HNX : Hid (BkB w3 3 t (k + 1) u7 wr.drew) := Lib.hid ⟨qs, HO.out, by have := HS1.out; omega, HS2.out, HS3.out.drew⟩
              clear hz hr0
              go_wp2_with fail
              go_region
              all_goals
                go_wp2_with fail
                go_roundw
                case rel => exact ⟨k + 1, by go_num, by omega, HNX⟩
                case measure => simp [intOf]; omega
          · obtain ⟨f1, f2, f3⟩ := HBF.out qs (by have := HS1.out; omega) HS2.out
            have HF1 : Hid (fitB (measL 3 t) qs = true) := Lib.hid f1
            have HF2 : Hid (fairB 3 qs = true) := Lib.hid f2
            have HF3 : Hid (safeB 3 qs = true) := Lib.hid f3
            have HA2 : Hid (addB 3 t = true) := HA
            have HB4 := Lib.hid (below_step HB3.out HS3.out HB3.out.size)
            have HT4 := Lib.hid (HVT.out wr HS3.out)
            clear f1 f2 f3 hj hy0 hy1 hy2
            have hor : (3 : Int) ≤ (k : Int) ∨ ((k : Int) < 3 ∧ (len1 : Int) ≤ (k : Int)) := by omega
            rcases hor with h3 | ⟨h3, h4⟩
            all_goals
              go_wp2_with fail
              refine (implMeasureOf_any _ _ _ _ HT4.out).mono ?_
              rintro r w5 ⟨vm, rfl, o5, b5⟩
              rw [HA2.out]
              rw [measR_yes HA2.out] at o5
              have O5 := Lib.hid o5
              have HB5 := Lib.hid (below_step HB4.out b5 HB4.out.size)
              have HQ5 := Lib.hid (HO.out.keep (SameAt.of_below b5))
              clear o5 b5
              go_wp2_with fail
              refine (implFitsOk_any _ _ _ _ qs O5.out.rd (HQ5.out.rd qC_len)).mono ?_
              rintro r w6 ⟨rfl, b6⟩
              rw [HF1.out]
              have HB6 := Lib.hid (below_step HB5.out b6 HB5.out.size)
              have HQ6 := Lib.hid (HQ5.out.keep (SameAt.of_below b6))
              clear b6
              go_wp2_with fail
              refine (implFairOk_any _ _ _ qs (HQ6.out.rd qC_len)).mono ?_
              rintro r w7 ⟨rfl, b7⟩
              rw [HF2.out]
              have HB7 := Lib.hid (below_step HB6.out b7 HB6.out.size)
              have HQ7 := Lib.hid (HQ6.out.keep (SameAt.of_below b7))
              clear b7
              go_wp2_with fail
              refine (implSafeOk_any _ _ _ qs (HQ7.out.rd qC_len)).mono ?_
              rintro r w8 ⟨rfl, b8⟩
              rw [HF3.out]
              have HB8 := Lib.hid (below_step HB7.out b8 HB7.out.size)
              clear b8
              go_wp2_with fail
              go_ret
              exact ⟨ret_bool (by simp), HB8.out⟩
      · go_wp2_with fail
        go_loopw [7, 8] (fun p i wr => ∃ k : Nat, i = .int .i64 (k : Int) ∧ k ≤ 3 ∧ Hid (BkB w3 4 t k p wr)) (fun _ i _ => 3 - (intOf i).toNat)
        case atStart => exact ⟨0, rfl, Nat.zero_le _, H0⟩
        case round =>
          obtain ⟨k, rfl, hk, HF⟩ := hrel
          clear H0
          obtain ⟨qs, os, hs1, hs2, hs3⟩ := id HF.out
          have HO := Lib.hid os
          have HS1 := Lib.hid hs1
          have HS2 := Lib.hid hs2
          have HS3 := Lib.hid hs3
          clear os hs1 hs2 hs3 HF
          by_cases hlt : k < 3 ∧ k < len1
          · obtain ⟨hk3, hkl⟩ := hlt
            have hk3' : (k : Int) < 3 := by omega
            have hkl' : (k : Int) < (len1 : Int) := by omega
            have hk0 : (0 : Int) ≤ (k : Int) := by omega
            obtain ⟨bb, off, v, rfl, hbl, hv, hcv⟩ := row_byte7 HM.out hkl
            have hcv2 : wr.cell? ⟨bb, off + k, none⟩ = some (.int .u8 (v : Int)) := (HS3.out.cell (p := ⟨bb, off + k, none⟩) (show bb < w3.heap.size by have := HB3.out.size; omega)).trans ((HB3.out.cell (p := ⟨bb, off + k, none⟩) hbl).trans hcv)
            have hv2 : (0 : Int) ≤ (v : Int) := by omega
            have hv3 : (v : Int) ≤ 255 := by omega
            obtain ⟨e, he⟩ : ∃ e : Nat, v % 16 = e := ⟨_, rfl⟩
            have e16 : e < 16 := by rw [← he]; exact Nat.mod_lt _ (by decide)
            have hmod : (v : Int).tmod 16 = (e : Int) := by rw [Int.tmod_eq_emod_of_nonneg (by omega)]; omega
            have hel : e < t.length := by have := HLN.out; simp only [Nat.reducePow] at this; omega
            obtain ⟨G, off2, x, rfl, -, hx, hcx⟩ := (HVT.out wr HS3.out).at_ hel
            obtain ⟨x1, x2⟩ : 0 ≤ x ∧ x ≤ 36 := by have := HG.out e; rwa [tget_at hx] at this
            have HX := Lib.hid (tget_at hx)
            have e0 : (0 : Int) ≤ (e : Int) := by omega
            have e1 : (e : Int) < (t.length : Int) := by omega
            have hw1 : IntKind.i64.wrap (x * 6) = x * 6 := IntWalk.i64_in _ (by omega)
            have hq : (x * 6).tdiv 36 = x / 6 := by rw [Int.tdiv_eq_ediv_of_nonneg (by omega)]; omega
            clear hx hcv he
            by_cases hz : x % 6 = 0
            · have hr : (x * 6).tmod 36 = 0 := by rw [Int.tmod_eq_emod_of_nonneg (by omega)]; omega
              have hqq : (x * 6) / 36 = x / 6 := by omega
              have HNEW : Hid (okQt 4 t ((e : Int), x / 6)) := Lib.hid ⟨HEV.out e hel, by rw [Int.toNat_natCast, HX.out]; show x = 6 * (x / 6); omega⟩
              obtain ⟨y, hy⟩ : ∃ y, x / 6 = y := ⟨_, rfl⟩
              rw [hy] at hq HNEW hqq
              have HYX := Lib.hid hy
              clear hy
              have hql : qs.length ≤ 3 := by have := HS1.out; omega
              have hown := Lib.hid (World.ownsRow.alloc (w := wr.drew) (show wr.drew.ownsRow w3.heap.size 35 2 u7 qs.length (qs.flatMap qC) from HO.out) (.cells #[.int .i64 (e : Int), .int .i64 y] 35))
              have hsz := HS3.out.size
              go_wp2_with fail
              go_region
              go_wp2_with (at_builtin; refine wpList_append_own _ rfl _ _ 23 rfl w3.heap.size 35 j0 (.agg #[.int .i64 0, .int .i64 0]) 2 16 Try.underlying23 hj hy0 hy1 hy2 rfl (by decide) _ _ _ rfl hown.out ⟨wr.drew.heap.size, 0, none⟩ 1 1 [.int .i64 (e : Int), .int .i64 y] rfl rfl ?d4a two_one7 ?d4b ?d4c ?d4d ?_)
              case d4a => exact World.news_of_block (heap_alloc_new wr.drew _)
              case d4b => unfold maxLen; omega
              case d4c => omega
              case d4d => (show w3.heap.size ≤ (wr.alloc _).heap.size; rw [World.size_alloc]; exact Nat.le_succ_of_le hsz)
              intro v' w' hown' hgrow _
              have HNX : Hid (BkB w3 4 t (k + 1) v' w') := Lib.hid ⟨qs ++ [((e : Int), y)], by simpa [GOwn, qC] using hown', by rw [List.length_append]; have := HS1.out; simp; omega, fun q hq => by
                rcases List.mem_append.1 hq with h | h
                · exact HS2.out q h
                · obtain rfl := List.mem_singleton.1 h; exact HNEW.out, (HS3.out.drew.alloc HS3.out.size _).grown hgrow (by rw [World.size_alloc]; exact Nat.le_succ_of_le hsz) (fun g hg => (HO.out.ge g hg).1)⟩
              clear hown' hgrow hown
              go_wp2_with fail
              go_roundw
              case rel => exact ⟨k + 1, by go_num, by omega, HNX⟩
              case measure => simp [intOf]; omega
            · obtain ⟨r, hr0⟩ : ∃ r, (x * 6) % 36 = r := ⟨_, rfl⟩
              have hrne : r ≠ 0 := by omega
              have hr : (x * 6).tmod 36 = r := by rw [Int.tmod_eq_emod_of_nonneg (by omega)]; exact hr0
              have hrb : (r == 0) = false := by rw [beq_eq_false_iff_ne]; exact hrne
              have HNX : Hid (BkB w3 4 t (k + 1) u7 wr.drew) := Lib.hid ⟨qs, HO.out, by have := HS1.out; omega, HS2.out, HS3.out.drew⟩
              clear hz hr0
              go_wp2_with fail
              go_region
              all_goals
                go_wp2_with fail
                go_roundw
                case rel => exact ⟨k + 1, by go_num, by omega, HNX⟩
                case measure => simp [intOf]; omega
          · obtain ⟨f1, f2, f3⟩ := HBF.out qs (by have := HS1.out; omega) HS2.out
            have HF1 : Hid (fitB (measL 4 t) qs = true) := Lib.hid f1
            have HF2 : Hid (fairB 4 qs = true) := Lib.hid f2
            have HF3 : Hid (safeB 4 qs = true) := Lib.hid f3
            have HA2 : Hid (addB 4 t = true) := HA
            have HB4 := Lib.hid (below_step HB3.out HS3.out HB3.out.size)
            have HT4 := Lib.hid (HVT.out wr HS3.out)
            clear f1 f2 f3 hj hy0 hy1 hy2
            have hor : (3 : Int) ≤ (k : Int) ∨ ((k : Int) < 3 ∧ (len1 : Int) ≤ (k : Int)) := by omega
            rcases hor with h3 | ⟨h3, h4⟩
            all_goals
              go_wp2_with fail
              refine (implMeasureOf_any _ _ _ _ HT4.out).mono ?_
              rintro r w5 ⟨vm, rfl, o5, b5⟩
              rw [HA2.out]
              rw [measR_yes HA2.out] at o5
              have O5 := Lib.hid o5
              have HB5 := Lib.hid (below_step HB4.out b5 HB4.out.size)
              have HQ5 := Lib.hid (HO.out.keep (SameAt.of_below b5))
              clear o5 b5
              go_wp2_with fail
              refine (implFitsOk_any _ _ _ _ qs O5.out.rd (HQ5.out.rd qC_len)).mono ?_
              rintro r w6 ⟨rfl, b6⟩
              rw [HF1.out]
              have HB6 := Lib.hid (below_step HB5.out b6 HB5.out.size)
              have HQ6 := Lib.hid (HQ5.out.keep (SameAt.of_below b6))
              clear b6
              go_wp2_with fail
              refine (implFairOk_any _ _ _ qs (HQ6.out.rd qC_len)).mono ?_
              rintro r w7 ⟨rfl, b7⟩
              rw [HF2.out]
              have HB7 := Lib.hid (below_step HB6.out b7 HB6.out.size)
              have HQ7 := Lib.hid (HQ6.out.keep (SameAt.of_below b7))
              clear b7
              go_wp2_with fail
              refine (implSafeOk_any _ _ _ qs (HQ7.out.rd qC_len)).mono ?_
              rintro r w8 ⟨rfl, b8⟩
              rw [HF3.out]
              have HB8 := Lib.hid (below_step HB7.out b8 HB7.out.size)
              clear b8
              go_wp2_with fail
              go_ret
              exact ⟨ret_bool (by simp), HB8.out⟩
    · have HA := Lib.hid h
      clear h
      go_wp2_with fail
      refine (implAdditiveOk_any w1 _ vt t (ovt1.rd)).mono ?_
      rintro e w2 ⟨rfl, b2⟩
      rw [HA.out]
      have z2 := b2.size
      have B2 := below_step B1 b2 (by omega)
      have ovt2 := ovt1.keep (SameAt.of_below b2)
      clear B1 b2 ovt1
      go_wp2_with fail
      refine (alive_any _).mono ?_
      rintro e w' ⟨rfl, rfl⟩
      go_wp2_with fail
      go_ret
      exact ⟨ret_bool (by simp), B2⟩

end Go.Proofs.Yteljcicdibbhdaa
