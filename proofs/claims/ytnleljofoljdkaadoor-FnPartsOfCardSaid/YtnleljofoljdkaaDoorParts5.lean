/- The contract of spec.PartsOf. Conditions: the events read as a list. -/
import Derived.Test.YtnleljofoljdkaaDoorParts4
import Derived.Deep.DeepCutAuto
namespace Go.Proofs.YtnleljofoljdkaaDoor
open Go.RowKit
set_option linter.unusedVariables false

def sameB (xs : List Int) (a b : Nat) : Bool := xs.all fun e => bitB e a == bitB e b

theorem sameB_snoc (l : List Int) (e : Int) (a b : Nat) : sameB (l ++ [e]) a b = (sameB l a b && (bitB e a == bitB e b)) := by simp [sameB]

theorem sameB_key (xs : List Int) (a b : Nat) : sameB xs a b = (keyN xs b == keyN xs a) := by
  rw [Bool.eq_iff_iff]
  simp only [sameB, List.all_eq_true, beq_iff_eq, keyN_eq]
  exact ⟨fun h e he => (h e he).symm, fun h e he => (h e he).symm⟩

def firstN (K : Nat → Nat) (a n : Nat) : Bool := (List.range n).all fun i => !(K i == K a) || decide (a ≤ i)

theorem firstN_succ (K : Nat → Nat) (a n : Nat) : firstN K a (n + 1) = (firstN K a n && (!(K n == K a) || decide (a ≤ n))) := by simp [firstN, List.range_succ]

theorem firstN_rep (K : Nat → Nat) {a n : Nat} (h : a < n) : firstN K a n = cfirst (rep K) a := by
  rw [Bool.eq_iff_iff]
  simp only [firstN, cfirst, List.all_eq_true, List.mem_range, Bool.or_eq_true, Bool.not_eq_true', beq_eq_false_iff_ne, decide_eq_true_eq, ne_eq]
  constructor
  · intro H i hi e
    rcases H i (by omega) with h1 | h1
    · exact h1 ((rep_iff K i a).2 e)
    · omega
  · intro H i hi
    by_cases hia : i < a
    · exact .inl fun e => H i hia ((rep_iff K i a).1 e)
    · exact .inr (by omega)

theorem cparts_succ (c : Nat → Nat) (n k : Nat) : cparts c n (k + 1) = if cfirst c k = true then cparts c n k ++ [cpart c n k] else cparts c n k := by
  unfold cparts
  rw [List.range_succ, List.filter_append, List.map_append]
  by_cases h : cfirst c k = true
  · rw [if_pos h]; simp [h]
  · rw [if_neg h]; simp [h]

theorem bit_of (x : Int) (a : Nat) (h0 : 0 ≤ x) (h1 : x ≤ 15) : ∃ y z : Nat, x / 2 ^ a = (y : Int) ∧ (y : Int).tmod 2 = (z : Int) ∧ bitB x a = (z == 1) ∧ z < 2 := by
  have hy : 0 ≤ x / 2 ^ a := Int.ediv_nonneg h0 (Int.le_of_lt (Int.pow_pos (by decide)))
  obtain ⟨y, hy'⟩ : ∃ y : Nat, x / 2 ^ a = (y : Int) := ⟨(x / 2 ^ a).toNat, by omega⟩
  refine ⟨y, y % 2, hy', by rw [Int.tmod_eq_emod_of_nonneg (by omega)]; rfl, ?_, Nat.mod_lt _ (by decide)⟩
  unfold bitB
  rw [hy', Bool.eq_iff_iff]
  simp only [beq_iff_eq]
  omega

theorem below_drewN {B : Nat} {w w' : World} (h : Below B w w') (q : Nat) : Below B w (w'.drewN q) := ⟨h.os, h.tape, h.output, h.size, h.block⟩

theorem one_new (w : World) (x : Value) (t : TypeId) : ∀ j u, [x][j]? = some u → (w.alloc (.cells #[x] t)).cell? ((⟨w.heap.size, 0, none⟩ : Addr).add j) = some u := by
  intro j u hu
  rcases j with _ | j
  · simp at hu; subst hu; simp [Addr.add]
  · simp at hu

set_option maxHeartbeats 4000000 in
theorem specPartsOf_any (w : World) (n : Int) (v : Value) (xs : List Int) (hv : IRd w v xs) :
    Calls Tryd.prog 8 #[.int .i64 n, v] w (NewInts (partsI n xs) w) := by
  obtain ⟨i0, hi, hz0, hz1, hz2⟩ := info_parts Try_intinfo
  obtain ⟨A, c, rfl, hlc, hm, -⟩ := id hv
  have HV := Lib.hid hv
  clear hv
  have H0 : Hid (∀ (W : World) (g : Nat), W.heap.size = g → IOwn (W.alloc (.cells #[] 3)) g (.slice (some ⟨g, 0, none⟩) 0 0) []) := Lib.hid fun W g hg => by
    subst hg
    exact World.ownsRow_lit W #[] 0 (Nat.le_refl _) (by unfold maxLen; omega) rfl
  rcases Bool.eq_false_or_eq_true (inB n 1 4) with hw | hw
  · have hwk : wokB n = true := by rw [wokB_iff]; exact (inB_iff _ _ _).1 hw
    by_cases h8 : xs.length ≤ 8
    · have h8' : decide (8 < xs.length) = false := by simp; omega
      obtain ⟨hn1, hn2⟩ := (wokB_iff n).1 hwk
      go_enter Tryd.func8, Tryd.ntmps8
      go_wp2_with (go_at_call 25; refine (l1In_any _ _ _ _).mono ?_; rintro e w' ⟨rfl, rfl⟩)
      clear h8'
      have HB1 : Hid (Below w.heap.size w (w.alloc (.cells #[] 3))) := Lib.hid ((Below.refl _ _).alloc (Nat.le_refl _) _)
      have HV1 := Lib.hid (HV.out.keep (SameAt.of_below HB1.out))
      go_loop [6] (fun i => ∃ k : Nat, i = .int .i64 k ∧ k ≤ xs.length ∧ Hid (∀ x ∈ xs.take k, evB n x = true)) (fun i => xs.length - (intOf i).toNat)
      case atStart => exact ⟨0, rfl, Nat.zero_le _, Lib.hid (by simp)⟩
      case round =>
        obtain ⟨k, rfl, hk, HE⟩ := hrel
        by_cases hlt : k < xs.length
        · obtain ⟨b, off, x, rfl, -, hx, hcx⟩ := HV1.out.at_ hlt
          have HX := Lib.hid hx
          clear hx
          rcases Bool.eq_false_or_eq_true (evB n x) with hev | hev
          · go_wp2_with (go_at_call 26; refine (specEventOk_any _ _ _).mono ?_; rintro e w' ⟨rfl, rfl⟩)
            go_round
            case rel => exact ⟨k + 1, by go_num, by omega, Lib.hid (by
              rw [List.take_add_one, HX.out]
              intro y hy
              rcases List.mem_append.1 hy with h | h
              · exact HE.out y h
              · simp at h; subst h; exact hev)⟩
            case measure => simp [intOf]; omega
          · have HN : Hid (partsI n xs = []) := Lib.hid (partsI_no (by
              rw [← Bool.not_eq_true, okB]
              simp only [Bool.and_eq_true, List.all_eq_true]
              intro h
              have := h.2 x (List.mem_of_getElem? HX.out)
              rw [hev] at this; cases this))
            go_wp2_with (go_at_call 26; refine (specEventOk_any _ _ _).mono ?_; rintro e w' ⟨rfl, rfl⟩)
            go_ret
            exact ⟨_, rfl, by rw [HN.out]; exact (H0.out (w.alloc (.cells #[] 3)) (w.heap.size + 1) (by simp)).base (by omega), HB1.out.alloc HB1.out.size _⟩
        · have HOK : Hid (okB n xs = true) := Lib.hid (by
            have h1 := HE.out
            rw [List.take_of_length_le (by omega)] at h1
            rw [okB, hwk]
            simp only [Bool.true_and, Bool.and_eq_true, decide_eq_true_eq, List.all_eq_true]
            exact ⟨h8, h1⟩)
          have HS := Lib.hid (small_of HOK.out)
          obtain ⟨m, rfl⟩ : ∃ m : Nat, n = (m : Int) := ⟨n.toNat, by omega⟩
          have hm4 : m ≤ 4 := by omega
          have HO1 := Lib.hid (H0.out w _ rfl)
          clear hn1 hn2 hw hwk
          go_wp2_with fail
          go_loopw [5, 7] (fun p i wr => ∃ k : Nat, i = .int .i64 k ∧ k ≤ m ∧ Hid (LoopRel w (keyN xs) m k p wr)) (fun _ i _ => m - (intOf i).toNat)
          case atStart => exact ⟨0, rfl, Nat.zero_le _, Lib.hid ⟨by simpa [cparts, natI] using HO1.out, HB1.out⟩⟩
          case round =>
            obtain ⟨a, rfl, ha, HR⟩ := hrel
            by_cases hlt : a < m
            · have hlt' : (a : Int) < (m : Int) := by omega
              have hrd := Lib.hid (HV.out.keep (SameAt.of_below HR.out.2))
              obtain ⟨W, hW⟩ : ∃ W : World, W = wr := ⟨_, rfl⟩
              obtain rfl := hW
              go_wp2_with fail
              go_loopw [8, 9, 10] (fun sp sf si wq => ∃ (i p q : Nat) (f : Bool), si = .int .i64 i ∧ i ≤ m ∧ sp = .int .i64 (p : Int) ∧ sf = .bool f ∧ wq = W.drewN q ∧ Hid (p = partN (fun i => keyN xs i == keyN xs a) i ∧ f = firstN (keyN xs) a i)) (fun _ _ i _ => m - (intOf i).toNat)
              case atStart => exact ⟨0, 0, 0, true, rfl, Nat.zero_le _, rfl, rfl, rfl, Lib.hid ⟨rfl, rfl⟩⟩
              case round =>
                obtain ⟨i, p, q, f, rfl, him, rfl, rfl, rfl, HP⟩ := hrel
                by_cases hilt : i < m
                · have hilt' : (i : Int) < (m : Int) := by omega
                  go_wp2_with fail
                  go_loopw [11, 12] (fun ss sk wq => ∃ (k q' : Nat) (b : Bool), sk = .int .i64 k ∧ k ≤ xs.length ∧ ss = .bool b ∧ wq = W.drewN q' ∧ Hid (b = sameB (xs.take k) a i)) (fun _ sk _ => xs.length - (intOf sk).toNat)
                  case atStart => exact ⟨0, q, true, rfl, Nat.zero_le _, rfl, rfl, Lib.hid (by simp [sameB])⟩
                  case round =>
                    obtain ⟨k, q', b, rfl, hk, rfl, rfl, HB⟩ := hrel
                    by_cases hklt : k < xs.length
                    · obtain ⟨bb, off, x, rfl, -, hx, hcx⟩ := hrd.out.at_ hklt
                      have hx' : xs.take (k + 1) = xs.take k ++ [x] := by
                        rw [List.take_add_one, hx]; rfl
                      obtain ⟨hs1, hs2⟩ := HS.out.2 x (List.mem_of_getElem? hx)
                      obtain ⟨y1, z1, e1, e2, e3, g1⟩ := bit_of x a hs1 hs2
                      obtain ⟨y2, z2, f1, f2, f3, g2⟩ := bit_of x i hs1 hs2
                      have HX : Hid (sameB (xs.take (k + 1)) a i = (b && ((z1 == 1) == (z2 == 1)))) := Lib.hid (by rw [hx', sameB_snoc, ← HB.out, e3, f3])
                      have hzz : ((z1 == 1) == (z2 == 1)) = ((z1 : Int) == (z2 : Int)) := by
                        rw [Bool.eq_iff_iff]
                        simp only [beq_iff_eq]
                        obtain rfl | rfl : z1 = 0 ∨ z1 = 1 := by omega
                        · obtain rfl | rfl : z2 = 0 ∨ z2 = 1 := by omega
                          · simp
                          · simp
                        · obtain rfl | rfl : z2 = 0 ∨ z2 = 1 := by omega
                          · simp
                          · simp
                      have HZ := Lib.hid hzz
                      clear hx hx' e3 f3 g1 g2 hzz
                      cases b
                      · go_wp2_with fail
                        go_quiet (fail)
                        go_wp2_with fail
                        go_roundw
                        case rel => exact ⟨k + 1, _, false, by go_num, by omega, rfl, rfl, Lib.hid (by rw [HX.out]; rfl)⟩
                        case measure => simp [intOf]; omega
                      · go_wp2_with fail
                        go_quiet (fail)
                        go_wp2_with fail
                        go_roundw
                        case rel => exact ⟨k + 1, _, _, by go_num, by omega, rfl, rfl, Lib.hid (by rw [HX.out, HZ.out]; rfl)⟩
                        case measure => simp [intOf]; omega
                    · have hkge : (xs.length : Int) ≤ (k : Int) := by omega
                      have HB' : Hid (b = (keyN xs i == keyN xs a)) := Lib.hid (by
                        have := HB.out
                        rw [List.take_of_length_le (by omega), sameB_key] at this
                        exact this)
                      have hpl : p < 2 ^ i := by rw [HP.out.1]; exact partN_lt _ _
                      have HOR := Lib.hid (or_pow' p i hpl (by omega))
                      have HP1 : Hid (partN (fun i => keyN xs i == keyN xs a) (i + 1) = p + if b = true then 2 ^ i else 0) := Lib.hid (by rw [HP.out.1, HB'.out]; rfl)
                      have HF1 : Hid (firstN (keyN xs) a (i + 1) = (f && (!b || decide (a ≤ i)))) := Lib.hid (by rw [firstN_succ, HP.out.2, HB'.out])
                      clear hpl
                      cases b
                      · go_wp2_with fail
                        go_roundw
                        case rel => exact ⟨i + 1, p, q', f, by go_num, by omega, rfl, rfl, rfl, Lib.hid ⟨by rw [HP1.out]; simp, by rw [HF1.out]; simp⟩⟩
                        case measure => simp [intOf]; omega
                      · have hi3 : (i : Int) ≤ 3 := by omega
                        cases f
                        · go_wp2_with fail
                          go_roundw
                          case rel => exact ⟨i + 1, _, q', false, by go_num, by omega, congrArg (Value.int .i64) HOR.out, rfl, rfl, Lib.hid ⟨by rw [HP1.out]; simp, by rw [HF1.out]; rfl⟩⟩
                          case measure => simp [intOf]; omega
                        · go_wp2_with fail
                          go_roundw
                          case rel => exact ⟨i + 1, _, q', _, by go_num, by omega, congrArg (Value.int .i64) HOR.out, rfl, rfl, Lib.hid ⟨by rw [HP1.out]; simp, by rw [HF1.out]; simp⟩⟩
                          case measure => simp [intOf]; omega
                · have him' : i = m := by omega
                  have HPA : Hid (p = cpart (rep (keyN xs)) m a) := Lib.hid (by rw [HP.out.1, him']; exact part_key _ _ _)
                  have HFA : Hid (f = cfirst (rep (keyN xs)) a) := Lib.hid (by rw [HP.out.2, him']; exact firstN_rep _ hlt)
                  have hige : (m : Int) ≤ (i : Int) := by omega
                  clear him'
                  obtain ⟨-, -, -, hpa, -⟩ := step_ins (K := keyN xs) hm4 hlt
                  have hlen : (natI (cparts (rep (keyN xs)) m a)).length ≤ 4 := by rw [natI_len]; exact hpa.1
                  have hsz : w.heap.size ≤ W.heap.size := HR.out.2.size
                  have HC := Lib.hid (cparts_succ (rep (keyN xs)) m a)
                  clear hpa
                  cases f
                  · go_wp2_with fail
                    go_roundw
                    case rel => exact ⟨a + 1, by go_num, by omega, (show Hid _ from ⟨by rw [HC.out, if_neg (by rw [← HFA.out]; simp)]; exact HR.out.1, below_drewN HR.out.2 q⟩)⟩
                    case measure => simp [intOf]; omega
                  · have hown0 := HR.out.1
                    unfold IOwn at hown0
                    have hown := Lib.hid (World.ownsRow.alloc (w := W.drewN q) hown0 (.cells #[.int .i64 (p : Int)] 3))
                    clear hown0
                    go_wp2_with (at_builtin; refine wpList_append_own _ rfl _ _ 23 rfl w.heap.size 3 i0 (.int .i64 0) 1 8 Tryd.underlying23 hi hz0 hz1 hz2 rfl (by decide) _ _ _ rfl hown.out ⟨W.heap.size, 0, none⟩ 1 1 [.int .i64 (p : Int)] rfl rfl ?c1 one_int ?c3 ?c4 ?c5 ?_)
                    case c1 => exact one_new (W.drewN q) _ _
                    case c3 => unfold maxLen; omega
                    case c4 => omega
                    case c5 => simp; omega
                    intro v' w' hown' hgrow _
                    have HO := Lib.hid (show IOwn w' w.heap.size v' (natI (cparts (rep (keyN xs)) m (a + 1))) from by
                      rw [HC.out, if_pos HFA.out.symm, natI_snoc, ← HPA.out]
                      simpa [IOwn] using hown')
                    have HG := Lib.hid (grown_after (w := W) ((below_drewN (Below.refl _ W) q).alloc (Nat.le_refl _) _) hgrow)
                    have HL := Lib.hid (HR.out.step HO.out HG.out)
                    clear hown' hgrow
                    go_wp2_with fail
                    go_roundw
                    case rel => exact ⟨a + 1, by go_num, by omega, HL⟩
                    case measure => simp [intOf]; omega
            · have hge : (m : Int) ≤ (a : Int) := by omega
              go_wp2_with fail
              go_ret
              obtain ⟨h1, h2⟩ := HR.out
              rw [show a = m from by omega] at h1
              exact ⟨_, rfl, by rw [partsI, HOK.out]; exact h1, h2⟩
    · have h8i : (8 : Int) < (xs.length : Int) := by omega
      have h8' : decide (8 < xs.length) = true := by simp; omega
      have HN : Hid (partsI n xs = []) := Lib.hid (partsI_no (by rw [okB, hwk, show decide (xs.length ≤ 8) = false from by simp; omega]; rfl))
      go_enter Tryd.func8, Tryd.ntmps8
      go_wp2_with (go_at_call 25; refine (l1In_any _ _ _ _).mono ?_; rintro e w' ⟨rfl, rfl⟩)
      go_ret
      exact ⟨_, rfl, by rw [HN.out]; exact H0.out w _ rfl, (Below.refl _ _).alloc (Nat.le_refl _) _⟩
  · have hwk : wokB n = false := by
      rw [← Bool.not_eq_true, wokB_iff, ← inB_iff, hw]; simp
    have HN : Hid (partsI n xs = []) := Lib.hid (partsI_no (by rw [okB, hwk]; rfl))
    go_enter Tryd.func8, Tryd.ntmps8
    go_wp2_with (go_at_call 25; refine (l1In_any _ _ _ _).mono ?_; rintro e w' ⟨rfl, rfl⟩)
    go_ret
    exact ⟨_, rfl, by rw [HN.out]; exact H0.out w _ rfl, (Below.refl _ _).alloc (Nat.le_refl _) _⟩

end Go.Proofs.YtnleljofoljdkaaDoor
