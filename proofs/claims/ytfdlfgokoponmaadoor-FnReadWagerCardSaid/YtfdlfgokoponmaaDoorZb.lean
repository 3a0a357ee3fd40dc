/- Contracts of spec's l1Number (small numbers), l1Cut, l1Digits. Conditions: stated at each. -/
import Derived.Test.YtfdlfgokoponmaaDoorZa
import Derived.Test.YtfdlfgokoponmaaDoorRh
import Derived.Laws.IdiomStrings
namespace Go.Proofs.YtfdlfgokoponmaaDoor
open Go.RowKit
set_option linter.unusedVariables false

theorem conv_digit (w : World) {n : Nat} (h : n ≤ 9) :
    (convert 22 9 (.slice (some ⟨w.heap.size, 0, none⟩) 1 1)).run Tryd.prog (w.alloc (.cells #[.int .u8 (48 + (n : Int))] 5)) = .ok (.string ⟨#[dg n]⟩) (w.alloc (.cells #[.int .u8 (48 + (n : Int))] 5)) := by
  refine run_convert_bytes_back _ 22 9 5 ⟨w.heap.size, 0, none⟩ 1 [dg n] Tryd.underlying22 Tryd.underlying5 Tryd.underlying9 ?_
  intro j hj
  have h1 := one_new w (.int .u8 (48 + (n : Int))) 5 j (.int .u8 (48 + (n : Int))) (by
    obtain rfl : j = 0 := by simpa using hj
    rfl)
  obtain rfl : j = 0 := by simpa using hj
  rw [h1]
  have := (dg_ne h).2.2.2
  simp only [List.getElem_cons_zero, this]
  rfl

set_option maxRecDepth 100000 in
set_option maxHeartbeats 2000000 in
theorem numPos_any (n : Nat) (h : n ≤ 9) (w : World) :
    Calls Tryd.prog 26 #[.int .i64 (n : Int)] w (TxtPost [dg n] w) := by
  have h0 : (0 : Int) ≤ (n : Int) := by omega
  have h1 : (n : Int) < 10 := by omega
  have hc := conv_digit w h
  go_enter Tryd.func26, Tryd.ntmps26
  go_wp2_with fail
  go_ret
  exact ⟨rfl, (Below.refl _ _).alloc (Nat.le_refl _) _⟩

set_option maxRecDepth 100000 in
set_option maxHeartbeats 2000000 in
theorem num_any (n : Int) (h : -9 ≤ n ∧ n ≤ 9) (w : World) :
    Calls Tryd.prog 26 #[.int .i64 n] w (TxtPost (num n) w) := by
  by_cases hn : n < 0
  · obtain ⟨k, hk⟩ : ∃ k : Nat, -n = k := ⟨(-n).toNat, by omega⟩
    have hw : IntKind.i64.wrap (-n) = (k : Int) := by rw [IntWalk.i64_in _ (by omega)]; exact hk
    have hne : (n == (k : Int)) = false := by rw [beq_eq_false_iff_ne]; omega
    have HN : Hid (num n = [45, dg k]) := Lib.hid (by rw [num_neg hn, hk]; rfl)
    have hk9 : k ≤ 9 := by omega
    clear hk
    go_enter Tryd.func26, Tryd.ntmps26
    go_wp2_with fail
    refine (numPos_any k hk9 w).mono ?_
    rintro e w2 ⟨rfl, b2⟩
    have HB := Lib.hid b2
    have ha := add_txt (P := Tryd.prog) [45] [dg k] (by simp) w2
    clear b2
    go_wp2_with fail
    go_ret
    exact ⟨by rw [HN.out]; rfl, HB.out⟩
  · obtain ⟨k, rfl⟩ : ∃ k : Nat, n = k := ⟨n.toNat, by omega⟩
    have := numPos_any k (by omega) w
    rw [num_pos (by omega), Int.toNat_natCast]
    exact this

theorem bs_at {S : ByteArray} {k : Nat} (hk : k < S.size) : (bs S)[k]? = some (S[k]'hk) := by
  rw [List.getElem?_eq_getElem (by rw [bs_len]; exact hk)]; rfl

theorem bs_ext (S : ByteArray) (a b : Nat) : bs (S.extract a b) = ((bs S).drop a).take (b - a) := by
  simp [bs, ByteArray.data_extract, List.extract]

theorem ext_le (S : ByteArray) (a b : Nat) : (S.extract a b).size ≤ S.size := by rw [ByteArray.size_extract]; omega

theorem Try_textinfo : (Tryd.prog.info? 9).map (fun i => (i.zero, i.size, i.bytes)) = some (some (.string ByteArray.empty), 1, 16) := by kernel_rfl

/-- a row of texts of the call's own -/
def TOwn (w : World) (base : Nat) (v : Value) (ps : List ByteArray) : Prop := w.ownsRow base 9 1 v ps.length (ps.map Value.string)

theorem wp_app_text {ops : Array Oper} {rest : List Oper} {o : Oper} {a : Act} {Q : Exit → Act → World → Prop} (hgd : o.guard = none) (s x : Operand)
    (ho : o.op = .call { callee := .builtin .append, args := #[s, x], argTypes := #[61, 61] }) (w : World) (base : Nat) (v : Value) (ps : List ByteArray) (p : ByteArray)
    (hs : a.eval s = v) (hown : TOwn w base v ps) (hx : a.eval x = .slice (some ⟨w.heap.size, 0, none⟩) 1 1)
    (h1 : ps.length ≤ 3000000) (hb : base ≤ w.heap.size)
    (h : ∀ g c w', TOwn w' base (.slice (some ⟨g, 0, none⟩) (ps.length + 1) c) (ps ++ [p]) → Below base w w' → wpList Tryd.prog ops Q rest (a.put o.dst (.slice (some ⟨g, 0, none⟩) (ps.length + 1) c)) w') :
    wpList Tryd.prog ops Q (o :: rest) a (w.alloc (.cells #[.string p] 9)) := by
  obtain ⟨i0, hi, hz0, hz1, hz2⟩ := info_parts Try_textinfo
  have hown2 : (w.alloc (.cells #[.string p] 9)).ownsRow base 9 1 v ps.length (ps.map Value.string) := World.ownsRow.alloc hown _
  refine wpList_append_own_at _ hgd s x 61 ho base 9 i0 (.string ByteArray.empty) 1 16 Tryd.underlying61 hi hz0 hz1 hz2 rfl (by decide) v ps.length (ps.map Value.string) hs hown2 ⟨w.heap.size, 0, none⟩ 1 1 [.string p] hx rfl (one_new w _ _) (by intro u hu; obtain rfl := List.mem_singleton.1 hu; rfl) (by unfold maxLen; omega) (by omega) (by simp; omega) ?_
  intro v' w' k1 k2 k3 k4
  have hl : (ps ++ [p]).length = ps.length + 1 := by simp
  obtain ⟨g, c, hv, -⟩ : ∃ g c, v' = .slice (some ⟨g, 0, none⟩) (ps.length + 1) c ∧ True := by
    rcases k1.2 with ⟨-, hz⟩ | ⟨g, cap, cur, e, -⟩
    · omega
    · exact ⟨g, cap, e, trivial⟩
  subst hv
  refine h g c w' ?_ (((Below.refl base w).alloc hb _).grown k2 (by simp; omega) (fun g hg => (World.ownsRow.lt hown2 g hg).1))
  unfold TOwn
  rw [hl, List.map_append]
  exact k1

/-- the pieces of a text -/
def CutPost (c : UInt8) (S : ByteArray) (w : World) (e : Ending) (w' : World) : Prop := ∃ (g cc : Nat) (ps : List ByteArray), e = .returned (.slice (some ⟨g, 0, none⟩) ps.length cc) ∧ TOwn w' w.heap.size (.slice (some ⟨g, 0, none⟩) ps.length cc) ps ∧ ps.map bs = cutF c (bs S) ∧ (∀ p ∈ ps, p.size ≤ S.size) ∧ Below w.heap.size w w'

set_option maxHeartbeats 4000000 in
theorem l1Cut_any (S : ByteArray) (hS : S.size ≤ 2000000) (c : UInt8) (m : Int) (hm : m = (c.toNat : Int)) (w : World) :
    Calls Tryd.prog 36 #[.string S, .int .u8 m] w (CutPost c S w) := by
  subst hm
  have D0 : Hid (TOwn (w.alloc (.cells #[] 9)) w.heap.size (.slice (some ⟨w.heap.size, 0, none⟩) 0 0) [] ∧ Below w.heap.size w (w.alloc (.cells #[] 9))) := Lib.hid ⟨World.ownsRow_lit w #[] 0 (Nat.le_refl _) (by unfold maxLen; omega) rfl, (Below.refl _ _).alloc (Nat.le_refl _) _⟩
  go_enter Tryd.func36, Tryd.ntmps36
  go_wp2_with fail
  go_loopw [5, 6, 7] (fun p f k wr => ∃ (kk ff g cc m : Nat) (ps : List ByteArray), p = .slice (some ⟨g, 0, none⟩) m cc ∧ f = .int .i64 (ff : Int) ∧ k = .int .i64 (kk : Int) ∧ kk ≤ S.size ∧ ff ≤ kk ∧ m ≤ kk ∧ Hid (ps.length = m ∧ ps.map bs = (pcs c (bs S) kk).1 ∧ ff = (pcs c (bs S) kk).2 ∧ ∀ p ∈ ps, p.size ≤ S.size) ∧ Hid (TOwn wr w.heap.size (.slice (some ⟨g, 0, none⟩) m cc) ps ∧ Below w.heap.size w wr)) (fun _ _ k _ => S.size - (intOf k).toNat)
  case atStart => exact ⟨0, 0, w.heap.size, 0, 0, [], rfl, rfl, rfl, Nat.zero_le _, Nat.le_refl _, Nat.le_refl _, Lib.hid ⟨rfl, rfl, rfl, fun p hp => by cases hp⟩, D0⟩
  case round =>
    obtain ⟨kk, ff, g, cc, m, ps, rfl, rfl, rfl, hk, hf, hmk, HL, HR⟩ := hrel
    clear D0
    obtain rfl : ps.length = m := HL.out.1
    by_cases hlt : kk < S.size
    · have hlt' : (kk : Int) < (S.size : Int) := by omega
      have hk0 : (0 : Int) ≤ (kk : Int) := by omega
      obtain ⟨b, hb⟩ : ∃ b, (S[kk]'hlt).toNat = b := ⟨_, rfl⟩
      by_cases hq : b = c.toNat
      · have hqq : ((b : Int) == (c.toNat : Int)) = true := by rw [hq]; simp
        have HC : Hid ((bs S)[kk]? = some c) := Lib.hid (by rw [bs_at hlt]; congr 1; exact u8_lit (hb.trans hq))
        have hf1 : (ff : Int) ≤ (kk : Int) := by omega
        have hf2 : (kk : Int) ≤ (S.size : Int) := by omega
        have hf0 : (0 : Int) ≤ (ff : Int) := by omega
        have HN : Hid ((ps ++ [S.extract ff kk]).map bs = (pcs c (bs S) (kk + 1)).1 ∧ kk + 1 = (pcs c (bs S) (kk + 1)).2 ∧ ∀ p ∈ ps ++ [S.extract ff kk], p.size ≤ S.size) := Lib.hid (by
          have h1 := HL.out
          rw [pcs_succ, pstep, if_pos HC.out]
          refine ⟨?_, rfl, ?_⟩
          · rw [List.map_append, h1.2.1, List.map_singleton, bs_ext, ← h1.2.2.1]
          · intro p hp
            rcases List.mem_append.1 hp with hp | hp
            · exact h1.2.2.2 p hp
            · obtain rfl := List.mem_singleton.1 hp; exact ext_le _ _ _)
        clear hq
        go_wp2_with (at_builtin; refine wp_app_text rfl _ _ rfl _ w.heap.size _ ps (S.extract ff kk) (by rfl) HR.out.1 (by rfl) ?a1 ?a2 ?_)
        case a1 => omega
        case a2 => exact HR.out.2.size
        intro g5 c5 w5 o5 b5
        have HR5 : Hid (TOwn w5 w.heap.size (.slice (some ⟨g5, 0, none⟩) (ps.length + 1) c5) (ps ++ [S.extract ff kk]) ∧ Below w.heap.size w w5) := Lib.hid ⟨o5, HR.out.2.trans b5⟩
        clear o5 b5 HR
        go_wp2_with fail
        go_roundw
        case rel => exact ⟨kk + 1, kk + 1, g5, c5, ps.length + 1, ps ++ [S.extract ff kk], rfl, by go_num, by go_num, by omega, by omega, by omega, Lib.hid ⟨by simp, HN.out⟩, HR5⟩
        case measure => simp [intOf]; omega
      · have hqq : ((b : Int) == (c.toNat : Int)) = false := by rw [beq_eq_false_iff_ne]; omega
        have HC : Hid ((bs S)[kk]? ≠ some c) := Lib.hid (by rw [bs_at hlt]; intro e; have e := Option.some.inj e; rw [e] at hb; exact hq hb.symm)
        have HN : Hid (ps.map bs = (pcs c (bs S) (kk + 1)).1 ∧ ff = (pcs c (bs S) (kk + 1)).2) := Lib.hid (by
          have h1 := HL.out
          rw [pcs_succ, pstep, if_neg HC.out]
          exact ⟨h1.2.1, h1.2.2.1⟩)
        clear hq
        go_wp2_with fail
        go_roundw
        case rel => exact ⟨kk + 1, ff, g, cc, ps.length, ps, rfl, rfl, by go_num, by omega, by omega, by omega, Lib.hid ⟨rfl, HN.out.1, HN.out.2, HL.out.2.2.2⟩, HR⟩
        case measure => simp [intOf]; omega
    · obtain rfl : kk = S.size := by omega
      have hf2 : (ff : Int) ≤ (S.size : Int) := by omega
      have hf0 : (0 : Int) ≤ (ff : Int) := by omega
      have HN : Hid ((ps ++ [S.extract ff S.size]).map bs = cutF c (bs S) ∧ ∀ p ∈ ps ++ [S.extract ff S.size], p.size ≤ S.size) := Lib.hid (by
        have h1 := HL.out
        refine ⟨?_, ?_⟩
        · rw [List.map_append, h1.2.1, List.map_singleton, bs_ext, cutF, bs_len, ← h1.2.2.1, List.take_of_length_le (by rw [List.length_drop, bs_len]; exact Nat.le_refl _)]
        · intro p hp
          rcases List.mem_append.1 hp with hp | hp
          · exact h1.2.2.2 p hp
          · obtain rfl := List.mem_singleton.1 hp; exact ext_le _ _ _)
      go_wp2_with (at_builtin; refine wp_app_text rfl _ _ rfl _ w.heap.size _ ps (S.extract ff S.size) (by rfl) HR.out.1 (by rfl) ?a1 ?a2 ?_)
      case a1 => omega
      case a2 => exact HR.out.2.size
      intro g5 c5 w5 o5 b5
      have HR5 : Hid (TOwn w5 w.heap.size (.slice (some ⟨g5, 0, none⟩) (ps.length + 1) c5) (ps ++ [S.extract ff S.size]) ∧ Below w.heap.size w w5) := Lib.hid ⟨o5, HR.out.2.trans b5⟩
      clear o5 b5 HR
      go_wp2_with fail
      go_ret
      exact ⟨g5, c5, ps ++ [S.extract ff S.size], by rw [List.length_append, List.length_singleton]; rfl, by rw [List.length_append, List.length_singleton]; exact HR5.out.1, HN.out.1, HN.out.2, HR5.out.2⟩

/-- the number of a text of digits, or none -/
def DigPost (S : ByteArray) (w : World) (e : Ending) (w' : World) : Prop := ∃ d : Int, e = .returned (.int .i64 d) ∧ -1 ≤ d ∧ d ≤ 999999 ∧ (∀ n : Nat, n ≤ 9 → bs S = [dg n] → d = n) ∧ Below w.heap.size w w'

theorem one_digit {S : ByteArray} {n : Nat} (h : bs S = [dg n]) (hn : n ≤ 9) : S.size = 1 ∧ ∀ h0 : 0 < S.size, (S[0]'h0).toNat = 48 + n := by
  have h1 : S.size = 1 := by rw [← bs_len, h]; rfl
  refine ⟨h1, fun h0 => ?_⟩
  have := bs_at h0
  rw [h] at this
  have := Option.some.inj this
  rw [← this]
  exact (dg_ne hn).2.2.2

theorem pow_le6 {k : Nat} (h : k ≤ 6) : 10 ^ k ≤ 1000000 := by
  have : ∀ j : Fin 7, 10 ^ (j : Nat) ≤ 1000000 := by decide
  exact this ⟨k, by omega⟩

set_option maxHeartbeats 4000000 in
theorem l1Digits_any (S : ByteArray) (hS : S.size ≤ 2000000) (w : World) :
    Calls Tryd.prog 38 #[.string S] w (DigPost S w) := by
  rcases Bool.eq_false_or_eq_true (inB (S.size : Int) 1 6) with hi | hi
  · obtain ⟨i1, i2⟩ := (inB_iff _ _ _).1 hi
    by_cases hz : 1 < S.size ∧ (S[0]'(by omega)).toNat = 48
    · obtain ⟨hz1, hz2⟩ := hz
      have hz1' : (1 : Int) < (S.size : Int) := by omega
      have HE : Hid (∀ n : Nat, n ≤ 9 → bs S = [dg n] → (-1 : Int) = n) := Lib.hid (fun n hn h => by have := (one_digit h hn).1; omega)
      go_enter Tryd.func38, Tryd.ntmps38
      go_wp2_with fail
      refine (l1In_any _ _ _ _).mono ?_
      rintro r w' ⟨rfl, rfl⟩
      rw [hi]
      go_wp2_with fail
      go_ret
      exact ⟨-1, rfl, by omega, by omega, HE.out, Below.refl _ _⟩
    · have hd : ∀ n : Nat, n ≤ 9 → bs S = [dg n] → S.size = 1 ∧ ∀ h0 : 0 < S.size, (S[0]'h0).toNat = 48 + n := fun n hn h => one_digit h hn
      have HD := Lib.hid hd
      have hcs : S.size = 1 ∨ (1 < S.size ∧ ∃ b, (S[0]'(by omega)).toNat = b ∧ b ≠ 48) := by
        by_cases h1 : 1 < S.size
        · exact .inr ⟨h1, _, rfl, fun e => hz ⟨h1, e⟩⟩
        · exact .inl (by omega)
      have HC := Lib.hid hcs
      clear hd hz hcs
      go_enter Tryd.func38, Tryd.ntmps38
      go_wp2_with fail
      refine (l1In_any _ _ _ _).mono ?_
      rintro r w' ⟨rfl, rfl⟩
      rw [hi]
      clear hi
      rcases HC.out with h1 | ⟨h1, b0, hb0, hbn⟩
      · have h1' : (S.size : Int) ≤ 1 := by omega
        clear h1
        go_wp2_with fail
        go_loop [3, 4] (fun x k => ∃ kk nn : Nat, x = .int .i64 (nn : Int) ∧ k = .int .i64 (kk : Int) ∧ kk ≤ S.size ∧ Hid (nn < 10 ^ kk) ∧ Hid (∀ n : Nat, n ≤ 9 → bs S = [dg n] → kk = 1 → nn = n)) (fun _ k => S.size - (intOf k).toNat)
        case atStart => exact ⟨0, 0, rfl, rfl, Nat.zero_le _, Lib.hid (by decide), Lib.hid (fun n _ _ h => by omega)⟩
        case round =>
          obtain ⟨kk, nn, rfl, rfl, hk, HP, HV⟩ := hrel
          by_cases hlt : kk < S.size
          · have hlt' : (kk : Int) < (S.size : Int) := by omega
            have hk0 : (0 : Int) ≤ (kk : Int) := by omega
            have hp6 := pow_le6 (k := kk) (by omega)
            have hpn := HP.out
            have hnn : nn ≤ 1000000 := by omega
            clear hp6 hpn
            obtain ⟨b, hb⟩ : ∃ b, (S[kk]'hlt).toNat = b := ⟨_, rfl⟩
            have HB : Hid (∀ n : Nat, n ≤ 9 → bs S = [dg n] → kk = 0 ∧ b = 48 + n) := Lib.hid (fun n hn h => by
              obtain ⟨e1, e2⟩ := HD.out n hn h
              have h0 : kk = 0 := by omega
              subst h0
              exact ⟨rfl, hb.symm.trans (e2 hlt)⟩)
            by_cases hq1 : b < 48
            · have hq1' : (b : Int) < 48 := by omega
              have HE : Hid (∀ n : Nat, n ≤ 9 → bs S = [dg n] → (-1 : Int) = n) := Lib.hid (fun n hn h => by have := (HB.out n hn h).2; omega)
              go_wp2_with fail
              go_ret
              exact ⟨-1, rfl, by omega, by omega, HE.out, Below.refl _ _⟩
            · have hq1' : (48 : Int) ≤ (b : Int) := by omega
              by_cases hq2 : 57 < b
              · have hq2' : (57 : Int) < (b : Int) := by omega
                have HE : Hid (∀ n : Nat, n ≤ 9 → bs S = [dg n] → (-1 : Int) = n) := Lib.hid (fun n hn h => by have := (HB.out n hn h).2; omega)
                go_wp2_with fail
                go_ret
                exact ⟨-1, rfl, by omega, by omega, HE.out, Below.refl _ _⟩
              · have hq2' : (b : Int) ≤ 57 := by omega
                obtain ⟨z, hz⟩ : ∃ z : Nat, (b : Int) - 48 = z := ⟨b - 48, by omega⟩
                have hwz : IntKind.u8.wrap ((b : Int) - 48) = (z : Int) := by rw [hz]; simp [IntKind.wrap, IntKind.signed, IntKind.bits]; omega
                have hwm : IntKind.i64.wrap (10 * (nn : Int)) = 10 * (nn : Int) := IntWalk.i64_in _ (by omega)
                have hwa : IntKind.i64.wrap (10 * (nn : Int) + (z : Int)) = 10 * (nn : Int) + (z : Int) := IntWalk.i64_in _ (by omega)
                have HP2 : Hid (10 * nn + z < 10 ^ (kk + 1)) := Lib.hid (by have := HP.out; rw [Nat.pow_succ]; omega)
                have HV2 : Hid (∀ n : Nat, n ≤ 9 → bs S = [dg n] → kk + 1 = 1 → 10 * nn + z = n) := Lib.hid (fun n hn h hk1 => by
                  obtain ⟨e1, e2⟩ := HB.out n hn h
                  have := HP.out
                  rw [e1] at this
                  simp at this
                  omega)
                have hz9 : z ≤ 9 := by omega
                clear hz
                go_wp2_with fail
                go_round
                case rel => exact ⟨kk + 1, 10 * nn + z, by push_cast; rfl, by go_num, by omega, HP2, HV2⟩
                case measure => simp [intOf]; omega
          · obtain rfl : kk = S.size := by omega
            have hp6 := pow_le6 (k := S.size) (by omega)
            have hpn := HP.out
            have hnn : nn ≤ 999999 := by omega
            have HE : Hid (∀ n : Nat, n ≤ 9 → bs S = [dg n] → (nn : Int) = n) := Lib.hid (fun n hn h => by have := HV.out n hn h (HD.out n hn h).1; omega)
            clear hp6 hpn
            go_wp2_with fail
            go_ret
            exact ⟨nn, rfl, by omega, by omega, HE.out, Below.refl _ _⟩
      · have h1' : (1 : Int) < (S.size : Int) := by omega
        have hbq : ((b0 : Int) == 48) = false := by rw [beq_eq_false_iff_ne]; omega
        go_wp2_with fail
        clear hb0 hbq hbn
        go_loop [3, 4] (fun x k => ∃ kk nn : Nat, x = .int .i64 (nn : Int) ∧ k = .int .i64 (kk : Int) ∧ kk ≤ S.size ∧ Hid (nn < 10 ^ kk) ∧ Hid (∀ n : Nat, n ≤ 9 → bs S = [dg n] → kk = 1 → nn = n)) (fun _ k => S.size - (intOf k).toNat)
        case atStart => exact ⟨0, 0, rfl, rfl, Nat.zero_le _, Lib.hid (by decide), Lib.hid (fun n _ _ h => by omega)⟩
        case round =>
          obtain ⟨kk, nn, rfl, rfl, hk, HP, HV⟩ := hrel
          by_cases hlt : kk < S.size
          · have hlt' : (kk : Int) < (S.size : Int) := by omega
            have hk0 : (0 : Int) ≤ (kk : Int) := by omega
            have hp6 := pow_le6 (k := kk) (by omega)
            have hpn := HP.out
            have hnn : nn ≤ 1000000 := by omega
            clear hp6 hpn
            obtain ⟨b, hb⟩ : ∃ b, (S[kk]'hlt).toNat = b := ⟨_, rfl⟩
            have HB : Hid (∀ n : Nat, n ≤ 9 → bs S = [dg n] → kk = 0 ∧ b = 48 + n) := Lib.hid (fun n hn h => by
              obtain ⟨e1, e2⟩ := HD.out n hn h
              have h0 : kk = 0 := by omega
              subst h0
              exact ⟨rfl, hb.symm.trans (e2 hlt)⟩)
            by_cases hq1 : b < 48
            · have hq1' : (b : Int) < 48 := by omega
              have HE : Hid (∀ n : Nat, n ≤ 9 → bs S = [dg n] → (-1 : Int) = n) := Lib.hid (fun n hn h => by have := (HB.out n hn h).2; omega)
              go_wp2_with fail
              go_ret
              exact ⟨-1, rfl, by omega, by omega, HE.out, Below.refl _ _⟩
            · have hq1' : (48 : Int) ≤ (b : Int) := by omega
              by_cases hq2 : 57 < b
              · have hq2' : (57 : Int) < (b : Int) := by omega
                have HE : Hid (∀ n : Nat, n ≤ 9 → bs S = [dg n] → (-1 : Int) = n) := Lib.hid (fun n hn h => by have := (HB.out n hn h).2; omega)
                go_wp2_with fail
                go_ret
                exact ⟨-1, rfl, by omega, by omega, HE.out, Below.refl _ _⟩
              · have hq2' : (b : Int) ≤ 57 := by omega
                obtain ⟨z, hz⟩ : ∃ z : Nat, (b : Int) - 48 = z := ⟨b - 48, by omega⟩
                have hwz : IntKind.u8.wrap ((b : Int) - 48) = (z : Int) := by rw [hz]; simp [IntKind.wrap, IntKind.signed, IntKind.bits]; omega
                have hwm : IntKind.i64.wrap (10 * (nn : Int)) = 10 * (nn : Int) := IntWalk.i64_in _ (by omega)
                have hwa : IntKind.i64.wrap (10 * (nn : Int) + (z : Int)) = 10 * (nn : Int) + (z : Int) := IntWalk.i64_in _ (by omega)
                have HP2 : Hid (10 * nn + z < 10 ^ (kk + 1)) := Lib.hid (by have := HP.out; rw [Nat.pow_succ]; omega)
                have HV2 : Hid (∀ n : Nat, n ≤ 9 → bs S = [dg n] → kk + 1 = 1 → 10 * nn + z = n) := Lib.hid (fun n hn h hk1 => by
                  obtain ⟨e1, e2⟩ := HB.out n hn h
                  have := HP.out
                  rw [e1] at this
                  simp at this
                  omega)
                have hz9 : z ≤ 9 := by omega
                clear hz
                go_wp2_with fail
                go_round
                case rel => exact ⟨kk + 1, 10 * nn + z, by push_cast; rfl, by go_num, by omega, HP2, HV2⟩
                case measure => simp [intOf]; omega
          · obtain rfl : kk = S.size := by omega
            have hp6 := pow_le6 (k := S.size) (by omega)
            have hpn := HP.out
            have hnn : nn ≤ 999999 := by omega
            have HE : Hid (∀ n : Nat, n ≤ 9 → bs S = [dg n] → (nn : Int) = n) := Lib.hid (fun n hn h => by have := HV.out n hn h (HD.out n hn h).1; omega)
            clear hp6 hpn
            go_wp2_with fail
            go_ret
            exact ⟨nn, rfl, by omega, by omega, HE.out, Below.refl _ _⟩
  · have HE : Hid (∀ n : Nat, n ≤ 9 → bs S = [dg n] → (-1 : Int) = n) := Lib.hid (fun n hn h => by
      have := (one_digit h hn).1
      rw [this] at hi
      cases hi)
    go_enter Tryd.func38, Tryd.ntmps38
    go_wp2_with fail
    refine (l1In_any _ _ _ _).mono ?_
    rintro r w' ⟨rfl, rfl⟩
    rw [hi]
    go_wp2_with fail
    go_ret
    exact ⟨-1, rfl, by omega, by omega, HE.out, Below.refl _ _⟩

end Go.Proofs.YtfdlfgokoponmaaDoor
