/- The program's readers of terms, walked. Conditions: texts of at most 100000 bytes. (gen_xpb.py) -/
import Derived.Test.YtfdlfgokoponmaaDoorXpa
import Derived.OwnWalk
namespace Go.Proofs.YtfdlfgokoponmaaDoor
open Go.RowKit
set_option linter.unusedVariables false
set_option linter.unusedSimpArgs false

theorem mform {w : World} {base : Nat} {v : Value} {ms : List Mk} (o : MOwn w base v ms) : ∃ A n c, v = .slice A n c := by
  obtain ⟨A, c, rfl, -, -⟩ := (o.rd qC_len).form
  exact ⟨A, _, c, rfl⟩

theorem mown_form {w : World} {base : Nat} {A : Option Addr} {n c : Nat} {ms : List Mk} (o : MOwn w base (.slice A n c) ms) : Value.slice A n c = .slice none 0 0 ∨ ∃ g, A = some ⟨g, 0, none⟩ := by
  rcases o.2 with ⟨h, -⟩ | ⟨g, cap, cur, e, -⟩
  · exact .inl h
  · injection e with e; exact .inr ⟨g, e⟩

theorem mown_nil {w : World} {base : Nat} {ms : List Mk} (o : MOwn w base (.slice none 0 0) ms) : ms = [] := by
  rcases o.2 with ⟨-, h⟩ | ⟨g, cap, cur, e, -⟩
  · exact List.eq_nil_of_length_eq_zero h
  · cases e

theorem wp_app_none {ops : Array Oper} {rest : List Oper} {o : Oper} {a : Act} {Q : Exit → Act → World → Prop} (hgd : o.guard = none) (s x : Operand)
    (ho : o.op = .call { callee := .builtin .append, args := #[s, x], argTypes := #[23, 23] }) (w : World) (base : Nat) (v : Value) (ms : List Qt)
    (hs : a.eval s = v) (hown : MOwn w base v ms) (hx : a.eval x = .slice none 0 0) (h : wpList Tryd.prog ops Q rest (a.put o.dst v) w) :
    wpList Tryd.prog ops Q (o :: rest) a w := by
  obtain ⟨i0, hi, hz0, hz1, hz2⟩ := info_parts Try_markinfo
  exact wpList_append_own_none hgd s x 23 ho base 59 i0 2 Tryd.underlying23 hi v ms.length (ms.flatMap qC) hs hown hx h

set_option maxHeartbeats 2000000 in
theorem readNot_of (S : ByteArray) (hS : S.size ≤ 100000) (ih : ∀ w, Calls Tryd.prog 86 #[.string S] w (RPost .atom S w)) (w : World) :
    Calls Tryd.prog 99 #[.string S] w (fun e w' => ∃ A n c ms R ok, e = .returned (.tuple #[.slice A n c, .string R, .bool ok]) ∧ MOwn w' w.heap.size (.slice A n c) (ms ++ [(1, 0)]) ∧ Below w.heap.size w w' ∧ ms.length + R.size ≤ S.size ∧ Res .atom S ms R ok) := by
  have IH := Lib.hid ih
  clear ih
  go_enter Tryd.func99, Tryd.ntmps99
  go_wp2_with fail
  refine (IH.out w).mono ?_
  rintro r w2 ⟨A, n, c, ms, R, ok, rfl, o2, b2, l2, g2⟩
  have H2 : Hid (MOwn w2 w.heap.size (.slice A n c) ms ∧ Below w.heap.size w w2 ∧ ms.length + R.size ≤ S.size ∧ Res .atom S ms R ok) := Lib.hid ⟨o2, b2, l2, g2⟩
  clear o2 b2 l2 g2
  go_wp2_with (at_builtin; refine wp_app_mark rfl _ _ rfl _ w.heap.size _ _ _ _ (by rfl) H2.out.1 (by rfl) ?q0 ?r0 ?_)
  case q0 => have := H2.out.2.2.1; omega
  case r0 => exact H2.out.2.1.size
  intro v3 w3 o3 b3 _
  obtain ⟨A3, n3, c3, rfl⟩ := mform o3
  have H3 : Hid (MOwn w3 w.heap.size (.slice A3 n3 c3) (ms ++ [((1 : Int), (0 : Int))]) ∧ Below w.heap.size w w3) := Lib.hid ⟨o3, H2.out.2.1.trans b3⟩
  clear o3 b3
  go_wp2_with fail
  go_ret3
  exact ⟨A3, n3, c3, ms, R, ok, rfl, H3.out.1, H3.out.2, H2.out.2.2.1, H2.out.2.2.2⟩

set_option maxHeartbeats 2000000 in
theorem readHeld_of (S : ByteArray) (hS : S.size ≤ 100000) (ih : ∀ w, Calls Tryd.prog 59 #[.string S] w (RPost .disj S w)) (w : World) :
    Calls Tryd.prog 100 #[.string S] w (fun e w' => ∃ A n c ms R ok, e = .returned (.tuple #[.slice A n c, .string (if pfB 41 R = true then R.extract 1 R.size else R), .bool (ok && pfB 41 R)]) ∧ MOwn w' w.heap.size (.slice A n c) ms ∧ Below w.heap.size w w' ∧ ms.length + R.size ≤ S.size ∧ Res .disj S ms R ok) := by
  have IH := Lib.hid ih
  clear ih
  go_enter Tryd.func100, Tryd.ntmps100
  go_wp2_with fail
  refine (IH.out w).mono ?_
  rintro r w2 ⟨A, n, c, ms, R, ok, rfl, o2, b2, l2, g2⟩
  have H2 : Hid (MOwn w2 w.heap.size (.slice A n c) ms ∧ Below w.heap.size w w2 ∧ ms.length + R.size ≤ S.size ∧ Res .disj S ms R ok) := Lib.hid ⟨o2, b2, l2, g2⟩
  clear o2 b2 l2 g2
  cases ok
  all_goals
    rcases Bool.eq_false_or_eq_true (pfB 41 R) with hp | hp
    · have HP := Lib.hid hp
      go_wp2_with (go_at_call 106; refine (cutPrefix_yes 41 R hp _).mono ?_; rintro r w' ⟨rfl, rfl⟩)
      go_ret3
      refine ⟨A, n, c, ms, R, _, ?_, H2.out.1, H2.out.2.1, H2.out.2.2.1, H2.out.2.2.2⟩
      rw [HP.out]; rfl
    · have HP := Lib.hid hp
      go_wp2_with (go_at_call 106; refine (cutPrefix_no 41 R hp _).mono ?_; rintro r w' ⟨rfl, rfl⟩)
      go_ret3
      refine ⟨A, n, c, ms, R, _, ?_, H2.out.1, H2.out.2.1, H2.out.2.2.1, H2.out.2.2.2⟩
      rw [HP.out]; rfl

set_option maxHeartbeats 4000000 in
theorem readOne_of (S : ByteArray) (hS : S.size ≤ 100000)
    (ihA : 0 < S.size → ∀ w, Calls Tryd.prog 86 #[.string (S.extract 1 S.size)] w (RPost .atom (S.extract 1 S.size) w))
    (ihD : 0 < S.size → ∀ w, Calls Tryd.prog 59 #[.string (S.extract 1 S.size)] w (RPost .disj (S.extract 1 S.size) w)) (w : World) :
    Calls Tryd.prog 86 #[.string S] w (RPost .atom S w) := by
  have IA := Lib.hid ihA
  have ID := Lib.hid ihD
  clear ihA ihD
  by_cases hlt : 0 < S.size
  · have hne : (S.toList == []) = false := by rw [bs_list, bs_head S hlt]; rfl
    have hlt' : (0 : Int) < (S.size : Int) := by omega
    have hle' : (1 : Int) ≤ (S.size : Int) := by omega
    have h256 : (S[0]).toNat < 256 := UInt8.toNat_lt _
    by_cases h97 : (S[0]).toNat = 97
    · have hb : S[0] = if false = true then 98 else 97 := u8_lit (by simpa using h97)
      have HG := Lib.hid (res_let hlt false hb)
      have hc : ((S[0]).toNat : Int) = 97 := by rw [h97]; rfl
      clear hb
      go_enter Tryd.func86, Tryd.ntmps86
      go_wp2_with fail
      refine (indexByte_any 97 (by omega) w).mono ?_
      rintro r w2 ⟨rfl, rfl⟩
      rw [show atI 97 = 0 from rfl]
      go_wp2_with fail
      go_region
      all_goals
        go_wp2_with fail
        go_ret3
        exact ⟨_, _, _, [letM false], _, _, rfl, mlit1 w2 w2.heap.size (Nat.le_refl _) 0 0, ((Below.refl _ _).alloc (Nat.le_refl _) _).drew, by rw [tail_size]; simp; omega, HG.out⟩
    by_cases h98 : (S[0]).toNat = 98
    · have hb : S[0] = if true = true then 98 else 97 := u8_lit (by simpa using h98)
      have HG := Lib.hid (res_let hlt true hb)
      have hc : ((S[0]).toNat : Int) = 98 := by rw [h98]; rfl
      clear hb
      go_enter Tryd.func86, Tryd.ntmps86
      go_wp2_with fail
      refine (indexByte_any 98 (by omega) w).mono ?_
      rintro r w2 ⟨rfl, rfl⟩
      rw [show atI 98 = 1 from rfl]
      go_wp2_with fail
      go_region
      all_goals
        go_wp2_with fail
        go_ret3
        exact ⟨_, _, _, [letM true], _, _, rfl, mlit1 w2 w2.heap.size (Nat.le_refl _) 0 1, ((Below.refl _ _).alloc (Nat.le_refl _) _).drew, by rw [tail_size]; simp; omega, HG.out⟩
    by_cases h33 : (S[0]).toNat = 33
    · have hc : ((S[0]).toNat : Int) = 33 := by rw [h33]; rfl
      have HN : Hid (∀ w, Calls Tryd.prog 99 #[.string (S.extract 1 S.size)] w (fun e w' => ∃ A n c ms R ok, e = .returned (.tuple #[.slice A n c, .string R, .bool ok]) ∧ MOwn w' w.heap.size (.slice A n c) (ms ++ [(1, 0)]) ∧ Below w.heap.size w w' ∧ ms.length + R.size ≤ (S.extract 1 S.size).size ∧ Res .atom (S.extract 1 S.size) ms R ok)) := Lib.hid (readNot_of (S.extract 1 S.size) (by rw [tail_size]; omega) (IA.out hlt))
      go_enter Tryd.func86, Tryd.ntmps86
      go_wp2_with fail
      refine (HN.out w).mono ?_
      rintro r w2 ⟨A, n, c, ms, R, ok, rfl, o2, b2, l2, g2⟩
      have HG := Lib.hid (res_not hlt (u8_lit (d := 33) h33) g2)
      have H2 := Lib.hid (And.intro o2 (And.intro b2 l2))
      clear o2 b2 l2 g2
      go_wp2_with fail
      go_ret3
      exact ⟨A, n, c, _, R, ok, rfl, H2.out.1, H2.out.2.1, by have := H2.out.2.2; rw [tail_size] at this; simp; omega, HG.out⟩
    by_cases h40 : (S[0]).toNat = 40
    · have hc : ((S[0]).toNat : Int) = 40 := by rw [h40]; rfl
      have HN : Hid (∀ w, Calls Tryd.prog 100 #[.string (S.extract 1 S.size)] w (fun e w' => ∃ A n c ms R ok, e = .returned (.tuple #[.slice A n c, .string (if pfB 41 R = true then R.extract 1 R.size else R), .bool (ok && pfB 41 R)]) ∧ MOwn w' w.heap.size (.slice A n c) ms ∧ Below w.heap.size w w' ∧ ms.length + R.size ≤ (S.extract 1 S.size).size ∧ Res .disj (S.extract 1 S.size) ms R ok)) := Lib.hid (readHeld_of (S.extract 1 S.size) (by rw [tail_size]; omega) (ID.out hlt))
      go_enter Tryd.func86, Tryd.ntmps86
      go_wp2_with fail
      refine (HN.out w).mono ?_
      rintro r w2 ⟨A, n, c, ms, R, ok, rfl, o2, b2, l2, g2⟩
      have HG := Lib.hid (res_br hlt (u8_lit (d := 40) h40) g2)
      have H2 := Lib.hid (And.intro o2 (And.intro b2 l2))
      clear o2 b2 l2 g2
      rcases Bool.eq_false_or_eq_true (pfB 41 R) with hp | hp
      · have HP := Lib.hid hp
        rw [hp, if_pos rfl, Bool.and_true]
        go_wp2_with fail
        go_ret3
        exact ⟨A, n, c, ms, _, _, rfl, H2.out.1, H2.out.2.1, by have := H2.out.2.2; rw [tail_size] at this ⊢; omega, HG.out.1 HP.out⟩
      · have HP := Lib.hid hp
        rw [hp, if_neg (by decide), Bool.and_false]
        go_wp2_with fail
        go_ret3
        exact ⟨A, n, c, ms, _, _, rfl, H2.out.1, H2.out.2.1, by have := H2.out.2.2; rw [tail_size] at this; omega, HG.out.2 HP.out⟩
    · have HG : ∀ ms R, Hid (Res .atom S ms R false) := fun ms R => Lib.hid (res_else hlt h97 h98 h33 h40)
      have hn33 : (((S[0]).toNat : Int) == 33) = false := by simp; omega
      have hn40 : (((S[0]).toNat : Int) == 40) = false := by simp; omega
      have hat : atI (S[0]).toNat = -1 := by rw [atI, if_neg h97, if_neg h98]
      clear h97 h98 h33 h40
      go_enter Tryd.func86, Tryd.ntmps86
      go_wp2_with fail
      refine (indexByte_any (S[0]).toNat h256 w).mono ?_
      rintro r w2 ⟨rfl, rfl⟩
      rw [hat]
      go_wp2_with fail
      go_region
      all_goals
        go_wp2_with fail
        go_ret3
        exact ⟨_, _, _, [((0 : Int), (-1 : Int))], _, _, rfl, mlit1 w2 w2.heap.size (Nat.le_refl _) 0 (-1), ((Below.refl _ _).alloc (Nat.le_refl _) _).drew, by rw [tail_size]; simp; omega, (HG _ _).out⟩
  · have h0 : S.size = 0 := by omega
    have HE : ∀ ms R, Hid (Res .atom S ms R false) := fun ms R => Lib.hid (res_empty h0)
    have hne : (S.toList == []) = true := by rw [bs_list, bs_empty h0]; rfl
    clear h0
    go_enter Tryd.func86, Tryd.ntmps86
    go_wp2_with fail
    go_ret3
    exact ⟨none, 0, 0, [], ⟨#[]⟩, false, rfl, World.ownsRow_nil _ _ _ _, Below.refl _ _, Nat.zero_le _, (HE _ _).out⟩

set_option maxHeartbeats 4000000 in
theorem chainAnd_of (S : ByteArray) (hS : S.size ≤ 100000) (ih : ∀ S' : ByteArray, S'.size ≤ S.size → ∀ w, Calls Tryd.prog 86 #[.string S'] w (RPost .atom S' w)) (w : World) :
    Calls Tryd.prog 69 #[.string S, .string ⟨#[38]⟩, .int .i64 2, .func (.func 86) #[] #[]] w (RPost .conj S w) := by
  have IH := Lib.hid ih
  clear ih
  go_enter Tryd.func69, Tryd.ntmps69
  go_wp2_with fail
  refine (IH.out S (Nat.le_refl _) w).mono ?_
  rintro r w2 ⟨A, n, c, ms, R, ok, rfl, o2, b2, l2, g2⟩
  have H2 : Hid (MOwn w2 w.heap.size (.slice A n c) ms ∧ Below w.heap.size w w2 ∧ ms.length + R.size ≤ S.size ∧ Going .conj .conj .conjL S ms R ok) := Lib.hid ⟨o2, b2, l2, and_first g2⟩
  clear o2 b2 l2 g2
  go_wp2_with fail
  go_loopw [11, 12, 13] (fun p r q wr => ∃ A n c ms R ok, p = .slice A n c ∧ r = .string R ∧ q = .bool ok ∧ Hid (MOwn wr w.heap.size (.slice A n c) ms ∧ Below w.heap.size w wr ∧ ms.length + R.size ≤ S.size ∧ Going .conj .conj .conjL S ms R ok)) (fun _ r _ _ => match r with | .string R => R.size | _ => 0)
  case atStart => exact ⟨A, n, c, ms, R, ok, rfl, rfl, rfl, H2⟩
  case round =>
    obtain ⟨A, n, c, ms, R, ok, rfl, rfl, rfl, H⟩ := hrel
    clear H2
    cases ok
    · go_wp2_with fail
      go_ret3
      exact ⟨A, n, c, ms, R, false, rfl, H.out.1, H.out.2.1, H.out.2.2.1, and_last H.out.2.2.2 (fun e => by cases e)⟩
    · rcases Bool.eq_false_or_eq_true (pfB 38 R) with hp | hp
      · have h1 := (pfB_yes hp).1
        have h1' : (1 : Int) ≤ (R.size : Int) := by omega
        have hts := tail_size R
        have HS := Lib.hid hts
        clear hts
        go_wp2_with fail
        refine (hasPrefix_any 38 R _).mono ?_
        rintro r w' ⟨rfl, hw'⟩
        obtain rfl := hw'.symm
        rw [hp]
        go_wp2_with fail
        refine (IH.out (R.extract 1 R.size) (by rw [HS.out]; have := H.out.2.2.1; omega) _).mono ?_
        rintro r w3 ⟨A3, n3, c3, ns, R3, ok3, rfl, o3, b3, l3, g3⟩
        have H3 : Hid (MOwn w3 wr.heap.size (.slice A3 n3 c3) ns ∧ Below w.heap.size w w3 ∧ ns.length + R3.size ≤ R.size - 1 ∧ Going .conj .conj .conjL S (ms ++ ns ++ [(2, 0)]) R3 ok3 ∧ MOwn w3 w.heap.size (.slice A n c) ms) := Lib.hid ⟨o3, below_step H.out.2.1 b3 H.out.2.1.size, by rw [← HS.out]; exact l3, and_next H.out.2.2.2 hp g3, H.out.1.keep (SameAt.of_below b3)⟩
        clear o3 b3 l3 g3
        rcases mown_form H3.out.1 with hv | ⟨g3, hv⟩
        · obtain ⟨rfl, rfl, rfl⟩ : A3 = none ∧ n3 = 0 ∧ c3 = 0 := by injection hv with h1 h2 h3; exact ⟨h1, h2, h3⟩
          clear hv
          obtain rfl : ns = [] := mown_nil H3.out.1
          have HL := Lib.hid (show 1 ≤ R.size from h1)
          go_wp2_with (at_builtin; first | (refine wp_app_none rfl _ _ rfl _ w.heap.size _ _ (by rfl) H3.out.2.2.2.2 (by rfl) ?_) | (refine wp_app_mark rfl _ _ rfl _ w.heap.size _ _ _ _ (by rfl) H3.out.2.2.2.2 (by rfl) ?q1 ?r1 ?_))
          case q1 => have := H.out.2.2.1; omega
          case r1 => exact H3.out.2.1.size
          intro v5 w5 o5 b5 _
          obtain ⟨A5, n5, c5, rfl⟩ := mform o5
          have H5 : Hid (MOwn w5 w.heap.size (.slice A5 n5 c5) (ms ++ [] ++ [((2 : Int), (0 : Int))]) ∧ Below w.heap.size w w5) := Lib.hid ⟨by simpa using o5, H3.out.2.1.trans b5⟩
          clear o5 b5
          go_wp2_with fail
          go_roundw
          case rel => exact ⟨A5, n5, c5, _, R3, ok3, rfl, rfl, rfl, Lib.hid ⟨H5.out.1, H5.out.2, by have := H3.out.2.2.1; have := H.out.2.2.1; have := HL.out; simp; omega, H3.out.2.2.2.1⟩⟩
          case measure => have := H3.out.2.2.1; dsimp only; omega
        · subst hv
          have HL := Lib.hid (show 1 ≤ R.size from h1)
          go_wp2_with (at_builtin; refine wp_app_row rfl _ _ rfl _ w.heap.size _ _ _ _ _ _ ns (by rfl) H3.out.2.2.2.2 (by rfl) (H3.out.1.rd qC_len) ?q0 ?p0 ?r0 ?_)
          case q0 => have := H.out.2.2.1; omega
          case p0 => have := H3.out.2.2.1; have := H.out.2.2.1; omega
          case r0 => exact H3.out.2.1.size
          intro v4 w4 o4 g4 _ _
          have H4 : Hid (MOwn w4 w.heap.size v4 (ms ++ ns) ∧ Below w.heap.size w w4) := Lib.hid ⟨o4, H3.out.2.1.grown g4 H3.out.2.1.size (fun g hg => (H3.out.2.2.2.2.ge g hg).1)⟩
          clear o4 g4
          go_wp2_with (at_builtin; refine wp_app_mark rfl _ _ rfl _ w.heap.size _ _ _ _ (by rfl) H4.out.1 (by rfl) ?q1 ?r1 ?_)
          case q1 => have := H3.out.2.2.1; have := H.out.2.2.1; rw [List.length_append]; omega
          case r1 => exact H4.out.2.size
          intro v5 w5 o5 b5 _
          obtain ⟨A5, n5, c5, rfl⟩ := mform o5
          have H5 : Hid (MOwn w5 w.heap.size (.slice A5 n5 c5) (ms ++ ns ++ [((2 : Int), (0 : Int))]) ∧ Below w.heap.size w w5) := Lib.hid ⟨by first | exact o5 | simpa using o5, H4.out.2.trans b5⟩
          clear o5 b5
          go_wp2_with fail
          go_roundw
          case rel => exact ⟨A5, n5, c5, _, R3, ok3, rfl, rfl, rfl, Lib.hid ⟨H5.out.1, H5.out.2, by have := H3.out.2.2.1; have := H.out.2.2.1; have := HL.out; simp; omega, H3.out.2.2.2.1⟩⟩
          case measure => have := H3.out.2.2.1; dsimp only; omega
      · go_wp2_with fail
        refine (hasPrefix_any 38 R _).mono ?_
        rintro r w' ⟨rfl, hw'⟩
        obtain rfl := hw'.symm
        rw [hp]
        go_wp2_with fail
        go_ret3
        exact ⟨A, n, c, ms, R, true, rfl, H.out.1, H.out.2.1, H.out.2.2.1, and_last H.out.2.2.2 (fun _ => hp)⟩

set_option maxHeartbeats 4000000 in
theorem chainOr_of (S : ByteArray) (hS : S.size ≤ 100000) (ih : ∀ S' : ByteArray, S'.size ≤ S.size → ∀ w, Calls Tryd.prog 70 #[.string S'] w (RPost .conj S' w)) (w : World) :
    Calls Tryd.prog 69 #[.string S, .string ⟨#[124]⟩, .int .i64 3, .func (.func 70) #[] #[]] w (RPost .disj S w) := by
  have IH := Lib.hid ih
  clear ih
  go_enter Tryd.func69, Tryd.ntmps69
  go_wp2_with fail
  refine (IH.out S (Nat.le_refl _) w).mono ?_
  rintro r w2 ⟨A, n, c, ms, R, ok, rfl, o2, b2, l2, g2⟩
  have H2 : Hid (MOwn w2 w.heap.size (.slice A n c) ms ∧ Below w.heap.size w w2 ∧ ms.length + R.size ≤ S.size ∧ Going .disj .disj .disjL S ms R ok) := Lib.hid ⟨o2, b2, l2, or_first g2⟩
  clear o2 b2 l2 g2
  go_wp2_with fail
  go_loopw [11, 12, 13] (fun p r q wr => ∃ A n c ms R ok, p = .slice A n c ∧ r = .string R ∧ q = .bool ok ∧ Hid (MOwn wr w.heap.size (.slice A n c) ms ∧ Below w.heap.size w wr ∧ ms.length + R.size ≤ S.size ∧ Going .disj .disj .disjL S ms R ok)) (fun _ r _ _ => match r with | .string R => R.size | _ => 0)
  case atStart => exact ⟨A, n, c, ms, R, ok, rfl, rfl, rfl, H2⟩
  case round =>
    obtain ⟨A, n, c, ms, R, ok, rfl, rfl, rfl, H⟩ := hrel
    clear H2
    cases ok
    · go_wp2_with fail
      go_ret3
      exact ⟨A, n, c, ms, R, false, rfl, H.out.1, H.out.2.1, H.out.2.2.1, or_last H.out.2.2.2 (fun e => by cases e)⟩
    · rcases Bool.eq_false_or_eq_true (pfB 124 R) with hp | hp
      · have h1 := (pfB_yes hp).1
        have h1' : (1 : Int) ≤ (R.size : Int) := by omega
        have hts := tail_size R
        have HS := Lib.hid hts
        clear hts
        go_wp2_with fail
        refine (hasPrefix_any 124 R _).mono ?_
        rintro r w' ⟨rfl, hw'⟩
        obtain rfl := hw'.symm
        rw [hp]
        go_wp2_with fail
        refine (IH.out (R.extract 1 R.size) (by rw [HS.out]; have := H.out.2.2.1; omega) _).mono ?_
        rintro r w3 ⟨A3, n3, c3, ns, R3, ok3, rfl, o3, b3, l3, g3⟩
        have H3 : Hid (MOwn w3 wr.heap.size (.slice A3 n3 c3) ns ∧ Below w.heap.size w w3 ∧ ns.length + R3.size ≤ R.size - 1 ∧ Going .disj .disj .disjL S (ms ++ ns ++ [(3, 0)]) R3 ok3 ∧ MOwn w3 w.heap.size (.slice A n c) ms) := Lib.hid ⟨o3, below_step H.out.2.1 b3 H.out.2.1.size, by rw [← HS.out]; exact l3, or_next H.out.2.2.2 hp g3, H.out.1.keep (SameAt.of_below b3)⟩
        clear o3 b3 l3 g3
        rcases mown_form H3.out.1 with hv | ⟨g3, hv⟩
        · obtain ⟨rfl, rfl, rfl⟩ : A3 = none ∧ n3 = 0 ∧ c3 = 0 := by injection hv with h1 h2 h3; exact ⟨h1, h2, h3⟩
          clear hv
          obtain rfl : ns = [] := mown_nil H3.out.1
          have HL := Lib.hid (show 1 ≤ R.size from h1)
          go_wp2_with (at_builtin; first | (refine wp_app_none rfl _ _ rfl _ w.heap.size _ _ (by rfl) H3.out.2.2.2.2 (by rfl) ?_) | (refine wp_app_mark rfl _ _ rfl _ w.heap.size _ _ _ _ (by rfl) H3.out.2.2.2.2 (by rfl) ?q1 ?r1 ?_))
          case q1 => have := H.out.2.2.1; omega
          case r1 => exact H3.out.2.1.size
          intro v5 w5 o5 b5 _
          obtain ⟨A5, n5, c5, rfl⟩ := mform o5
          have H5 : Hid (MOwn w5 w.heap.size (.slice A5 n5 c5) (ms ++ [] ++ [((3 : Int), (0 : Int))]) ∧ Below w.heap.size w w5) := Lib.hid ⟨by simpa using o5, H3.out.2.1.trans b5⟩
          clear o5 b5
          go_wp2_with fail
          go_roundw
          case rel => exact ⟨A5, n5, c5, _, R3, ok3, rfl, rfl, rfl, Lib.hid ⟨H5.out.1, H5.out.2, by have := H3.out.2.2.1; have := H.out.2.2.1; have := HL.out; simp; omega, H3.out.2.2.2.1⟩⟩
          case measure => have := H3.out.2.2.1; dsimp only; omega
        · subst hv
          have HL := Lib.hid (show 1 ≤ R.size from h1)
          go_wp2_with (at_builtin; refine wp_app_row rfl _ _ rfl _ w.heap.size _ _ _ _ _ _ ns (by rfl) H3.out.2.2.2.2 (by rfl) (H3.out.1.rd qC_len) ?q0 ?p0 ?r0 ?_)
          case q0 => have := H.out.2.2.1; omega
          case p0 => have := H3.out.2.2.1; have := H.out.2.2.1; omega
          case r0 => exact H3.out.2.1.size
          intro v4 w4 o4 g4 _ _
          have H4 : Hid (MOwn w4 w.heap.size v4 (ms ++ ns) ∧ Below w.heap.size w w4) := Lib.hid ⟨o4, H3.out.2.1.grown g4 H3.out.2.1.size (fun g hg => (H3.out.2.2.2.2.ge g hg).1)⟩
          clear o4 g4
          go_wp2_with (at_builtin; refine wp_app_mark rfl _ _ rfl _ w.heap.size _ _ _ _ (by rfl) H4.out.1 (by rfl) ?q1 ?r1 ?_)
          case q1 => have := H3.out.2.2.1; have := H.out.2.2.1; rw [List.length_append]; omega
          case r1 => exact H4.out.2.size
          intro v5 w5 o5 b5 _
          obtain ⟨A5, n5, c5, rfl⟩ := mform o5
          have H5 : Hid (MOwn w5 w.heap.size (.slice A5 n5 c5) (ms ++ ns ++ [((3 : Int), (0 : Int))]) ∧ Below w.heap.size w w5) := Lib.hid ⟨by first | exact o5 | simpa using o5, H4.out.2.trans b5⟩
          clear o5 b5
          go_wp2_with fail
          go_roundw
          case rel => exact ⟨A5, n5, c5, _, R3, ok3, rfl, rfl, rfl, Lib.hid ⟨H5.out.1, H5.out.2, by have := H3.out.2.2.1; have := H.out.2.2.1; have := HL.out; simp; omega, H3.out.2.2.2.1⟩⟩
          case measure => have := H3.out.2.2.1; dsimp only; omega
      · go_wp2_with fail
        refine (hasPrefix_any 124 R _).mono ?_
        rintro r w' ⟨rfl, hw'⟩
        obtain rfl := hw'.symm
        rw [hp]
        go_wp2_with fail
        go_ret3
        exact ⟨A, n, c, ms, R, true, rfl, H.out.1, H.out.2.1, H.out.2.2.1, or_last H.out.2.2.2 (fun _ => hp)⟩

set_option maxHeartbeats 1000000 in
theorem readers_any (N : Nat) (hN : N ≤ 100000) : ∀ S : ByteArray, S.size ≤ N →
    (∀ w, Calls Tryd.prog 86 #[.string S] w (RPost .atom S w)) ∧ (∀ w, Calls Tryd.prog 70 #[.string S] w (RPost .conj S w)) ∧ (∀ w, Calls Tryd.prog 59 #[.string S] w (RPost .disj S w)) := by
  have hand : ∀ S : ByteArray, S.size ≤ 100000 → (∀ S' : ByteArray, S'.size ≤ S.size → ∀ w, Calls Tryd.prog 86 #[.string S'] w (RPost .atom S' w)) → ∀ w, Calls Tryd.prog 70 #[.string S] w (RPost .conj S w) := by
    intro S hS ih w
    have HC := Lib.hid (chainAnd_of S hS ih)
    clear ih
    go_enter Tryd.func70, Tryd.ntmps70
    go_wp2_with fail
    refine (HC.out w).mono ?_
    rintro r w2 ⟨A, n, c, ms, R, ok, rfl, h⟩
    have H := Lib.hid h
    clear h
    go_wp2_with fail
    go_ret3
    exact ⟨A, n, c, ms, R, ok, rfl, H.out⟩
  have hor : ∀ S : ByteArray, S.size ≤ 100000 → (∀ S' : ByteArray, S'.size ≤ S.size → ∀ w, Calls Tryd.prog 70 #[.string S'] w (RPost .conj S' w)) → ∀ w, Calls Tryd.prog 59 #[.string S] w (RPost .disj S w) := by
    intro S hS ih w
    have HC := Lib.hid (chainOr_of S hS ih)
    clear ih hand
    go_enter Tryd.func59, Tryd.ntmps59
    go_wp2_with fail
    refine (HC.out w).mono ?_
    rintro r w2 ⟨A, n, c, ms, R, ok, rfl, h⟩
    have H := Lib.hid h
    clear h
    go_wp2_with fail
    go_ret3
    exact ⟨A, n, c, ms, R, ok, rfl, H.out⟩
  induction N with
  | zero =>
    have h1 : ∀ S : ByteArray, S.size ≤ 0 → ∀ w, Calls Tryd.prog 86 #[.string S] w (RPost .atom S w) := fun S hS => readOne_of S (by omega) (fun h => by omega) (fun h => by omega)
    have h2 : ∀ S : ByteArray, S.size ≤ 0 → ∀ w, Calls Tryd.prog 70 #[.string S] w (RPost .conj S w) := fun S hS => hand S (by omega) (fun S' h => h1 S' (by omega))
    exact fun S hS => ⟨h1 S hS, h2 S hS, hor S (by omega) (fun S' h => h2 S' (by omega))⟩
  | succ N ihN =>
    have ih := ihN (by omega)
    have h1 : ∀ S : ByteArray, S.size ≤ N + 1 → ∀ w, Calls Tryd.prog 86 #[.string S] w (RPost .atom S w) := fun S hS => readOne_of S (by omega) (fun h => (ih _ (by rw [tail_size]; omega)).1) (fun h => (ih _ (by rw [tail_size]; omega)).2.2)
    have h2 : ∀ S : ByteArray, S.size ≤ N + 1 → ∀ w, Calls Tryd.prog 70 #[.string S] w (RPost .conj S w) := fun S hS => hand S (by omega) (fun S' h => h1 S' (by omega))
    exact fun S hS => ⟨h1 S hS, h2 S hS, hor S (by omega) (fun S' h => h2 S' (by omega))⟩

end Go.Proofs.YtfdlfgokoponmaaDoor
