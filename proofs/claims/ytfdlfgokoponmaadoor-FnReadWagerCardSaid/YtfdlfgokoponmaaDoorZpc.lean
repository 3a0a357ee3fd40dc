/- The program's readNumber, strings.Cut at one byte. Conditions: texts of at most two million bytes; the tables of package strconv are laid. -/
import Derived.Test.YtfdlfgokoponmaaDoorZpa
import Derived.Test.YtfdlfgokoponmaaDoorSh
import Derived.Lib.IndexLaws
import Derived.Lib.AtoiAllCases
import Derived.OwnWalk
namespace Go.Proofs.YtfdlfgokoponmaaDoor
open Go.RowKit
set_option linter.unusedVariables false
set_option linter.unusedSimpArgs false

/-! what is laid -/

def NTab (w : World) : Prop := Lib.TabIs Tryd.prog w "internal/strconv.uint64pow10" .u64 Lib.pow10Tab

def ETab (w : World) : Prop := (∃ tp p, w.var? Tryd.prog "strconv.ErrSyntax" = some #[.iface tp p]) ∧ ∃ tp p, w.var? Tryd.prog "strconv.ErrRange" = some #[.iface tp p]

theorem var_below {P : Program} {n : String} {g : Nat} {cs : Array Value} {w w' : World} (hg : P.globalNamed n = some g) (h : w.var? P n = some cs) (hb : Below w.heap.size w w') : w'.var? P n = some cs := by
  unfold World.var? at h ⊢
  rw [hg] at h ⊢
  simp only [Option.bind_some] at h ⊢
  have hlt : g < w.heap.size := by
    rcases Nat.lt_or_ge g w.heap.size with h' | h'
    · exact h'
    · rw [Array.getElem?_eq_none h'] at h; cases h
  rw [hb.block g hlt]
  exact h

theorem NTab.below {w w' : World} (h : NTab w) (hb : Below w.heap.size w w') : NTab w' := var_below (g := 1) (by kernel_rfl) h hb

theorem ETab.below {w w' : World} (h : ETab w) (hb : Below w.heap.size w w') : ETab w' := by
  obtain ⟨⟨t1, p1, h1⟩, t2, p2, h2⟩ := h
  exact ⟨⟨t1, p1, var_below (g := 2) (by kernel_rfl) h1 hb⟩, t2, p2, var_below (g := 3) (by kernel_rfl) h2 hb⟩

/-! numbers -/

theorem dec_one {u : Nat} (h : u < 10) : Lib.decDigits u = [dg u] := by rw [Lib.decDigits, dif_pos h]; rfl

theorem itoa_num {n : Int} (h : -9 ≤ n ∧ n ≤ 9) : Lib.itoa n = num n := by
  by_cases hn : n < 0
  · rw [Lib.itoa, if_pos hn, num_neg hn, dec_one (by omega)]
    rw [show n.natAbs = (-n).toNat from by omega]
  · rw [Lib.itoa, if_neg hn, num_pos (by omega), dec_one (by omega)]

theorem atoi_tab : ∀ k : Fin 19, Lib.atoiAll (num (((k : Nat) : Int) - 9)) = .ok (((k : Nat) : Int) - 9) := by decide +kernel

theorem atoi_num {n : Int} (h : -9 ≤ n ∧ n ≤ 9) : Lib.atoiAll (num n) = .ok n := by
  have := atoi_tab ⟨(n + 9).toNat, by omega⟩
  simp only at this
  rwa [show (((n + 9).toNat : Nat) : Int) - 9 = n from by omega] at this

theorem below_grow (w : World) (q : Nat) (os : Array Obj) : Below w.heap.size w (Go.Sort.grow (w.drewN q) os) :=
  ⟨rfl, rfl, rfl, by first | (simp [Go.Sort.grow]; done) | (simp [Go.Sort.grow]; omega), fun i hi => by
    show ((w.drewN q).heap ++ os)[i]? = _
    rw [Array.getElem?_append_left (by show i < w.heap.size; omega)]
    rfl⟩

theorem below_conv (w : World) (e : TypeId) (s : ByteArray) : Below w.heap.size w (Lib.bytesWorld w e s) :=
  ⟨rfl, rfl, rfl, by rw [Lib.bytesWorld_size]; omega, fun i hi => Lib.bytesWorld_at_old w e s i hi⟩

theorem itoa_any (n : Int) (h0 : -9223372036854775808 ≤ n) (h1 : n ≤ 9223372036854775807) (w : World) (ht : NTab w) :
    Calls Tryd.prog 23 #[.int .i64 n] w (TxtPost (Lib.itoa n) w) := by
  refine (Tryd.strconv_Itoa n h0 h1 w ht).mono ?_
  rintro e w' ⟨rfl, k, os, rfl⟩
  exact ⟨rfl, below_grow _ _ _⟩

/-- a number that is read -/
def RNum (S : ByteArray) (w : World) (e : Ending) (w' : World) : Prop := ∃ n ok, e = .returned (.tuple #[.int .i64 n, .bool ok]) ∧ Below w.heap.size w w' ∧
  ((ok = true ∧ Lib.itoa n = bs S ∧ Lib.atoiAll (bs S) = .ok n) ∨ (ok = false ∧ ∀ m : Int, -9 ≤ m ∧ m ≤ 9 → num m ≠ bs S))

set_option maxHeartbeats 4000000 in
theorem readNumber_any (S : ByteArray) (hS : S.size ≤ 2000000) (w : World) (hn : NTab w) (he : ETab w) :
    Calls Tryd.prog 33 #[.string S] w (RNum S w) := by
  have HT := Lib.hid hn
  have HE := Lib.hid he
  clear hn he
  rcases ha : Lib.atoiAll (bs S) with n | _ | _
  · have HA := Lib.hid ha
    obtain ⟨n0, n1⟩ := Lib.atoiAll_bounds ha
    clear ha
    obtain ⟨X, hX⟩ : ∃ X, Lib.itoa n = X := ⟨_, rfl⟩
    have HX := Lib.hid hX
    have HI : Hid (∀ wr, Below w.heap.size w wr → Calls Tryd.prog 23 #[.int .i64 n] wr (TxtPost X wr)) := Lib.hid (fun wr hb => by rw [← hX]; exact itoa_any n n0 n1 wr (HT.out.below hb))
    clear hX
    by_cases hx : X = bs S
    · have hb3 : (X == S.toList) = true := by rw [bs_list]; simpa using hx
      have HY := Lib.hid hx
      clear hx
      go_enter Tryd.func33, Tryd.ntmps33
      go_wp2_with fail
      refine (Tryd.strconv_Atoi_ok S (by omega) n HA.out w).mono ?_
      rintro e w1 ⟨rfl, h1⟩
      have HB : Hid (Below w.heap.size w w1) := Lib.hid (by rcases h1 with rfl | ⟨t, rfl⟩; exact Below.refl _ _; exact below_conv _ _ _)
      clear h1
      go_wp2_with fail
      refine (HI.out w1 HB.out).mono ?_
      rintro e w2 ⟨rfl, b2⟩
      have HB2 := Lib.hid (below_step HB.out b2 HB.out.size)
      clear b2
      go_wp2_with fail
      go_ret2
      exact ⟨n, true, rfl, HB2.out, .inl ⟨rfl, by rw [HX.out]; exact HY.out, HA.out⟩⟩
    · have hb3 : (X == S.toList) = false := by rw [bs_list]; simpa using hx
      have HY : Hid (∀ m : Int, -9 ≤ m ∧ m ≤ 9 → num m ≠ bs S) := Lib.hid (fun m hm e => by
        have h1 := atoi_num hm
        rw [e, HA.out] at h1
        injection h1 with h1
        subst h1
        exact hx (by rw [← HX.out, itoa_num hm, e]))
      clear hx
      go_enter Tryd.func33, Tryd.ntmps33
      go_wp2_with fail
      refine (Tryd.strconv_Atoi_ok S (by omega) n HA.out w).mono ?_
      rintro e w1 ⟨rfl, h1⟩
      have HB : Hid (Below w.heap.size w w1) := Lib.hid (by rcases h1 with rfl | ⟨t, rfl⟩; exact Below.refl _ _; exact below_conv _ _ _)
      clear h1
      go_wp2_with fail
      refine (HI.out w1 HB.out).mono ?_
      rintro e w2 ⟨rfl, b2⟩
      have HB2 := Lib.hid (below_step HB.out b2 HB.out.size)
      clear b2
      go_wp2_with fail
      go_ret2
      exact ⟨0, false, rfl, HB2.out, .inr ⟨rfl, HY.out⟩⟩
  · have HY : Hid (∀ m : Int, -9 ≤ m ∧ m ≤ 9 → num m ≠ bs S) := Lib.hid (fun m hm e => by
      have h1 := atoi_num hm
      rw [e, ha] at h1
      cases h1)
    obtain ⟨tp, p, hv⟩ := HE.out.1
    have HC := Lib.hid (Tryd.strconv_Atoi_syntax_var S (by omega) ha tp p w hv)
    clear ha hv
    go_enter Tryd.func33, Tryd.ntmps33
    go_wp2_with fail
    refine HC.out.mono ?_
    rintro e w1 ⟨N, rfl, -, -, b1⟩
    have HB := Lib.hid b1
    clear b1
    go_wp2_with fail
    go_ret2
    exact ⟨0, false, rfl, HB.out, .inr ⟨rfl, HY.out⟩⟩
  · have HY : Hid (∀ m : Int, -9 ≤ m ∧ m ≤ 9 → num m ≠ bs S) := Lib.hid (fun m hm e => by
      have h1 := atoi_num hm
      rw [e, ha] at h1
      cases h1)
    obtain ⟨tp, p, hv⟩ := HE.out.2
    have HC := Lib.hid (Tryd.strconv_Atoi_range_var S (by omega) ha tp p w hv)
    clear ha hv
    go_enter Tryd.func33, Tryd.ntmps33
    go_wp2_with fail
    refine HC.out.mono ?_
    rintro e w1 ⟨N, rfl, -, -, b1⟩
    have HB := Lib.hid b1
    clear b1
    go_wp2_with fail
    go_ret2
    exact ⟨0, false, rfl, HB.out, .inr ⟨rfl, HY.out⟩⟩

/-! Cut at one byte -/

theorem index_cases (l : List UInt8) (c : UInt8) : (Lib.indexByte l c = -1 ∧ c ∉ l) ∨ ∃ o : Nat, Lib.indexByte l c = o ∧ o < l.length ∧ c ∉ l.take o ∧ l = l.take o ++ c :: l.drop (o + 1) := by
  by_cases h : Lib.indexByte l c = -1
  · refine .inl ⟨h, fun hm => ?_⟩
    obtain ⟨k, hk⟩ := List.getElem?_of_mem hm
    exact Lib.indexByte_none h k hk
  · have h1 := Lib.indexByte_ge l c
    obtain ⟨o, ho⟩ : ∃ o : Nat, Lib.indexByte l c = o := ⟨(Lib.indexByte l c).toNat, by omega⟩
    obtain ⟨h2, h3⟩ := Lib.indexByte_some ho
    have hlt : o < l.length := (List.getElem?_eq_some_iff.1 h2).1
    refine .inr ⟨o, ho, hlt, fun hm => ?_, ?_⟩
    · obtain ⟨k, hk⟩ := List.getElem?_of_mem hm
      rw [List.getElem?_take] at hk
      split at hk
      · next hko => exact h3 k hko hk
      · cases hk
    · have h4 : l[o] = c := by rw [List.getElem?_eq_getElem hlt] at h2; exact Option.some.inj h2
      conv => lhs; rw [← List.take_append_drop o l]
      rw [List.drop_eq_getElem_cons hlt, h4]

/-- what is cut -/
def CutIt (c : UInt8) (S : ByteArray) (w : World) (e : Ending) (w' : World) : Prop := ∃ A B ok, e = .returned (.tuple #[.string A, .string B, .bool ok]) ∧ Below w.heap.size w w' ∧
  A.size ≤ S.size ∧ B.size ≤ S.size ∧ ((ok = true ∧ c ∉ bs A ∧ bs S = bs A ++ c :: bs B) ∨ (ok = false ∧ c ∉ bs S ∧ B = ⟨#[]⟩))

theorem bs_part (S : ByteArray) (i j : Nat) : bs (S.extract i j) = ((bs S).drop i).take (j - i) := by
  have h : S = ⟨(bs S).toArray⟩ := by apply ByteArray.ext; simp [bs]
  conv => lhs; rw [h]
  rw [ByteArray.extract_mk, bs_mk]

set_option maxHeartbeats 4000000 in
theorem cut_any (c : UInt8) (S : ByteArray) (hS : S.size ≤ 2000000) (w : World) :
    Calls Tryd.prog 32 #[.string S, .string ⟨#[c]⟩] w (CutIt c S w) := by
  have HB : Hid (Below w.heap.size w w.drew) := Lib.hid (Below.refl _ _).drew
  rcases index_cases (bs S) c with ⟨hi, hm⟩ | ⟨o, hi, hlt, hm, he⟩
  · have HC : Hid (∀ w : World, Calls Tryd.prog 66 #[.string S, .string ⟨#[c]⟩] w fun e w' => e = .returned (.int .i64 (-1)) ∧ w' = w) := Lib.hid (fun w => by rw [← hi]; exact Tryd.stringslite_Index_one S c w)
    have HM := Lib.hid hm
    clear hi hm
    go_enter Tryd.func32, Tryd.ntmps32
    go_wp2_with (first | (go_at_call 66; refine (HC.out _).mono ?_; rintro e w' ⟨rfl, rfl⟩) | go_in)
    go_ret3
    exact ⟨S, ⟨#[]⟩, false, rfl, Below.refl _ _, Nat.le_refl _, Nat.zero_le _, .inr ⟨rfl, HM.out, rfl⟩⟩
  · have HC : Hid (∀ w : World, Calls Tryd.prog 66 #[.string S, .string ⟨#[c]⟩] w fun e w' => e = .returned (.int .i64 (o : Int)) ∧ w' = w) := Lib.hid (fun w => by rw [← hi]; exact Tryd.stringslite_Index_one S c w)
    rw [bs_len] at hlt
    have HF : Hid (c ∉ bs (S.extract 0 o) ∧ bs S = bs (S.extract 0 o) ++ c :: bs (S.extract (o + 1) S.size)) := Lib.hid (by
      rw [bs_part, bs_part, List.drop_zero, Nat.sub_zero, List.take_of_length_le (l := (bs S).drop (o + 1)) (by rw [List.length_drop, bs_len]; omega)]
      exact ⟨hm, he⟩)
    have o0 : (0 : Int) ≤ (o : Int) := by omega
    have o1 : (o : Int) ≤ (S.size : Int) := by omega
    have o2 : (0 : Int) ≤ (o : Int) + 1 := by omega
    have o3 : (o : Int) + 1 ≤ (S.size : Int) := by omega
    have ow : IntKind.i64.wrap ((o : Int) + 1) = (o : Int) + 1 := IntWalk.i64_in _ (by omega)
    have ot : ((o : Int) + 1).toNat = o + 1 := by omega
    have ho2 : o ≤ S.size := by omega
    have ho3 : o + 1 ≤ S.size := by omega
    clear hi hm he
    go_enter Tryd.func32, Tryd.ntmps32
    go_wp2_with (first | (go_at_call 66; refine (HC.out _).mono ?_; rintro e w' ⟨rfl, rfl⟩) | go_in)
    go_region
    all_goals
      go_wp2_with fail
      go_ret3
      exact ⟨_, _, true, rfl, HB.out, by rw [ByteArray.size_extract]; omega, by rw [ByteArray.size_extract]; omega, .inl ⟨rfl, HF.out⟩⟩

end Go.Proofs.YtfdlfgokoponmaaDoor
