/- The program's readers of terms: readOne, readNot, readHeld, readAnd, readOr, readChain; strings.HasPrefix, CutPrefix, IndexByte as they are called. Conditions: texts of at most 100000 bytes. -/
import Derived.Test.YtfdlfgokoponmaaDoorXo
import Derived.Lib.Bytealg
namespace Go.Proofs.YtfdlfgokoponmaaDoor
open Go.RowKit
set_option linter.unusedVariables false
set_option linter.unusedSimpArgs false

theorem bs_tail (S : ByteArray) : bs (S.extract 1 S.size) = (bs S).drop 1 := by
  have h : S = ⟨(bs S).toArray⟩ := by apply ByteArray.ext; simp [bs]
  conv => lhs; rw [h]
  rw [ByteArray.extract_mk, bs_mk, List.take_of_length_le]
  simp [ByteArray.size, List.length_drop]

theorem tail_size (S : ByteArray) : (S.extract 1 S.size).size = S.size - 1 := by
  rw [ByteArray.size_extract]; omega

theorem bs_head (S : ByteArray) (h : 0 < S.size) : bs S = S[0] :: bs (S.extract 1 S.size) := by
  rw [bs_tail]
  have := bs_drop S h
  rwa [List.drop_zero] at this

theorem bs_empty {S : ByteArray} (h : S.size = 0) : bs S = [] := List.eq_nil_of_length_eq_zero (by rw [bs_len]; exact h)

theorem ba_empty {S : ByteArray} (h : S.size = 0) : S = ⟨#[]⟩ := by
  apply ByteArray.ext
  apply Array.eq_empty_of_size_eq_zero
  exact h

/-- whether a text begins with a byte -/
def pfB (c : UInt8) (S : ByteArray) : Bool := decide ((bs S).head? = some c)

theorem pfB_raw (c : UInt8) (S : ByteArray) (h : 1 ≤ S.size) : ((S.extract 0 1).toList == [c]) = pfB c S := by
  have h1 : (S.extract 0 1).toList = [S[0]] := by
    have h2 : S = ⟨(bs S).toArray⟩ := by apply ByteArray.ext; simp [bs]
    have h3 := bs_head S (by omega)
    have h4 : bs (S.extract 0 1) = (bs S).take 1 := by
      conv => lhs; rw [h2]
      rw [ByteArray.extract_mk, bs_mk]; rfl
    rw [bs_list, h4, h3]; rfl
  rw [h1, pfB, bs_head S (by omega)]
  simp [Bool.beq_eq_decide_eq]

theorem pfB_no (c : UInt8) (S : ByteArray) (h : ¬ 1 ≤ S.size) : pfB c S = false := by
  rw [pfB, bs_empty (by omega)]; rfl

theorem pfB_yes {c : UInt8} {S : ByteArray} (h : pfB c S = true) : 1 ≤ S.size ∧ bs S = c :: bs (S.extract 1 S.size) := by
  rw [pfB, decide_eq_true_eq] at h
  by_cases h1 : 1 ≤ S.size
  · refine ⟨h1, ?_⟩
    have h2 := bs_head S (by omega)
    rw [h2] at h ⊢
    rw [Option.some.inj h]
  · rw [bs_empty (by omega)] at h; cases h

set_option maxHeartbeats 1000000 in
theorem hasPrefix_any (c : UInt8) (S : ByteArray) (w : World) :
    Calls Tryd.prog 85 #[.string S, .string ⟨#[c]⟩] w fun e w' => e = .returned (.bool (pfB c S)) ∧ w' = w := by
  by_cases h : 1 ≤ S.size
  · have HR := Lib.hid (pfB_raw c S h)
    have h' : (1 : Int) ≤ (S.size : Int) := by omega
    go_enter Tryd.func85, Tryd.ntmps85
    go_wp2
    go_ret
    exact ⟨ret_bool (by have := HR.out; simpa using this), rfl⟩
  · have HR := Lib.hid (pfB_no c S h)
    have h' : ¬ (1 : Int) ≤ (S.size : Int) := by omega
    go_enter Tryd.func85, Tryd.ntmps85
    go_wp2
    go_ret
    exact ⟨ret_bool (by have := HR.out; simpa using this), rfl⟩

set_option maxHeartbeats 1000000 in
theorem cutPrefix_yes (c : UInt8) (S : ByteArray) (h : pfB c S = true) (w : World) :
    Calls Tryd.prog 106 #[.string S, .string ⟨#[c]⟩] w fun e w' => e = .returned (.tuple #[.string (S.extract 1 S.size), .bool true]) ∧ w' = w := by
  have h1 := (pfB_yes h).1
  have h1' : (1 : Int) ≤ (S.size : Int) := by omega
  have h2 : ((S.extract 0 1).toList == [c]) = true := by rw [pfB_raw c S h1]; exact h
  go_enter Tryd.func106, Tryd.ntmps106
  go_wp2
  go_ret2
  exact ⟨rfl, rfl⟩

set_option maxHeartbeats 1000000 in
theorem cutPrefix_no (c : UInt8) (S : ByteArray) (h : pfB c S = false) (w : World) :
    Calls Tryd.prog 106 #[.string S, .string ⟨#[c]⟩] w fun e w' => e = .returned (.tuple #[.string S, .bool false]) ∧ w' = w := by
  by_cases h1 : 1 ≤ S.size
  · have h1' : (1 : Int) ≤ (S.size : Int) := by omega
    have h2 : ((S.extract 0 1).toList == [c]) = false := by rw [pfB_raw c S h1]; exact h
    go_enter Tryd.func106, Tryd.ntmps106
    go_wp2
    go_ret2
    exact ⟨rfl, rfl⟩
  · have h1' : ¬ (1 : Int) ≤ (S.size : Int) := by omega
    go_enter Tryd.func106, Tryd.ntmps106
    go_wp2
    go_ret2
    exact ⟨rfl, rfl⟩

/-- where a byte stands among the letters -/
def atI (c : Nat) : Int := if c = 97 then 0 else if c = 98 then 1 else -1

theorem at_tab : ∀ c : Fin 256, Lib.indexByte [97, 98] ((c : Nat) : Int).toNat.toUInt8 = atI (c : Nat) := by decide +kernel

set_option maxHeartbeats 1000000 in
set_option maxRecDepth 100000 in
theorem indexByte_any (c : Nat) (hc : c < 256) (w : World) :
    Calls Tryd.prog 101 #[.string ⟨#[97, 98]⟩, .int .u8 (c : Int)] w fun e w' => e = .returned (.int .i64 (atI c)) ∧ w' = w := by
  have HT := Lib.hid (at_tab ⟨c, hc⟩)
  go_enter Tryd.func101, Tryd.ntmps101
  go_wp2
  rw [run_callFunc_extern Tryd.func93 (by kernel_rfl) (by kernel_rfl) (by kernel_rfl) (e := Extern.BytealgIndexByte.indexByte) (by kernel_rfl), Lib.run_indexByteString]
  simp only [Result.andThen]
  rw [Oper.upon_value]
  go_wp2
  go_ret
  exact ⟨ret_int HT.out, rfl⟩

/-- what a reader tells -/
def Res (m : Md) (S : ByteArray) (ms : List Mk) (R : ByteArray) (ok : Bool) : Prop :=
  (ok = true ∧ ∃ T, Rds m (bs S) T (bs R) ∧ ms = encT T) ∨ (ok = false ∧ ∀ T q, ¬ Rds m (bs S) T q)

def RPost (m : Md) (S : ByteArray) (w : World) (e : Ending) (w' : World) : Prop :=
  ∃ A n c ms R ok, e = .returned (.tuple #[.slice A n c, .string R, .bool ok]) ∧ MOwn w' w.heap.size (.slice A n c) ms ∧ Below w.heap.size w w' ∧ ms.length + R.size ≤ S.size ∧ Res m S ms R ok

theorem res_let {S : ByteArray} (h : 0 < S.size) (b : Bool) (hc : S[0] = if b = true then 98 else 97) : Res .atom S [letM b] (S.extract 1 S.size) true := by
  refine .inl ⟨rfl, .lt b, ?_, rfl⟩
  rw [bs_head S h, hc]
  cases b
  · exact (rds_a _ _ _).2 ⟨rfl, rfl⟩
  · exact (rds_b _ _ _).2 ⟨rfl, rfl⟩

theorem res_not {S R : ByteArray} (h : 0 < S.size) (hc : S[0] = 33) {ms : List Mk} {ok : Bool} (g : Res .atom (S.extract 1 S.size) ms R ok) : Res .atom S (ms ++ [(1, 0)]) R ok := by
  have e := bs_head S h
  rw [hc] at e
  rcases g with ⟨rfl, T, h1, rfl⟩ | ⟨rfl, h1⟩
  · exact .inl ⟨rfl, .no T, by rw [e]; exact (rds_no _ _ _).2 ⟨T, h1, rfl⟩, rfl⟩
  · refine .inr ⟨rfl, fun T q hr => ?_⟩
    rw [e] at hr
    obtain ⟨x, hx, -⟩ := (rds_no _ _ _).1 hr
    exact h1 _ _ hx

theorem res_br {S R : ByteArray} (h : 0 < S.size) (hc : S[0] = 40) {ms : List Mk} {ok : Bool} (g : Res .disj (S.extract 1 S.size) ms R ok) :
    (pfB 41 R = true → Res .atom S ms (R.extract 1 R.size) ok) ∧ (pfB 41 R = false → Res .atom S ms R false) := by
  have e := bs_head S h
  rw [hc] at e
  constructor
  · intro hp
    rcases g with ⟨rfl, T, h1, rfl⟩ | ⟨rfl, h1⟩
    · refine .inl ⟨rfl, T, ?_, rfl⟩
      rw [e, rds_br, ← (pfB_yes hp).2]
      exact h1
    · refine .inr ⟨rfl, fun T q hr => ?_⟩
      rw [e, rds_br] at hr
      exact h1 _ _ hr
  · intro hp
    refine .inr ⟨rfl, fun T q hr => ?_⟩
    rw [e, rds_br] at hr
    rcases g with ⟨-, U, h1, -⟩ | ⟨-, h1⟩
    · have h2 := (h1.det hr).2
      rw [pfB, h2] at hp
      simp at hp
    · exact h1 _ _ hr

theorem res_else {S R : ByteArray} {ms : List Mk} (h : 0 < S.size) (h1 : ¬ S[0].toNat = 97) (h2 : ¬ S[0].toNat = 98) (h3 : ¬ S[0].toNat = 33) (h4 : ¬ S[0].toNat = 40) : Res .atom S ms R false := by
  refine .inr ⟨rfl, fun T q hr => ?_⟩
  rw [bs_head S h] at hr
  exact rds_else (fun e => h1 (by rw [e]; rfl)) (fun e => h2 (by rw [e]; rfl)) (fun e => h3 (by rw [e]; rfl)) (fun e => h4 (by rw [e]; rfl)) _ _ _ hr

theorem res_empty {S R : ByteArray} {ms : List Mk} (h : S.size = 0) : Res .atom S ms R false :=
  .inr ⟨rfl, fun T q hr => by rw [bs_empty h] at hr; exact rds_nil _ _ hr⟩

/-! the loop of parts between signs -/

/-- what stands when marks have been read: the whole is read just as it is read on from here -/
def Going (m mL : Md) (f : Tm → Md) (S : ByteArray) (ms : List Mk) (R : ByteArray) (ok : Bool) : Prop :=
  (ok = true ∧ ∃ t, ms = encT t ∧ ∀ T q, Rds m (bs S) T q ↔ Rds (f t) (bs R) T q) ∨ (ok = false ∧ ∀ T q, ¬ Rds m (bs S) T q)

theorem and_first {S R : ByteArray} {ms : List Mk} {ok : Bool} (g : Res .atom S ms R ok) : Going .conj .conj .conjL S ms R ok := by
  rcases g with ⟨rfl, t, h1, rfl⟩ | ⟨rfl, h1⟩
  · refine .inl ⟨rfl, t, rfl, fun T q => ?_⟩
    rw [rds_conj]
    exact ⟨fun ⟨x, r, h2, h3⟩ => by obtain ⟨rfl, rfl⟩ := h1.det h2; exact h3, fun h3 => ⟨t, _, h1, h3⟩⟩
  · refine .inr ⟨rfl, fun T q hr => ?_⟩
    obtain ⟨x, r, h2, -⟩ := (rds_conj _ _ _).1 hr
    exact h1 _ _ h2

theorem or_first {S R : ByteArray} {ms : List Mk} {ok : Bool} (g : Res .conj S ms R ok) : Going .disj .disj .disjL S ms R ok := by
  rcases g with ⟨rfl, t, h1, rfl⟩ | ⟨rfl, h1⟩
  · refine .inl ⟨rfl, t, rfl, fun T q => ?_⟩
    rw [rds_disj]
    exact ⟨fun ⟨x, r, h2, h3⟩ => by obtain ⟨rfl, rfl⟩ := h1.det h2; exact h3, fun h3 => ⟨t, _, h1, h3⟩⟩
  · refine .inr ⟨rfl, fun T q hr => ?_⟩
    obtain ⟨x, r, h2, -⟩ := (rds_disj _ _ _).1 hr
    exact h1 _ _ h2

theorem and_next {S R R2 : ByteArray} {ms ns : List Mk} {ok : Bool} (g : Going .conj .conj .conjL S ms R true) (hp : pfB 38 R = true) (k : Res .atom (R.extract 1 R.size) ns R2 ok) : Going .conj .conj .conjL S (ms ++ ns ++ [(2, 0)]) R2 ok := by
  rcases g with ⟨-, t, rfl, h1⟩ | ⟨h, -⟩
  · have e := (pfB_yes hp).2
    rcases k with ⟨rfl, u, h2, rfl⟩ | ⟨rfl, h2⟩
    · refine .inl ⟨rfl, .an t u, rfl, fun T q => ?_⟩
      rw [h1, e, rds_conjL]
      exact ⟨fun ⟨x, r, h3, h4⟩ => by obtain ⟨rfl, rfl⟩ := h2.det h3; exact h4, fun h4 => ⟨u, _, h2, h4⟩⟩
    · refine .inr ⟨rfl, fun T q hr => ?_⟩
      rw [h1, e, rds_conjL] at hr
      obtain ⟨x, r, h3, -⟩ := hr
      exact h2 _ _ h3
  · cases h

theorem or_next {S R R2 : ByteArray} {ms ns : List Mk} {ok : Bool} (g : Going .disj .disj .disjL S ms R true) (hp : pfB 124 R = true) (k : Res .conj (R.extract 1 R.size) ns R2 ok) : Going .disj .disj .disjL S (ms ++ ns ++ [(3, 0)]) R2 ok := by
  rcases g with ⟨-, t, rfl, h1⟩ | ⟨h, -⟩
  · have e := (pfB_yes hp).2
    rcases k with ⟨rfl, u, h2, rfl⟩ | ⟨rfl, h2⟩
    · refine .inl ⟨rfl, .vel t u, rfl, fun T q => ?_⟩
      rw [h1, e, rds_disjL]
      exact ⟨fun ⟨x, r, h3, h4⟩ => by obtain ⟨rfl, rfl⟩ := h2.det h3; exact h4, fun h4 => ⟨u, _, h2, h4⟩⟩
    · refine .inr ⟨rfl, fun T q hr => ?_⟩
      rw [h1, e, rds_disjL] at hr
      obtain ⟨x, r, h3, -⟩ := hr
      exact h2 _ _ h3
  · cases h

theorem and_last {S R : ByteArray} {ms : List Mk} {ok : Bool} (g : Going .conj .conj .conjL S ms R ok) (hp : ok = true → pfB 38 R = false) : Res .conj S ms R ok := by
  rcases g with ⟨rfl, t, rfl, h1⟩ | ⟨rfl, h1⟩
  · refine .inl ⟨rfl, t, (h1 _ _).2 ((rds_conj_stop (by simpa [pfB] using hp rfl) _ _).2 ⟨rfl, rfl⟩), rfl⟩
  · exact .inr ⟨rfl, h1⟩

theorem or_last {S R : ByteArray} {ms : List Mk} {ok : Bool} (g : Going .disj .disj .disjL S ms R ok) (hp : ok = true → pfB 124 R = false) : Res .disj S ms R ok := by
  rcases g with ⟨rfl, t, rfl, h1⟩ | ⟨rfl, h1⟩
  · refine .inl ⟨rfl, t, (h1 _ _).2 ((rds_disj_stop (by simpa [pfB] using hp rfl) _ _).2 ⟨rfl, rfl⟩), rfl⟩
  · exact .inr ⟨rfl, h1⟩

end Go.Proofs.YtfdlfgokoponmaaDoor
