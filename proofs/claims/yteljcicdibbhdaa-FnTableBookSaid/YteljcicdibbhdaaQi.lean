/- impl.BalanceOf: rows of rows, their fold. Conditions: stated at each. impl.BalanceOf: the fold over rows. Conditions: stated at each. spec.BalanceOf. Conditions: rows that read as lists. -/
import Derived.Test.YteljcicdibbhdaaQf
namespace Go.Proofs.Yteljcicdibbhdaa
open Go.RowKit
set_option linter.unusedVariables false

/-- the one cell of a row within a row -/
def vC (v : Value) : List Value := [v]

theorem vC_len (v : Value) : (vC v).length = 1 := rfl

/-- rows of ints: the i-th one reads as R i -/
def RowsOf (R : Nat → List Int) (n : Nat) (v : Value) (w : World) : Prop := ∃ vs : List Value, vs.length = n ∧ GRd 1 vC w v vs ∧ ∀ i u, vs[i]? = some u → IRd w u (R i)

theorem RowsOf.keep {R : Nat → List Int} {n : Nat} {v : Value} {w w' : World} (h : RowsOf R n v w) (hb : Below w.heap.size w w') : RowsOf R n v w' := by
  obtain ⟨vs, h1, h2, h3⟩ := h
  exact ⟨vs, h1, h2.keep (SameAt.of_below hb), fun i u hu => (h3 i u hu).keep (SameAt.of_below hb)⟩

theorem RowsOf.at_ {R : Nat → List Int} {n m c : Nat} {A : Option Addr} {w : World} (h : RowsOf R n (.slice A m c) w) {k : Nat} (hk : k < m) :
    ∃ b off u, A = some ⟨b, off, none⟩ ∧ w.cell? ⟨b, off + k, none⟩ = some u ∧ IRd w u (R k) := by
  obtain ⟨vs, h1, h2, h3⟩ := h
  obtain ⟨b, off, u, hA, hb, hx, hc⟩ := GRd.at_ h2 hk
  have h0 := hc 0 u rfl
  rw [Nat.mul_one, Nat.add_zero] at h0
  exact ⟨b, off, u, hA, h0, h3 k u hx⟩

theorem RowsOf.form {R : Nat → List Int} {n : Nat} {v : Value} {w : World} (h : RowsOf R n v w) : ∃ A cp, v = .slice A n cp ∧ n ≤ cp ∧ cp ≤ 9223372036854775807 := by
  obtain ⟨vs, h1, h2, h3⟩ := h
  subst h1
  exact h2.form

/-- the rows are laid up to k -/
def RowsRel (w : World) (R : Nat → List Int) (n k : Nat) (wr : World) : Prop :=
  ∃ vs : List Value, vs.length = k ∧ GOwn 41 1 vC wr w.heap.size (.slice (some ⟨w.heap.size, 0, none⟩) n n) (vs ++ List.replicate (n - k) (Value.slice none 0 0)) ∧
    (∀ i u, vs[i]? = some u → IRd wr u (R i) ∧ ∀ g, u.ownBlock = some g → w.heap.size < g) ∧ Below w.heap.size w wr

theorem RowsRel.keep {w wr w' : World} {R : Nat → List Int} {n k : Nat} (h : RowsRel w R n k wr) (hb : Below wr.heap.size wr w') : RowsRel w R n k w' := by
  obtain ⟨vs, h1, h2, h3, h4⟩ := h
  exact ⟨vs, h1, h2.keep (SameAt.of_below hb), fun i u hu => ⟨(h3 i u hu).1.keep (SameAt.of_below hb), (h3 i u hu).2⟩, below_step h4 hb h4.size⟩

theorem RowsRel.below {w wr : World} {R : Nat → List Int} {n k : Nat} (h : RowsRel w R n k wr) : Below w.heap.size w wr := by
  obtain ⟨vs, h1, h2, h3, h4⟩ := h
  exact h4

theorem RowsRel.old {w wr : World} {R : Nat → List Int} {n k : Nat} (h : RowsRel w R n k wr) (hk : k < n) : wr.frozen? ⟨w.heap.size, k, none⟩ = false ∧ ∃ old, wr.cell? ⟨w.heap.size, k, none⟩ = some old := by
  obtain ⟨vs, h1, h2, h3, h4⟩ := h
  have := h2.old vC_len (by simp [h1]; omega) hk (j := 0) (by decide)
  rw [Nat.mul_one, Nat.add_zero] at this
  exact this

theorem RowsRel.step {w wr : World} {R : Nat → List Int} {n k : Nat} {u : Value} (h : RowsRel w R n k wr) (hk : k < n) (ho : IRd wr u (R k)) (hu : ∀ g, u.ownBlock = some g → w.heap.size < g) :
    RowsRel w R n (k + 1) (wr.setCell ⟨w.heap.size, k, none⟩ u) := by
  obtain ⟨vs, h1, h2, h3, h4⟩ := h
  have hl : (vs ++ List.replicate (n - k) (Value.slice none 0 0)).length = n := by simp [h1]; omega
  have h2' : ∀ ys : List Value, ys.length = n → GOwn 41 1 vC wr w.heap.size (.slice (some ⟨w.heap.size, 0, none⟩) n n) ys → GOwn 41 1 vC (wr.setCell ⟨w.heap.size, k, none⟩ u) w.heap.size (.slice (some ⟨w.heap.size, 0, none⟩) n n) (ys.set k u) ∧ wr.grownBy (wr.setCell ⟨w.heap.size, k, none⟩ u) (some w.heap.size) := by
    intro ys hy ho
    subst hy
    exact GOwn.set1 (x := u) vC_len ho hk rfl
  obtain ⟨h5, h6⟩ := h2' _ hl h2
  have hset : (vs ++ List.replicate (n - k) (Value.slice none 0 0)).set k u = (vs ++ [u]) ++ List.replicate (n - (k + 1)) (Value.slice none 0 0) := by
    rw [List.set_append_right _ _ (by omega), h1, Nat.sub_self]
    obtain ⟨m, hm⟩ : ∃ m, n - k = m + 1 := ⟨n - k - 1, by omega⟩
    rw [hm, List.replicate_succ, List.set_cons_zero, show n - (k + 1) = m from by omega, List.append_assoc]
    rfl
  rw [hset] at h5
  have far : ∀ z : Value, (∀ g, z.ownBlock = some g → w.heap.size < g) → z.ownBlock = none ∨ z.ownBlock ≠ some w.heap.size := by
    intro z hz
    rcases hv : z.ownBlock with _ | g
    · exact .inl rfl
    · refine .inr fun e => ?_
      have := hz g hv
      injection e with e
      omega
  refine ⟨vs ++ [u], by simp [h1], h5, fun i z hz => ?_, h4.setCell (Nat.le_refl _) _⟩
  by_cases hi : i < k
  · rw [List.getElem?_append_left (by omega)] at hz
    obtain ⟨h7, h8⟩ := h3 i z hz
    exact ⟨h7.keep (SameAt.of_grown h6 (far z h8)), h8⟩
  · rw [List.getElem?_append_right (by omega)] at hz
    have hik : i = k := by
      rcases Nat.lt_or_ge (i - vs.length) 1 with h | h
      · omega
      · rw [List.getElem?_eq_none (by simpa using h)] at hz; cases hz
    subst hik
    rw [h1, Nat.sub_self] at hz
    obtain rfl : u = z := by simpa using hz
    exact ⟨ho.keep (SameAt.of_grown h6 (far u hu)), hu⟩

theorem RowsRel.all {w wr : World} {R : Nat → List Int} {n k : Nat} (h : RowsRel w R n k wr) (hk : k = n) : RowsOf R n (.slice (some ⟨w.heap.size, 0, none⟩) n n) wr ∧ Below w.heap.size w wr := by
  subst hk
  obtain ⟨vs, h1, h2, h3, h4⟩ := h
  rw [Nat.sub_self, List.replicate_zero, List.append_nil] at h2
  refine ⟨⟨vs, h1, ?_, fun i u hu => (h3 i u hu).1⟩, h4⟩
  exact h2.rd vC_len

theorem RowsRel.start {w w0 : World} {n : Nat} (R : Nat → List Int) (hown : w0.ownsRow w.heap.size 41 1 (.slice (some ⟨w.heap.size, 0, none⟩) n n) n (madeCells #[Value.slice none 0 0] n).toList) (hg : w.grownBy w0 none) : RowsRel w R n 0 w0 := by
  refine ⟨[], rfl, ?_, fun i u hu => by simp at hu, (Below.refl _ _).grown hg (Nat.le_refl _) (fun k hk => by cases hk)⟩
  have h := GFill.start (enc := vC) (xs := List.replicate n (Value.slice none 0 0)) vC_len (by decide) (.slice none 0 0) (zc := #[Value.slice none 0 0]) (n := n) (by rw [Nat.mul_one]; exact hown) rfl (by simp) hg
  have h1 := h.1
  rw [upto_zero, List.length_replicate] at h1
  simpa using h1

/-- what a row that was made in a round leaves: its value's form, the outer row's cell, and the next round's state -/
def RowStep (w : World) (R : Nat → List Int) (n k m : Nat) (r : Ending) (w3 : World) : Prop :=
  ∃ A c, r = .returned (.slice A m c) ∧ w3.frozen? ⟨w.heap.size, k, none⟩ = false ∧ (∃ old, w3.cell? ⟨w.heap.size, k, none⟩ = some old) ∧ Hid (RowsRel w R n (k + 1) (w3.setCell ⟨w.heap.size, k, none⟩ (.slice A m c)))

theorem row_step {w wr wx w3 : World} {R : Nat → List Int} {n k : Nat} {xs : List Int} {r : Ending} (h : RowsRel w R n k wr) (hb : Below wr.heap.size wr wx) (hk : k < n) (e : R k = xs) (hr : NewInts xs wx r w3) : RowStep w R n k xs.length r w3 := by
  subst e
  obtain ⟨u, rfl, ou, b3⟩ := hr
  have H3 := h.keep (below_step hb b3 hb.size)
  obtain ⟨A, c, rfl, -, -, -⟩ := id ou.rd
  obtain ⟨h1, h2⟩ := H3.old hk
  refine ⟨A, c, rfl, h1, h2, Lib.hid (H3.step hk ou.rd (fun g hg => ?_))⟩
  have h4 := (ou.ge g hg).1
  have h5 := hb.size
  obtain ⟨vs, e1, e2, e3, e4⟩ := h
  have h6 := (e2.ge w.heap.size rfl).2
  omega

theorem Try_sliceinfo : (Try.prog.info? 41).map (fun i => (i.zero, i.size, i.bytes)) = some (some (.slice none 0 0), 1, 24) := by kernel_rfl

/-- fresh rows -/
def NewRows (R : Nat → List Int) (n : Nat) (w : World) (e : Ending) (w' : World) : Prop := ∃ v, e = .returned v ∧ RowsOf R n v w' ∧ Below w.heap.size w w'

def gainAt (n : Int) (qs : List Qt) (ss : List Int) (i : Nat) : List Int := gainL n (qs.getD i (0, 0)) (ss.getD i 0)

theorem gainAt_eq {n : Int} {qs : List Qt} {ss : List Int} {i : Nat} {q : Qt} {s : Int} (hq : qs[i]? = some q) (hs : ss[i]? = some s) : gainAt n qs ss i = gainL n q s := by
  unfold gainAt
  rw [List.getD_eq_getElem?_getD, hq, List.getD_eq_getElem?_getD, hs]
  rfl

theorem bal_gain {n : Int} {qs : List Qt} {ss : List Int} {i : Nat} {q : Qt} {s : Int} (h : balB n qs ss = true) (hq : qs[i]? = some q) (hs : ss[i]? = some s) : gainB n q s = true := by
  obtain ⟨h1, h2, h3⟩ := (balB_iff _ _ _).1 h
  rw [gainB, Bool.and_eq_true, stB_iff]
  exact ⟨((bokB_iff _ _).1 h1).2.2 q (List.mem_of_getElem? hq), h3 s (List.mem_of_getElem? hs)⟩

set_option maxHeartbeats 4000000 in
theorem gainRows_any (w : World) (n : Int) (v u : Value) (qs : List Qt) (ss : List Int) (hv : QRd w v qs) (hu : IRd w u ss) (h : balB n qs ss = true) :
    Calls Try.prog 121 #[.int .i64 n, v, u] w (NewRows (gainAt n qs ss) qs.length w) := by
  obtain ⟨A, c, rfl, hl, hm⟩ := hv.form
  obtain ⟨A', c', rfl, hl', hm', -⟩ := id hu
  have HV := Lib.hid hv
  have HU := Lib.hid hu
  have HL : Hid (ss.length = qs.length) := Lib.hid ((balB_iff _ _ _).1 h).2.1
  have h3 : qs.length ≤ 3 := ((bokB_iff _ _).1 ((balB_iff _ _ _).1 h).1).2.1
  have HB := Lib.hid h
  clear hv hu h
  obtain ⟨i0, hi, hz0, hz1, hz2⟩ := info_parts Try_sliceinfo
  go_enter Try.func121, Try.ntmps121
  go_wp2_with (at_make; refine wpList_make_full _ rfl _ _ 107 rfl w.heap.size 41 i0 (.slice none 0 0) 1 Try.underlying107 hi hz0 hz1 .i64 .i64 _ _ qs.length rfl rfl rfl rfl ?b2 ?b3 (Nat.le_refl _) ?_)
  case b2 => first | omega | (rw [hz2]; omega)
  case b3 => unfold maxLen; omega
  intro w0 hown0 hgrow0
  have H0 : Hid (RowsRel w (gainAt n qs ss) qs.length 0 w0) := Lib.hid (RowsRel.start _ hown0 hgrow0)
  clear hown0 hgrow0 hi hz0 hz1 hz2
  go_wp2_with fail
  go_loopw [15] (fun i wr => ∃ k : Nat, i = .int .i64 k ∧ k ≤ qs.length ∧ Hid (RowsRel w (gainAt n qs ss) qs.length k wr)) (fun i _ => qs.length - (intOf i).toNat)
  case atStart => exact ⟨0, rfl, Nat.zero_le _, H0⟩
  case round =>
    obtain ⟨k, rfl, hk, H⟩ := hrel
    clear H0
    by_cases hlt : k < qs.length
    · have hlt2 : k < ss.length := by have := HL.out; omega
      obtain ⟨b, off, q, rfl, -, hx, hc0, hc1⟩ := QRd.at_ (HV.out.keep (SameAt.of_below H.out.below)) hlt
      obtain ⟨b', off', s, rfl, hb', hy, hcy⟩ := (HU.out.keep (SameAt.of_below H.out.below)).at_ hlt2
      have hne : ¬ b' = wr.heap.size := by omega
      have hcy2 : (wr.alloc (.cells #[.int .i64 q.1, .int .i64 q.2] 35)).cell? ⟨b', off' + k, none⟩ = some (.int .i64 s) := (World.cell?_of_block (a := ⟨b', off' + k, none⟩) (Below.heap_alloc wr _ b' hb')).trans hcy
      have HG := Lib.hid (bal_gain HB.out hx hy)
      have HE := Lib.hid (gainAt_eq (n := n) hx hy)
      clear hx hy
      go_wp2_with fail
      have HK : Hid (∀ r w3, NewInts (gainL n q s) (wr.alloc (.cells #[.int .i64 q.1, .int .i64 q.2] 35)).drew r w3 → RowStep w (gainAt n qs ss) qs.length k (gainL n q s).length r w3) := Lib.hid (fun r w3 hr => row_step H.out (show Below wr.heap.size wr (wr.alloc (.cells #[.int .i64 q.1, .int .i64 q.2] 35)).drew from by go_grown) hlt HE.out hr)
      go_region_with (go_at_call 82; refine (gainRow_any n q s HG.out _).mono ?_; rintro r w3 hr; obtain ⟨A3, c3, rfl, hf3, ⟨o3, ho3⟩, H3⟩ := HK.out r w3 hr; clear hr)
      all_goals
        go_wp2_with fail
        go_roundw
        case rel => exact ⟨k + 1, by go_num, by omega, H3⟩
        case measure => simp [intOf]; omega
    · go_wp2_with fail
      go_ret
      obtain ⟨h1, h2⟩ := H.out.all (by omega)
      exact ⟨_, rfl, h1, h2⟩

end Go.Proofs.Yteljcicdibbhdaa

namespace Go.Proofs.Yteljcicdibbhdaa
open Go.RowKit
set_option linter.unusedVariables false

/-- the function value addRows -/
def addF : Value := .func (.func 122) #[] #[]

/-- a row that lies behind base -/
def FoldPost (base : Nat) (xs : List Int) (w : World) (e : Ending) (w' : World) : Prop := ∃ t, e = .returned t ∧ IOwn w' base t xs ∧ Below w.heap.size w w'

set_option maxHeartbeats 1000000 in
theorem foldRows_any (w : World) (base : Nat) (v u : Value) (R S : Nat → List Int) (n : Nat) (hr : RowsOf R n v w) (hu : IOwn w base u (S 0)) (hb : base ≤ w.heap.size)
    (hs : ∀ k, k < n → S (k + 1) = sumL (S k) (R k) ∧ (S k).length = (R k).length ∧ Small3 (S k) ∧ Small3 (R k)) :
    Calls Try.prog 120 #[v, u, addF] w (FoldPost base (S n) w) := by
  obtain ⟨A, c, rfl, hl, hm⟩ := hr.form
  have HR := Lib.hid hr
  have HS := Lib.hid hs
  have HU := Lib.hid hu
  have HBB := Lib.hid hb
  clear hr hs hu hb
  unfold addF
  go_enter Try.func120, Try.ntmps120
  go_wp2_with fail
  go_loopw [1, 11] (fun t i wr => ∃ k : Nat, i = .int .i64 k ∧ k ≤ n ∧ Hid (IOwn wr base t (S k)) ∧ Hid (Below w.heap.size w wr)) (fun _ i _ => n - (intOf i).toNat)
  case atStart => exact ⟨0, rfl, Nat.zero_le _, HU, Lib.hid (Below.refl _ _)⟩
  case round =>
    obtain ⟨k, rfl, hk, HO, HB⟩ := hrel
    by_cases hlt : k < n
    · obtain ⟨b, off, x, rfl, hcx, hx⟩ := (HR.out.keep HB.out).at_ hlt
      have HX := Lib.hid hx
      clear hx
      go_wp2_with fail
      refine (addRows_any _ _ _ _ _ HO.out.rd HX.out (HS.out k hlt).2.1 (HS.out k hlt).2.2.1 (HS.out k hlt).2.2.2).mono ?_
      rintro r w2 ⟨t2, rfl, o2, b2⟩
      have HO2 : Hid (IOwn w2 base t2 (S (k + 1))) := Lib.hid (by rw [(HS.out k hlt).1]; exact o2.base (Nat.le_trans HBB.out HB.out.size))
      have HB2 : Hid (Below w.heap.size w w2) := Lib.hid (below_step HB.out b2 HB.out.size)
      clear o2 b2 hcx
      go_wp2_with fail
      go_roundw
      case rel => exact ⟨k + 1, by go_num, by omega, HO2, HB2⟩
      case measure => simp [intOf]; omega
    · go_wp2_with fail
      go_ret
      have hkn : k = n := by omega
      subst hkn
      exact ⟨_, rfl, HO.out, HB.out⟩

/-- a block of n zeros -/
def zObj (n : Nat) : Obj := .cells (madeCells #[.int .i64 0] n) 3

theorem zeros_own (w : World) (base n : Nat) (hb : base ≤ w.heap.size) (hn : n ≤ 1048576) : IOwn (w.alloc (zObj n)) base (.slice (some ⟨w.heap.size, 0, none⟩) n n) (List.replicate n 0) := by
  have h := World.ownsRow_lit w (madeCells #[.int .i64 0] n) n (e := 3) (base := base) (size := 1) hb (by unfold maxLen; omega) (by simp [size_madeCells])
  unfold IOwn zObj
  rw [List.length_replicate]
  rw [toList_madeCells_one] at h
  simpa using h

theorem run_zeros (w : World) (n : Nat) (hn : n ≤ 1048576) : (Instr.makeSlice 41 (.int .i64 (n : Int)) (.int .i64 (n : Int))).run Try.prog w = .ok (.slice (some ⟨w.heap.size, 0, none⟩) n n) (w.alloc (zObj n)) := by
  obtain ⟨i0, hi, hz0, hz1, hz2⟩ := info_parts Try_intinfo
  have h := run_make (P := Try.prog) w 41 3 i0 (.int .i64 0) Try.underlying41 hi hz0 .i64 .i64 (n : Int) (n : Int) (by omega) (Int.le_refl _) (by rw [hz2]; omega) (by omega)
  rw [hz1] at h
  simpa [zObj, Value.cells] using h

/-- the balance of the first k quotes -/
def balTake (n : Int) (qs : List Qt) (ss : List Int) (k : Nat) : List Int := balL n (qs.take k) (ss.take k)

theorem balTake_zero (n : Nat) (qs : List Qt) (ss : List Int) : balTake (n : Int) qs ss 0 = List.replicate n 0 := by
  unfold balTake balL
  apply List.ext_getElem?
  intro i
  by_cases hi : i < n
  · simp [hi, balI]
  · simp [hi]

theorem balTake_all {n : Int} {qs : List Qt} {ss : List Int} (h : ss.length = qs.length) : balTake n qs ss qs.length = balL n qs ss := by
  unfold balTake
  rw [List.take_length, ← h, List.take_length]

theorem small_map {n : Int} (h1 : 1 ≤ n) (h2 : n ≤ 4) {f : Nat → Int} (hf : ∀ k, -1000 ≤ f k ∧ f k ≤ 1000) : Small3 ((List.range n.toNat).map f) := small3_of (map_gok h1 h2 hf)

theorem bal_step {n : Int} {qs : List Qt} {ss : List Int} (h : balB n qs ss = true) {k : Nat} (hk : k < qs.length) :
    balTake n qs ss (k + 1) = sumL (balTake n qs ss k) (gainAt n qs ss k) ∧ (balTake n qs ss k).length = (gainAt n qs ss k).length ∧ Small3 (balTake n qs ss k) ∧ Small3 (gainAt n qs ss k) := by
  obtain ⟨h1, h2, h3⟩ := (balB_iff _ _ _).1 h
  obtain ⟨h4, h5, h6⟩ := (bokB_iff _ _).1 h1
  have hq : qs[k]? = some (qs[k]'hk) := List.getElem?_eq_getElem hk
  have hs : ss[k]? = some (ss[k]'(by omega)) := List.getElem?_eq_getElem (by omega)
  have hg := bal_gain h hq hs
  have hb := bal_bound (w := n) (qs := qs.take k) (ss := ss.take k) (fun q hq => h6 q (List.mem_of_mem_take hq)) (fun s hs => h3 s (List.mem_of_mem_take hs)) (by simp [h2])
  rw [gainAt_eq hq hs]
  refine ⟨?_, by simp [balTake, balL, gainL], small_map h4.1 h4.2 (fun j => ?_), small_map h4.1 h4.2 (fun j => ?_)⟩
  · unfold balTake balL gainL
    rw [sumL_map]
    apply List.map_congr_left
    intro j _
    exact balI_take hq hs h2 j
  · have := hb j
    have hl : (qs.take k).length ≤ 3 := by simp; omega
    omega
  · have := gain_bound hg j
    omega

theorem balB_no1 {n : Int} {qs : List Qt} {ss : List Int} (h : bokB n qs = false) : balB n qs ss = false := by rw [balB, h]; rfl

theorem balB_no2 {n : Int} {qs : List Qt} {ss : List Int} (h : bokB n qs = true) (k : (decide (ss.length = qs.length) && ss.all stB) = false) : balB n qs ss = false := by rw [balB, Bool.and_assoc, h, k]; rfl

theorem balB_yes {n : Int} {qs : List Qt} {ss : List Int} (h : bokB n qs = true) (k : (decide (ss.length = qs.length) && ss.all stB) = true) : balB n qs ss = true := by rw [balB, Bool.and_assoc, h, k]; rfl

theorem balR_no {n : Int} {qs : List Qt} {ss : List Int} (h : balB n qs ss = false) : balR n qs ss = [] := by rw [balR, h]; rfl

theorem balR_yes {n : Int} {qs : List Qt} {ss : List Int} (h : balB n qs ss = true) : balR n qs ss = balL n qs ss := by rw [balR, if_pos h]

set_option maxHeartbeats 4000000 in
theorem implBalanceOf_any (w : World) (n : Int) (v u : Value) (qs : List Qt) (ss : List Int) (hv : QRd w v qs) (hu : IRd w u ss) :
    Calls Try.prog 115 #[.int .i64 n, v, u] w (RowOk w.heap.size (balR n qs ss) (balB n qs ss) w) := by
  have HV := Lib.hid hv
  have HU := Lib.hid hu
  clear hv hu
  rcases Bool.eq_false_or_eq_true (bokB n qs) with h | h
  · rcases Bool.eq_false_or_eq_true (decide (ss.length = qs.length) && ss.all stB) with k | k
    · have HB := Lib.hid (balB_yes h k)
      have HK := Lib.hid k
      have hw1 := (bal_wok HB.out).1
      have hw2 := (bal_wok HB.out).2
      obtain ⟨m, rfl⟩ : ∃ m : Nat, n = m := ⟨n.toNat, by omega⟩
      have hmk : ∀ w : World, (Instr.makeSlice 41 (.int .i64 (m : Int)) (.int .i64 (m : Int))).run Try.prog w = .ok (.slice (some ⟨w.heap.size, 0, none⟩) m m) (w.alloc (zObj m)) := fun w => run_zeros w m (by omega)
      clear k
      go_enter Try.func115, Try.ntmps115
      go_wp2_with fail
      refine (implBookOk_any w m v qs HV.out).mono ?_
      rintro r w2 ⟨rfl, b2⟩
      have HB2 := Lib.hid b2
      rw [h]
      have HV2 := Lib.hid (HV.out.keep (SameAt.of_below b2))
      have HU2 := Lib.hid (HU.out.keep (SameAt.of_below b2))
      clear b2
      go_wp2_with fail
      refine (stakesOk_any w2 v u qs ss HV2.out HU2.out).mono ?_
      rintro r w' ⟨rfl, rfl⟩
      rw [HK.out]
      go_wp2_with fail
      clear h
      have hs2 : w.heap.size ≤ w2.heap.size := HB2.out.size
      have HZB : Hid (IOwn (w2.alloc (zObj m)).drew w.heap.size (.slice (some ⟨w2.heap.size, 0, none⟩) m m) (List.replicate m 0)) := Lib.hid (zeros_own w2 _ m hs2 (by omega))
      go_region_with (first
        | (go_at_call 121; refine (gainRows_any _ _ _ _ _ _ ?_ ?_ HB.out).mono ?_; (first | exact HV2.out | exact HV2.out.keep (SameAt.of_below (by go_grown))); (first | exact HU2.out | exact HU2.out.keep (SameAt.of_below (by go_grown))); rintro r w3 ⟨v3, rfl, h3, b3⟩; have HR3 := Lib.hid h3; have HB3 := Lib.hid b3; have hs3 := b3.size; clear h3 b3)
        | (go_at_call 120; refine (foldRows_any _ w.heap.size _ _ (gainAt m qs ss) (balTake m qs ss) qs.length ?_ ?_ ?_ (fun k hk => bal_step HB.out hk)).mono ?_; (first | exact HR3.out | exact HR3.out.keep (by go_grown)); (rw [balTake_zero]; first | exact zeros_own _ _ _ (by (try simp at hs3); omega) (by omega) | exact HZB.out.keep (SameAt.of_below HB3.out)); ((try simp at hs3); (try simp); omega); rintro r w4 ⟨t, rfl, o4, b4⟩; have HO4 := Lib.hid o4; have HB4 := Lib.hid b4; clear o4 b4))
      all_goals
        go_wp2_with fail
        go_returns
        have hs3 := HB3.out.size
        first
          | exact rowOk_ret HB.out (by rw [balR_yes HB.out, balTake_all ((balB_iff _ _ _).1 HB.out).2.1]) HO4.out (below_step ((below_step HB2.out.drew HB3.out HB2.out.drew.size).alloc (below_step HB2.out.drew HB3.out HB2.out.drew.size).size _) HB4.out ((below_step HB2.out.drew HB3.out HB2.out.drew.size).alloc (below_step HB2.out.drew HB3.out HB2.out.drew.size).size _).size)
          | exact rowOk_ret HB.out (by rw [balR_yes HB.out, balTake_all ((balB_iff _ _ _).1 HB.out).2.1]) HO4.out (below_step (below_step (HB2.out.alloc HB2.out.size _).drew HB3.out (HB2.out.alloc HB2.out.size _).drew.size) HB4.out (below_step (HB2.out.alloc HB2.out.size _).drew HB3.out (HB2.out.alloc HB2.out.size _).drew.size).size)
    · have HN := Lib.hid (balB_no2 h k)
      go_enter Try.func115, Try.ntmps115
      go_wp2_with fail
      refine (implBookOk_any w n v qs HV.out).mono ?_
      rintro r w2 ⟨rfl, b2⟩
      have HB2 := Lib.hid b2
      rw [h]
      have HV2 := Lib.hid (HV.out.keep (SameAt.of_below b2))
      have HU2 := Lib.hid (HU.out.keep (SameAt.of_below b2))
      clear b2
      go_wp2_with fail
      refine (stakesOk_any w2 v u qs ss HV2.out HU2.out).mono ?_
      rintro r w' ⟨rfl, rfl⟩
      rw [k]
      go_wp2_with fail
      go_ret2
      exact rowOk_ret HN.out (balR_no HN.out) (nil_own _ _) HB2.out
  · have HN := Lib.hid (balB_no1 (ss := ss) h)
    go_enter Try.func115, Try.ntmps115
    go_wp2_with fail
    refine (implBookOk_any w n v qs HV.out).mono ?_
    rintro r w2 ⟨rfl, b2⟩
    have HB2 := Lib.hid b2
    rw [h]
    clear b2
    go_wp2_with fail
    go_ret2
    exact rowOk_ret HN.out (balR_no HN.out) (nil_own _ _) HB2.out

end Go.Proofs.Yteljcicdibbhdaa

namespace Go.Proofs.Yteljcicdibbhdaa
open Go.RowKit
set_option linter.unusedVariables false

theorem bal_next {n : Int} {qs : List Qt} {ss : List Int} {k : Nat} {q : Qt} {s : Int} (h : balB n qs ss = true) (hq : qs[k]? = some q) (hs : ss[k]? = some s) (j : Nat) :
    IntKind.i64.wrap (balI (qs.take k) (ss.take k) j + gainI q s j) = balI (qs.take (k + 1)) (ss.take (k + 1)) j := by
  obtain ⟨h1, h2, h3⟩ := (balB_iff _ _ _).1 h
  obtain ⟨h4, h5, h6⟩ := (bokB_iff _ _).1 h1
  have hb := bal_bound (w := n) (qs := qs.take k) (ss := ss.take k) (fun q hq => h6 q (List.mem_of_mem_take hq)) (fun s hs => h3 s (List.mem_of_mem_take hs)) (by simp [h2]) j
  have hl : (qs.take k).length ≤ 3 := by simp; omega
  have hg := gain_bound (bal_gain h hq hs) j
  rw [balI_take hq hs h2 j]
  exact IntWalk.i64_in _ (by omega)

theorem bal_next64 {n : Int} {qs : List Qt} {ss : List Int} {k : Nat} {q : Qt} {s : Int} (h : balB n qs ss = true) (hq : qs[k]? = some q) (hs : ss[k]? = some s) (j : Nat) :
    wrap64 (balI (qs.take k) (ss.take k) j + gainI q s j) = balI (qs.take (k + 1)) (ss.take (k + 1)) j := by
  obtain ⟨h1, h2, h3⟩ := (balB_iff _ _ _).1 h
  obtain ⟨h4, h5, h6⟩ := (bokB_iff _ _).1 h1
  have hb := bal_bound (w := n) (qs := qs.take k) (ss := ss.take k) (fun q hq => h6 q (List.mem_of_mem_take hq)) (fun s hs => h3 s (List.mem_of_mem_take hs)) (by simp [h2]) j
  have hl : (qs.take k).length ≤ 3 := by simp; omega
  have hg := gain_bound (bal_gain h hq hs) j
  rw [balI_take hq hs h2 j]
  exact IntWalk.wrap64_in _ (by omega)

theorem lit_ret (w : World) (base : Nat) (hb : base ≤ w.heap.size) : IOwn (w.alloc (.cells #[] 3)) base (.slice (some ⟨w.heap.size, 0, none⟩) 0 0) [] := lit_own w base hb

end Go.Proofs.Yteljcicdibbhdaa
