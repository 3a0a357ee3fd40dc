/- impl.BalanceOf: rows of rows, their fold. Conditions: stated at each. -/
import Derived.Test.YtpldhdidobggdaaQf
namespace Go.Proofs.Ytpldhdidobggdaa
open Go.RowKit
set_option linter.unusedVariables false

/-- the one cell of a row within a row -/
def vC (v : Value) : List Value := [v]

theorem vC_len (v : Value) : (vC v).length = 1 := rfl

/-- rows of ints: the i-th one reads as R i -/
def RowsOf (R : Nat → List Int) (n : Nat) (v : Value) (w : World) : Prop := ∃ vs : List Value, vs.length = n ∧ GRd 1 vC w v vs ∧ ∀ i u, vs[i]? = some u → IRd w u (R i)

theorem RowsOf.keep {R : Nat → List Int} {n : Nat} {v : Value} {w w' : World} (h : RowsOf R n v w) (hb : Below w.heap.size w w') : RowsOf R n v w' := by
  obtain ⟨vs, h1, h2, h3⟩ := h
  exact ⟨vs, h1, h2.keep (SameAt.of_below hb), fun i u hu => (h3 i u hu).keep (SameAt.of_below hb)⟩

theorem RowsOf.at_ {R : Nat → List Int} {n m c : Nat} {A : Option Addr} {w : World} (h : RowsOf R n (.slice A m c) w) {k : Nat} (hk : k < m) :
    ∃ b off u, A = some ⟨b, off, none⟩ ∧ w.cell? ⟨b, off + k, none⟩ = some u ∧ IRd w u (R k) := by
  obtain ⟨vs, h1, h2, h3⟩ := h
  obtain ⟨b, off, u, hA, hb, hx, hc⟩ := GRd.at_ h2 hk
  have h0 := hc 0 u rfl
  rw [Nat.mul_one, Nat.add_zero] at h0
  exact ⟨b, off, u, hA, h0, h3 k u hx⟩

theorem RowsOf.form {R : Nat → List Int} {n : Nat} {v : Value} {w : World} (h : RowsOf R n v w) : ∃ A cp, v = .slice A n cp ∧ n ≤ cp ∧ cp ≤ 9223372036854775807 := by
  obtain ⟨vs, h1, h2, h3⟩ := h
  subst h1
  exact h2.form

/-- the rows are laid up to k -/
def RowsRel (w : World) (R : Nat → List Int) (n k : Nat) (wr : World) : Prop :=
  ∃ vs : List Value, vs.length = k ∧ GOwn 24 1 vC wr w.heap.size (.slice (some ⟨w.heap.size, 0, none⟩) n n) (vs ++ List.replicate (n - k) (Value.slice none 0 0)) ∧
    (∀ i u, vs[i]? = some u → IRd wr u (R i) ∧ ∀ g, u.ownBlock = some g → w.heap.size < g) ∧ Below w.heap.size w wr

theorem RowsRel.keep {w wr w' : World} {R : Nat → List Int} {n k : Nat} (h : RowsRel w R n k wr) (hb : Below wr.heap.size wr w') : RowsRel w R n k w' := by
  obtain ⟨vs, h1, h2, h3, h4⟩ := h
  exact ⟨vs, h1, h2.keep (SameAt.of_below hb), fun i u hu => ⟨(h3 i u hu).1.keep (SameAt.of_below hb), (h3 i u hu).2⟩, below_step h4 hb h4.size⟩

theorem RowsRel.below {w wr : World} {R : Nat → List Int} {n k : Nat} (h : RowsRel w R n k wr) : Below w.heap.size w wr := by
  obtain ⟨vs, h1, h2, h3, h4⟩ := h
  exact h4

theorem RowsRel.old {w wr : World} {R : Nat → List Int} {n k : Nat} (h : RowsRel w R n k wr) (hk : k < n) : wr.frozen? ⟨w.heap.size, k, none⟩ = false ∧ ∃ old, wr.cell? ⟨w.heap.size, k, none⟩ = some old := by
  obtain ⟨vs, h1, h2, h3, h4⟩ := h
  have := h2.old vC_len (by simp [h1]; omega) hk (j := 0) (by decide)
  rw [Nat.mul_one, Nat.add_zero] at this
  exact this

theorem RowsRel.step {w wr : World} {R : Nat → List Int} {n k : Nat} {u : Value} (h : RowsRel w R n k wr) (hk : k < n) (ho : IRd wr u (R k)) (hu : ∀ g, u.ownBlock = some g → w.heap.size < g) :
    RowsRel w R n (k + 1) (wr.setCell ⟨w.heap.size, k, none⟩ u) := by
  obtain ⟨vs, h1, h2, h3, h4⟩ := h
  have hl : (vs ++ List.replicate (n - k) (Value.slice none 0 0)).length = n := by simp [h1]; omega
  have h2' : ∀ ys : List Value, ys.length = n → GOwn 24 1 vC wr w.heap.size (.slice (some ⟨w.heap.size, 0, none⟩) n n) ys → GOwn 24 1 vC (wr.setCell ⟨w.heap.size, k, none⟩ u) w.heap.size (.slice (some ⟨w.heap.size, 0, none⟩) n n) (ys.set k u) ∧ wr.grownBy (wr.setCell ⟨w.heap.size, k, none⟩ u) (some w.heap.size) := by
    intro ys hy ho
    subst hy
    exact GOwn.set1 (x := u) vC_len ho hk rfl
  obtain ⟨h5, h6⟩ := h2' _ hl h2
  have hset : (vs ++ List.replicate (n - k) (Value.slice none 0 0)).set k u = (vs ++ [u]) ++ List.replicate (n - (k + 1)) (Value.slice none 0 0) := by
    rw [List.set_append_right _ _ (by omega), h1, Nat.sub_self]
    obtain ⟨m, hm⟩ : ∃ m, n - k = m + 1 := ⟨n - k - 1, by omega⟩
    rw [hm, List.replicate_succ, List.set_cons_zero, show n - (k + 1) = m from by omega, List.append_assoc]
    rfl
  rw [hset] at h5
  have far : ∀ z : Value, (∀ g, z.ownBlock = some g → w.heap.size < g) → z.ownBlock = none ∨ z.ownBlock ≠ some w.heap.size := by
    intro z hz
    rcases hv : z.ownBlock with _ | g
    · exact .inl rfl
    · refine .inr fun e => ?_
      have := hz g hv
      injection e with e
      omega
  refine ⟨vs ++ [u], by simp [h1], h5, fun i z hz => ?_, h4.setCell (Nat.le_refl _) _⟩
  by_cases hi : i < k
  · rw [List.getElem?_append_left (by omega)] at hz
    obtain ⟨h7, h8⟩ := h3 i z hz
    exact ⟨h7.keep (SameAt.of_grown h6 (far z h8)), h8⟩
  · rw [List.getElem?_append_right (by omega)] at hz
    have hik : i = k := by
      rcases Nat.lt_or_ge (i - vs.length) 1 with h | h
      · omega
      · rw [List.getElem?_eq_none (by simpa using h)] at hz; cases hz
    subst hik
    rw [h1, Nat.sub_self] at hz
    obtain rfl : u = z := by simpa using hz
    exact ⟨ho.keep (SameAt.of_grown h6 (far u hu)), hu⟩

theorem RowsRel.all {w wr : World} {R : Nat → List Int} {n k : Nat} (h : RowsRel w R n k wr) (hk : k = n) : RowsOf R n (.slice (some ⟨w.heap.size, 0, none⟩) n n) wr ∧ Below w.heap.size w wr := by
  subst hk
  obtain ⟨vs, h1, h2, h3, h4⟩ := h
  rw [Nat.sub_self, List.replicate_zero, List.append_nil] at h2
  refine ⟨⟨vs, h1, ?_, fun i u hu => (h3 i u hu).1⟩, h4⟩
  exact h2.rd vC_len

theorem RowsRel.start {w w0 : World} {n : Nat} (R : Nat → List Int) (hown : w0.ownsRow w.heap.size 24 1 (.slice (some ⟨w.heap.size, 0, none⟩) n n) n (madeCells #[Value.slice none 0 0] n).toList) (hg : w.grownBy w0 none) : RowsRel w R n 0 w0 := by
  refine ⟨[], rfl, ?_, fun i u hu => by simp at hu, (Below.refl _ _).grown hg (Nat.le_refl _) (fun k hk => by cases hk)⟩
  have h := GFill.start (enc := vC) (xs := List.replicate n (Value.slice none 0 0)) vC_len (by decide) (.slice none 0 0) (zc := #[Value.slice none 0 0]) (n := n) (by rw [Nat.mul_one]; exact hown) rfl (by simp) hg
  have h1 := h.1
  rw [upto_zero, List.length_replicate] at h1
  simpa using h1

/-- what a row that was made in a round leaves: its value's form, the outer row's cell, and the next round's state -/
def RowStep (w : World) (R : Nat → List Int) (n k m : Nat) (r : Ending) (w3 : World) : Prop :=
  ∃ A c, r = .returned (.slice A m c) ∧ w3.frozen? ⟨w.heap.size, k, none⟩ = false ∧ (∃ old, w3.cell? ⟨w.heap.size, k, none⟩ = some old) ∧ Hid (RowsRel w R n (k + 1) (w3.setCell ⟨w.heap.size, k, none⟩ (.slice A m c)))

theorem row_step {w wr wx w3 : World} {R : Nat → List Int} {n k : Nat} {xs : List Int} {r : Ending} (h : RowsRel w R n k wr) (hb : Below wr.heap.size wr wx) (hk : k < n) (e : R k = xs) (hr : NewInts xs wx r w3) : RowStep w R n k xs.length r w3 := by
  subst e
  obtain ⟨u, rfl, ou, b3⟩ := hr
  have H3 := h.keep (below_step hb b3 hb.size)
  obtain ⟨A, c, rfl, -, -, -⟩ := id ou.rd
  obtain ⟨h1, h2⟩ := H3.old hk
  refine ⟨A, c, rfl, h1, h2, Lib.hid (H3.step hk ou.rd (fun g hg => ?_))⟩
  have h4 := (ou.ge g hg).1
  have h5 := hb.size
  obtain ⟨vs, e1, e2, e3, e4⟩ := h
  have h6 := (e2.ge w.heap.size rfl).2
  omega

theorem Try_sliceinfo : (Try.prog.info? 24).map (fun i => (i.zero, i.size, i.bytes)) = some (some (.slice none 0 0), 1, 24) := by kernel_rfl

/-- fresh rows -/
def NewRows (R : Nat → List Int) (n : Nat) (w : World) (e : Ending) (w' : World) : Prop := ∃ v, e = .returned v ∧ RowsOf R n v w' ∧ Below w.heap.size w w'

def gainAt (n : Int) (qs : List Qt) (ss : List Int) (i : Nat) : List Int := gainL n (qs.getD i (0, 0)) (ss.getD i 0)

theorem gainAt_eq {n : Int} {qs : List Qt} {ss : List Int} {i : Nat} {q : Qt} {s : Int} (hq : qs[i]? = some q) (hs : ss[i]? = some s) : gainAt n qs ss i = gainL n q s := by
  unfold gainAt
  rw [List.getD_eq_getElem?_getD, hq, List.getD_eq_getElem?_getD, hs]
  rfl

theorem bal_gain {n : Int} {qs : List Qt} {ss : List Int} {i : Nat} {q : Qt} {s : Int} (h : balB n qs ss = true) (hq : qs[i]? = some q) (hs : ss[i]? = some s) : gainB n q s = true := by
  obtain ⟨h1, h2, h3⟩ := (balB_iff _ _ _).1 h
  rw [gainB, Bool.and_eq_true, stB_iff]
  exact ⟨((bokB_iff _ _).1 h1).2.2 q (List.mem_of_getElem? hq), h3 s (List.mem_of_getElem? hs)⟩

set_option maxHeartbeats 4000000 in
theorem gainRows_any (w : World) (n : Int) (v u : Value) (qs : List Qt) (ss : List Int) (hv : QRd w v qs) (hu : IRd w u ss) (h : balB n qs ss = true) :
    Calls Try.prog 65 #[.int .i64 n, v, u] w (NewRows (gainAt n qs ss) qs.length w) := by
  obtain ⟨A, c, rfl, hl, hm⟩ := hv.form
  obtain ⟨A', c', rfl, hl', hm', -⟩ := id hu
  have HV := Lib.hid hv
  have HU := Lib.hid hu
  have HL : Hid (ss.length = qs.length) := Lib.hid ((balB_iff _ _ _).1 h).2.1
  have h3 : qs.length ≤ 3 := ((bokB_iff _ _).1 ((balB_iff _ _ _).1 h).1).2.1
  have HB := Lib.hid h
  clear hv hu h
  obtain ⟨i0, hi, hz0, hz1, hz2⟩ := info_parts Try_sliceinfo
  go_enter Try.func65, Try.ntmps65
  go_wp2_with (at_make; refine wpList_make_full _ rfl _ _ 77 rfl w.heap.size 24 i0 (.slice none 0 0) 1 Try.underlying77 hi hz0 hz1 .i64 .i64 _ _ qs.length rfl rfl rfl rfl ?b2 ?b3 (Nat.le_refl _) ?_)
  case b2 => first | omega | (rw [hz2]; omega)
  case b3 => unfold maxLen; omega
  intro w0 hown0 hgrow0
  have H0 : Hid (RowsRel w (gainAt n qs ss) qs.length 0 w0) := Lib.hid (RowsRel.start _ hown0 hgrow0)
  clear hown0 hgrow0 hi hz0 hz1 hz2
  go_wp2_with fail
  go_loopw [15] (fun i wr => ∃ k : Nat, i = .int .i64 k ∧ k ≤ qs.length ∧ Hid (RowsRel w (gainAt n qs ss) qs.length k wr)) (fun i _ => qs.length - (intOf i).toNat)
  case atStart => exact ⟨0, rfl, Nat.zero_le _, H0⟩
  case round =>
    obtain ⟨k, rfl, hk, H⟩ := hrel
    clear H0
    by_cases hlt : k < qs.length
    · have hlt2 : k < ss.length := by have := HL.out; omega
      obtain ⟨b, off, q, rfl, -, hx, hc0, hc1⟩ := QRd.at_ (HV.out.keep (SameAt.of_below H.out.below)) hlt
      obtain ⟨b', off', s, rfl, hb', hy, hcy⟩ := (HU.out.keep (SameAt.of_below H.out.below)).at_ hlt2
      have hne : ¬ b' = wr.heap.size := by omega
      have hcy2 : (wr.alloc (.cells #[.int .i64 q.1, .int .i64 q.2] 39)).cell? ⟨b', off' + k, none⟩ = some (.int .i64 s) := (World.cell?_of_block (a := ⟨b', off' + k, none⟩) (Below.heap_alloc wr _ b' hb')).trans hcy
      have HG := Lib.hid (bal_gain HB.out hx hy)
      have HE := Lib.hid (gainAt_eq (n := n) hx hy)
      clear hx hy
      go_wp2_with fail
      have HK : Hid (∀ r w3, NewInts (gainL n q s) (wr.alloc (.cells #[.int .i64 q.1, .int .i64 q.2] 39)).drew r w3 → RowStep w (gainAt n qs ss) qs.length k (gainL n q s).length r w3) := Lib.hid (fun r w3 hr => row_step H.out (show Below wr.heap.size wr (wr.alloc (.cells #[.int .i64 q.1, .int .i64 q.2] 39)).drew from by go_grown) hlt HE.out hr)
      go_region_with (go_at_call 81; refine (gainRow_any n q s HG.out _).mono ?_; rintro r w3 hr; obtain ⟨A3, c3, rfl, hf3, ⟨o3, ho3⟩, H3⟩ := HK.out r w3 hr; clear hr)
      all_goals
        go_wp2_with fail
        go_roundw
        case rel => exact ⟨k + 1, by go_num, by omega, H3⟩
        case measure => simp [intOf]; omega
    · go_wp2_with fail
      go_ret
      obtain ⟨h1, h2⟩ := H.out.all (by omega)
      exact ⟨_, rfl, h1, h2⟩

end Go.Proofs.Ytpldhdidobggdaa
