/- Rows of rows of ints: what a value reads as, what the call owns, the laws' helpers (szIntSS, toIntSS, eqIntSS), a row of rows that came in. Conditions: stated at each. -/
import Derived.Test.YtbjmhbkpeglpkaaMb
import Derived.Test.YtbjmhbkpeglpkaaQd
import Derived.Deep.Slices
import Derived.ChangeSlices
import Derived.Lib.SmallJoins
namespace Go.Proofs.Ytbjmhbkpeglpkaa
open Go.RowKit Go.Deep Go.ChangeShapes Go.WideShapes
set_option linter.unusedVariables false

/-- a row as one cell -/
def sV (u : Value) : List Value := [u]

theorem sV_len (u : Value) : (sV u).length = 1 := rfl

/-- the value reads as this list of rows -/
def SRd (w : World) (v : Value) (zss : List (List Int)) : Prop := ∃ us : List Value, us.length = zss.length ∧ GRd 1 sV w v us ∧ ∀ (k : Nat) (u : Value) (zs : List Int), us[k]? = some u → zss[k]? = some zs → IRd w u zs

theorem SRd.form {w : World} {v : Value} {zss : List (List Int)} (h : SRd w v zss) : ∃ A cp, v = .slice A zss.length cp ∧ zss.length ≤ cp ∧ cp ≤ 9223372036854775807 := by
  obtain ⟨us, hl, hg, -⟩ := h
  obtain ⟨A, cp, e, h1, h2⟩ := hg.form
  exact ⟨A, cp, by rw [e, hl], by omega, h2⟩

theorem SRd.below {w w' : World} {v : Value} {zss : List (List Int)} (h : SRd w v zss) (hb : Below w.heap.size w w') : SRd w' v zss := by
  obtain ⟨us, hl, hg, hr⟩ := h
  exact ⟨us, hl, hg.keep (SameAt.of_below hb), fun k u zs h1 h2 => (hr k u zs h1 h2).keep (SameAt.of_below hb)⟩

theorem SRd.at_ {w : World} {A : Option Addr} {n cp : Nat} {zss : List (List Int)} (h : SRd w (.slice A n cp) zss) {k : Nat} (hk : k < n) :
    ∃ b off u zs, A = some ⟨b, off, none⟩ ∧ b < w.heap.size ∧ zss[k]? = some zs ∧ w.cell? ⟨b, off + k, none⟩ = some u ∧ IRd w u zs := by
  obtain ⟨us, hl, hg, hr⟩ := h
  obtain ⟨b, off, u, hA, hb, hu, hc⟩ := hg.at_ hk
  have hku : k < us.length := (List.getElem?_eq_some_iff.1 hu).1
  have hz : zss[k]? = some (zss[k]'(by omega)) := List.getElem?_eq_getElem (by omega)
  have := hc 0 u rfl
  rw [Nat.mul_one, Nat.add_zero] at this
  exact ⟨b, off, u, _, hA, hb, hz, this, hr k u _ hu hz⟩

theorem SRd.len {w : World} {A : Option Addr} {n cp : Nat} {zss : List (List Int)} (h : SRd w (.slice A n cp) zss) : n = zss.length := by
  obtain ⟨A', cp', e, -, -⟩ := h.form
  injection e

/-- the call owns this row, and the rows in it -/
def SOwn (w : World) (base : Nat) (v : Value) (zss : List (List Int)) : Prop := ∃ us : List Value, us.length = zss.length ∧ GOwn 23 1 sV w base v us ∧
  (∀ (k : Nat) (u : Value) (zs : List Int), us[k]? = some u → zss[k]? = some zs → IOwn w base u zs ∧ ∀ g, u.ownBlock = some g → v.ownBlock ≠ some g) ∧
  ∀ (i j : Nat) (u x : Value), i < j → us[i]? = some u → us[j]? = some x → u.ownBlock = none ∨ u.ownBlock ≠ x.ownBlock

theorem SOwn.rd {w : World} {base : Nat} {v : Value} {zss : List (List Int)} (h : SOwn w base v zss) : SRd w v zss := by
  obtain ⟨us, hl, hg, hr, -⟩ := h
  exact ⟨us, hl, hg.rd sV_len, fun k u zs h1 h2 => (hr k u zs h1 h2).1.rd⟩

theorem SOwn.below {w w' : World} {base : Nat} {v : Value} {zss : List (List Int)} (h : SOwn w base v zss) (hb : Below w.heap.size w w') : SOwn w' base v zss := by
  obtain ⟨us, hl, hg, hr, hp⟩ := h
  exact ⟨us, hl, hg.keep (SameAt.of_below hb), fun k u zs h1 h2 => ⟨(hr k u zs h1 h2).1.keep (SameAt.of_below hb), (hr k u zs h1 h2).2⟩, hp⟩

theorem SOwn.base {w : World} {base base' : Nat} {v : Value} {zss : List (List Int)} (h : SOwn w base v zss) (hb : base' ≤ base) : SOwn w base' v zss := by
  obtain ⟨us, hl, hg, hr, hp⟩ := h
  exact ⟨us, hl, hg.base hb, fun k u zs h1 h2 => ⟨(hr k u zs h1 h2).1.base hb, (hr k u zs h1 h2).2⟩, hp⟩

theorem flat_sV (us : List Value) : us.flatMap sV = us := by
  induction us with
  | nil => rfl
  | cons u us ih => rw [List.flatMap_cons, ih]; rfl

theorem Try_rowinfo : (Try.prog.info? 23).map (fun i => (i.zero, i.size, i.bytes)) = some (some (.slice none 0 0), 1, 24) := by kernel_rfl

/-- a fresh row of rows -/
def NewSS (zss : List (List Int)) (w : World) (e : Ending) (w' : World) : Prop := ∃ v, e = .returned v ∧ SOwn w' w.heap.size v zss ∧ Below w.heap.size w w'

/-- up to place k the fresh row of rows is filled -/
def SFill (w : World) (zss : List (List Int)) (n k : Nat) (wr : World) : Prop := ∃ us : List Value, us.length = k ∧
  GOwn 23 1 sV wr w.heap.size (.slice (some ⟨w.heap.size, 0, none⟩) n n) (us ++ List.replicate (n - k) (.slice none 0 0)) ∧
  (∀ (j : Nat) (u : Value) (zs : List Int), us[j]? = some u → zss[j]? = some zs → IOwn wr (w.heap.size + 1) u zs) ∧
  (∀ (i j : Nat) (u x : Value), i < j → us[i]? = some u → us[j]? = some x → u.ownBlock = none ∨ u.ownBlock ≠ x.ownBlock) ∧ Below w.heap.size w wr ∧ w.heap.size < wr.heap.size

theorem SFill.keep {w wr w' : World} {zss : List (List Int)} {n k : Nat} (h : SFill w zss n k wr) (hb : Below wr.heap.size wr w') : SFill w zss n k w' := by
  obtain ⟨us, hl, hg, hr, hp, hB, hs⟩ := h
  exact ⟨us, hl, hg.keep (SameAt.of_below hb), fun j u zs h1 h2 => (hr j u zs h1 h2).keep (SameAt.of_below hb), hp, below_step hB hb hB.size, by have := hb.size; omega⟩

theorem SFill.old {w wr : World} {zss : List (List Int)} {n k : Nat} (h : SFill w zss n k wr) (hk : k < n) : wr.frozen? ⟨w.heap.size, k, none⟩ = false ∧ ∃ old, wr.cell? ⟨w.heap.size, k, none⟩ = some old := by
  obtain ⟨us, hl, hg, -⟩ := h
  have := hg.old sV_len (n := n) (by simp; omega) hk (j := 0) (by decide)
  rwa [Nat.mul_one, Nat.add_zero] at this

/-- a fresh row zs, made behind wr, is stored -/
theorem SFill.step {w wr w' : World} {zss : List (List Int)} {n k : Nat} {u : Value} {zs : List Int} (h : SFill w zss n k wr) (hk : k < n) (hz : zss[k]? = some zs) (ho : IOwn w' wr.heap.size u zs) (hb : Below wr.heap.size wr w') :
    SFill w zss n (k + 1) (w'.setCell ⟨w.heap.size, k, none⟩ u) := by
  obtain ⟨us, hl, hg0, hr0, hp, hB0, hs0⟩ := h
  have hg := hg0.keep (SameAt.of_below hb)
  have hr := fun j u zs h1 h2 => (hr0 j u zs h1 h2).keep (SameAt.of_below hb)
  have hB := below_step hB0 hb hB0.size
  have hs : w.heap.size < w'.heap.size := by have := hb.size; omega
  have hlen : (us ++ List.replicate (n - k) (Value.slice none 0 0)).length = n := by simp; omega
  have hg1 : GOwn 23 1 sV w' w.heap.size (.slice (some ⟨w.heap.size, 0, none⟩) (us ++ List.replicate (n - k) (Value.slice none 0 0)).length n) (us ++ List.replicate (n - k) (.slice none 0 0)) := by rw [hlen]; exact hg
  obtain ⟨k1, k2⟩ := GOwn.set1 (x := u) sV_len hg1 (k := k) (by rw [hlen]; exact hk) rfl
  rw [hlen] at k1
  have e1 : (us ++ List.replicate (n - k) (Value.slice none 0 0)).set k u = (us ++ [u]) ++ List.replicate (n - (k + 1)) (Value.slice none 0 0) := by
    obtain ⟨m, hm⟩ : ∃ m, n - k = m + 1 := ⟨n - k - 1, by omega⟩
    rw [hm, show n - (k + 1) = m from by omega, List.replicate_succ, List.set_append_right _ _ (by omega), hl, Nat.sub_self, List.set_cons_zero, List.append_assoc]; rfl
  rw [e1] at k1
  have hge := ho.ge
  have far : ∀ x : Value, (∀ g, x.ownBlock = some g → w.heap.size + 1 ≤ g) → SameAt w' (w'.setCell ⟨w.heap.size, k, none⟩ u) x := fun x hx => SameAt.of_grown k2 (by
    rcases hxo : x.ownBlock with _ | g
    · exact .inl rfl
    · refine .inr fun e => ?_
      have := hx g hxo
      injection e with e
      omega)
  refine ⟨us ++ [u], by simp [hl], k1, ?_, ?_, hB.setCell (p := ⟨w.heap.size, k, none⟩) (Nat.le_refl _) _, by simpa using hs⟩
  · intro j x ys hx hy
    rcases Nat.lt_or_ge j k with hj | hj
    · rw [List.getElem?_append_left (by omega)] at hx
      have o := hr j x ys hx hy
      exact o.keep (far x (fun g hg => (o.ge g hg).1))
    · have hjk : j = k := by
        have := (List.getElem?_eq_some_iff.1 hx).1
        simp [hl] at this; omega
      subst hjk
      rw [List.getElem?_append_right (by omega), hl, Nat.sub_self] at hx
      obtain rfl : u = x := by simpa using hx
      rw [hz] at hy
      obtain rfl := Option.some.inj hy
      exact (ho.keep (far u (fun g hg => by have := (hge g hg).1; omega))).base (by omega)
  · intro i j x y hij hx hy
    rcases Nat.lt_or_ge j k with hj | hj
    · rw [List.getElem?_append_left (by omega)] at hx
      rw [List.getElem?_append_left (by omega)] at hy
      exact hp i j x y hij hx hy
    · have hjk : j = k := by
        have := (List.getElem?_eq_some_iff.1 hy).1
        simp [hl] at this; omega
      subst hjk
      rw [List.getElem?_append_left (by omega)] at hx
      rw [List.getElem?_append_right (by omega), hl, Nat.sub_self] at hy
      obtain rfl : u = y := by simpa using hy
      have hi : i < zss.length := by have := (List.getElem?_eq_some_iff.1 hz).1; omega
      rcases hxo : x.ownBlock with _ | g
      · exact .inl rfl
      · refine .inr fun e => ?_
        have h1 := (hge g e.symm).1
        have h2 := ((hr0 i x _ hx (List.getElem?_eq_getElem hi)).ge g hxo).2
        omega

theorem SFill.all {w wr : World} {zss : List (List Int)} {n : Nat} (h : SFill w zss n n wr) (hn : zss.length = n) : SOwn wr w.heap.size (.slice (some ⟨w.heap.size, 0, none⟩) n n) zss ∧ Below w.heap.size w wr := by
  obtain ⟨us, hl, hg, hr, hp, hB, hs⟩ := h
  rw [Nat.sub_self, List.replicate_zero, List.append_nil] at hg
  refine ⟨⟨us, by omega, hg, fun k u zs h1 h2 => ⟨(hr k u zs h1 h2).base (by omega), fun g hg e => ?_⟩, hp⟩, hB⟩
  have h3 := ((hr k u zs h1 h2).ge g hg).1
  have e2 : some w.heap.size = some g := e
  injection e2 with e2
  omega

set_option maxHeartbeats 2000000 in
theorem toIntSS_any (w : World) (v : Value) (zss : List (List Int)) (hv : SRd w v zss) (hn : zss.length ≤ 1048576) (hs : ∀ zs ∈ zss, zs.length ≤ 1048576) :
    Calls Try.prog 48 #[v] w (NewSS zss w) := by
  obtain ⟨A, c, rfl, hl, hm⟩ := hv.form
  have HV : Hid (∀ wr, Below w.heap.size w wr → SRd wr (.slice A zss.length c) zss) := Lib.hid (fun wr hb => hv.below hb)
  have HS := Lib.hid hs
  clear hv hs
  obtain ⟨i0, hi, hz0, hz1, hz2⟩ := info_parts Try_rowinfo
  go_enter Try.func48, Try.ntmps48
  go_wp2_with (at_make; refine wpList_make_full _ rfl _ _ 37 rfl w.heap.size 23 i0 (.slice none 0 0) 1 Try.underlying37 hi hz0 hz1 .i64 .i64 _ _ zss.length rfl rfl rfl rfl ?b2 ?b3 (Nat.le_refl _) ?_)
  case b2 => rw [hz2]; omega
  case b3 => unfold maxLen; omega
  intro w0 hown0 hgrow0
  have H0 : Hid (SFill w zss zss.length 0 w0) := Lib.hid ⟨[], rfl, by
      unfold GOwn
      rw [flat_sV, List.nil_append, List.length_replicate, Nat.sub_zero]; simpa [toList_madeCells_one, Value.cells] using hown0, fun j u zs h => by simp at h, fun i j u x _ h => by simp at h, (Below.refl _ _).grown hgrow0 (Nat.le_refl _) (fun k hk => by cases hk), by
      rcases hown0.2 with ⟨e, -⟩ | ⟨g, cap, cur, e, -, hg, -⟩
      · cases e
      · injection e with e1 e2 e3
        injection e1 with e1
        injection e1 with e1
        rw [e1]
        exact (Array.getElem?_eq_some_iff.1 hg).1⟩
  clear hown0 hgrow0 hi hz0 hz1 hz2
  go_wp2_with fail
  go_loopw [4] (fun i wr => ∃ k : Nat, i = .int .i64 k ∧ k ≤ zss.length ∧ Hid (SFill w zss zss.length k wr)) (fun i _ => zss.length - (intOf i).toNat)
  case atStart => exact ⟨0, rfl, Nat.zero_le _, H0⟩
  case round =>
    obtain ⟨k, rfl, hk, H⟩ := hrel
    clear H0
    by_cases hlt : k < zss.length
    · have hlt' : (k : Int) < (zss.length : Int) := by omega
      have hBw : Hid (Below w.heap.size w wr) := Lib.hid (by obtain ⟨-, -, -, -, -, hB, -⟩ := H.out; exact hB)
      obtain ⟨b, off, u, zs, rfl, -, hz, hc, hu⟩ := (HV.out wr hBw.out).at_ hlt
      obtain ⟨A', c', rfl, hl', hm', -⟩ := id hu
      have HZ := Lib.hid hz
      have HU := Lib.hid hu
      clear hz hu
      go_wp2_with fail
      refine (toIntS_any wr _ zs HU.out (HS.out zs (List.mem_of_getElem? HZ.out))).mono ?_
      rintro r w2 ⟨x, rfl, o2, b2⟩
      obtain ⟨A2, c2, rfl, -, -, -⟩ := id o2.rd
      have H2 := Lib.hid (H.out.step hlt HZ.out o2 b2)
      obtain ⟨hf0, old, ho0⟩ := (H.out.keep b2).old hlt
      clear o2 b2 hc H
      go_wp2_with fail
      go_roundw
      case rel => exact ⟨k + 1, by go_num, by omega, H2⟩
      case measure => simp [intOf]; omega
    · obtain rfl : k = zss.length := by omega
      go_wp2_with fail
      go_ret
      obtain ⟨h1, h2⟩ := H.out.all rfl
      exact ⟨_, rfl, h1, h2⟩

/-- how many numbers there are in all rows -/
def lenS (zss : List (List Int)) : Nat := (zss.map List.length).sum

theorem lenS_take {zss : List (List Int)} {k : Nat} {zs : List Int} (h : zss[k]? = some zs) : lenS (zss.take (k + 1)) = lenS (zss.take k) + zs.length := by
  rw [lenS, lenS, List.take_add_one, h, Option.toList_some, List.map_append, List.sum_append]; simp

/-- what is left of so many -/
def SzPost (left : Int) (zss : List (List Int)) (w : World) (e : Ending) (w' : World) : Prop := ∃ n, e = .returned (.int .i64 n) ∧ w = w' ∧ (0 ≤ n → zss.length ≤ 1048576 ∧ (∀ zs ∈ zss, zs.length ≤ 1048576) ∧ zss.length + lenS zss ≤ 1048576)

set_option maxHeartbeats 400000 in
theorem szIntS_any (w : World) (A : Option Addr) (n c : Nat) (left : Int) (h0 : 0 ≤ left) (h1 : left ≤ 1048576) (hm : n ≤ 9223372036854775807) :
    Calls Try.prog 74 #[.slice A n c, .int .i64 left] w fun r w' => r = .returned (.int .i64 (if left - (n : Int) < 0 then -1 else left - (n : Int))) ∧ w = w' := by
  have hq : IntKind.i64.wrap (left - (n : Int)) = left - (n : Int) := IntWalk.i64_in _ (by omega)
  by_cases h : left - (n : Int) < 0
  · go_enter Try.func74, Try.ntmps74
    go_wp2
    go_ret
    exact ⟨by first | rfl | rw [if_pos h], rfl⟩
  · go_enter Try.func74, Try.ntmps74
    go_wp2
    go_ret
    exact ⟨by first | rfl | rw [if_neg h], rfl⟩

set_option maxHeartbeats 2000000 in
theorem szIntSS_any (w : World) (v : Value) (zss : List (List Int)) (hv : SRd w v zss) :
    Calls Try.prog 47 #[v, .int .i64 1048576] w (SzPost 1048576 zss w) := by
  obtain ⟨A, c, rfl, hl, hm⟩ := hv.form
  have HV := Lib.hid hv
  clear hv
  have hq : IntKind.i64.wrap (1048576 - (zss.length : Int)) = 1048576 - (zss.length : Int) := IntWalk.i64_in _ (by omega)
  by_cases h : 1048576 - (zss.length : Int) < 0
  · go_enter Try.func47, Try.ntmps47
    go_wp2
    go_ret
    exact ⟨-1, rfl, rfl, fun h => by omega⟩
  · have hn : zss.length ≤ 1048576 := by omega
    go_enter Try.func47, Try.ntmps47
    go_wp2_with fail
    go_loop [1, 5] (fun l i => ∃ (k : Nat) (m : Int), i = .int .i64 k ∧ l = .int .i64 m ∧ k ≤ zss.length ∧ 0 ≤ m ∧ m ≤ 1048576 ∧ Hid (m + (lenS (zss.take k) : Int) + (zss.length : Int) = 1048576) ∧ Hid (∀ zs ∈ zss.take k, zs.length ≤ 1048576)) (fun _ i => zss.length - (intOf i).toNat)
    case atStart => exact ⟨0, _, rfl, rfl, Nat.zero_le _, by omega, by omega, Lib.hid (by simp [lenS]), Lib.hid (by simp)⟩
    case round =>
      obtain ⟨k, m, rfl, rfl, hk, m0, m1, HM, HA⟩ := hrel
      by_cases hlt : k < zss.length
      · have hlt' : (k : Int) < (zss.length : Int) := by omega
        obtain ⟨b, off, u, zs, rfl, -, hz, hc, hu⟩ := HV.out.at_ hlt
        obtain ⟨A', c', rfl, hl', hm', -⟩ := id hu
        have HZ := Lib.hid hz
        clear hz hu
        by_cases h2 : m - (zs.length : Int) < 0
        · go_wp2_with fail
          refine (szIntS_any w A' zs.length c' m m0 m1 (by omega)).mono ?_
          rintro r w2 ⟨rfl, rfl⟩
          rw [if_pos h2]
          go_wp2_with fail
          go_ret
          exact ⟨-1, rfl, rfl, fun h => by omega⟩
        · have HN : Hid (∀ zs ∈ zss.take (k + 1), zs.length ≤ 1048576) := Lib.hid (fun ys hy => by
            rw [List.take_add_one, HZ.out, Option.toList_some, List.mem_append, List.mem_singleton] at hy
            rcases hy with hy | rfl
            · exact HA.out ys hy
            · omega)
          obtain ⟨d, hd⟩ : ∃ d, m - (zs.length : Int) = d := ⟨_, rfl⟩
          have hd0 : 0 ≤ d ∧ d ≤ 1048576 := by omega
          have HM2 : Hid (d + (lenS (zss.take (k + 1)) : Int) + (zss.length : Int) = 1048576) := Lib.hid (by have := HM.out; rw [lenS_take HZ.out]; push_cast; omega)
          have HD := Lib.hid hd
          have h2' : ¬ d < 0 := by omega
          clear h2 hd
          go_wp2_with fail
          refine (szIntS_any w A' zs.length c' m m0 m1 (by omega)).mono ?_
          rintro r w2 ⟨rfl, rfl⟩
          rw [HD.out, if_neg (show ¬ d < 0 from by omega)]
          go_wp2_with fail
          go_round
          case rel => exact ⟨k + 1, d, by go_num, rfl, by omega, hd0.1, hd0.2, HM2, HN⟩
          case measure => simp [intOf]; omega
      · obtain rfl : k = zss.length := by omega
        go_wp2_with fail
        go_ret
        exact ⟨_, rfl, rfl, fun _ => ⟨hn, by have := HA.out; rwa [List.take_length] at this, by have := HM.out; rw [List.take_length] at this; omega⟩⟩

/-- up to place k both rows of rows are alike -/
def ragree (xs ys : List (List Int)) (k : Nat) : Prop := ∀ i, i < k → xs[i]? = ys[i]?

theorem ragree_all {xs ys : List (List Int)} (hl : xs.length = ys.length) (h : ragree xs ys xs.length) : xs = ys := by
  apply List.ext_getElem?
  intro i
  by_cases hi : i < xs.length
  · exact h i hi
  · rw [List.getElem?_eq_none (by omega), List.getElem?_eq_none (by omega)]

theorem ragree_succ {xs ys : List (List Int)} {k : Nat} (h : ragree xs ys k) (hk : xs[k]? = ys[k]?) : ragree xs ys (k + 1) := by
  intro i hi
  rcases Nat.lt_succ_iff_lt_or_eq.1 hi with h1 | h1
  · exact h i h1
  · subst h1; exact hk

set_option maxHeartbeats 4000000 in
theorem eqIntSS_any (w : World) (v u : Value) (xs ys : List (List Int)) (hv : SRd w v xs) (hu : SRd w u ys) :
    Calls Try.prog 49 #[v, u] w (BoolPost (decide (xs = ys)) w) := by
  obtain ⟨A, c, rfl, hl, hm⟩ := hv.form
  obtain ⟨A', c', rfl, hl', hm'⟩ := hu.form
  have HV : Hid (∀ wr, Below w.heap.size w wr → SRd wr (.slice A xs.length c) xs) := Lib.hid (fun wr hb => hv.below hb)
  have HU : Hid (∀ wr, Below w.heap.size w wr → SRd wr (.slice A' ys.length c') ys) := Lib.hid (fun wr hb => hu.below hb)
  clear hv hu
  by_cases hlen : xs.length = ys.length
  · have h1 : ((xs.length : Int) == (ys.length : Int)) = true := by simp; omega
    have h2 : ((xs.length : Int) != (ys.length : Int)) = false := by simp; omega
    have HL := Lib.hid hlen
    clear hlen
    go_enter Try.func49, Try.ntmps49
    go_wp2_with fail
    clear h1 h2
    go_loopw [5] (fun i wr => ∃ k : Nat, i = .int .i64 k ∧ k ≤ xs.length ∧ Hid (ragree xs ys k) ∧ Hid (Below w.heap.size w wr)) (fun i _ => xs.length - (intOf i).toNat)
    case atStart => exact ⟨0, rfl, Nat.zero_le _, Lib.hid (fun i hi => absurd hi (Nat.not_lt_zero _)), Lib.hid (Below.refl _ _)⟩
    case round =>
      obtain ⟨k, rfl, hk, HA, HB⟩ := hrel
      by_cases hlt : k < xs.length
      · have hlt' : (k : Int) < (xs.length : Int) := by omega
        have hlty : k < ys.length := by have := HL.out; omega
        have hlty' : (k : Int) < (ys.length : Int) := by omega
        obtain ⟨b, off, p, zs, rfl, -, hz, hc, hp⟩ := (HV.out wr HB.out).at_ hlt
        obtain ⟨b', off', q, yy, rfl, -, hy, hc', hq⟩ := (HU.out wr HB.out).at_ hlty
        obtain ⟨A2, c2, rfl, -, -, -⟩ := id hp
        obtain ⟨A3, c3, rfl, -, -, -⟩ := id hq
        have HZ := Lib.hid hz
        have HY := Lib.hid hy
        have HP := Lib.hid hp
        have HQ := Lib.hid hq
        have HCC := Lib.hid (And.intro hc hc')
        clear hz hy hp hq
        rcases Bool.eq_false_or_eq_true (decide (zs = yy)) with he | he
        · have HE : Hid (zs = yy) := Lib.hid (by simpa using he)
          go_wp2_with fail
          go_region_held3 (fun w' => w'.cell? ⟨b, off + k, none⟩ = some (.slice A2 zs.length c2) ∧ w'.cell? ⟨b', off' + k, none⟩ = some (.slice A3 yy.length c3)) (exact HCC.out) (first
            | (go_at_call 44; refine (eqIntS_any wr.drew _ _ zs yy (HP.out.keep (SameAt.of_below (Below.refl _ _).drew)) (HQ.out.keep (SameAt.of_below (Below.refl _ _).drew))).mono ?_; rintro r w3 ⟨nn, rfl, rfl⟩; rw [he]))
          all_goals
            go_wp2_with fail
            go_roundw
            case rel => exact ⟨k + 1, by go_num, by omega, Lib.hid (ragree_succ HA.out (by rw [HZ.out, HY.out, HE.out])), Lib.hid (below_drewN HB.out _)⟩
            case measure => simp [intOf]; omega
        · have HE : Hid (¬ zs = yy) := Lib.hid (by simpa using he)
          go_wp2_with fail
          go_region_held3 (fun w' => w'.cell? ⟨b, off + k, none⟩ = some (.slice A2 zs.length c2) ∧ w'.cell? ⟨b', off' + k, none⟩ = some (.slice A3 yy.length c3)) (exact HCC.out) (first
            | (go_at_call 44; refine (eqIntS_any wr.drew _ _ zs yy (HP.out.keep (SameAt.of_below (Below.refl _ _).drew)) (HQ.out.keep (SameAt.of_below (Below.refl _ _).drew))).mono ?_; rintro r w3 ⟨nn, rfl, rfl⟩; rw [he]))
          all_goals
            go_wp2_with fail
            go_ret
            exact ⟨ret_bool (by symm; simp only [decide_eq_false_iff_not]; intro e; subst e; exact HE.out (Option.some.inj (HZ.out.symm.trans HY.out))), below_drewN HB.out _⟩
      · go_wp2_with fail
        go_ret
        exact ⟨ret_bool (by symm; simp only [decide_eq_true_eq]; exact ragree_all HL.out (by have := HA.out; rwa [show k = xs.length from by omega] at this)), HB.out⟩
  · have h1 : ((xs.length : Int) == (ys.length : Int)) = false := by simp; omega
    have h2 : ((xs.length : Int) != (ys.length : Int)) = true := by simp; omega
    have HL := Lib.hid hlen
    clear hlen
    go_enter Try.func49, Try.ntmps49
    go_wp2_with fail
    go_ret
    exact ⟨ret_bool (by symm; simp only [decide_eq_false_iff_not]; intro e; exact HL.out (by rw [e])), Below.refl _ _⟩

/-! a row of rows that came in -/

theorem ird_of_trod {H : Type} {enc : TypeId × Value → H} {W : World} {fuel : Nat} {v : Value} {x : DataW H × List MemPlace}
    (hf : DataW.trod enc Try.prog W 0 (fun _ => true) true fuel 23 [v] = some x) : ∃ zs, IRd W v zs := by
  rcases open_ints Try.underlying23 Try.underlying3 (by kernel_rfl) hf with ⟨hcs, -⟩ | ⟨a, l, c, zs, hcs, -, hl, hm, hz, -, hcell, hwz⟩
  · obtain rfl : v = .slice none 0 0 := by simpa using hcs
    exact ⟨[], none, 0, rfl, by simp, by omega, fun h => by simp at h⟩
  · obtain rfl : v = .slice (some a) l c := by simpa using hcs
    exact ird_of_row (.inr ⟨a, rfl, hl, hm, by simpa using hz, hcell, hwz⟩)

theorem srd_of_trod {H : Type} {enc : TypeId × Value → H} {W : World} {fuel : Nat} {a : Option Addr} {len cap : Nat} {x : DataW H × List MemPlace}
    (hf : DataW.trod enc Try.prog W 0 (fun _ => true) true fuel 37 [.slice a len cap] = some x) : ∃ zss, SRd W (.slice a len cap) zss := by
  rcases open_slice Try.underlying37 hf with ⟨h, -⟩ | ⟨a', len', cap', m, n, D, Pl, hcs, hb, hl, hm, hmm, -, hi⟩
  · have h' : (Value.slice a len cap) = .slice none 0 0 := by simpa using h
    rw [h']
    exact ⟨[], [], rfl, GRd.nil _ _ _, fun k u zs h => by simp at h⟩
  · have h' : (Value.slice a len cap) = .slice (some a') len' cap' := by simpa using hcs
    rw [h']
    have hmc : m = cap' := by rw [hmm]; simp
    subst hmc
    rw [maxLen_is] at hm
    have ce : Try.prog.cellsOf 23 = 1 := by kernel_rfl
    rw [ce] at hi
    have each : ∀ i, i < m → ∃ q : Value × List Int, W.cell? (a'.add (i * 1)) = some q.1 ∧ IRd W q.1 q.2 := by
      intro i him
      obtain ⟨cs', h1, h2⟩ := hi i him
      obtain ⟨_, hlen, hcell⟩ := World.cells?_some h1
      match cs', hlen with
      | [v0], _ =>
        obtain ⟨zs, hz⟩ := ird_of_trod h2
        have e0 := hcell 0 (by omega)
        rw [add_add] at e0
        exact ⟨(v0, zs), by simpa using e0, hz⟩
    obtain ⟨q, hq⟩ := choose_lt each
    refine ⟨(List.range len').map fun i => (q i).2, (List.range len').map fun i => (q i).1, by simp, ⟨some a', m, by simp, by simpa using hl, hm, fun h0 => ?_⟩, fun k u zs hu hz => ?_⟩
    · have hlen : 0 < len' := by simpa using h0
      obtain ⟨b, off, spot⟩ := a'
      have hc := (hq 0 (by omega)).1
      have hspot : spot = none := by simpa [Addr.add] using World.cell?_spot hc
      subst hspot
      have hlt := World.block_lt_of_cell? W _ hc
      rw [addr_add] at hlt
      refine ⟨b, off, rfl, hlt, fun i p hj j u hu => ?_⟩
      have hil : i < len' := by
        rcases Nat.lt_or_ge i len' with h1 | h1
        · exact h1
        · rw [List.getElem?_eq_none (by simpa using h1)] at hj; cases hj
      have hqe : p = (q i).1 := by
        rw [List.getElem?_map, List.getElem?_range hil] at hj
        exact (Option.some.inj hj).symm
      have c0 := (hq i (by omega)).1
      rw [addr_add] at c0
      subst hqe
      match j, hu with
      | 0, hu =>
        have : u = (q i).1 := (Option.some.inj hu).symm
        rw [Nat.add_zero, c0, this]
      | j + 1, hu => simp [sV] at hu
    · have hk : k < len' := by
        rcases Nat.lt_or_ge k len' with h1 | h1
        · exact h1
        · rw [List.getElem?_eq_none (by simpa using h1)] at hu; cases hu
      rw [List.getElem?_map, List.getElem?_range hk] at hu hz
      have e1 := Option.some.inj hu
      have e2 := Option.some.inj hz
      have := (hq k (by omega)).2
      rw [← e1, ← e2]
      exact this

end Go.Proofs.Ytbjmhbkpeglpkaa
