/- Contracts, facts and walks that the laws of this seat lean on, laid together by a program of ours (mkmerge.py) out of: Kf Kg Kp Di Dt Zd Kq Kc Kr Ks Pa Pb. Conditions: stated at each. -/
import Derived.BigQuiet
import Derived.Deep.AppendLies
import Derived.Deep.RegionWith
import Derived.Handy
import Derived.Deep.DeepCutAuto
import Derived.Test.YtebebcomhdjihaaD2
namespace Go.Proofs.Ytebebcomhdjihaa
open Go.RowKit
set_option linter.unusedVariables false

theorem val_from (l : List UInt8) (h : ∀ c ∈ l, 48 ≤ c.toNat ∧ c.toNat ≤ 57) (n : Nat) : l.foldl (fun n c => 10 * n + (c.toNat - 48)) n + 1 ≤ (n + 1) * 10 ^ l.length := by
  induction l generalizing n with
  | nil => simp
  | cons c l ih =>
    have h1 := ih (fun d hd => h d (by simp [hd])) (10 * n + (c.toNat - 48))
    have h2 := h c (by simp)
    have h3 : (10 * n + (c.toNat - 48) + 1) * 10 ^ l.length ≤ (10 * (n + 1)) * 10 ^ l.length := Nat.mul_le_mul_right _ (by omega)
    have h4 : (n + 1) * 10 ^ (c :: l).length = (10 * (n + 1)) * 10 ^ l.length := by
      rw [List.length_cons, Nat.pow_succ, Nat.mul_comm 10 (n + 1), Nat.mul_assoc, Nat.mul_comm 10 (10 ^ l.length)]
    rw [List.foldl_cons, h4]
    exact Nat.le_trans h1 h3

theorem val_lt (l : List UInt8) (h : ∀ c ∈ l, 48 ≤ c.toNat ∧ c.toNat ≤ 57) : valN l < 10 ^ l.length := by
  have := val_from l h 0
  unfold valN
  omega

def DigRel (S : ByteArray) (k n : Nat) : Prop := n = valN ((bs S).take k) ∧ ∀ c ∈ (bs S).take k, 48 ≤ c.toNat ∧ c.toNat ≤ 57

theorem DigRel.step {S : ByteArray} {k n b : Nat} (h : DigRel S k n) (hk : k < S.size) (hb : (S[k]'hk).toNat = b) (h1 : 48 ≤ b) (h2 : b ≤ 57) : DigRel S (k + 1) (10 * n + (b - 48)) := by
  refine ⟨?_, fun c hc => ?_⟩
  · rw [List.take_add_one, bs_at hk, Option.toList_some, val_snoc, ← h.1, hb]
  · rw [List.take_add_one, bs_at hk, Option.toList_some, List.mem_append, List.mem_singleton] at hc
    rcases hc with hc | rfl
    · exact h.2 c hc
    · omega

theorem DigRel.lt {S : ByteArray} {k n : Nat} (h : DigRel S k n) (hk : k ≤ 6) : n < 1000000 := by
  have h1 := val_lt _ h.2
  rw [← h.1] at h1
  have h2 : ((bs S).take k).length ≤ 6 := by rw [List.length_take]; omega
  have h3 : 10 ^ ((bs S).take k).length ≤ 10 ^ 6 := Nat.pow_le_pow_right (by omega) h2
  omega

end Go.Proofs.Ytebebcomhdjihaa

namespace Go.Proofs.Ytebebcomhdjihaa
open Go.RowKit
set_option linter.unusedVariables false

theorem pl_cells (w : World) (v u : Value) (wr : World) (h : Below (w.alloc (.cells #[v, u] 26)).heap.size (w.alloc (.cells #[v, u] 26)) wr) :
    wr.cell? ⟨w.heap.size, 0, none⟩ = some v ∧ wr.cell? ⟨w.heap.size, 1, none⟩ = some u := by
  have h1 : Blk (w.alloc (.cells #[v, u] 26)) w.heap.size 26 #[v, u] := heap_alloc_new w _
  have h2 : Blk wr w.heap.size 26 #[v, u] := (h.block w.heap.size (by simp)).trans h1
  exact ⟨h2.cell 0, h2.cell 1⟩

set_option maxRecDepth 100000 in
set_option maxHeartbeats 4000000 in
theorem specPlaceOk_any (w : World) (v u : Value) (qs : List Qt) (ss : List Int) (hv : QRd w v qs) (hu : IRd w u ss) :
    Calls Try.prog 21 #[.agg #[v, u]] w (BoolPost (plB (qs, ss)) w) := by
  obtain ⟨A, c, rfl, hl, hm⟩ := hv.form
  obtain ⟨A', c', rfl, hl', hm', -⟩ := id hu
  obtain ⟨V, hV⟩ : ∃ V, (Value.slice A qs.length c) = V := ⟨_, rfl⟩
  obtain ⟨c0, c1⟩ := pl_cells w (.slice A qs.length c) (.slice A' ss.length c') _ (Below.refl _ _)
  have HB : Hid (Below w.heap.size w (w.alloc (.cells #[.slice A qs.length c, .slice A' ss.length c'] 26))) := Lib.hid ((Below.refl _ _).alloc (Nat.le_refl _) _)
  have HV := Lib.hid (hv.keep (SameAt.of_below HB.out))
  have HU := Lib.hid (hu.keep (SameAt.of_below HB.out))
  clear hv hu hV
  go_enter Try.func21, Try.ntmps21
  go_wp2_with fail
  go_loopw [3] (fun i wr => ∃ k : Nat, i = .int .i64 (k : Int) ∧ k ≤ ss.length ∧ Hid (∀ s ∈ ss.take k, stB s = true) ∧ wr = w.alloc (.cells #[.slice A qs.length c, .slice A' ss.length c'] 26)) (fun i _ => ss.length - (intOf i).toNat)
  case atStart => exact ⟨0, rfl, Nat.zero_le _, Lib.hid (by simp), rfl⟩
  case round =>
    obtain ⟨k, rfl, hk, HS, rfl⟩ := hrel
    by_cases hlt : k < ss.length
    · have hlt' : (k : Int) < (ss.length : Int) := by omega
      have hk0 : (0 : Int) ≤ (k : Int) := by omega
      obtain ⟨G, o, s, rfl, -, hx, hcx⟩ := HU.out.at_ hlt
      have HX := Lib.hid hx
      clear hx
      rcases Bool.eq_false_or_eq_true (stB s) with h1 | h1
      · have HN : Hid (∀ s ∈ ss.take (k + 1), stB s = true) := Lib.hid (fun t ht => by
          rw [List.take_add_one, HX.out, Option.toList_some, List.mem_append, List.mem_singleton] at ht
          rcases ht with ht | rfl
          · exact HS.out t ht
          · exact h1)
        go_wp2_with fail
        refine (l1In_any _ _ _ _).mono ?_
        rintro r w' ⟨rfl, rfl⟩
        rw [show inB s (-9) 9 = true from h1]
        go_wp2_with fail
        go_roundw
        case rel => exact ⟨k + 1, by go_num, by omega, HN, trivial⟩
        case measure => simp [intOf]; omega
      · have HN : Hid (plB (qs, ss) = false) := Lib.hid (by
          rw [plB, Bool.and_eq_false_iff]
          refine .inl ?_
          rw [← Bool.not_eq_true]
          intro h
          have := List.all_eq_true.1 h s (List.mem_of_getElem? HX.out)
          rw [h1] at this
          cases this)
        go_wp2_with fail
        refine (l1In_any _ _ _ _).mono ?_
        rintro r w' ⟨rfl, rfl⟩
        rw [show inB s (-9) 9 = false from h1]
        go_wp2_with fail
        go_ret
        exact ⟨ret_bool HN.out.symm, HB.out⟩
    · obtain rfl : k = ss.length := by omega
      have HA : Hid (ss.all stB = true) := Lib.hid (List.all_eq_true.2 (by have := HS.out; rwa [List.take_length] at this))
      have hlt' : decide ((ss.length : Int) < (ss.length : Int)) = false := by simp
      by_cases he : ss.length = qs.length
      · have HN : Hid (plB (qs, ss) = fairB 4 qs) := Lib.hid (by
          rw [plB, HA.out, Bool.true_and]
          show (decide (ss.length = qs.length) && fairB 4 qs) = _
          rw [decide_eq_true he, Bool.true_and])
        have he' : ((ss.length : Int) == (qs.length : Int)) = true := by rw [he]; simp
        clear he
        go_wp2_with fail
        refine (specFairOk_any _ 4 _ qs HV.out).mono ?_
        rintro r w3 ⟨rfl, b3⟩
        have HB3 := Lib.hid (below_step HB.out b3 HB.out.size)
        clear b3
        go_wp2_with fail
        go_ret
        exact ⟨ret_bool HN.out.symm, HB3.out⟩
      · have HN : Hid (plB (qs, ss) = false) := Lib.hid (by
          rw [plB, HA.out, Bool.true_and]
          show (decide (ss.length = qs.length) && fairB 4 qs) = _
          rw [decide_eq_false he, Bool.false_and])
        have he' : ((ss.length : Int) == (qs.length : Int)) = false := by rw [beq_eq_false_iff_ne]; omega
        clear he
        go_wp2_with fail
        go_ret
        exact ⟨ret_bool HN.out.symm, HB.out⟩

end Go.Proofs.Ytebebcomhdjihaa

namespace Go.Proofs.Ytebebcomhdjihaa
open Go.RowKit
set_option linter.unusedVariables false

def Sane (v : Value) : Prop := v = .slice none 0 0 ∨ ∃ ad n c, v = .slice (some ad) n c

section
variable {α : Type}

theorem flat_get {enc : α → List Value} {c : Nat} (he : ∀ x, (enc x).length = c) (hc : 0 < c) (xs : List α) (j : Nat) : (xs.flatMap enc)[j]? = (xs[j / c]?).bind fun b => (enc b)[j % c]? := by
  induction xs generalizing j with
  | nil => simp
  | cons b bs ih =>
    rw [List.flatMap_cons]
    rcases Nat.lt_or_ge j c with h | h
    · rw [List.getElem?_append_left (by rw [he]; exact h), Nat.div_eq_of_lt h, Nat.mod_eq_of_lt h]; rfl
    · rw [List.getElem?_append_right (by rw [he]; exact h), he, ih]
      have h1 : j / c = (j - c) / c + 1 := by rw [Nat.div_eq_sub_div hc h]
      have h2 : j % c = (j - c) % c := by rw [Nat.mod_eq_sub_mod h]
      rw [h1, h2]; rfl

theorem GRd.src {enc : α → List Value} {c : Nat} {w : World} {u : Value} {ys : List α} (he : ∀ x, (enc x).length = c) (hc : 0 < c) (h : GRd c enc w u ys) (hs : Sane u) :
    (u = .slice none 0 0 ∧ ys = []) ∨ ∃ ad cp, u = .slice (some ad) ys.length cp ∧ ∀ j x, (ys.flatMap enc)[j]? = some x → w.cell? (ad.add j) = some x := by
  obtain ⟨A, cp, rfl, hl, hm, hcell⟩ := h
  rcases Nat.eq_zero_or_pos ys.length with h0 | h0
  · have hy := List.eq_nil_of_length_eq_zero h0
    subst hy
    rcases hs with hs | ⟨ad, n, c', hs⟩
    · exact .inl ⟨hs, rfl⟩
    · injection hs with e1 e2 e3
      subst e1
      exact .inr ⟨ad, cp, rfl, fun j x hx => by simp at hx⟩
  · obtain ⟨b, off, rfl, hb, hcl⟩ := hcell h0
    refine .inr ⟨_, cp, rfl, fun j x hx => ?_⟩
    rw [flat_get he hc] at hx
    cases hq : ys[j / c]? with
    | none => rw [hq] at hx; cases hx
    | some q =>
      rw [hq] at hx
      have := hcl (j / c) q hq (j % c) x hx
      rw [addr_add]
      rw [show off + j = off + j / c * c + j % c from by have := Nat.div_add_mod j c; rw [Nat.mul_comm] at this; omega]
      exact this

theorem GOwn.sane {e : TypeId} {enc : α → List Value} {c : Nat} {w : World} {base : Nat} {v : Value} {xs : List α} (h : GOwn e c enc w base v xs) : Sane v := by
  rcases h.2 with ⟨rfl, h0⟩ | ⟨g, cap, cur, rfl, -⟩
  · exact .inl rfl
  · exact .inr ⟨_, _, _, rfl⟩

theorem run_app_g {e t ty : TypeId} {c bytes : Nat} {enc : α → List Value} {i : TypeInfo} {z : Value} (ht : Try.prog.underlying t = some (.slice e)) (hi : Try.prog.info? e = some i) (hz : i.zero = some z) (hsize : i.size = c) (hby : i.bytes = bytes) (hzs : z.cells.size = c)
    (hc : 0 < c) (he : ∀ x, (enc x).length = c) {w : World} {base : Nat} {v u : Value} {xs ys : List α} (hown : GOwn e c enc w base v xs) (hr : GRd c enc w u ys) (hs : Sane u) (h1 : ∀ y ∈ ys, ∀ x ∈ enc y, x.oneCell' = true)
    (hl : xs.length + ys.length ≤ 4000000) (hb1 : bytes ≤ 1000) (hbase : base ≤ w.heap.size) :
    ∃ v' w', (Builtin.append_ #[t, t] ty #[v, u]).run Try.prog w = .ok v' w' ∧ GOwn e c enc w' base v' (xs ++ ys) ∧ w.grownBy w' v.ownBlock ∧ (v'.ownBlock = v.ownBlock ∨ v'.ownBlock = some w.heap.size) := by
  rcases hr.src he hc hs with ⟨rfl, rfl⟩ | ⟨ad, cp, rfl, hn⟩
  · refine ⟨v, w, run_append_owned_none (P := Try.prog) w base t ty e i c ht hi v xs.length (xs.flatMap enc) hown, by rw [List.append_nil]; exact hown, World.grownBy.refl w _, .inl rfl⟩
  · have hone : ∀ x ∈ ys.flatMap enc, x.oneCell' = true := fun x hx => by
      obtain ⟨y, hy, hxy⟩ := List.mem_flatMap.1 hx
      exact h1 y hy x hxy
    have hbb : (xs.length + ys.length) * bytes ≤ 140737488355328 := Nat.le_trans (Nat.mul_le_mul hl hb1) (by decide)
    obtain ⟨v', w', k1, k2, k3, -, k5⟩ := run_append_own_at (P := Try.prog) w base t ty e i z c bytes ht hi hz hsize hby hzs hc v xs.length (xs.flatMap enc) hown ad ys.length cp (ys.flatMap enc) (flat_len he ys) hn hone (by unfold maxLen; omega) hbb hbase
    refine ⟨v', w', k1, ?_, k3, k5⟩
    unfold GOwn
    rw [List.length_append, List.flatMap_append]
    exact k2

end

theorem lit_none {α : Type} {e : TypeId} {enc : α → List Value} {c : Nat} (w : World) (base : Nat) (hb : base ≤ w.heap.size) : GOwn (α := α) e c enc (w.alloc (.cells #[] e)) base (.slice (some ⟨w.heap.size, 0, none⟩) 0 0) [] :=
  World.ownsRow_lit w #[] 0 hb (by unfold maxLen; omega) (by simp)

theorem GOwn.alloc {α : Type} {e : TypeId} {enc : α → List Value} {c : Nat} {w : World} {base : Nat} {v : Value} {xs : List α} (h : GOwn e c enc w base v xs) (o : Obj) : GOwn e c enc (w.alloc o) base v xs := World.ownsRow.alloc h o

theorem GOwn.below {α : Type} {e : TypeId} {enc : α → List Value} {c : Nat} {w w' : World} {base : Nat} {v : Value} {xs : List α} (h : GOwn e c enc w base v xs) (hb : Below w.heap.size w w') : GOwn e c enc w' base v xs := h.keep (SameAt.of_below hb)

theorem GOwn.off {α : Type} {e : TypeId} {enc : α → List Value} {c : Nat} {w w' : World} {base : Nat} {v : Value} {xs : List α} {r : Option Nat} (h : GOwn e c enc w base v xs) (hg : w.grownBy w' r) (hne : v.ownBlock = none ∨ v.ownBlock ≠ r) : GOwn e c enc w' base v xs := h.keep (SameAt.of_grown hg hne)

def iC (x : Int) : List Value := [.int .i64 x]

theorem iC_len (x : Int) : (iC x).length = 1 := rfl

theorem flat_iC (xs : List Int) : xs.flatMap iC = xs.map (Value.int .i64) := by
  induction xs with
  | nil => rfl
  | cons x xs ih => rw [List.flatMap_cons, ih]; rfl

theorem iown_g {w : World} {base : Nat} {v : Value} {xs : List Int} : IOwn w base v xs ↔ GOwn 3 1 iC w base v xs := by
  unfold IOwn GOwn
  rw [flat_iC]

theorem ird_g {w : World} {v : Value} {xs : List Int} (h : IRd w v xs) : GRd 1 iC w v xs := by
  obtain ⟨A, c, e, hl, hm, hc⟩ := h
  refine ⟨A, c, e, hl, hm, fun h0 => ?_⟩
  obtain ⟨b, off, e1, e2, e3⟩ := hc h0
  refine ⟨b, off, e1, e2, fun i x hx j u hu => ?_⟩
  match j, hu with
  | 0, hu => obtain rfl := Option.some.inj hu; rw [Nat.mul_one, Nat.add_zero]; exact e3 i x hx
  | j + 1, hu => cases hu

theorem iC_one (xs : List Int) : ∀ y ∈ xs, ∀ x ∈ iC y, x.oneCell' = true := fun y _ x hx => by
  obtain rfl := List.mem_singleton.1 hx; rfl

theorem qC15_one (qs : List Qt) : ∀ y ∈ qs, ∀ x ∈ qC y, x.oneCell' = true := fun y _ x hx => by
  simp only [qC, List.mem_cons, List.not_mem_nil, or_false] at hx
  rcases hx with rfl | rfl <;> rfl

def pC (x : Value × Value) : List Value := [x.1, x.2]

theorem pC_len (x : Value × Value) : (pC x).length = 2 := rfl

theorem Try_qinfo15 : (Try.prog.info? 64).map (fun i => (i.zero, i.size, i.bytes)) = some (some (.agg #[.int .i64 0, .int .i64 0]), 2, 16) := by kernel_rfl

def InS (S : Nat → Prop) (v : Value) : Prop := ∀ g, v.ownBlock = some g → S g

theorem InS.mono {S T : Nat → Prop} {v : Value} (h : InS S v) (hst : ∀ g, S g → T g) : InS T v := fun g hg => hst g (h g hg)

theorem InS.ne {S : Nat → Prop} {v : Value} {g : Nat} (h : InS S v) (hg : ¬ S g) : v.ownBlock = none ∨ v.ownBlock ≠ some g := .inr (fun e => hg (h g e))

def PlRd (S : Nat → Prop) (w : World) (v u : Value) (p : Pl) : Prop := (QRd w v p.1 ∧ Sane v ∧ InS S v) ∧ (IRd w u p.2 ∧ Sane u ∧ InS S u)

theorem PlRd.keep {S : Nat → Prop} {w w' : World} {v u : Value} {p : Pl} (h : PlRd S w v u p) (h1 : SameAt w w' v) (h2 : SameAt w w' u) : PlRd S w' v u p := ⟨⟨h.1.1.keep h1, h.1.2⟩, ⟨h.2.1.keep h2, h.2.2⟩⟩

theorem PlRd.below {S : Nat → Prop} {w w' : World} {v u : Value} {p : Pl} (h : PlRd S w v u p) (hb : Below w.heap.size w w') : PlRd S w' v u p := h.keep (SameAt.of_below hb) (SameAt.of_below hb)

theorem PlRd.off {S : Nat → Prop} {w w' : World} {v u : Value} {p : Pl} {g : Nat} (h : PlRd S w v u p) (hg : w.grownBy w' (some g)) (hs : ¬ S g) : PlRd S w' v u p := h.keep (SameAt.of_grown hg (h.1.2.2.ne hs)) (SameAt.of_grown hg (h.2.2.2.ne hs))

theorem PlRd.mono {S T : Nat → Prop} {w : World} {v u : Value} {p : Pl} (h : PlRd S w v u p) (hst : ∀ g, S g → T g) : PlRd T w v u p := ⟨⟨h.1.1, h.1.2.1, h.1.2.2.mono hst⟩, ⟨h.2.1, h.2.2.1, h.2.2.2.mono hst⟩⟩

theorem PlRd.nil (S : Nat → Prop) (w : World) : PlRd S w (.slice none 0 0) (.slice none 0 0) ([], []) :=
  ⟨⟨GRd.nil _ _ _, .inl rfl, fun g hg => by cases hg⟩, ⟨⟨none, 0, rfl, Nat.le_refl _, by omega, fun h => by simp at h⟩, .inl rfl, fun g hg => by cases hg⟩⟩

def PsRd (S : Nat → Prop) (w : World) (v : Value) (ps : List Pl) : Prop := ∃ us : List (Value × Value), us.length = ps.length ∧ (GRd 2 pC w v us ∧ InS S v) ∧ ∀ (k : Nat) (x : Value × Value) (p : Pl), us[k]? = some x → ps[k]? = some p → PlRd S w x.1 x.2 p

theorem PsRd.below {S : Nat → Prop} {w w' : World} {v : Value} {ps : List Pl} (h : PsRd S w v ps) (hb : Below w.heap.size w w') : PsRd S w' v ps := by
  obtain ⟨us, h1, h2, h3⟩ := h
  exact ⟨us, h1, ⟨h2.1.keep (SameAt.of_below hb), h2.2⟩, fun k x p k1 k2 => (h3 k x p k1 k2).below hb⟩

theorem PsRd.off {S : Nat → Prop} {w w' : World} {v : Value} {ps : List Pl} {g : Nat} (h : PsRd S w v ps) (hg : w.grownBy w' (some g)) (hs : ¬ S g) : PsRd S w' v ps := by
  obtain ⟨us, h1, h2, h3⟩ := h
  exact ⟨us, h1, ⟨h2.1.keep (SameAt.of_grown hg (h2.2.ne hs)), h2.2⟩, fun k x p k1 k2 => (h3 k x p k1 k2).off hg hs⟩

theorem PsRd.mono {S T : Nat → Prop} {w : World} {v : Value} {ps : List Pl} (h : PsRd S w v ps) (hst : ∀ g, S g → T g) : PsRd T w v ps := by
  obtain ⟨us, h1, h2, h3⟩ := h
  exact ⟨us, h1, ⟨h2.1, h2.2.mono hst⟩, fun k x p k1 k2 => (h3 k x p k1 k2).mono hst⟩

theorem PsRd.nil (S : Nat → Prop) (w : World) : PsRd S w (.slice none 0 0) [] := ⟨[], rfl, ⟨GRd.nil _ _ _, fun g hg => by cases hg⟩, fun k x p h => by simp at h⟩

theorem PsRd.form {S : Nat → Prop} {w : World} {v : Value} {ps : List Pl} (h : PsRd S w v ps) : ∃ A cp, v = .slice A ps.length cp ∧ ps.length ≤ cp ∧ cp ≤ 9223372036854775807 := by
  obtain ⟨us, h1, ⟨h2, -⟩, -⟩ := h
  rw [← h1]; exact h2.form

theorem PsRd.at_ {S : Nat → Prop} {w : World} {A : Option Addr} {n cp : Nat} {ps : List Pl} (h : PsRd S w (.slice A n cp) ps) {k : Nat} (hk : k < n) :
    ∃ b off v u p, A = some ⟨b, off, none⟩ ∧ b < w.heap.size ∧ ps[k]? = some p ∧ w.cell? ⟨b, off + k * 2, none⟩ = some v ∧ w.cell? ⟨b, off + k * 2 + 1, none⟩ = some u ∧ PlRd S w v u p := by
  obtain ⟨us, h1, ⟨h2, -⟩, h3⟩ := h
  have hn : n = us.length := by obtain ⟨A', c', e, -⟩ := h2; injection e
  obtain ⟨b, off, x, hA, hb, hx, hc⟩ := h2.at_ hk
  have hkl : k < ps.length := by omega
  obtain ⟨p, hp⟩ : ∃ p, ps[k]? = some p := ⟨_, List.getElem?_eq_getElem hkl⟩
  exact ⟨b, off, x.1, x.2, p, hA, hb, hp, (by have := hc 0 x.1 rfl; rwa [Nat.add_zero] at this), hc 1 x.2 rfl, h3 k x p hx hp⟩

def PsOwn (S : Nat → Prop) (w : World) (base : Nat) (v : Value) (ps : List Pl) : Prop := ∃ us : List (Value × Value), us.length = ps.length ∧ (GOwn 26 2 pC w base v us ∧ InS S v) ∧ ∀ (k : Nat) (x : Value × Value) (p : Pl), us[k]? = some x → ps[k]? = some p → PlRd (fun g => S g ∧ v.ownBlock ≠ some g) w x.1 x.2 p

theorem PsOwn.rd {S : Nat → Prop} {w : World} {base : Nat} {v : Value} {ps : List Pl} (h : PsOwn S w base v ps) : PsRd S w v ps := by
  obtain ⟨us, h1, h2, h3⟩ := h
  exact ⟨us, h1, ⟨h2.1.rd pC_len, h2.2⟩, fun k x p k1 k2 => (h3 k x p k1 k2).mono (fun g hg => hg.1)⟩

theorem PsOwn.below {S : Nat → Prop} {w w' : World} {base : Nat} {v : Value} {ps : List Pl} (h : PsOwn S w base v ps) (hb : Below w.heap.size w w') : PsOwn S w' base v ps := by
  obtain ⟨us, h1, h2, h3⟩ := h
  exact ⟨us, h1, ⟨h2.1.below hb, h2.2⟩, fun k x p k1 k2 => (h3 k x p k1 k2).below hb⟩

theorem PsOwn.off {S : Nat → Prop} {w w' : World} {base : Nat} {v : Value} {ps : List Pl} {g : Nat} (h : PsOwn S w base v ps) (hg : w.grownBy w' (some g)) (hs : ¬ S g) : PsOwn S w' base v ps := by
  obtain ⟨us, h1, h2, h3⟩ := h
  exact ⟨us, h1, ⟨h2.1.off hg (h2.2.ne hs), h2.2⟩, fun k x p k1 k2 => (h3 k x p k1 k2).off hg (fun hh => hs hh.1)⟩

theorem PsOwn.nil (S : Nat → Prop) (w : World) (base : Nat) : PsOwn S w base (.slice none 0 0) [] := ⟨[], rfl, ⟨GOwn.nil _ _ _ _ _, fun g hg => by cases hg⟩, fun k x p h => by simp at h⟩

def DkRd (S : Nat → Prop) (w : World) (v u r : Value) (d : Dk) : Prop := PlRd S w v u d.1 ∧ PsRd S w r d.2

theorem DkRd.below {S : Nat → Prop} {w w' : World} {v u r : Value} {d : Dk} (h : DkRd S w v u r d) (hb : Below w.heap.size w w') : DkRd S w' v u r d := ⟨h.1.below hb, h.2.below hb⟩

theorem DkRd.off {S : Nat → Prop} {w w' : World} {v u r : Value} {d : Dk} {g : Nat} (h : DkRd S w v u r d) (hg : w.grownBy w' (some g)) (hs : ¬ S g) : DkRd S w' v u r d := ⟨h.1.off hg hs, h.2.off hg hs⟩

theorem DkRd.mono {S T : Nat → Prop} {w : World} {v u r : Value} {d : Dk} (h : DkRd S w v u r d) (hst : ∀ g, S g → T g) : DkRd T w v u r d := ⟨h.1.mono hst, h.2.mono hst⟩

theorem DkRd.nil (S : Nat → Prop) (w : World) : DkRd S w (.slice none 0 0) (.slice none 0 0) (.slice none 0 0) (([], []), []) := ⟨PlRd.nil S w, PsRd.nil S w⟩

end Go.Proofs.Ytebebcomhdjihaa

namespace Go.Proofs.Ytebebcomhdjihaa
open Go.RowKit
set_option linter.unusedVariables false

theorem grow_trans {w w1 w2 : World} {r : Option Nat} (h : w.grownBy w1 r) (k : w1.grownBy w2 r) : w.grownBy w2 r :=
  ⟨k.os.trans h.os, k.tape.trans h.tape, k.output.trans h.output, Nat.le_trans h.size k.size, fun i hi hne => (k.block i (by have := h.size; omega) hne).trans (h.block i hi hne)⟩

theorem grow_far {w w1 w2 : World} {r s : Option Nat} (h : w.grownBy w1 r) (k : w1.grownBy w2 s) (hs : ∀ g, s = some g → w.heap.size ≤ g) : w.grownBy w2 r :=
  ⟨k.os.trans h.os, k.tape.trans h.tape, k.output.trans h.output, Nat.le_trans h.size k.size, fun i hi hne => (k.block i (by have := h.size; omega) (fun e => by have := hs i e.symm; omega)).trans (h.block i hi hne)⟩

def GamRel (w : World) (R P : Nat) (p : Value) (xs : List Int) (wr : World) : Prop := Rd wr R P ∧ IOwn wr w.heap.size p xs ∧ w.grownBy wr (some R) ∧ R < w.heap.size

theorem GamRel.append {w wr w' : World} {R P : Nat} {p p' : Value} {xs ys : List Int} (h : GamRel w R P p xs wr) (ho : IOwn w' w.heap.size p' ys) (hg : wr.grownBy w' p.ownBlock) : GamRel w R P p' ys w' := by
  obtain ⟨h1, h2, h3, h4⟩ := h
  exact ⟨h1.grown hg (fun g hg' => by have := (h2.ge g hg').1; omega), ho, grow_far h3 hg (fun g hg' => (h2.ge g hg').1), h4⟩

theorem GamRel.start {w : World} {R P : Nat} (h : Rd w R P) : GamRel w R P (.slice (some ⟨w.heap.size, 0, none⟩) 0 0) [] (w.alloc (.cells #[] 3)) :=
  ⟨h.keep (by simp) (fun b hb => Below.heap_alloc w _ b hb), World.ownsRow_lit w #[] 0 (Nat.le_refl _) (by unfold maxLen; omega) rfl, World.grownBy_alloc _ _ _, h.lt⟩

def Amt (B : Int) (xs : List Int) : Prop := ∀ x ∈ xs, -B ≤ x ∧ x ≤ B

theorem Amt.mono {B C : Int} {xs : List Int} (h : Amt B xs) (hBC : B ≤ C) : Amt C xs := fun x hx => by have := h x hx; omega

theorem Amt.at_ {B : Int} {xs : List Int} (h : Amt B xs) {k : Nat} {x : Int} (hx : xs[k]? = some x) : -B ≤ x ∧ x ≤ B := h x (List.mem_of_getElem? hx)

theorem GamRel.cell {w wr : World} {R P g n cap : Nat} {xs : List Int} {k : Nat} {x : Int} (h : GamRel w R P (.slice (some ⟨g, 0, none⟩) n cap) xs wr) (hx : xs[k]? = some x) : wr.cell? ⟨g, k, none⟩ = some (.int .i64 x) := by
  have hk : k < xs.length := by
    rcases Nat.lt_or_ge k xs.length with h1 | h1
    · exact h1
    · rw [List.getElem?_eq_none h1] at hx; cases hx
  obtain ⟨A, c, e, hl, hm, hc⟩ := h.2.1.rd
  injection e with e1 e2 e3
  obtain ⟨b, off, hA, -, hcell⟩ := hc (by omega)
  rw [← e1] at hA
  injection hA with hA
  injection hA with hb ho
  subst hb
  subst ho
  simpa using hcell k x hx

theorem GamRel.frozen {w wr : World} {R P g n cap : Nat} {xs : List Int} (h : GamRel w R P (.slice (some ⟨g, 0, none⟩) n cap) xs wr) (k : Nat) : wr.frozen? ⟨g, k, none⟩ = false := by
  have ho := h.2.1
  unfold IOwn at ho
  rcases ho.2 with ⟨e, -⟩ | ⟨g', cap', cur, e, hb, hg, rest⟩
  · cases e
  · injection e with e1 e2 e3
    injection e1 with e1
    injection e1 with e1
    subst e1
    simp [World.frozen?, hg]

theorem GamRel.mono {w wr : World} {R P Q : Nat} {p : Value} {xs : List Int} (h : GamRel w R P p xs wr) (hPQ : P ≤ Q) : GamRel w R Q p xs wr := ⟨h.1.mono hPQ, h.2⟩

theorem GamRel.form {w wr : World} {R P : Nat} {p : Value} {xs : List Int} (h : GamRel w R P p xs wr) (hn : 0 < xs.length) : ∃ g cap, p = .slice (some ⟨g, 0, none⟩) xs.length cap ∧ xs.length ≤ cap ∧ cap ≤ 9223372036854775807 := by
  obtain ⟨g, cap, e, -, -⟩ := World.ownsRow.form h.2.1 hn
  obtain ⟨A, c, e', hl, hm, -⟩ := h.2.1.rd
  rw [e] at e'
  injection e' with e1 e2 e3
  exact ⟨g, cap, e, by omega, by omega⟩

end Go.Proofs.Ytebebcomhdjihaa

namespace Go.Proofs.Ytebebcomhdjihaa
open Go.RowKit
set_option linter.unusedVariables false

end Go.Proofs.Ytebebcomhdjihaa

namespace Go.Proofs.Ytebebcomhdjihaa
open Go.RowKit
set_option linter.unusedVariables false

end Go.Proofs.Ytebebcomhdjihaa

namespace Go.Proofs.Ytebebcomhdjihaa
open Go.RowKit
set_option linter.unusedVariables false

def DR (w : World) (R P : Nat) (wr : World) : Prop := Rd wr R P ∧ w.grownBy wr (some R) ∧ R < w.heap.size

theorem DR.start {w : World} {R P : Nat} (h : Rd w R P) : DR w R P w := ⟨h, World.grownBy.refl _ _, h.lt⟩

theorem DR.alloc {w wr : World} {R P : Nat} (h : DR w R P wr) (o : Obj) : DR w R P (wr.alloc o) :=
  ⟨h.1.keep (by simp) (fun b hb => Below.heap_alloc wr _ b hb), grow_trans h.2.1 (World.grownBy_alloc _ _ _), h.2.2⟩

theorem DR.drew {w wr : World} {R P : Nat} (h : DR w R P wr) : DR w R P wr.drew := ⟨h.1, ⟨h.2.1.os, h.2.1.tape, h.2.1.output, h.2.1.size, h.2.1.block⟩, h.2.2⟩

theorem DR.trans {w wr w' : World} {R P Q : Nat} (h : DR w R P wr) (k : DR wr R Q w') : DR w R Q w' := ⟨k.1, grow_trans h.2.1 k.2.1, h.2.2⟩

theorem DR.mono {w wr : World} {R P Q : Nat} (h : DR w R P wr) (hPQ : P ≤ Q) : DR w R Q wr := ⟨h.1.mono hPQ, h.2⟩

theorem DR.grown {w wr w' : World} {R P : Nat} {row : Option Nat} (h : DR w R P wr) (hg : wr.grownBy w' row) (hr : ∀ g, row = some g → w.heap.size ≤ g) : DR w R P w' :=
  ⟨h.1.grown hg (fun g hg' => by have := hr g hg'; have := h.2.2; omega), grow_far h.2.1 hg hr, h.2.2⟩

theorem DR.setCell {w wr : World} {R P g k : Nat} (h : DR w R P wr) (hg : w.heap.size ≤ g) (u : Value) : DR w R P (wr.setCell ⟨g, k, none⟩ u) :=
  h.grown (row := some g) ⟨rfl, rfl, rfl, by simp [World.setCell], fun b hb hne => Below.heap_setCell wr ⟨g, k, none⟩ u b (fun e => hne (by rw [e]))⟩ (fun g' hg' => by injection hg' with hg'; omega)

theorem DR.size {w wr : World} {R P : Nat} (h : DR w R P wr) : w.heap.size ≤ wr.heap.size := h.2.1.size

end Go.Proofs.Ytebebcomhdjihaa

namespace Go.Proofs.Ytebebcomhdjihaa
open Go.RowKit
set_option linter.unusedVariables false

theorem IsRowC.alloc {k : IntKind} {w : World} {a : Option Addr} {len cap : Nat} {zs : List Int} (h : IsRowC k w a len cap zs) (o : Obj) : IsRowC k (w.alloc o) a len cap zs := by
  rcases h with h | ⟨x, rfl, hl, hm, hz, hcell, hwz⟩
  · exact .inl h
  · refine .inr ⟨x, rfl, hl, hm, hz, fun i hi => ?_, hwz⟩
    have hc := hcell i hi
    have hlt := World.block_lt_of_cell? w _ hc
    exact (World.cell?_of_block (Below.heap_alloc w o _ hlt)).trans hc

end Go.Proofs.Ytebebcomhdjihaa

namespace Go.Proofs.Ytebebcomhdjihaa
open Go.RowKit
set_option linter.unusedVariables false

theorem Blk.two {w : World} {g : Nat} {t : TypeId} {x y : Value} (h : Blk w g t #[x, y]) :
    w.cell? ⟨g, 0, none⟩ = some x ∧ w.cell? ⟨g, 1, none⟩ = some y ∧ w.frozen? ⟨g, 0, none⟩ = false ∧ w.frozen? ⟨g, 1, none⟩ = false := ⟨h.cell 0, h.cell 1, h.frozen 0, h.frozen 1⟩

theorem Blk.alloc {w : World} {g : Nat} {t : TypeId} {cs : Array Value} (h : Blk w g t cs) (o : Obj) : Blk (w.alloc o) g t cs := h.more (Below.heap_alloc w o g h.lt)

theorem Blk.set_far {w : World} {g b k : Nat} {t : TypeId} {cs : Array Value} (h : Blk w g t cs) (u : Value) (hne : g ≠ b) : Blk (w.setCell ⟨b, k, none⟩ u) g t cs :=
  h.more (Below.heap_setCell w ⟨b, k, none⟩ u g hne)

def StRel (w : World) (R P g : Nat) (q : Qt) (wr : World) : Prop := DR w R P wr ∧ Blk wr w.heap.size 64 #[.int .i64 0, .int .i64 0] ∧ Blk wr g 64 #[.int .i64 q.1, .int .i64 q.2] ∧ g ≠ R ∧ w.heap.size ≠ R ∧ w.heap.size < g

theorem StRel.drew {w wr : World} {R P g : Nat} {q : Qt} (h : StRel w R P g q wr) : StRel w R P g q wr.drew := ⟨h.1.drew, h.2⟩

theorem StRel.alloc {w wr : World} {R P g : Nat} {q : Qt} (h : StRel w R P g q wr) (o : Obj) : StRel w R P g q (wr.alloc o) :=
  ⟨h.1.alloc o, h.2.1.alloc o, h.2.2.1.alloc o, h.2.2.2⟩

theorem StRel.cells {w wr : World} {R P g : Nat} {q : Qt} (h : StRel w R P g q wr) :
    (wr.cell? ⟨g, 0, none⟩ = some (.int .i64 q.1) ∧ wr.cell? ⟨g, 1, none⟩ = some (.int .i64 q.2)) ∧ wr.cell? ⟨w.heap.size, 0, none⟩ = some (.int .i64 0) ∧ wr.cell? ⟨w.heap.size, 1, none⟩ = some (.int .i64 0) ∧ wr.frozen? ⟨w.heap.size, 0, none⟩ = false ∧ wr.frozen? ⟨w.heap.size, 1, none⟩ = false :=
  ⟨⟨h.2.2.1.cell 0, h.2.2.1.cell 1⟩, h.2.1.cell 0, h.2.1.cell 1, h.2.1.frozen 0, h.2.1.frozen 1⟩

end Go.Proofs.Ytebebcomhdjihaa

namespace Go.Proofs.Ytebebcomhdjihaa
open Go.RowKit
set_option linter.unusedVariables false

end Go.Proofs.Ytebebcomhdjihaa

namespace Go.Proofs.Ytebebcomhdjihaa
open Go.RowKit
set_option linter.unusedVariables false

theorem TOwn.cell {w : World} {base g n c : Nat} {ps : List ByteArray} (h : TOwn w base (.slice (some ⟨g, 0, none⟩) n c) ps) {k : Nat} {p : ByteArray} (hu : ps[k]? = some p) : w.cell? ⟨g, k, none⟩ = some (.string p) := by
  have hk : k < ps.length := (List.getElem?_eq_some_iff.1 hu).1
  have hn : n = ps.length := by
    rcases h.2 with ⟨e, -⟩ | ⟨g', cap, cur, e, -⟩
    · cases e
    · injection e with e1 e2 e3
  subst hn
  have := World.ownsRow.cellAt h k (by omega)
  rw [this, List.getElem?_map, hu]; rfl

theorem TOwn.below {w w' : World} {base : Nat} {v : Value} {ps : List ByteArray} (h : TOwn w base v ps) (hb : Below w.heap.size w w') : TOwn w' base v ps := by
  refine ⟨h.1, ?_⟩
  rcases h.2 with hn | ⟨g, cap, cur, rfl, hb', hg, rest⟩
  · exact .inl hn
  · exact .inr ⟨g, cap, cur, rfl, hb', (hb.block g (Array.getElem?_eq_some_iff.1 hg).1).trans hg, rest⟩

theorem set1_grown (X : World) (g k : Nat) (u : Value) : X.grownBy (X.setCell ⟨g, k, none⟩ u) (some g) :=
  ⟨rfl, rfl, rfl, by simp [World.setCell], fun b hb hne => Below.heap_setCell X ⟨g, k, none⟩ u b (fun e => hne (by rw [e]))⟩

theorem grow3 {w w1 w2 : World} {r : Option Nat} (h : w.grownBy w1 r) (k : w1.grownBy w2 r) : w.grownBy w2 r :=
  ⟨k.os.trans h.os, k.tape.trans h.tape, k.output.trans h.output, Nat.le_trans h.size k.size, fun i hi hne => (k.block i (Nat.lt_of_lt_of_le hi h.size) hne).trans (h.block i hi hne)⟩

theorem set3_grown (X : World) (g : Nat) (u0 u1 u2 : Value) : X.grownBy (((X.setCell ⟨g, 0, none⟩ u0).setCell ⟨g, 1, none⟩ u1).setCell ⟨g, 2, none⟩ u2) (some g) :=
  grow3 (grow3 (set1_grown X g 0 u0) (set1_grown _ g 1 u1)) (set1_grown _ g 2 u2)

theorem MOwn.kept {X X' : World} {base g : Nat} {v : Value} {ms : List Mk} (o : MOwn X base v ms) (hg : X.grownBy X' (some g)) (hb : g < base) : MOwn X' base v ms := by
  refine GOwn.keep o (SameAt.of_grown hg ?_)
  rcases hv : v.ownBlock with _ | b
  · exact .inl rfl
  · refine .inr fun e => ?_
    have := (GOwn.ge o b hv).1
    injection e with e
    omega

end Go.Proofs.Ytebebcomhdjihaa

namespace Go.Proofs.Ytebebcomhdjihaa
open Go.RowKit
set_option linter.unusedVariables false

theorem Blk.below15 {w w' : World} {g : Nat} {t : TypeId} {cs : Array Value} (h : Blk w g t cs) (hb : Below w.heap.size w w') : Blk w' g t cs := h.more (hb.block g h.lt)

theorem Blk.off {w w' : World} {g : Nat} {t : TypeId} {cs : Array Value} {r : Option Nat} (h : Blk w g t cs) (hg : w.grownBy w' r) (hne : r ≠ some g) : Blk w' g t cs := h.more (hg.block g h.lt (fun e => hne e.symm))

def PlNew (p : Pl) (w : World) (e : Ending) (w' : World) : Prop := ∃ v u, e = .returned (.agg #[v, u]) ∧ QOwn w' w.heap.size v p.1 ∧ IOwn w' w.heap.size u p.2 ∧ (∀ g, v.ownBlock = some g → u.ownBlock ≠ some g) ∧ Below w.heap.size w w'

set_option maxRecDepth 100000 in
set_option maxHeartbeats 8000000 in
theorem l15Place_any {S : Nat → Prop} (w : World) (v u : Value) (p : Pl) (h : PlRd S w v u p) (h1 : p.1.length ≤ 1000) (h2 : p.2.length ≤ 1000) :
    Calls Try.prog 36 #[.agg #[v, u]] w (PlNew p w) := by
  obtain ⟨W, hW⟩ : ∃ W, (w.alloc (.cells #[v, u] 26)).alloc (.cells #[.slice none 0 0, .slice none 0 0] 26) = W := ⟨_, rfl⟩
  have f1 : Blk W w.heap.size 26 #[v, u] := by rw [← hW]; exact Blk.alloc (heap_alloc_new w _) _
  have f2 : Blk W (w.heap.size + 1) 26 #[.slice none 0 0, .slice none 0 0] := by
    rw [← hW]
    have := heap_alloc_new (w.alloc (.cells #[v, u] 26)) (.cells #[.slice none 0 0, .slice none 0 0] 26)
    rwa [World.size_alloc] at this
  have fB : Below w.heap.size w W := by rw [← hW]; exact ((Below.refl _ _).alloc (Nat.le_refl _) _).alloc (by rw [World.size_alloc]; omega) _
  have fz : w.heap.size + 1 < W.heap.size := f2.lt
  have HR1 : Hid (∀ X, Below w.heap.size w X → QRd X v p.1) := Lib.hid (fun X hb => h.1.1.keep (SameAt.of_below hb))
  have HR2 : Hid (∀ X, Below w.heap.size w X → GRd 1 iC X u p.2) := Lib.hid (fun X hb => ird_g (h.2.1.keep (SameAt.of_below hb)))
  have HS1 := Lib.hid h.1.2.1
  have HS2 := Lib.hid h.2.2.1
  have F2 := Lib.hid f2
  clear h f2
  obtain ⟨iq, hiq, hq0, hq1, hq2⟩ := info_parts Try_qinfo15
  obtain ⟨ii, hii, hi0, hi1, hi2⟩ := info_parts Try_intinfo
  go_enter Try.func36, Try.ntmps36
  go_wp2_with fail
  try rw [hW]
  clear hW
  have s0 : Below w.heap.size w W.drew ∧ Blk W.drew w.heap.size 26 #[v, u] := ⟨fB.drew, f1⟩
  have F2 : Blk W.drew (w.heap.size + 1) 26 #[.slice none 0 0, .slice none 0 0] := F2.out
  refine wp_region_held_drew (S := fun w' => Below w.heap.size w w' ∧ Blk w' w.heap.size 26 #[v, u]) (by kernel_rfl) s0 (fun hHeld => ?_)
  have fz : w.heap.size + 1 < W.drew.heap.size := fz
  clear fB f1
  generalize W.drew = X0 at *
  refine take_in (i := 1) (v := ?_) rfl (by kernel_rfl) (fun _ _ _ h => h) rfl ?_ hHeld ?_
  rotate_left
  · intro w' hSw; go_simp; all_goals with_reducible rfl
  try simp only [Act.put, List.setIfInBounds_toArray, List.set_cons_zero, List.set_cons_succ]
  refine take_in (i := 2) (v := ?_) rfl (by kernel_rfl) (fun _ _ _ h => h) rfl ?_ hHeld ?_
  rotate_left
  · intro w' hSw; have c0 := hSw.2.cell 0; have c1 := hSw.2.cell 1; go_simp; all_goals with_reducible rfl
  try simp only [Act.put, List.setIfInBounds_toArray, List.set_cons_zero, List.set_cons_succ]
  refine take_in (i := 5) (v := ?_) rfl (by kernel_rfl) (fun _ _ _ h => h) rfl ?_ hHeld ?_
  rotate_left
  · intro w' hSw; go_simp; all_goals with_reducible rfl
  try simp only [Act.put, List.setIfInBounds_toArray, List.set_cons_zero, List.set_cons_succ]
  refine take_in (i := 6) (v := ?_) rfl (by kernel_rfl) (fun _ _ _ h => h) rfl ?_ hHeld ?_
  rotate_left
  · intro w' hSw; have c0 := hSw.2.cell 0; have c1 := hSw.2.cell 1; go_simp; all_goals with_reducible rfl
  try simp only [Act.put, List.setIfInBounds_toArray, List.set_cons_zero, List.set_cons_succ]
  refine ready_two (i := 0) (j := 4) rfl rfl (by kernel_rfl) (fun K hK => ?_) (fun K hK => ?_)
  · go_simp
    have zX1 : X0.heap.size < (X0.alloc (.cells #[] 64)).heap.size := by rw [World.size_alloc]; omega
    have sX1 : Below w.heap.size w (X0.alloc (.cells #[] 64)) ∧ Blk (X0.alloc (.cells #[] 64)) w.heap.size 26 #[v, u] := ⟨s0.1.alloc s0.1.size _, s0.2.alloc _⟩
    replace F2 := F2.alloc (.cells #[] 64)
    have oa := lit_none (e := 64) (enc := qC) (c := 2) X0 w.heap.size s0.1.size
    refine hK.out _ _ sX1 (fun hHeld => ?_)
    clear hK K
    try simp only [Act.put, List.setIfInBounds_toArray, List.set_cons_zero, List.set_cons_succ]
    generalize (X0.alloc (.cells #[] 64)) = X1 at *
    refine ready_two (i := 3) (j := 4) rfl rfl (by kernel_rfl) (fun K hK => ?_) (fun K hK => ?_)
    · obtain ⟨v3, X2, rn, oo, gr, ne3⟩ := run_app_g (t := 23) (ty := 23) rfl hiq hq0 hq1 hq2 rfl (by decide) qC_len oa (HR1.out X1 sX1.1) HS1.out (qC15_one p.1) (by simp; omega) (by decide) sX1.1.size
      refine step_append (s := .tmp 3) (x := .tmp 5) rfl rfl rn ?_
      rw [List.nil_append] at oo
      have gr : X1.grownBy X2 (some X0.heap.size) := gr
      have ne3 : v3.ownBlock = some X0.heap.size ∨ v3.ownBlock = some X1.heap.size := ne3
      have zz : X1.heap.size ≤ X2.heap.size := gr.size
      have sX2 : Below w.heap.size w X2 ∧ Blk X2 w.heap.size 26 #[v, u] := ⟨sX1.1.grown gr sX1.1.size (fun k hk => (oa.ge k hk).1), sX1.2.off gr (fun e => by have h1 : _ = w.heap.size := Option.some.inj e; omega)⟩
      replace F2 := F2.off gr (fun e => by have h1 : _ = w.heap.size + 1 := Option.some.inj e; omega)
      have fz : w.heap.size + 1 < X2.heap.size := F2.lt
      have lt3 : ∀ g, v3.ownBlock = some g → g < X2.heap.size := fun g hg => (oo.ge g hg).2
      replace oa := oo
      refine hK.out _ _ sX2 (fun hHeld => ?_)
      clear hK K rn oo gr
      try simp only [Act.put, List.setIfInBounds_toArray, List.set_cons_zero, List.set_cons_succ]
      refine ready_one (i := 4) rfl (by kernel_rfl) (fun K hK => ?_)
      go_simp
      have zX3 : X2.heap.size < (X2.alloc (.cells #[] 3)).heap.size := by rw [World.size_alloc]; omega
      have sX3 : Below w.heap.size w (X2.alloc (.cells #[] 3)) ∧ Blk (X2.alloc (.cells #[] 3)) w.heap.size 26 #[v, u] := ⟨sX2.1.alloc sX2.1.size _, sX2.2.alloc _⟩
      replace oa := oa.alloc (.cells #[] 3)
      replace F2 := F2.alloc (.cells #[] 3)
      have ob := lit_none (e := 3) (enc := iC) (c := 1) X2 w.heap.size sX2.1.size
      refine hK.out _ _ sX3 (fun hHeld => ?_)
      clear hK K
      try simp only [Act.put, List.setIfInBounds_toArray, List.set_cons_zero, List.set_cons_succ]
      generalize (X2.alloc (.cells #[] 3)) = X3 at *
      refine ready_one (i := 7) rfl (by kernel_rfl) (fun K hK => ?_)
      obtain ⟨v7, X4, rn, oo, gr, ne7⟩ := run_app_g (t := 24) (ty := 24) rfl hii hi0 hi1 hi2 rfl (by decide) iC_len ob (HR2.out X3 sX3.1) HS2.out (iC_one p.2) (by simp; omega) (by decide) sX3.1.size
      refine step_append (s := .tmp 7) (x := .tmp 9) rfl rfl rn ?_
      rw [List.nil_append] at oo
      have gr : X3.grownBy X4 (some X2.heap.size) := gr
      have ne7 : v7.ownBlock = some X2.heap.size ∨ v7.ownBlock = some X3.heap.size := ne7
      have zz : X3.heap.size ≤ X4.heap.size := gr.size
      have sX4 : Below w.heap.size w X4 ∧ Blk X4 w.heap.size 26 #[v, u] := ⟨sX3.1.grown gr sX3.1.size (fun k hk => (ob.ge k hk).1), sX3.2.off gr (fun e => by have h1 : _ = w.heap.size := Option.some.inj e; omega)⟩
      replace oa := oa.off gr (.inr (fun e => by have l3 := lt3 _ e; rcases ne3 with h3 | h3 <;> (rw [e] at h3; have h4 := Option.some.inj h3; omega)))
      replace F2 := F2.off gr (fun e => by have h1 : _ = w.heap.size + 1 := Option.some.inj e; omega)
      have fz : w.heap.size + 1 < X4.heap.size := F2.lt
      have lt7 : ∀ g, v7.ownBlock = some g → g < X4.heap.size := fun g hg => (oo.ge g hg).2
      replace ob := oo
      refine hK.out _ _ sX4 (fun hHeld => ?_)
      clear hK K rn oo gr
      try simp only [Act.put, List.setIfInBounds_toArray, List.set_cons_zero, List.set_cons_succ]
      obtain ⟨A3, c3, rfl, -, -⟩ := (oa.rd qC_len).form
      obtain ⟨A7, c7, rfl, -, -⟩ := (ob.rd iC_len).form
      refine take_in (i := 8) (v := ?_) rfl (by kernel_rfl) (fun _ _ _ h => h) rfl ?_ hHeld ?_
      rotate_left
      · intro w' hSw; go_simp; all_goals with_reducible rfl
      try simp only [Act.put, List.setIfInBounds_toArray, List.set_cons_zero, List.set_cons_succ]
      have d0 := F2.cell 0
      have d1 := F2.cell 1
      have e0 := F2.frozen 0
      have e1 := F2.frozen 1
      have hfar : ∀ g, (Value.slice A3 p.1.length c3).ownBlock = some g → (Value.slice A7 p.2.length c7).ownBlock ≠ some g := by
        intro g hg e; have l3 := lt3 g hg; have l7 := lt7 g e; rcases ne3 with h3 | h3 <;> rcases ne7 with h7 | h7 <;> (rw [hg] at h3; rw [e] at h7; have h4 := Option.some.inj h3; have h5 := Option.some.inj h7; omega)
      have bz : Below w.heap.size w ((X4.setCell ⟨w.heap.size + 1, 0, none⟩ (Value.slice A3 p.1.length c3)).setCell ⟨w.heap.size + 1, 1, none⟩ (Value.slice A7 p.2.length c7)) := (sX4.1.setCell (p := ⟨w.heap.size + 1, 0, none⟩) (by show w.heap.size ≤ w.heap.size + 1; omega) _).setCell (p := ⟨w.heap.size + 1, 1, none⟩) (by show w.heap.size ≤ w.heap.size + 1; omega) _
      have sz : Below w.heap.size w ((X4.setCell ⟨w.heap.size + 1, 0, none⟩ (Value.slice A3 p.1.length c3)).setCell ⟨w.heap.size + 1, 1, none⟩ (Value.slice A7 p.2.length c7)) ∧ Blk ((X4.setCell ⟨w.heap.size + 1, 0, none⟩ (Value.slice A3 p.1.length c3)).setCell ⟨w.heap.size + 1, 1, none⟩ (Value.slice A7 p.2.length c7)) w.heap.size 26 #[v, u] := ⟨bz, (sX4.2.set_far _ (by omega)).set_far _ (by omega)⟩
      have gw : X4.grownBy ((X4.setCell ⟨w.heap.size + 1, 0, none⟩ (Value.slice A3 p.1.length c3)).setCell ⟨w.heap.size + 1, 1, none⟩ (Value.slice A7 p.2.length c7)) (some (w.heap.size + 1)) := grow3 (set1_grown _ _ _ _) (set1_grown _ _ _ _)
      have F3 : Blk ((X4.setCell ⟨w.heap.size + 1, 0, none⟩ (Value.slice A3 p.1.length c3)).setCell ⟨w.heap.size + 1, 1, none⟩ (Value.slice A7 p.2.length c7)) (w.heap.size + 1) 26 #[(Value.slice A3 p.1.length c3), (Value.slice A7 p.2.length c7)] := (F2.set_ 0 (Value.slice A3 p.1.length c3)).set_ 1 (Value.slice A7 p.2.length c7)
      replace oa := oa.off gw (.inr (fun e => by rcases ne3 with h3 | h3 <;> (rw [e] at h3; have h4 := Option.some.inj h3; omega)))
      replace ob := ob.off gw (.inr (fun e => by rcases ne7 with h3 | h3 <;> (rw [e] at h3; have h4 := Option.some.inj h3; omega)))
      refine ready_one (i := 9) rfl (by kernel_rfl) (fun K hK => ?_)
      go_simp
      refine hK.out _ _ sz (fun hHeld => ?_)
      clear hK K d0 d1 e0 e1 sz gw
      generalize ((X4.setCell ⟨w.heap.size + 1, 0, none⟩ (Value.slice A3 p.1.length c3)).setCell ⟨w.heap.size + 1, 1, none⟩ (Value.slice A7 p.2.length c7)) = XZ at *
      have d0 : XZ.cell? ⟨w.heap.size + 1, 0, none⟩ = some (Value.slice A3 p.1.length c3) := F3.cell 0
      have d1 : XZ.cell? ⟨w.heap.size + 1, 1, none⟩ = some (Value.slice A7 p.2.length c7) := F3.cell 1
      have OA := Lib.hid oa
      have OB := Lib.hid ob
      have HF := Lib.hid hfar
      have HB := Lib.hid bz
      clear oa ob hfar bz
      refine wpAnyH_done (by kernel_rfl) ?_ _
      go_wp2_with fail
      refine bodyPost_ret (v := .agg #[(Value.slice A3 p.1.length c3), (Value.slice A7 p.2.length c7)]) (by simp [results, Try.results36, go_sem, d0, d1]) rfl ?_
      exact ⟨_, _, rfl, OA.out, iown_g.2 OB.out, HF.out, HB.out⟩
    · go_simp
      have zX2 : X1.heap.size < (X1.alloc (.cells #[] 3)).heap.size := by rw [World.size_alloc]; omega
      have sX2 : Below w.heap.size w (X1.alloc (.cells #[] 3)) ∧ Blk (X1.alloc (.cells #[] 3)) w.heap.size 26 #[v, u] := ⟨sX1.1.alloc sX1.1.size _, sX1.2.alloc _⟩
      replace oa := oa.alloc (.cells #[] 3)
      replace F2 := F2.alloc (.cells #[] 3)
      have ob := lit_none (e := 3) (enc := iC) (c := 1) X1 w.heap.size sX1.1.size
      refine hK.out _ _ sX2 (fun hHeld => ?_)
      clear hK K
      try simp only [Act.put, List.setIfInBounds_toArray, List.set_cons_zero, List.set_cons_succ]
      generalize (X1.alloc (.cells #[] 3)) = X2 at *
      refine ready_one (i := 3) rfl (by kernel_rfl) (fun K hK => ?_)
      obtain ⟨v3, X3, rn, oo, gr, ne3⟩ := run_app_g (t := 23) (ty := 23) rfl hiq hq0 hq1 hq2 rfl (by decide) qC_len oa (HR1.out X2 sX2.1) HS1.out (qC15_one p.1) (by simp; omega) (by decide) sX2.1.size
      refine step_append (s := .tmp 3) (x := .tmp 5) rfl rfl rn ?_
      rw [List.nil_append] at oo
      have gr : X2.grownBy X3 (some X0.heap.size) := gr
      have ne3 : v3.ownBlock = some X0.heap.size ∨ v3.ownBlock = some X2.heap.size := ne3
      have zz : X2.heap.size ≤ X3.heap.size := gr.size
      have sX3 : Below w.heap.size w X3 ∧ Blk X3 w.heap.size 26 #[v, u] := ⟨sX2.1.grown gr sX2.1.size (fun k hk => (oa.ge k hk).1), sX2.2.off gr (fun e => by have h1 : _ = w.heap.size := Option.some.inj e; omega)⟩
      replace ob := ob.off gr (.inr (fun e => by have h1 : X1.heap.size = X0.heap.size := Option.some.inj e; omega))
      replace F2 := F2.off gr (fun e => by have h1 : _ = w.heap.size + 1 := Option.some.inj e; omega)
      have fz : w.heap.size + 1 < X3.heap.size := F2.lt
      have lt3 : ∀ g, v3.ownBlock = some g → g < X3.heap.size := fun g hg => (oo.ge g hg).2
      replace oa := oo
      refine hK.out _ _ sX3 (fun hHeld => ?_)
      clear hK K rn oo gr
      try simp only [Act.put, List.setIfInBounds_toArray, List.set_cons_zero, List.set_cons_succ]
      refine ready_one (i := 7) rfl (by kernel_rfl) (fun K hK => ?_)
      obtain ⟨v7, X4, rn, oo, gr, ne7⟩ := run_app_g (t := 24) (ty := 24) rfl hii hi0 hi1 hi2 rfl (by decide) iC_len ob (HR2.out X3 sX3.1) HS2.out (iC_one p.2) (by simp; omega) (by decide) sX3.1.size
      refine step_append (s := .tmp 7) (x := .tmp 9) rfl rfl rn ?_
      rw [List.nil_append] at oo
      have gr : X3.grownBy X4 (some X1.heap.size) := gr
      have ne7 : v7.ownBlock = some X1.heap.size ∨ v7.ownBlock = some X3.heap.size := ne7
      have zz : X3.heap.size ≤ X4.heap.size := gr.size
      have sX4 : Below w.heap.size w X4 ∧ Blk X4 w.heap.size 26 #[v, u] := ⟨sX3.1.grown gr sX3.1.size (fun k hk => (ob.ge k hk).1), sX3.2.off gr (fun e => by have h1 : _ = w.heap.size := Option.some.inj e; omega)⟩
      replace oa := oa.off gr (.inr (fun e => by have l3 := lt3 _ e; rcases ne3 with h3 | h3 <;> (rw [e] at h3; have h4 := Option.some.inj h3; omega)))
      replace F2 := F2.off gr (fun e => by have h1 : _ = w.heap.size + 1 := Option.some.inj e; omega)
      have fz : w.heap.size + 1 < X4.heap.size := F2.lt
      have lt7 : ∀ g, v7.ownBlock = some g → g < X4.heap.size := fun g hg => (oo.ge g hg).2
      replace ob := oo
      refine hK.out _ _ sX4 (fun hHeld => ?_)
      clear hK K rn oo gr
      try simp only [Act.put, List.setIfInBounds_toArray, List.set_cons_zero, List.set_cons_succ]
      obtain ⟨A3, c3, rfl, -, -⟩ := (oa.rd qC_len).form
      obtain ⟨A7, c7, rfl, -, -⟩ := (ob.rd iC_len).form
      refine take_in (i := 8) (v := ?_) rfl (by kernel_rfl) (fun _ _ _ h => h) rfl ?_ hHeld ?_
      rotate_left
      · intro w' hSw; go_simp; all_goals with_reducible rfl
      try simp only [Act.put, List.setIfInBounds_toArray, List.set_cons_zero, List.set_cons_succ]
      have d0 := F2.cell 0
      have d1 := F2.cell 1
      have e0 := F2.frozen 0
      have e1 := F2.frozen 1
      have hfar : ∀ g, (Value.slice A3 p.1.length c3).ownBlock = some g → (Value.slice A7 p.2.length c7).ownBlock ≠ some g := by
        intro g hg e; have l3 := lt3 g hg; have l7 := lt7 g e; rcases ne3 with h3 | h3 <;> rcases ne7 with h7 | h7 <;> (rw [hg] at h3; rw [e] at h7; have h4 := Option.some.inj h3; have h5 := Option.some.inj h7; omega)
      have bz : Below w.heap.size w ((X4.setCell ⟨w.heap.size + 1, 0, none⟩ (Value.slice A3 p.1.length c3)).setCell ⟨w.heap.size + 1, 1, none⟩ (Value.slice A7 p.2.length c7)) := (sX4.1.setCell (p := ⟨w.heap.size + 1, 0, none⟩) (by show w.heap.size ≤ w.heap.size + 1; omega) _).setCell (p := ⟨w.heap.size + 1, 1, none⟩) (by show w.heap.size ≤ w.heap.size + 1; omega) _
      have sz : Below w.heap.size w ((X4.setCell ⟨w.heap.size + 1, 0, none⟩ (Value.slice A3 p.1.length c3)).setCell ⟨w.heap.size + 1, 1, none⟩ (Value.slice A7 p.2.length c7)) ∧ Blk ((X4.setCell ⟨w.heap.size + 1, 0, none⟩ (Value.slice A3 p.1.length c3)).setCell ⟨w.heap.size + 1, 1, none⟩ (Value.slice A7 p.2.length c7)) w.heap.size 26 #[v, u] := ⟨bz, (sX4.2.set_far _ (by omega)).set_far _ (by omega)⟩
      have gw : X4.grownBy ((X4.setCell ⟨w.heap.size + 1, 0, none⟩ (Value.slice A3 p.1.length c3)).setCell ⟨w.heap.size + 1, 1, none⟩ (Value.slice A7 p.2.length c7)) (some (w.heap.size + 1)) := grow3 (set1_grown _ _ _ _) (set1_grown _ _ _ _)
      have F3 : Blk ((X4.setCell ⟨w.heap.size + 1, 0, none⟩ (Value.slice A3 p.1.length c3)).setCell ⟨w.heap.size + 1, 1, none⟩ (Value.slice A7 p.2.length c7)) (w.heap.size + 1) 26 #[(Value.slice A3 p.1.length c3), (Value.slice A7 p.2.length c7)] := (F2.set_ 0 (Value.slice A3 p.1.length c3)).set_ 1 (Value.slice A7 p.2.length c7)
      replace oa := oa.off gw (.inr (fun e => by rcases ne3 with h3 | h3 <;> (rw [e] at h3; have h4 := Option.some.inj h3; omega)))
      replace ob := ob.off gw (.inr (fun e => by rcases ne7 with h3 | h3 <;> (rw [e] at h3; have h4 := Option.some.inj h3; omega)))
      refine ready_one (i := 9) rfl (by kernel_rfl) (fun K hK => ?_)
      go_simp
      refine hK.out _ _ sz (fun hHeld => ?_)
      clear hK K d0 d1 e0 e1 sz gw
      generalize ((X4.setCell ⟨w.heap.size + 1, 0, none⟩ (Value.slice A3 p.1.length c3)).setCell ⟨w.heap.size + 1, 1, none⟩ (Value.slice A7 p.2.length c7)) = XZ at *
      have d0 : XZ.cell? ⟨w.heap.size + 1, 0, none⟩ = some (Value.slice A3 p.1.length c3) := F3.cell 0
      have d1 : XZ.cell? ⟨w.heap.size + 1, 1, none⟩ = some (Value.slice A7 p.2.length c7) := F3.cell 1
      have OA := Lib.hid oa
      have OB := Lib.hid ob
      have HF := Lib.hid hfar
      have HB := Lib.hid bz
      clear oa ob hfar bz
      refine wpAnyH_done (by kernel_rfl) ?_ _
      go_wp2_with fail
      refine bodyPost_ret (v := .agg #[(Value.slice A3 p.1.length c3), (Value.slice A7 p.2.length c7)]) (by simp [results, Try.results36, go_sem, d0, d1]) rfl ?_
      exact ⟨_, _, rfl, OA.out, iown_g.2 OB.out, HF.out, HB.out⟩
  · go_simp
    have zX1 : X0.heap.size < (X0.alloc (.cells #[] 3)).heap.size := by rw [World.size_alloc]; omega
    have sX1 : Below w.heap.size w (X0.alloc (.cells #[] 3)) ∧ Blk (X0.alloc (.cells #[] 3)) w.heap.size 26 #[v, u] := ⟨s0.1.alloc s0.1.size _, s0.2.alloc _⟩
    replace F2 := F2.alloc (.cells #[] 3)
    have ob := lit_none (e := 3) (enc := iC) (c := 1) X0 w.heap.size s0.1.size
    refine hK.out _ _ sX1 (fun hHeld => ?_)
    clear hK K
    try simp only [Act.put, List.setIfInBounds_toArray, List.set_cons_zero, List.set_cons_succ]
    generalize (X0.alloc (.cells #[] 3)) = X1 at *
    refine ready_one (i := 0) rfl (by kernel_rfl) (fun K hK => ?_)
    go_simp
    have zX2 : X1.heap.size < (X1.alloc (.cells #[] 64)).heap.size := by rw [World.size_alloc]; omega
    have sX2 : Below w.heap.size w (X1.alloc (.cells #[] 64)) ∧ Blk (X1.alloc (.cells #[] 64)) w.heap.size 26 #[v, u] := ⟨sX1.1.alloc sX1.1.size _, sX1.2.alloc _⟩
    replace ob := ob.alloc (.cells #[] 64)
    replace F2 := F2.alloc (.cells #[] 64)
    have oa := lit_none (e := 64) (enc := qC) (c := 2) X1 w.heap.size sX1.1.size
    refine hK.out _ _ sX2 (fun hHeld => ?_)
    clear hK K
    try simp only [Act.put, List.setIfInBounds_toArray, List.set_cons_zero, List.set_cons_succ]
    generalize (X1.alloc (.cells #[] 64)) = X2 at *
    refine ready_one (i := 3) rfl (by kernel_rfl) (fun K hK => ?_)
    obtain ⟨v3, X3, rn, oo, gr, ne3⟩ := run_app_g (t := 23) (ty := 23) rfl hiq hq0 hq1 hq2 rfl (by decide) qC_len oa (HR1.out X2 sX2.1) HS1.out (qC15_one p.1) (by simp; omega) (by decide) sX2.1.size
    refine step_append (s := .tmp 3) (x := .tmp 5) rfl rfl rn ?_
    rw [List.nil_append] at oo
    have gr : X2.grownBy X3 (some X1.heap.size) := gr
    have ne3 : v3.ownBlock = some X1.heap.size ∨ v3.ownBlock = some X2.heap.size := ne3
    have zz : X2.heap.size ≤ X3.heap.size := gr.size
    have sX3 : Below w.heap.size w X3 ∧ Blk X3 w.heap.size 26 #[v, u] := ⟨sX2.1.grown gr sX2.1.size (fun k hk => (oa.ge k hk).1), sX2.2.off gr (fun e => by have h1 : _ = w.heap.size := Option.some.inj e; omega)⟩
    replace ob := ob.off gr (.inr (fun e => by have h1 : X0.heap.size = X1.heap.size := Option.some.inj e; omega))
    replace F2 := F2.off gr (fun e => by have h1 : _ = w.heap.size + 1 := Option.some.inj e; omega)
    have fz : w.heap.size + 1 < X3.heap.size := F2.lt
    have lt3 : ∀ g, v3.ownBlock = some g → g < X3.heap.size := fun g hg => (oo.ge g hg).2
    replace oa := oo
    refine hK.out _ _ sX3 (fun hHeld => ?_)
    clear hK K rn oo gr
    try simp only [Act.put, List.setIfInBounds_toArray, List.set_cons_zero, List.set_cons_succ]
    refine ready_one (i := 7) rfl (by kernel_rfl) (fun K hK => ?_)
    obtain ⟨v7, X4, rn, oo, gr, ne7⟩ := run_app_g (t := 24) (ty := 24) rfl hii hi0 hi1 hi2 rfl (by decide) iC_len ob (HR2.out X3 sX3.1) HS2.out (iC_one p.2) (by simp; omega) (by decide) sX3.1.size
    refine step_append (s := .tmp 7) (x := .tmp 9) rfl rfl rn ?_
    rw [List.nil_append] at oo
    have gr : X3.grownBy X4 (some X0.heap.size) := gr
    have ne7 : v7.ownBlock = some X0.heap.size ∨ v7.ownBlock = some X3.heap.size := ne7
    have zz : X3.heap.size ≤ X4.heap.size := gr.size
    have sX4 : Below w.heap.size w X4 ∧ Blk X4 w.heap.size 26 #[v, u] := ⟨sX3.1.grown gr sX3.1.size (fun k hk => (ob.ge k hk).1), sX3.2.off gr (fun e => by have h1 : _ = w.heap.size := Option.some.inj e; omega)⟩
    replace oa := oa.off gr (.inr (fun e => by have l3 := lt3 _ e; rcases ne3 with h3 | h3 <;> (rw [e] at h3; have h4 := Option.some.inj h3; omega)))
    replace F2 := F2.off gr (fun e => by have h1 : _ = w.heap.size + 1 := Option.some.inj e; omega)
    have fz : w.heap.size + 1 < X4.heap.size := F2.lt
    have lt7 : ∀ g, v7.ownBlock = some g → g < X4.heap.size := fun g hg => (oo.ge g hg).2
    replace ob := oo
    refine hK.out _ _ sX4 (fun hHeld => ?_)
    clear hK K rn oo gr
    try simp only [Act.put, List.setIfInBounds_toArray, List.set_cons_zero, List.set_cons_succ]
    obtain ⟨A3, c3, rfl, -, -⟩ := (oa.rd qC_len).form
    obtain ⟨A7, c7, rfl, -, -⟩ := (ob.rd iC_len).form
    refine take_in (i := 8) (v := ?_) rfl (by kernel_rfl) (fun _ _ _ h => h) rfl ?_ hHeld ?_
    rotate_left
    · intro w' hSw; go_simp; all_goals with_reducible rfl
    try simp only [Act.put, List.setIfInBounds_toArray, List.set_cons_zero, List.set_cons_succ]
    have d0 := F2.cell 0
    have d1 := F2.cell 1
    have e0 := F2.frozen 0
    have e1 := F2.frozen 1
    have hfar : ∀ g, (Value.slice A3 p.1.length c3).ownBlock = some g → (Value.slice A7 p.2.length c7).ownBlock ≠ some g := by
      intro g hg e; have l3 := lt3 g hg; have l7 := lt7 g e; rcases ne3 with h3 | h3 <;> rcases ne7 with h7 | h7 <;> (rw [hg] at h3; rw [e] at h7; have h4 := Option.some.inj h3; have h5 := Option.some.inj h7; omega)
    have bz : Below w.heap.size w ((X4.setCell ⟨w.heap.size + 1, 0, none⟩ (Value.slice A3 p.1.length c3)).setCell ⟨w.heap.size + 1, 1, none⟩ (Value.slice A7 p.2.length c7)) := (sX4.1.setCell (p := ⟨w.heap.size + 1, 0, none⟩) (by show w.heap.size ≤ w.heap.size + 1; omega) _).setCell (p := ⟨w.heap.size + 1, 1, none⟩) (by show w.heap.size ≤ w.heap.size + 1; omega) _
    have sz : Below w.heap.size w ((X4.setCell ⟨w.heap.size + 1, 0, none⟩ (Value.slice A3 p.1.length c3)).setCell ⟨w.heap.size + 1, 1, none⟩ (Value.slice A7 p.2.length c7)) ∧ Blk ((X4.setCell ⟨w.heap.size + 1, 0, none⟩ (Value.slice A3 p.1.length c3)).setCell ⟨w.heap.size + 1, 1, none⟩ (Value.slice A7 p.2.length c7)) w.heap.size 26 #[v, u] := ⟨bz, (sX4.2.set_far _ (by omega)).set_far _ (by omega)⟩
    have gw : X4.grownBy ((X4.setCell ⟨w.heap.size + 1, 0, none⟩ (Value.slice A3 p.1.length c3)).setCell ⟨w.heap.size + 1, 1, none⟩ (Value.slice A7 p.2.length c7)) (some (w.heap.size + 1)) := grow3 (set1_grown _ _ _ _) (set1_grown _ _ _ _)
    have F3 : Blk ((X4.setCell ⟨w.heap.size + 1, 0, none⟩ (Value.slice A3 p.1.length c3)).setCell ⟨w.heap.size + 1, 1, none⟩ (Value.slice A7 p.2.length c7)) (w.heap.size + 1) 26 #[(Value.slice A3 p.1.length c3), (Value.slice A7 p.2.length c7)] := (F2.set_ 0 (Value.slice A3 p.1.length c3)).set_ 1 (Value.slice A7 p.2.length c7)
    replace oa := oa.off gw (.inr (fun e => by rcases ne3 with h3 | h3 <;> (rw [e] at h3; have h4 := Option.some.inj h3; omega)))
    replace ob := ob.off gw (.inr (fun e => by rcases ne7 with h3 | h3 <;> (rw [e] at h3; have h4 := Option.some.inj h3; omega)))
    refine ready_one (i := 9) rfl (by kernel_rfl) (fun K hK => ?_)
    go_simp
    refine hK.out _ _ sz (fun hHeld => ?_)
    clear hK K d0 d1 e0 e1 sz gw
    generalize ((X4.setCell ⟨w.heap.size + 1, 0, none⟩ (Value.slice A3 p.1.length c3)).setCell ⟨w.heap.size + 1, 1, none⟩ (Value.slice A7 p.2.length c7)) = XZ at *
    have d0 : XZ.cell? ⟨w.heap.size + 1, 0, none⟩ = some (Value.slice A3 p.1.length c3) := F3.cell 0
    have d1 : XZ.cell? ⟨w.heap.size + 1, 1, none⟩ = some (Value.slice A7 p.2.length c7) := F3.cell 1
    have OA := Lib.hid oa
    have OB := Lib.hid ob
    have HF := Lib.hid hfar
    have HB := Lib.hid bz
    clear oa ob hfar bz
    refine wpAnyH_done (by kernel_rfl) ?_ _
    go_wp2_with fail
    refine bodyPost_ret (v := .agg #[(Value.slice A3 p.1.length c3), (Value.slice A7 p.2.length c7)]) (by simp [results, Try.results36, go_sem, d0, d1]) rfl ?_
    exact ⟨_, _, rfl, OA.out, iown_g.2 OB.out, HF.out, HB.out⟩

def DkOwn (S : Nat → Prop) (w : World) (base : Nat) (v u r : Value) (d : Dk) : Prop := PlRd (fun g => S g ∧ r.ownBlock ≠ some g) w v u d.1 ∧ PsOwn S w base r d.2

theorem DkOwn.rd {S : Nat → Prop} {w : World} {base : Nat} {v u r : Value} {d : Dk} (h : DkOwn S w base v u r d) : DkRd S w v u r d := ⟨h.1.mono (fun g hg => hg.1), h.2.rd⟩

theorem DkOwn.below {S : Nat → Prop} {w w' : World} {base : Nat} {v u r : Value} {d : Dk} (h : DkOwn S w base v u r d) (hb : Below w.heap.size w w') : DkOwn S w' base v u r d := ⟨h.1.below hb, h.2.below hb⟩

theorem DkOwn.off {S : Nat → Prop} {w w' : World} {base : Nat} {v u r : Value} {d : Dk} {g : Nat} (h : DkOwn S w base v u r d) (hg : w.grownBy w' (some g)) (hs : ¬ S g) : DkOwn S w' base v u r d := ⟨h.1.off hg (fun hh => hs hh.1), h.2.off hg hs⟩

theorem IOwn.sane {w : World} {base : Nat} {v : Value} {xs : List Int} (h : IOwn w base v xs) : Sane v := (iown_g.1 h).sane

theorem pl_new {w' : World} {base : Nat} {v u : Value} {p : Pl} {S : Nat → Prop} (hv : QOwn w' base v p.1) (hu : IOwn w' base u p.2) (hs : ∀ g, base ≤ g → g < w'.heap.size → S g) : PlRd S w' v u p :=
  ⟨⟨hv.rd qC_len, hv.sane, fun g hg => hs g (hv.ge g hg).1 (hv.ge g hg).2⟩, ⟨hu.rd, hu.sane, fun g hg => hs g (hu.ge g hg).1 (hu.ge g hg).2⟩⟩

theorem PsOwn.ge {S : Nat → Prop} {w : World} {base : Nat} {v : Value} {ps : List Pl} (h : PsOwn S w base v ps) : ∀ g, v.ownBlock = some g → S g := by
  obtain ⟨us, -, ⟨-, h2⟩, -⟩ := h
  exact h2

theorem PsOwn.mono {S T : Nat → Prop} {w : World} {base : Nat} {v : Value} {ps : List Pl} (h : PsOwn S w base v ps) (hst : ∀ g, S g → T g) : PsOwn T w base v ps := by
  obtain ⟨us, h1, h2, h3⟩ := h
  exact ⟨us, h1, ⟨h2.1, h2.2.mono hst⟩, fun k x p k1 k2 => (h3 k x p k1 k2).mono (fun g hg => ⟨hst g hg.1, hg.2⟩)⟩

theorem PsOwn.base {S : Nat → Prop} {w : World} {base base' : Nat} {v : Value} {ps : List Pl} (h : PsOwn S w base v ps) (hb : base' ≤ base) : PsOwn S w base' v ps := by
  obtain ⟨us, h1, h2, h3⟩ := h
  exact ⟨us, h1, ⟨h2.1.base hb, h2.2⟩, h3⟩

end Go.Proofs.Ytebebcomhdjihaa

namespace Go.Proofs.Ytebebcomhdjihaa
open Go.RowKit
set_option linter.unusedVariables false

theorem split_nl (c : UInt8) (l : List UInt8) : c ∉ l ∨ ∃ A B, c ∉ A ∧ l = A ++ c :: B := by
  induction l with
  | nil => exact .inl (by simp)
  | cons x l ih =>
    by_cases hx : x = c
    · subst hx; exact .inr ⟨[], l, by simp, rfl⟩
    · rcases ih with h | ⟨A, B, h, rfl⟩
      · exact .inl (by simp only [List.mem_cons, not_or]; exact ⟨fun e => hx e.symm, h⟩)
      · exact .inr ⟨x :: A, B, by simp only [List.mem_cons, not_or]; exact ⟨fun e => hx e.symm, h⟩, rfl⟩

theorem cut_ne (c : UInt8) (l : List UInt8) : cutF c l ≠ [] := by
  intro e
  have := (cut_len c l).1
  rw [e] at this
  simp at this

end Go.Proofs.Ytebebcomhdjihaa

namespace Go.Proofs.Ytebebcomhdjihaa
open Go.RowKit
set_option linter.unusedVariables false

def DeskPost (d : Dk) (b : Bool) (w : World) (e : Ending) (w' : World) : Prop := ∃ v u r, e = .returned (.tuple #[.agg #[v, u, r], .bool b]) ∧ DkRd (fun g => w.heap.size ≤ g ∧ g < w'.heap.size) w' v u r d ∧ (d.2.length < 8 → DkOwn (fun g => w.heap.size ≤ g ∧ g < w'.heap.size) w' w.heap.size v u r d) ∧ Below w.heap.size w w'

theorem wp_app_run {ops : Array Oper} {rest : List Oper} {o : Oper} {a : Act} {Q : Exit → Act → World → Prop} (hgd : o.guard = none) (s x : Operand) (t : TypeId) (ho : o.op = .call { callee := .builtin .append, args := #[s, x], argTypes := #[t, t] }) {v u v' : Value} {w w' : World}
    (hs : a.eval s = v) (hx : a.eval x = u) (hr : (Builtin.append_ #[t, t] o.type #[v, u]).run Try.prog w = .ok v' w') (h : wpList Try.prog ops Q rest (a.put o.dst v') w') : wpList Try.prog ops Q (o :: rest) a w := by
  refine wpList_plain hgd fun K hK => ?_
  unfold Oper.wp
  simp [execOp, ho, resolve, invoke, builtin, hs, hx, hr, Result.andThen]
  exact hK _ _ h

end Go.Proofs.Ytebebcomhdjihaa

namespace Go.Proofs.Ytebebcomhdjihaa
open Go.RowKit
set_option linter.unusedVariables false

def noDk : Dk := (([], []), [])

theorem DkOwn.nil (S : Nat → Prop) (w : World) (base : Nat) : DkOwn S w base (.slice none 0 0) (.slice none 0 0) (.slice none 0 0) noDk := ⟨PlRd.nil _ _, PsOwn.nil _ _ _⟩

theorem deskPost_own {d d' : Dk} {b b' : Bool} {w w' : World} {v u r : Value} (hd : d = d') (hb : b = b') (h : DkOwn (fun g => w.heap.size ≤ g ∧ g < w'.heap.size) w' w.heap.size v u r d') (hw : Below w.heap.size w w') : DeskPost d b w (.returned (.tuple #[.agg #[v, u, r], .bool b'])) w' := by
  subst hd hb
  exact ⟨v, u, r, rfl, h.rd, fun _ => h, hw⟩

set_option maxRecDepth 100000 in
set_option maxHeartbeats 8000000 in
theorem specDeskNew_any {S : Nat → Prop} (w : World) (v u : Value) (p : Pl) (h : PlRd S w v u p) (D : Dk) (hD : (if plB p = true then (p, []) else noDk) = D) :
    Calls Try.prog 15 #[.agg #[v, u]] w (DeskPost D (plB p) w) := by
  obtain ⟨W, hW⟩ : ∃ W, (w.alloc (.cells #[v, u] 26)).alloc (.cells #[.slice none 0 0, .slice none 0 0, .slice none 0 0] 29) = W := ⟨_, rfl⟩
  have f1 : Blk W w.heap.size 26 #[v, u] := by rw [← hW]; exact Blk.alloc (heap_alloc_new w _) _
  have f2 : Blk W (w.heap.size + 1) 29 #[.slice none 0 0, .slice none 0 0, .slice none 0 0] := by
    rw [← hW]
    have := heap_alloc_new (w.alloc (.cells #[v, u] 26)) (.cells #[.slice none 0 0, .slice none 0 0, .slice none 0 0] 29)
    rwa [World.size_alloc] at this
  have fB : Below w.heap.size w W := by rw [← hW]; exact ((Below.refl _ _).alloc (Nat.le_refl _) _).alloc (by rw [World.size_alloc]; omega) _
  have fz : w.heap.size + 1 < W.heap.size := f2.lt
  have FB0 := Lib.hid fB
  have F1 := Lib.hid f1
  have F2 := Lib.hid f2
  have HD : Hid (∀ X, Below W.heap.size W X → PlRd S X v u p) := Lib.hid (fun X hb => (h.below fB).below hb)
  have b0 : W.cell? ⟨w.heap.size, 0, none⟩ = some v := f1.cell 0
  have b1 : W.cell? ⟨w.heap.size, 1, none⟩ = some u := f1.cell 1
  have HDD := Lib.hid hD
  clear h f1 f2 fB hD
  obtain ⟨t, ht⟩ : ∃ t, plB p = t := ⟨_, rfl⟩
  have HT := Lib.hid ht
  clear ht
  go_enter Try.func15, Try.ntmps15
  go_wp2_with fail
  refine (specPlaceOk_any W v u p.1 p.2 (HD.out W (Below.refl _ _)).1.1 (HD.out W (Below.refl _ _)).2.1).mono ?_
  rintro ee w1 ⟨rfl, bb⟩
  rw [show plB (p.1, p.2) = t from HT.out]
  have HB1 := Lib.hid bb
  have zw := bb.size
  clear bb b0 b1 hW
  cases t
  · have HE : Hid (D = noDk) := Lib.hid (by rw [← HDD.out, HT.out]; rfl)
    have FR := F2.out.below15 HB1.out
    have z0 : w1.cell? ⟨w.heap.size + 1, 0, none⟩ = some (.slice none 0 0) := FR.cell 0
    have z1 : w1.cell? ⟨w.heap.size + 1, 1, none⟩ = some (.slice none 0 0) := FR.cell 1
    have z2 : w1.cell? ⟨w.heap.size + 1, 2, none⟩ = some (.slice none 0 0) := FR.cell 2
    have y0 := FR.frozen 0
    have y1 := FR.frozen 1
    have y2 := FR.frozen 2
    have gw : w1.grownBy (((w1.setCell ⟨w.heap.size + 1, 0, none⟩ (.slice none 0 0)).setCell ⟨w.heap.size + 1, 1, none⟩ (.slice none 0 0)).setCell ⟨w.heap.size + 1, 2, none⟩ (.slice none 0 0)) (some (w.heap.size + 1)) := set3_grown _ _ _ _ _
    have zsz : w1.heap.size ≤ (((w1.setCell ⟨w.heap.size + 1, 0, none⟩ (.slice none 0 0)).setCell ⟨w.heap.size + 1, 1, none⟩ (.slice none 0 0)).setCell ⟨w.heap.size + 1, 2, none⟩ (.slice none 0 0)).heap.size := gw.size
    have FZ : Blk (((w1.setCell ⟨w.heap.size + 1, 0, none⟩ (.slice none 0 0)).setCell ⟨w.heap.size + 1, 1, none⟩ (.slice none 0 0)).setCell ⟨w.heap.size + 1, 2, none⟩ (.slice none 0 0)) (w.heap.size + 1) 29 #[(.slice none 0 0), (.slice none 0 0), (.slice none 0 0)] := ((FR.set_ 0 _).set_ 1 _).set_ 2 _
    have RES : Hid (Below w.heap.size w (((w1.setCell ⟨w.heap.size + 1, 0, none⟩ (.slice none 0 0)).setCell ⟨w.heap.size + 1, 1, none⟩ (.slice none 0 0)).setCell ⟨w.heap.size + 1, 2, none⟩ (.slice none 0 0))) := Lib.hid ((below_step FB0.out HB1.out (show w.heap.size ≤ W.heap.size by omega)).grown gw (show w.heap.size ≤ w1.heap.size by omega) (fun g hg => by have := Option.some.inj hg; omega))
    clear FR gw
    go_wp2_with fail
    clear z0 z1 z2 y0 y1 y2
    generalize (((w1.setCell ⟨w.heap.size + 1, 0, none⟩ (.slice none 0 0)).setCell ⟨w.heap.size + 1, 1, none⟩ (.slice none 0 0)).setCell ⟨w.heap.size + 1, 2, none⟩ (.slice none 0 0)) = Z at *
    have d0 : Z.cell? ⟨w.heap.size + 1, 0, none⟩ = some (.slice none 0 0) := FZ.cell 0
    have d1 : Z.cell? ⟨w.heap.size + 1, 1, none⟩ = some (.slice none 0 0) := FZ.cell 1
    have d2 : Z.cell? ⟨w.heap.size + 1, 2, none⟩ = some (.slice none 0 0) := FZ.cell 2
    refine bodyPost_ret (v := .tuple #[.agg #[(.slice none 0 0), (.slice none 0 0), (.slice none 0 0)], .bool false]) (by simp [results, Try.results15, go_sem, d0, d1, d2]) rfl ?_
    exact deskPost_own HE.out HT.out (DkOwn.nil _ _ _) RES.out
  · have HE : Hid (D = (p, [])) := Lib.hid (by rw [← HDD.out, HT.out]; rfl)
    have HLEN := Lib.hid (pl_len HT.out)
    have b0 : w1.cell? ⟨w.heap.size, 0, none⟩ = some v := (F1.out.below15 HB1.out).cell 0
    have b1 : w1.cell? ⟨w.heap.size, 1, none⟩ = some u := (F1.out.below15 HB1.out).cell 1
    go_wp2_with fail
    refine (l15Place_any w1 v u p (HD.out w1 HB1.out) (by have := HLEN.out; omega) (by have := HLEN.out; omega)).mono ?_
    rintro ee w3 ⟨v1, u1, rfl, oq, oi, ond, b3⟩
    obtain ⟨A1, c1, rfl, -, -⟩ := (oq.rd qC_len).form
    obtain ⟨A5, c5, rfl, -, -, -⟩ := id oi.rd
    have zw3 := b3.size
    have PN9 : PlRd (fun g => W.heap.size ≤ g ∧ g < w3.heap.size) w3 (.slice A1 p.1.length c1) (.slice A5 p.2.length c5) p := pl_new oq oi (fun g h1 h2 => ⟨by omega, h2⟩)
    have PN := Lib.hid PN9
    have HB3 := Lib.hid b3
    have FR := (F2.out.below15 HB1.out).below15 b3
    clear oq oi ond PN9 b3 b0 b1
    have z0 : w3.cell? ⟨w.heap.size + 1, 0, none⟩ = some (.slice none 0 0) := FR.cell 0
    have z1 : w3.cell? ⟨w.heap.size + 1, 1, none⟩ = some (.slice none 0 0) := FR.cell 1
    have z2 : w3.cell? ⟨w.heap.size + 1, 2, none⟩ = some (.slice none 0 0) := FR.cell 2
    have y0 := FR.frozen 0
    have y1 := FR.frozen 1
    have y2 := FR.frozen 2
    have gw : w3.grownBy (((w3.setCell ⟨w.heap.size + 1, 0, none⟩ (.slice A1 p.1.length c1)).setCell ⟨w.heap.size + 1, 1, none⟩ (.slice A5 p.2.length c5)).setCell ⟨w.heap.size + 1, 2, none⟩ (.slice none 0 0)) (some (w.heap.size + 1)) := set3_grown _ _ _ _ _
    have zsz : w3.heap.size ≤ (((w3.setCell ⟨w.heap.size + 1, 0, none⟩ (.slice A1 p.1.length c1)).setCell ⟨w.heap.size + 1, 1, none⟩ (.slice A5 p.2.length c5)).setCell ⟨w.heap.size + 1, 2, none⟩ (.slice none 0 0)).heap.size := gw.size
    have FZ : Blk (((w3.setCell ⟨w.heap.size + 1, 0, none⟩ (.slice A1 p.1.length c1)).setCell ⟨w.heap.size + 1, 1, none⟩ (.slice A5 p.2.length c5)).setCell ⟨w.heap.size + 1, 2, none⟩ (.slice none 0 0)) (w.heap.size + 1) 29 #[(.slice A1 p.1.length c1), (.slice A5 p.2.length c5), (.slice none 0 0)] := ((FR.set_ 0 _).set_ 1 _).set_ 2 _
    have RES : Hid (DkOwn (fun g => w.heap.size ≤ g ∧ g < (((w3.setCell ⟨w.heap.size + 1, 0, none⟩ (.slice A1 p.1.length c1)).setCell ⟨w.heap.size + 1, 1, none⟩ (.slice A5 p.2.length c5)).setCell ⟨w.heap.size + 1, 2, none⟩ (.slice none 0 0)).heap.size) (((w3.setCell ⟨w.heap.size + 1, 0, none⟩ (.slice A1 p.1.length c1)).setCell ⟨w.heap.size + 1, 1, none⟩ (.slice A5 p.2.length c5)).setCell ⟨w.heap.size + 1, 2, none⟩ (.slice none 0 0)) w.heap.size (.slice A1 p.1.length c1) (.slice A5 p.2.length c5) (.slice none 0 0) (p, []) ∧ Below w.heap.size w (((w3.setCell ⟨w.heap.size + 1, 0, none⟩ (.slice A1 p.1.length c1)).setCell ⟨w.heap.size + 1, 1, none⟩ (.slice A5 p.2.length c5)).setCell ⟨w.heap.size + 1, 2, none⟩ (.slice none 0 0))) := Lib.hid ⟨⟨(PN.out.off gw (by rintro ⟨h1, -⟩; omega)).mono (fun g hg => ⟨⟨by omega, by omega⟩, fun e => by cases e⟩), PsOwn.nil _ _ _⟩, (below_step (below_step FB0.out HB1.out (show w.heap.size ≤ W.heap.size by omega)) HB3.out (show w.heap.size ≤ w1.heap.size by omega)).grown gw (show w.heap.size ≤ w3.heap.size by omega) (fun g hg => by have := Option.some.inj hg; omega)⟩
    clear FR gw
    go_wp2_with fail
    clear z0 z1 z2 y0 y1 y2
    generalize (((w3.setCell ⟨w.heap.size + 1, 0, none⟩ (.slice A1 p.1.length c1)).setCell ⟨w.heap.size + 1, 1, none⟩ (.slice A5 p.2.length c5)).setCell ⟨w.heap.size + 1, 2, none⟩ (.slice none 0 0)) = Z at *
    have d0 : Z.cell? ⟨w.heap.size + 1, 0, none⟩ = some (.slice A1 p.1.length c1) := FZ.cell 0
    have d1 : Z.cell? ⟨w.heap.size + 1, 1, none⟩ = some (.slice A5 p.2.length c5) := FZ.cell 1
    have d2 : Z.cell? ⟨w.heap.size + 1, 2, none⟩ = some (.slice none 0 0) := FZ.cell 2
    refine bodyPost_ret (v := .tuple #[.agg #[(.slice A1 p.1.length c1), (.slice A5 p.2.length c5), (.slice none 0 0)], .bool true]) (by simp [results, Try.results15, go_sem, d0, d1, d2]) rfl ?_
    exact deskPost_own HE.out HT.out RES.out.1 RES.out.2

end Go.Proofs.Ytebebcomhdjihaa

namespace Go.Proofs.Ytebebcomhdjihaa
open Go.RowKit
set_option linter.unusedVariables false

def CutAt (c : UInt8) (l A B : List UInt8) (ok : Bool) : Prop := (ok = true ∧ c ∉ A ∧ l = A ++ c :: B) ∨ (ok = false ∧ c ∉ l ∧ A = l ∧ B = [])

theorem CutAt.no {c : UInt8} {l A B : List UInt8} (h : CutAt c l A B false) : cutF c l = [l] ∧ A = l ∧ B = [] := by
  rcases h with ⟨h, -⟩ | ⟨-, h1, h2⟩
  · cases h
  · exact ⟨cut_one h1, h2⟩

theorem join_cut15 (c : UInt8) : ∀ (n : Nat) (l : List UInt8), l.length ≤ n → joinC c (cutF c l) = l := by
  intro n
  induction n with
  | zero =>
    intro l hl
    obtain rfl := List.eq_nil_of_length_eq_zero (Nat.le_zero.1 hl)
    rw [cut_one (by simp)]; rfl
  | succ n ih =>
    intro l hl
    rcases split_nl c l with h | ⟨A, B, h1, rfl⟩
    · rw [cut_one h]; rfl
    · rw [cut_cons h1]
      rw [List.length_append, List.length_cons] at hl
      have hB := ih B (by omega)
      cases hc : cutF c B with
      | nil => exact absurd hc (cut_ne c B)
      | cons b bs => rw [hc] at hB; show A ++ c :: joinC c (b :: bs) = _; rw [hB]

theorem join_cut (c : UInt8) (l : List UInt8) : joinC c (cutF c l) = l := join_cut15 c _ l (Nat.le_refl _)

def RN (l : List UInt8) (n : Int) (ok : Bool) : Prop := (ok = true ∧ dec n = l) ∨ (ok = false ∧ n = 0 ∧ ∀ m : Int, -99 ≤ m ∧ m ≤ 99 → dec m ≠ l)

def SmQ (q : Qt) : Prop := (0 ≤ q.1 ∧ q.1 ≤ 15) ∧ 0 ≤ q.2 ∧ q.2 ≤ 6

def RQ (r : List UInt8) (q : Qt) (s : Int) (ok : Bool) : Prop := (ok = true ∧ qTx q s = r) ∨ (ok = false ∧ ∀ (q : Qt) (s : Int), SmQ q → (-9 ≤ s ∧ s ≤ 9) → qTx q s ≠ r)

theorem qTx_cut (q : Qt) (s : Int) : cutF 58 (qTx q s) = [dec q.1, dec q.2, dec s] := by
  refine cut_join (by simp) (fun r hr => ?_)
  have h58 : (58 : UInt8).toNat = 58 := rfl
  simp only [List.mem_cons, List.not_mem_nil, or_false] at hr
  rcases hr with rfl | rfl | rfl <;> exact dec_not (by omega)

theorem RQ.parts {r a b c : List UInt8} {e p s : Int} {o1 o2 o3 : Bool} (h : cutF 58 r = [a, b, c]) (h1 : RN a e o1) (h2 : RN b p o2) (h3 : RN c s o3) : RQ r (e, p) s (o1 && (o2 && o3)) := by
  have hno : ∀ (q : Qt) (s : Int), qTx q s = r → a = dec q.1 ∧ b = dec q.2 ∧ c = dec s := fun q s e => by
    have h4 := qTx_cut q s
    rw [e, h] at h4
    injection h4 with e1 h4
    injection h4 with e2 h4
    injection h4 with e3 h4
    exact ⟨e1, e2, e3⟩
  rcases h1 with ⟨rfl, h1⟩ | ⟨rfl, -, h1⟩
  · rcases h2 with ⟨rfl, h2⟩ | ⟨rfl, -, h2⟩
    · rcases h3 with ⟨rfl, h3⟩ | ⟨rfl, -, h3⟩
      · refine .inl ⟨rfl, ?_⟩
        show joinC 58 [dec e, dec p, dec s] = r
        rw [h1, h2, h3, ← h, join_cut]
      · exact .inr ⟨rfl, fun q s hq hs e => h3 s ⟨by omega, by omega⟩ (hno q s e).2.2.symm⟩
    · exact .inr ⟨rfl, fun q s hq hs e => h2 q.2 ⟨by have := hq.2.1; omega, by have := hq.2.2; omega⟩ (hno q s e).2.1.symm⟩
  · exact .inr ⟨rfl, fun q s hq hs e => h1 q.1 ⟨by have := hq.1.1; omega, by have := hq.1.2; omega⟩ (hno q s e).1.symm⟩

end Go.Proofs.Ytebebcomhdjihaa

namespace Go.Proofs.Ytebebcomhdjihaa
open Go.RowKit
set_option linter.unusedVariables false

def Ap (a b : Value) : Prop := ∀ g, a.ownBlock = some g → b.ownBlock ≠ some g

theorem Ap.symm {a b : Value} (h : Ap a b) : Ap b a := fun g h1 h2 => h g h2 h1

theorem Ap.nil (b : Value) : Ap (.slice none 0 0) b := fun g h => by cases h

theorem Ap.of_lt {a b : Value} {B : Nat} (ha : ∀ g, a.ownBlock = some g → g < B) (hb : ∀ g, b.ownBlock = some g → B ≤ g) : Ap a b := fun g h1 h2 => by have := ha g h1; have := hb g h2; omega

def PlN (w : World) (base : Nat) (v u : Value) (p : Pl) : Prop := QOwn w base v p.1 ∧ IOwn w base u p.2

theorem PlN.below {w w' : World} {base : Nat} {v u : Value} {p : Pl} (h : PlN w base v u p) (hb : Below w.heap.size w w') : PlN w' base v u p := ⟨h.1.below hb, h.2.keep (SameAt.of_below hb)⟩

theorem PlN.base {w : World} {base base' : Nat} {v u : Value} {p : Pl} (h : PlN w base v u p) (hb : base' ≤ base) : PlN w base' v u p := ⟨h.1.base hb, h.2.base hb⟩

theorem PlN.ge {w : World} {base : Nat} {v u : Value} {p : Pl} (h : PlN w base v u p) : (∀ g, v.ownBlock = some g → base ≤ g ∧ g < w.heap.size) ∧ ∀ g, u.ownBlock = some g → base ≤ g ∧ g < w.heap.size := ⟨h.1.ge, h.2.ge⟩

theorem PlN.rd {w : World} {base : Nat} {v u : Value} {p : Pl} {S : Nat → Prop} (h : PlN w base v u p) (hs : ∀ g, base ≤ g → g < w.heap.size → S g) : PlRd S w v u p := pl_new h.1 h.2 hs

theorem PlN.nil (w : World) (base : Nat) : PlN w base (.slice none 0 0) (.slice none 0 0) ([], []) := ⟨GOwn.nil _ _ _ _ _, nil_own _ _⟩

def PsN (w : World) (base : Nat) (r : Value) (us : List (Value × Value)) (ps : List Pl) : Prop :=
  us.length = ps.length ∧ GOwn 26 2 pC w base r us ∧ ∀ (k : Nat) (x : Value × Value) (p : Pl), us[k]? = some x → ps[k]? = some p → PlN w base x.1 x.2 p

def DkN (w : World) (base : Nat) (v u r : Value) (d : Dk) : Prop :=
  PlN w base v u d.1 ∧ ∃ us : List (Value × Value), PsN w base r us d.2 ∧ (v :: u :: r :: us.flatMap pC).Pairwise Ap

theorem PsN.below {w w' : World} {base : Nat} {r : Value} {us : List (Value × Value)} {ps : List Pl} (h : PsN w base r us ps) (hb : Below w.heap.size w w') : PsN w' base r us ps :=
  ⟨h.1, h.2.1.below hb, fun k x p hx hp => (h.2.2 k x p hx hp).below hb⟩

theorem PsN.base {w : World} {base base' : Nat} {r : Value} {us : List (Value × Value)} {ps : List Pl} (h : PsN w base r us ps) (hb : base' ≤ base) : PsN w base' r us ps :=
  ⟨h.1, h.2.1.base hb, fun k x p hx hp => (h.2.2 k x p hx hp).base hb⟩

theorem PsN.rd {w : World} {base : Nat} {r : Value} {us : List (Value × Value)} {ps : List Pl} {S : Nat → Prop} (h : PsN w base r us ps) (hs : ∀ g, base ≤ g → g < w.heap.size → S g) : PsRd S w r ps :=
  ⟨us, h.1, ⟨h.2.1.rd pC_len, fun g hg => hs g (h.2.1.ge g hg).1 (h.2.1.ge g hg).2⟩, fun k x p hx hp => (h.2.2 k x p hx hp).rd hs⟩

theorem DkN.below {w w' : World} {base : Nat} {v u r : Value} {d : Dk} (h : DkN w base v u r d) (hb : Below w.heap.size w w') : DkN w' base v u r d := by
  obtain ⟨h1, us, h2, h3⟩ := h
  exact ⟨h1.below hb, us, h2.below hb, h3⟩

theorem DkN.base {w : World} {base base' : Nat} {v u r : Value} {d : Dk} (h : DkN w base v u r d) (hb : base' ≤ base) : DkN w base' v u r d := by
  obtain ⟨h1, us, h2, h3⟩ := h
  exact ⟨h1.base hb, us, h2.base hb, h3⟩

theorem PlN.off {w w' : World} {base g : Nat} {v u : Value} {p : Pl} (h : PlN w base v u p) (hg : w.grownBy w' (some g)) (hb : g < base) : PlN w' base v u p :=
  ⟨h.1.off hg (.inr (fun e => by have := (h.ge.1 _ e).1; omega)), iown_g.2 ((iown_g.1 h.2).off hg (.inr (fun e => by have := (h.ge.2 _ e).1; omega)))⟩

theorem DkN.off {w w' : World} {base g : Nat} {v u r : Value} {d : Dk} (h : DkN w base v u r d) (hg : w.grownBy w' (some g)) (hb : g < base) : DkN w' base v u r d := by
  obtain ⟨h1, us, ⟨h2, h3, h4⟩, h5⟩ := h
  exact ⟨h1.off hg hb, us, ⟨h2, h3.off hg (.inr (fun e => by have := (h3.ge _ e).1; omega)), fun k x p hx hp => (h4 k x p hx hp).off hg hb⟩, h5⟩

theorem DkN.rd {w : World} {base : Nat} {v u r : Value} {d : Dk} (h : DkN w base v u r d) : DkRd (fun g => base ≤ g ∧ g < w.heap.size) w v u r d := by
  obtain ⟨h1, us, h2, -⟩ := h
  exact ⟨h1.rd (fun g a b => ⟨a, b⟩), h2.rd (fun g a b => ⟨a, b⟩)⟩

theorem dkForm {S : Nat → Prop} {w : World} {v u r : Value} {d : Dk} (h : DkRd S w v u r d) : (∃ A n c, v = .slice A n c) ∧ (∃ A n c, u = .slice A n c) ∧ ∃ A n c, r = .slice A n c := by
  refine ⟨?_, ?_, ?_⟩
  · obtain ⟨x1, x2, x3, -⟩ := h.1.1.1.form; exact ⟨_, _, _, x3⟩
  · obtain ⟨x1, x2, x3, -⟩ := h.1.2.1; exact ⟨_, _, _, x3⟩
  · obtain ⟨x1, x2, x3, -⟩ := h.2.form; exact ⟨_, _, _, x3⟩

theorem DkN.nil (w : World) (base : Nat) : DkN w base (.slice none 0 0) (.slice none 0 0) (.slice none 0 0) noDk :=
  ⟨PlN.nil _ _, [], ⟨rfl, GOwn.nil _ _ _ _ _, fun k x p h => by simp at h⟩, by simp [Ap, Value.ownBlock]⟩

theorem PsN.blocks {w : World} {base : Nat} {r : Value} {us : List (Value × Value)} {ps : List Pl} (h : PsN w base r us ps) : ∀ x ∈ us.flatMap pC, ∀ g, x.ownBlock = some g → base ≤ g ∧ g < w.heap.size := by
  intro x hx g hg
  obtain ⟨y, hy, hxy⟩ := List.mem_flatMap.1 hx
  obtain ⟨k, hk, e⟩ := List.getElem_of_mem hy
  have hk2 : k < ps.length := by have := h.1; omega
  have h3 := h.2.2 k y ps[k] (by rw [List.getElem?_eq_getElem hk, e]) (List.getElem?_eq_getElem hk2)
  simp only [pC, List.mem_cons, List.not_mem_nil, or_false] at hxy
  rcases hxy with rfl | rfl
  · exact h3.ge.1 g hg
  · exact h3.ge.2 g hg

theorem PsN.snocAp {us : List (Value × Value)} {v u : Value} {B : Nat} (h : (us.flatMap pC).Pairwise Ap) (hlt : ∀ x ∈ us.flatMap pC, ∀ g, x.ownBlock = some g → g < B) (hv : ∀ g, v.ownBlock = some g → B ≤ g) (hu : ∀ g, u.ownBlock = some g → B ≤ g) (hvu : Ap v u) : ((us ++ [(v, u)]).flatMap pC).Pairwise Ap := by
  rw [List.flatMap_append]
  refine List.pairwise_append.2 ⟨h, ?_, fun a ha b hb => ?_⟩
  · simp only [List.flatMap_cons, List.flatMap_nil, List.append_nil, pC]
    exact List.Pairwise.cons (fun b hb => by obtain rfl := List.mem_singleton.1 hb; exact hvu) (List.pairwise_singleton _ _)
  · simp only [List.flatMap_cons, List.flatMap_nil, List.append_nil, pC, List.mem_cons, List.not_mem_nil, or_false] at hb
    rcases hb with rfl | rfl
    · exact Ap.of_lt (hlt a ha) hv
    · exact Ap.of_lt (hlt a ha) hu

theorem dk_ap1 {v u : Value} (h : Ap v u) : (v :: u :: (Value.slice none 0 0) :: ([] : List (Value × Value)).flatMap pC).Pairwise Ap := by
  have hn : ∀ b : Value, Ap b (.slice none 0 0) := fun b g _ e => by cases e
  refine List.Pairwise.cons (fun b hb => ?_) (List.Pairwise.cons (fun b hb => ?_) (List.pairwise_singleton _ _))
  · simp only [List.flatMap_nil, List.mem_cons, List.not_mem_nil, or_false] at hb
    rcases hb with rfl | rfl
    · exact h
    · exact hn _
  · simp only [List.flatMap_nil, List.mem_cons, List.not_mem_nil, or_false] at hb
    subst hb
    exact hn _

def PsUp (wr : World) (g B n k : Nat) (us : List (Value × Value)) (ps : List Pl) : Prop :=
  us.length = k ∧ GOwn 26 2 pC wr B (.slice (some ⟨g, 0, none⟩) n n) (us ++ List.replicate (n - k) (.slice none 0 0, .slice none 0 0)) ∧ (∀ (j : Nat) (x : Value × Value) (p : Pl), us[j]? = some x → ps[j]? = some p → PlN wr (g + 1) x.1 x.2 p) ∧ (us.flatMap pC).Pairwise Ap ∧ B ≤ g ∧ g < wr.heap.size

theorem PsUp.below {wr w' : World} {g B n k : Nat} {us : List (Value × Value)} {ps : List Pl} (h : PsUp wr g B n k us ps) (hb : Below wr.heap.size wr w') : PsUp w' g B n k us ps :=
  ⟨h.1, h.2.1.below hb, fun j x p hx hp => (h.2.2.1 j x p hx hp).below hb, h.2.2.2.1, h.2.2.2.2.1, by have := hb.size; have := h.2.2.2.2.2; omega⟩

theorem PsUp.blocks {wr : World} {g B n k : Nat} {us : List (Value × Value)} {ps : List Pl} (h : PsUp wr g B n k us ps) (hk : k ≤ ps.length) : ∀ x ∈ us.flatMap pC, ∀ b, x.ownBlock = some b → g + 1 ≤ b ∧ b < wr.heap.size := by
  intro x hx b hb
  obtain ⟨y, hy, hxy⟩ := List.mem_flatMap.1 hx
  obtain ⟨j, hj, e⟩ := List.getElem_of_mem hy
  have hj2 : j < ps.length := by have := h.1; omega
  have h3 := h.2.2.1 j y ps[j] (by rw [List.getElem?_eq_getElem hj, e]) (List.getElem?_eq_getElem hj2)
  simp only [pC, List.mem_cons, List.not_mem_nil, or_false] at hxy
  rcases hxy with rfl | rfl
  · exact h3.ge.1 b hb
  · exact h3.ge.2 b hb

theorem PsUp.old {wr : World} {g B n k : Nat} {us : List (Value × Value)} {ps : List Pl} (h : PsUp wr g B n k us ps) (hk : k < n) :
    (wr.frozen? ⟨g, k * 2, none⟩ = false ∧ ∃ o, wr.cell? ⟨g, k * 2, none⟩ = some o) ∧ wr.frozen? ⟨g, k * 2 + 1, none⟩ = false ∧ ∃ o, wr.cell? ⟨g, k * 2 + 1, none⟩ = some o := by
  have hl : (us ++ List.replicate (n - k) ((.slice none 0 0, .slice none 0 0) : Value × Value)).length = n := by have := h.1; simp; omega
  have h0 := GOwn.old pC_len h.2.1 hl hk (j := 0) (by decide)
  have h1 := GOwn.old pC_len h.2.1 hl hk (j := 1) (by decide)
  rw [Nat.add_zero] at h0
  exact ⟨h0, h1⟩

theorem PsUp.step {w1 w2 : World} {g B n k : Nat} {us : List (Value × Value)} {ps : List Pl} {p : Pl} {v u : Value} (h : PsUp w1 g B n k us ps) (hk : k < n) (hl : n = ps.length) (hp : ps[k]? = some p) (hb : Below w1.heap.size w1 w2)
    (hv : QOwn w2 w1.heap.size v p.1) (hu : IOwn w2 w1.heap.size u p.2) (hvu : Ap v u) :
    PsUp ((w2.setCell ⟨g, k * 2, none⟩ v).setCell ⟨g, k * 2 + 1, none⟩ u) g B n (k + 1) (us ++ [(v, u)]) ps := by
  have hg := h.2.2.2.2.2
  have hsz := hb.size
  have h2 := h.below hb
  obtain ⟨e1, e2, e3, e4, e5, e6⟩ := h2
  have hlen : (us ++ List.replicate (n - k) ((.slice none 0 0, .slice none 0 0) : Value × Value)).length = n := by simp; omega
  have hset := GOwn.set2 (e := 26) pC_len (by rw [hlen]; exact e2) (k := k) (by rw [hlen]; exact hk) (x := (v, u)) (v0 := v) (v1 := u) rfl
  rw [hlen] at hset
  have hlist : (us ++ List.replicate (n - k) ((.slice none 0 0, .slice none 0 0) : Value × Value)).set k (v, u) = us ++ [(v, u)] ++ List.replicate (n - (k + 1)) (.slice none 0 0, .slice none 0 0) := by
    obtain ⟨m, hm⟩ : ∃ m, n - k = m + 1 := ⟨n - k - 1, by omega⟩
    rw [hm, show n - (k + 1) = m by omega, List.set_append_right _ _ (by omega), e1, Nat.sub_self, List.replicate_succ, List.set_cons_zero, List.append_assoc]; rfl
  rw [hlist] at hset
  have hgrow := hset.2
  have hoff : ∀ (x : Value), (∀ b, x.ownBlock = some b → g + 1 ≤ b) → x.ownBlock = none ∨ x.ownBlock ≠ some g := fun x hx => .inr (fun e => by have := hx g e; omega)
  have hkeep : ∀ (x y : Value) (q : Pl), PlN w2 (g + 1) x y q → PlN ((w2.setCell ⟨g, k * 2, none⟩ v).setCell ⟨g, k * 2 + 1, none⟩ u) (g + 1) x y q := fun x y q hq =>
    ⟨hq.1.off hgrow (hoff x (fun b hb => (hq.ge.1 b hb).1)), iown_g.2 ((iown_g.1 hq.2).off hgrow (hoff y (fun b hb => (hq.ge.2 b hb).1)))⟩
  have hnew : PlN w2 (g + 1) v u p := ⟨hv.base (by omega), hu.base (by omega)⟩
  refine ⟨by simp [e1], hset.1, fun j x q hx hq => ?_, PsN.snocAp (B := w1.heap.size) e4 ?_ (fun b hb => (hv.ge b hb).1) (fun b hb => (hu.ge b hb).1) hvu, e5, by have := hgrow.size; omega⟩
  · rcases Nat.lt_or_ge j us.length with hj | hj
    · rw [List.getElem?_append_left hj] at hx
      exact hkeep _ _ _ (e3 j x q hx hq)
    · have hjk : j = us.length := by
        have := (List.getElem?_eq_some_iff.1 hx).1
        simp at this; omega
      subst hjk
      rw [List.getElem?_append_right (Nat.le_refl _), Nat.sub_self] at hx
      obtain rfl := Option.some.inj hx
      rw [e1, hp] at hq
      obtain rfl := Option.some.inj hq
      exact hkeep _ _ _ hnew
  · intro x hx b hb
    exact (h.blocks (by omega) x hx b hb).2

theorem PsUp.all {wr : World} {g B n : Nat} {us : List (Value × Value)} {ps : List Pl} (h : PsUp wr g B n n us ps) (hl : n = ps.length) : PsN wr B (.slice (some ⟨g, 0, none⟩) n n) us ps ∧ (us.flatMap pC).Pairwise Ap ∧ ∀ x ∈ us.flatMap pC, ∀ b, x.ownBlock = some b → g + 1 ≤ b ∧ b < wr.heap.size := by
  obtain ⟨e1, e2, e3, e4, e5, e6⟩ := id h
  rw [Nat.sub_self, List.replicate_zero, List.append_nil] at e2
  exact ⟨⟨by omega, e2, fun j x p hx hp => (e3 j x p hx hp).base (by omega)⟩, e4, h.blocks (by omega)⟩

theorem PsUp.start {w w0 : World} {B n : Nat} {ps : List Pl} {zc : Array Value} (hown : w0.ownsRow w.heap.size 26 2 (.slice (some ⟨w.heap.size, 0, none⟩) n n) n (madeCells zc (n * 2)).toList) (hz : zc = #[.slice none 0 0, .slice none 0 0]) (hB : B ≤ w.heap.size) (hlt : w.heap.size < w0.heap.size) : PsUp w0 w.heap.size B n 0 [] ps := by
  subst hz
  have h1 := flat_made pC_len (by decide) ((.slice none 0 0, .slice none 0 0) : Value × Value) n
  have h2 : GOwn 26 2 pC w0 w.heap.size (.slice (some ⟨w.heap.size, 0, none⟩) n n) (List.replicate n ((.slice none 0 0, .slice none 0 0) : Value × Value)) := by
    unfold GOwn
    rw [← h1, List.length_replicate]
    exact hown
  refine ⟨rfl, ?_, fun j x p hx => by simp at hx, by simp, hB, hlt⟩
  rw [Nat.sub_zero, List.nil_append]
  exact h2.base hB

def DkBo (d : Dk) (b : Bool) (w : World) (e : Ending) (w' : World) : Prop := ∃ v u r, e = .returned (.tuple #[.agg #[v, u, r], .bool b]) ∧ DkN w' w.heap.size v u r d ∧ Below w.heap.size w w'

theorem dkBo_of {d d' : Dk} {b b' : Bool} {w w' : World} {v u r : Value} (hd : d = d') (hb : b = b') (h : DkN w' w.heap.size v u r d') (hw : Below w.heap.size w w') : DkBo d b w (.returned (.tuple #[.agg #[v, u, r], .bool b'])) w' := by
  subst hd hb; exact ⟨_, _, _, rfl, h, hw⟩

end Go.Proofs.Ytebebcomhdjihaa
