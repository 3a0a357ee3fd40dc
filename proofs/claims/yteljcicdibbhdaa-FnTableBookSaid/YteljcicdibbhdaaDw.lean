/- What is drawn for chapter 3: a book: what its loops keep. Conditions: a reader. What is drawn for chapter 3: a book. Conditions: a reader. What is drawn for chapter 3: stakes; a book; both. Conditions: a row of bytes that came in. -/
import Derived.Test.YteljcicdibbhdaaDt
import Derived.Test.YteljcicdibbhdaaQf
import Derived.Maps.AppendAt
import Derived.Deep.DeepCutAuto
namespace Go.Proofs.Yteljcicdibbhdaa
open Go.RowKit
set_option linter.unusedVariables false

/-- the reader, the book so far, and the grains: all made behind w -/
def BkRel (w : World) (R P g n : Nat) (p : Value) (qs : List Qt) (wr : World) : Prop :=
  DR w R P wr ∧ QOwn wr w.heap.size p qs ∧ (∃ gs : List Int, gs.length = n ∧ IOwn wr w.heap.size (.slice (some ⟨g, 0, none⟩) n n) gs) ∧ p.ownBlock ≠ some g ∧ R < w.heap.size

theorem own_ne {w : World} {base R : Nat} {v : Value} {xs : List Qt} (o : QOwn w base v xs) (hb : R < base) : v.ownBlock = none ∨ v.ownBlock ≠ some R := by
  rcases hv : v.ownBlock with _ | g
  · exact .inl rfl
  · refine .inr fun e => ?_
    have := (o.ge g hv).1
    injection e with e
    omega

theorem BkRel.grain_ge {w wr : World} {R P g n : Nat} {p : Value} {qs : List Qt} (h : BkRel w R P g n p qs wr) : w.heap.size ≤ g ∧ g < wr.heap.size := by
  obtain ⟨gs, h1, h2⟩ := h.2.2.1
  exact h2.ge g rfl

/-- nothing has turned but the reader, and new blocks -/
theorem BkRel.dr {w wr w' : World} {R P Q g n : Nat} {p : Value} {qs : List Qt} (h : BkRel w R P g n p qs wr) (k : DR wr R Q w') : BkRel w R Q g n p qs w' := by
  obtain ⟨h1, h2, ⟨gs, h3, h4⟩, h5, h6⟩ := h
  exact ⟨h1.trans k, h2.dr k h6, ⟨gs, h3, h4.dr k h6⟩, h5, h6⟩

theorem BkRel.picked {w wr w' : World} {R P Q g n : Nat} {p : Value} {qs : List Qt} (h : BkRel w R P g n p qs wr) (k : Picked R Q wr w') : BkRel w R Q g n p qs w' :=
  h.dr ((DR.start h.1.1).picked k)

theorem BkRel.alloc {w wr : World} {R P g n : Nat} {p : Value} {qs : List Qt} (h : BkRel w R P g n p qs wr) (o : Obj) : BkRel w R P g n p qs (wr.alloc o) :=
  h.dr ((DR.start h.1.1).alloc o)

theorem BkRel.drew {w wr : World} {R P g n : Nat} {p : Value} {qs : List Qt} (h : BkRel w R P g n p qs wr) : BkRel w R P g n p qs wr.drew := ⟨h.1.drew, h.2⟩

theorem BkRel.mono {w wr : World} {R P Q g n : Nat} {p : Value} {qs : List Qt} (h : BkRel w R P g n p qs wr) (hPQ : P ≤ Q) : BkRel w R Q g n p qs wr := ⟨h.1.mono hPQ, h.2⟩

theorem ird_cell0 {w : World} {b n c : Nat} {xs : List Int} {k : Nat} {x : Int} (h : IRd w (.slice (some ⟨b, 0, none⟩) n c) xs) (hx : xs[k]? = some x) : w.cell? ⟨b, k, none⟩ = some (.int .i64 x) := by
  have hk : k < xs.length := (List.getElem?_eq_some_iff.1 hx).1
  obtain ⟨A, c, e, hl, hm, hc⟩ := h
  injection e with e1 e2 e3
  obtain ⟨b', off', hA, -, hcell⟩ := hc (by omega)
  rw [← e1] at hA
  injection hA with hA
  injection hA with hb ho
  subst hb
  subst ho
  simpa using hcell k x hx

theorem BkRel.grain {w wr : World} {R P g n : Nat} {p : Value} {qs : List Qt} (h : BkRel w R P g n p qs wr) {k : Nat} (hk : k < n) : (∃ x, wr.cell? ⟨g, k, none⟩ = some (.int .i64 x)) ∧ wr.frozen? ⟨g, k, none⟩ = false := by
  obtain ⟨-, -, ⟨gs, h3, h4⟩, -, -⟩ := h
  subst h3
  refine ⟨⟨gs[k]'hk, ird_cell0 h4.rd (List.getElem?_eq_getElem hk)⟩, ?_⟩
  unfold IOwn at h4
  exact h4.frozenAt k

/-- another number of grains -/
theorem BkRel.lay {w wr : World} {R P g n : Nat} {p : Value} {qs : List Qt} (h : BkRel w R P g n p qs wr) (k : Nat) (x : Int) : BkRel w R P g n p qs (wr.setCell ⟨g, k, none⟩ (.int .i64 x)) := by
  have hg := h.grain_ge
  obtain ⟨h1, h2, ⟨gs, h3, h4⟩, h5, h6⟩ := h
  subst h3
  have h4' := h4
  unfold IOwn at h4'
  obtain ⟨h7, h8⟩ := h4'.stored k (.int .i64 x)
  refine ⟨h1.setCell hg.1 _, h2.keep (SameAt.of_grown h8 (.inr h5)), ⟨gs.set k x, by simp, ?_⟩, h5, h6⟩
  unfold IOwn
  rw [List.length_set, List.map_set]
  exact h7

/-- the book has grown by a quote -/
theorem BkRel.append {w wr w' : World} {R P g n : Nat} {p p' : Value} {qs ys : List Qt} (h : BkRel w R P g n p qs wr) (ho : QOwn w' w.heap.size p' ys) (hg : wr.grownBy w' p.ownBlock) (hp : p'.ownBlock = p.ownBlock ∨ p'.ownBlock = some wr.heap.size ∨ p'.ownBlock = some (wr.heap.size + 1)) : BkRel w R P g n p' ys w' := by
  have hgg := h.grain_ge
  obtain ⟨h1, h2, ⟨gs, h3, h4⟩, h5, h6⟩ := h
  refine ⟨h1.grown hg (fun b hb => (h2.ge b hb).1), ho, ⟨gs, h3, h4.keep (SameAt.of_grown hg (.inr fun e => h5 e.symm))⟩, ?_, h6⟩
  rcases hp with e | e | e
  · rw [e]; exact h5
  · rw [e]; intro e2; injection e2 with e2; omega
  · rw [e]; intro e2; injection e2 with e2; omega

/-- a variable of the round beside it: a quote -/
def BkLoc (w : World) (R P g n : Nat) (p : Value) (qs : List Qt) (b : Nat) (q : Qt) (wr : World) : Prop :=
  BkRel w R P g n p qs wr ∧ Blk wr b 35 #[.int .i64 q.1, .int .i64 q.2] ∧ b ≠ g ∧ p.ownBlock ≠ some b ∧ w.heap.size ≤ b

theorem BkRel.loc {w wr : World} {R P g n : Nat} {p : Value} {qs : List Qt} (h : BkRel w R P g n p qs wr) (q : Qt) : BkLoc w R P g n p qs wr.heap.size q (wr.alloc (.cells #[.int .i64 q.1, .int .i64 q.2] 35)) := by
  have hg := h.grain_ge
  refine ⟨h.alloc _, blk_alloc _ _ _, by omega, fun e => ?_, h.1.size⟩
  have := (h.2.1.ge _ e).2
  omega

theorem BkLoc.price {w wr : World} {R P g n b : Nat} {p : Value} {qs : List Qt} {q : Qt} (h : BkLoc w R P g n p qs b q wr) (x : Int) : BkLoc w R P g n p qs b (q.1, x) (wr.setCell ⟨b, 1, none⟩ (.int .i64 x)) := by
  obtain ⟨h1, h2, h3, h4, h5⟩ := h
  have hg : wr.grownBy (wr.setCell ⟨b, 1, none⟩ (.int .i64 x)) (some b) := ⟨rfl, rfl, rfl, by simp [World.setCell], fun i hi hne => Below.heap_setCell wr ⟨b, 1, none⟩ _ i (fun e => hne (by rw [e]))⟩
  obtain ⟨k1, k2, ⟨gs, k3, k4⟩, k5, k6⟩ := h1
  refine ⟨⟨k1.setCell h5 _, k2.keep (SameAt.of_grown hg (.inr h4)), ⟨gs, k3, k4.keep (SameAt.of_grown hg (.inr fun e => ?_))⟩, k5, k6⟩, h2.set_ 1 _, h3, h4, h5⟩
  have e' : some g = some b := e
  injection e' with e'
  exact h3 e'.symm

theorem BkLoc.drew {w wr : World} {R P g n b : Nat} {p : Value} {qs : List Qt} {q : Qt} (h : BkLoc w R P g n p qs b q wr) : BkLoc w R P g n p qs b q wr.drew := ⟨h.1.drew, h.2⟩

theorem BkLoc.cells {w wr : World} {R P g n b : Nat} {p : Value} {qs : List Qt} {q : Qt} (h : BkLoc w R P g n p qs b q wr) : wr.cell? ⟨b, 0, none⟩ = some (.int .i64 q.1) ∧ wr.cell? ⟨b, 1, none⟩ = some (.int .i64 q.2) ∧ wr.frozen? ⟨b, 0, none⟩ = false ∧ wr.frozen? ⟨b, 1, none⟩ = false := h.2.1.two

theorem two_one {x y : Int} : ∀ u ∈ [Value.int .i64 x, .int .i64 y], u.oneCell' = true := by
  intro u hu
  simp only [List.mem_cons, List.not_mem_nil, or_false] at hu
  rcases hu with rfl | rfl <;> rfl

/-- where the book begins -/
theorem book_start {w wr : World} {R P : Nat} (h : DR w R P wr) : DR w R P (wr.alloc (.cells #[] 35)) ∧ QOwn (wr.alloc (.cells #[] 35)) w.heap.size (.slice (some ⟨wr.heap.size, 0, none⟩) 0 0) [] :=
  ⟨h.alloc _, World.ownsRow_lit wr #[] 0 h.size (by unfold maxLen; omega) rfl⟩

theorem book_made {w wr w' : World} {R P n : Nat} {p : Value} (h : DR w R P wr) (hq : QOwn wr w.heap.size p []) (ho : w'.ownsRow wr.heap.size 3 1 (.slice (some ⟨wr.heap.size, 0, none⟩) n n) n (List.replicate n (.int .i64 0))) (hg : wr.grownBy w' none) : BkRel w R P wr.heap.size n p [] w' := by
  refine ⟨h.grown hg (fun g hg => by cases hg), hq.keep (SameAt.of_grown hg ?_), ⟨List.replicate n 0, by simp, ?_⟩, fun e => ?_, h.2.2⟩
  · rcases hv : p.ownBlock with _ | g
    · exact .inl rfl
    · exact .inr (fun e => by cases e)
  · have h1 : IOwn w' wr.heap.size (.slice (some ⟨wr.heap.size, 0, none⟩) n n) (List.replicate n 0) := by
      unfold IOwn
      rw [List.length_replicate]
      simpa using ho
    exact h1.base h.size
  · have := (hq.ge _ e).2
    omega

end Go.Proofs.Yteljcicdibbhdaa

namespace Go.Proofs.Yteljcicdibbhdaa
open Go.RowKit
set_option linter.unusedVariables false

/-- a number of worlds and a book that were drawn -/
def BookR (w : World) (R P : Nat) (e : Ending) (w' : World) : Prop := ∃ (x : Int) (v : Value) (qs : List Qt), e = .returned (.tuple #[.int .i64 x, v]) ∧ QOwn w' w.heap.size v qs ∧ qs.length ≤ 4 ∧ DR w R P w'

theorem BkRel.book {w wr : World} {R P Q g n : Nat} {p : Value} {qs : List Qt} (h : BkRel w R P g n p qs wr) (hPQ : P ≤ Q) (hl : qs.length ≤ 4) (x : Int) : BookR w R Q (.returned (.tuple #[.int .i64 x, p])) wr :=
  ⟨x, p, qs, rfl, h.2.1, hl, h.1.mono hPQ⟩

/-- a block of four quotes of nothing -/
def fourQ : Obj := .cells (madeCells #[.int .i64 0, .int .i64 0] 8) 35

theorem run_fourQ (w : World) : (Instr.makeSlice 23 (.int .i64 4) (.int .i64 4)).run Try.prog w = .ok (.slice (some ⟨w.heap.size, 0, none⟩) 4 4) (w.alloc fourQ) := by
  obtain ⟨j0, hj, hy0, hy1, hy2⟩ := info_parts Try_quoteinfo
  have h := run_make (P := Try.prog) w 23 35 j0 (.agg #[.int .i64 0, .int .i64 0]) Try.underlying23 hj hy0 .i64 .i64 4 4 (by omega) (Int.le_refl _) (by rw [hy2]; omega) (by omega)
  rw [hy1] at h
  simpa [fourQ, Value.cells] using h

theorem fourQ_own (w : World) (base : Nat) (hb : base ≤ w.heap.size) : QOwn (w.alloc fourQ) base (.slice (some ⟨w.heap.size, 0, none⟩) 4 4) [(0, 0), (0, 0), (0, 0), (0, 0)] := by
  have h := World.ownsRow_lit w (madeCells #[.int .i64 0, .int .i64 0] 8) 4 (e := 35) (base := base) (size := 2) hb (by unfold maxLen; omega) (by simp [size_madeCells])
  have e := flat_made qC_len (by decide) ((0, 0) : Qt) 4
  have e2 : (madeCells (qC ((0, 0) : Qt)).toArray (4 * 2)) = madeCells #[.int .i64 0, .int .i64 0] 8 := rfl
  rw [e2] at e
  rw [e] at h
  exact h

theorem fourQ_ret {w wr : World} {R P Q : Nat} (h : DR w R P wr) (hPQ : P ≤ Q) (x : Int) : BookR w R Q (.returned (.tuple #[.int .i64 x, .slice (some ⟨wr.heap.size, 0, none⟩) 4 4])) (wr.alloc fourQ).drew :=
  ⟨x, _, _, rfl, fourQ_own wr _ h.size, by simp, ((h.alloc _).drew).mono hPQ⟩

set_option maxRecDepth 100000 in
set_option maxHeartbeats 100000000 in
theorem l20Book_any (w : World) (R P : Nat) (m : Int) (hP : P ≤ 10000) (h : Rd w R P) (m1 : 1 ≤ m) (m2 : m ≤ 1000) :
    Calls Try.prog 72 #[.pointer (some ⟨R, 0, none⟩), .int .i64 m] w (BookR w R (P + 24)) := by
  have D0 := Lib.hid (DR.start h)
  clear h
  obtain ⟨i0, hi, hz0, hz1, hz2⟩ := info_parts Try_intinfo
  obtain ⟨j0, hj, hy0, hy1, hy2⟩ := info_parts Try_quoteinfo
  go_enter Try.func72, Try.ntmps72
  go_wp2_with fail
  refine (pick_any _ R P _ (by omega) D0.out.1).mono ?_
  rintro e w2 ⟨v1, rfl, ⟨p1, p2, -⟩, k1⟩
  have p2 := p2 (by decide)
  have D2 := Lib.hid (D0.out.picked k1)
  clear k1
  go_wp2_with fail
  refine (pick_any _ R (P + 1) _ (by omega) D2.out.1).mono ?_
  rintro e w3 ⟨v2, rfl, ⟨p3, p4, -⟩, k1⟩
  have p4 := p4 (by decide)
  have D3 := Lib.hid (D2.out.picked k1)
  clear k1 D0 D2
  go_upto_if 20 with fail
  go_cut [6] (fun s6 wx => ∃ n : Nat, s6 = .int .i64 (n : Int) ∧ 1 ≤ n ∧ n ≤ 4 ∧ wx = w3)
  case first =>
    obtain rfl | rfl : v2 = 0 ∨ v2 = 1 := by omega
    · go_wp2_with fail
      go_meet
      exact ⟨4, rfl, by omega, by omega, rfl⟩
    · go_wp2_with fail
      go_meet
      exact ⟨(1 + v1).toNat, by rw [Int.toNat_of_nonneg (by omega)], by omega, by omega, rfl⟩
  case rest =>
    obtain ⟨n, rfl, hn1, hn2, rfl⟩ := hcut
    clear p1 p2 p3 p4
    have D4 := Lib.hid (book_start D3.out)
    have hnI1 : (1 : Int) ≤ (n : Int) := by omega
    have hnI2 : (n : Int) ≤ 4 := by omega
    go_wp2_with (at_make; (generalize wc.alloc (.cells #[] 35) = w4 at D4 ⊢); refine wpList_make_full _ rfl _ _ 41 rfl w4.heap.size 3 i0 (.int .i64 0) 1 Try.underlying41 hi hz0 hz1 .i64 .i64 _ _ n rfl rfl rfl rfl ?b2 ?b3 (Nat.le_refl _) ?_)
    case b2 => first | omega | (rw [hz2]; omega)
    case b3 => unfold maxLen; omega
    intro w0 hown0 hgrow0
    obtain ⟨g, hg⟩ : ∃ g, w4.heap.size = g := ⟨_, rfl⟩
    obtain ⟨p0, hp0⟩ : ∃ p0, (Value.slice (some ⟨wc.heap.size, 0, none⟩) 0 0) = p0 := ⟨_, rfl⟩
    have H0 : Hid (BkRel w R (P + 2) g n p0 [] w0) := Lib.hid (by
      rw [← hg, ← hp0]
      exact book_made D4.out.1 D4.out.2 (by simpa [toList_madeCells_one, Value.cells] using hown0) hgrow0)
    rw [hp0, hg]
    clear hown0 hgrow0 D3 D4 hp0 hg
    go_wp2_with fail
    go_loopw [9] (fun i wr => ∃ (k Q : Nat), i = .int .i64 (k : Int) ∧ k ≤ 6 ∧ Q ≤ P + 2 + k ∧ Hid (BkRel w R Q g n p0 [] wr)) (fun i _ => 6 - (intOf i).toNat)
    case atStart => exact ⟨0, P + 2, rfl, by omega, by omega, H0⟩
    case round =>
      obtain ⟨k, Q, rfl, hk, hQ, HB⟩ := hrel
      clear H0
      by_cases hlt : k < 6
      · have hlt' : (k : Int) < 6 := by omega
        go_wp2_with fail
        refine (pick_any _ R Q _ (by omega) HB.out.1.1).mono ?_
        rintro e w5 ⟨v3, rfl, ⟨p1, p2, -⟩, k1⟩
        have p2 := p2 hnI1
        obtain ⟨j, rfl⟩ : ∃ j : Nat, v3 = j := ⟨v3.toNat, by omega⟩
        have HB5 := Lib.hid (HB.out.picked k1)
        clear k1 HB
        have hjn : j < n := by omega
        obtain ⟨⟨x, hcx⟩, hfx⟩ := HB5.out.grain hjn
        go_wp2_with fail
        go_roundw
        case rel => exact ⟨k + 1, Q + 1, by go_num, by omega, by omega, Lib.hid (HB5.out.lay j _)⟩
        case measure => simp [intOf]; omega
      · have hlt' : (6 : Int) ≤ (k : Int) := by omega
        have HB0 := Lib.hid (HB.out.mono (Q := P + 8) (by omega))
        clear HB
        go_wp2_with fail
        refine (pick_any _ R (P + 8) _ (by omega) HB0.out.1.1).mono ?_
        rintro e w5 ⟨v3, rfl, ⟨p1, p2, -⟩, k1⟩
        have HB5 := Lib.hid (HB0.out.picked k1)
        clear k1 HB0
        have p2 := p2 (by decide)
        obtain ⟨f, hf⟩ : ∃ f : Bool, decide (0 < v3) = f := ⟨_, rfl⟩
        go_wp2_with fail
        clear hf p1 p2
        refine (pick_any _ R (P + 9) _ (by omega) HB5.out.1.1).mono ?_
        rintro e w6 ⟨v4, rfl, ⟨p3, p4, -⟩, k1⟩
        have p4 := p4 (by decide)
        have HB6 := Lib.hid (HB5.out.picked k1)
        obtain ⟨r, rfl⟩ : ∃ r : Nat, v4 = r := ⟨v4.toNat, by omega⟩
        have hr3 : r ≤ 3 := by omega
        clear k1 HB5 p3 p4
        go_wp2_with fail
        go_loopw [7, 12] (fun p i wr => ∃ (k Q : Nat) (qs : List Qt), i = .int .i64 (k : Int) ∧ k ≤ 3 ∧ Q + 2 * k ≤ P + 17 ∧ qs.length + k ≤ 3 ∧ Hid (BkRel w R Q g n p qs wr)) (fun _ i _ => (intOf i).toNat)
        case atStart => exact ⟨r, P + 10, [], rfl, by omega, by omega, by simp; omega, HB6⟩
        case round =>
          obtain ⟨k, Q, qs, rfl, hk, hQ, hqs, HB⟩ := hrel
          clear HB6
          by_cases hlt : 0 < k
          · have hlt' : (0 : Int) < (k : Int) := by omega
            go_wp2_with fail
            refine (l20Quote_any _ R Q _ (by omega) HB.out.1.1 hnI1 hnI2).mono ?_
            rintro e w7 ⟨⟨e1, pr1⟩, rfl, d7⟩
            unfold qV
            have HL := Lib.hid ((HB.out.dr d7).loc (e1, pr1))
            clear d7 HB
            obtain ⟨hc0, hc1, hf0, hf1⟩ := HL.out.cells
            obtain ⟨k, rfl⟩ : ∃ k', k = k' + 1 := ⟨k - 1, by omega⟩
            go_upto_if 51 with fail
            generalize w7.alloc (.cells #[.int .i64 e1, .int .i64 pr1] 35) = w8 at HL hc0 hc1 hf0 hf1 ⊢
            generalize w7.heap.size = b at HL hc0 hc1 hf0 hf1 ⊢
            clear hc0 hc1 hf0 hf1
            cases f
            · skip
              obtain ⟨hc0, hc1, hf0, hf1⟩ := HL.out.cells
              have hown := Lib.hid (World.ownsRow.alloc (w := w8) (show w8.ownsRow w.heap.size 35 2 u7 qs.length (qs.flatMap qC) from HL.out.1.2.1) (.cells #[.int .i64 e1, .int .i64 pr1] 35))
              have hsz := HL.out.1.1.size
              go_wp2_with (at_builtin; refine wpList_append_own_at _ rfl _ _ 23 rfl w.heap.size 35 j0 (.agg #[.int .i64 0, .int .i64 0]) 2 16 Try.underlying23 hj hy0 hy1 hy2 rfl (by decide) _ _ _ rfl hown.out ⟨w8.heap.size, 0, none⟩ 1 1 [.int .i64 e1, .int .i64 pr1] rfl rfl ?mc1 two_one ?mc3 ?mc4 ?mc5 ?_)
              first | (case mc1 => exact World.news_of_block (heap_alloc_new w8 _)) | skip
              case mc3 => unfold maxLen; omega
              case mc4 => omega
              case mc5 => first | omega | (simp; omega)
              intro v' w' hown' hgrow _ hwhere
              have HN := Lib.hid (BkRel.append (wr := w8) HL.out.1 (show QOwn w' w.heap.size v' (qs ++ [(e1, pr1)]) from by simpa [GOwn, qC] using hown') (grown_after (w := w8) ((Below.refl _ w8).alloc (Nat.le_refl _) _) hgrow) (by rcases hwhere with h | h; exact .inl h; exact .inr (.inr (by simpa using h))))
              clear hown' hgrow hown hwhere
              go_wp2_with fail
              go_roundw
              case rel => exact ⟨k, Q + 2, qs ++ [(e1, pr1)], by go_num, by omega, by omega, by simp; omega, HN⟩
              case measure => simp [intOf] <;> omega
            · obtain ⟨hc0, hc1, hf0, hf1⟩ := HL.out.cells
              have HZ := Lib.hid (HL.out.price 0)
              go_wp2_with fail
              clear hc0 hc1 hf0 hf1 HL
              go_loopw [14] (fun i wr => ∃ (j : Nat) (pr : Int), i = .int .i64 (j : Int) ∧ j ≤ n ∧ Hid (BkLoc w R (Q + 2) g n u7 qs b (e1, pr) wr)) (fun i _ => n - (intOf i).toNat)
              case atStart => exact ⟨0, 0, rfl, Nat.zero_le _, HZ⟩
              case round =>
                obtain ⟨j, pr, rfl, hj2, HI⟩ := hrel
                clear HZ
                by_cases hjn : j < n
                · have hjn' : (j : Int) < (n : Int) := by omega
                  obtain ⟨hc0, hc1, hf0, hf1⟩ := HI.out.cells
                  obtain ⟨⟨x, hcx⟩, hfx⟩ := HI.out.1.grain hjn
                  obtain rfl | rfl | rfl | rfl : j = 0 ∨ j = 1 ∨ j = 2 ∨ j = 3 := by omega
                  all_goals
                    go_wp2_with fail
                    go_region
                    all_goals
                      go_wp2_with fail
                      go_roundw
                      case rel => first | exact ⟨1, _, rfl, by omega, by first | exact Lib.hid (HI.out.drew.price _) | exact Lib.hid (HI.out.price _).drew⟩ | exact ⟨2, _, rfl, by omega, by first | exact Lib.hid (HI.out.drew.price _) | exact Lib.hid (HI.out.price _).drew⟩ | exact ⟨3, _, rfl, by omega, by first | exact Lib.hid (HI.out.drew.price _) | exact Lib.hid (HI.out.price _).drew⟩ | exact ⟨4, _, rfl, by omega, by first | exact Lib.hid (HI.out.drew.price _) | exact Lib.hid (HI.out.price _).drew⟩
                      case measure => simp [intOf]; omega
                · skip
                  obtain ⟨hc0, hc1, hf0, hf1⟩ := HI.out.cells
                  have hown := Lib.hid (World.ownsRow.alloc (w := wr) (show wr.ownsRow w.heap.size 35 2 u7 qs.length (qs.flatMap qC) from HI.out.1.2.1) (.cells #[.int .i64 e1, .int .i64 pr] 35))
                  have hsz := HI.out.1.1.size
                  go_wp2_with (at_builtin; refine wpList_append_own_at _ rfl _ _ 23 rfl w.heap.size 35 j0 (.agg #[.int .i64 0, .int .i64 0]) 2 16 Try.underlying23 hj hy0 hy1 hy2 rfl (by decide) _ _ _ rfl hown.out ⟨wr.heap.size, 0, none⟩ 1 1 [.int .i64 e1, .int .i64 pr] rfl rfl ?nc1 two_one ?nc3 ?nc4 ?nc5 ?_)
                  first | (case nc1 => exact World.news_of_block (heap_alloc_new wr _)) | skip
                  case nc3 => unfold maxLen; omega
                  case nc4 => omega
                  case nc5 => first | omega | (simp; omega)
                  intro v' w' hown' hgrow _ hwhere
                  have HN := Lib.hid (BkRel.append (wr := wr) HI.out.1 (show QOwn w' w.heap.size v' (qs ++ [(e1, pr)]) from by simpa [GOwn, qC] using hown') (grown_after (w := wr) ((Below.refl _ wr).alloc (Nat.le_refl _) _) hgrow) (by rcases hwhere with h | h; exact .inl h; exact .inr (.inr (by simpa using h))))
                  clear hown' hgrow hown hwhere
                  go_wp2_with fail
                  go_roundw
                  case rel => exact ⟨k, Q + 2, qs ++ [(e1, pr)], by go_num, by omega, by omega, by simp; omega, HN⟩
                  case measure => simp [intOf] <;> omega
          · have hk0 : k = 0 := by omega
            subst hk0
            have HB' := Lib.hid (HB.out.mono (Q := P + 17) (by omega))
            clear HB
            have hq3 : qs.length ≤ 3 := by omega
            go_wp2_with fail
            refine (odd_any _ R (P + 17) m m1 (by omega) (by omega) HB'.out.1.1).mono ?_
            rintro e w9 ⟨bo, rfl, k1⟩
            have HB9 := Lib.hid (HB'.out.picked k1)
            clear k1 HB'
            cases bo
            · go_wp2_with fail
              go_ret2
              exact HB9.out.book (by omega) (by omega) _
            · go_wp2_with fail
              refine (pick_any _ R (P + 18) _ (by omega) HB9.out.1.1).mono ?_
              rintro e w10 ⟨v5, rfl, ⟨p1, p2, -⟩, k1⟩
              have p2 := p2 (by decide)
              have HB10 := Lib.hid (HB9.out.picked k1)
              clear k1 HB9
              obtain rfl | rfl | rfl : v5 = 0 ∨ v5 = 1 ∨ v5 = 2 := by omega
              · have HB11 := Lib.hid (HB10.out.alloc (.cells #[.int .i64 0, .int .i64 5] 3))
                have KB := Lib.hid (blk_alloc w10 #[.int .i64 0, .int .i64 5] 3)
                have HNB : Hid (w10.heap.size ≠ R) := Lib.hid (by have := HB10.out.2.2.2.2; have := HB10.out.1.size; omega)
                clear HB10
                go_wp2_with fail
                refine (pick_any _ R (P + 19) _ (by omega) HB11.out.1.1).mono ?_
                rintro e w11 ⟨v6, rfl, ⟨p3, p4, -⟩, k1⟩
                have p4 := p4 (by decide)
                have HB12 := Lib.hid (HB11.out.picked k1)
                have hb0 : w11.cell? ⟨w10.heap.size, 0, none⟩ = some (.int .i64 0) := (KB.out.picked k1 HNB.out).cell 0
                have hb1 : w11.cell? ⟨w10.heap.size, 1, none⟩ = some (.int .i64 5) := (KB.out.picked k1 HNB.out).cell 1
                clear k1 HB11
                obtain rfl | rfl : v6 = 0 ∨ v6 = 1 := by omega
                all_goals
                  go_wp2_with fail
                  go_ret2
                  exact HB12.out.book (by omega) (by omega) _
              · have hown := Lib.hid (World.ownsRow.alloc (w := w10) (show w10.ownsRow w.heap.size 35 2 u7 qs.length (qs.flatMap qC) from HB10.out.2.1) (.cells #[.int .i64 0, .int .i64 7] 35))
                have hsz := HB10.out.1.size
                go_wp2_with (at_builtin; refine wpList_append_own_at _ rfl _ _ 23 rfl w.heap.size 35 j0 (.agg #[.int .i64 0, .int .i64 0]) 2 16 Try.underlying23 hj hy0 hy1 hy2 rfl (by decide) _ _ _ rfl hown.out ⟨w10.heap.size, 0, none⟩ 1 1 [.int .i64 0, .int .i64 7] rfl rfl ?oc1 two_one ?oc3 ?oc4 ?oc5 ?_)
                first | (case oc1 => exact World.news_of_block (heap_alloc_new w10 _)) | skip
                case oc3 => unfold maxLen; omega
                case oc4 => omega
                case oc5 => first | omega | (simp; omega)
                intro v' w' hown' hgrow _ hwhere
                have HN := Lib.hid (BkRel.append (wr := w10) HB10.out (show QOwn w' w.heap.size v' (qs ++ [(0, 7)]) from by simpa [GOwn, qC] using hown') (grown_after (w := w10) ((Below.refl _ w10).alloc (Nat.le_refl _) _) hgrow) (by rcases hwhere with h | h; exact .inl h; exact .inr (.inr (by simpa using h))))
                clear hown' hgrow hown hwhere
                go_wp2_with fail
                go_ret2
                exact HN.out.book (by omega) (by simp; omega) _
              · have hmk : ∀ w : World, (Instr.makeSlice 23 (.int .i64 4) (.int .i64 4)).run Try.prog w = .ok (.slice (some ⟨w.heap.size, 0, none⟩) 4 4) (w.alloc fourQ) := run_fourQ
                go_wp2_with fail
                go_region
                all_goals
                  go_wp2_with fail
                  go_ret2
                  exact fourQ_ret HB10.out.1 (by omega) _

end Go.Proofs.Yteljcicdibbhdaa

namespace Go.Proofs.Yteljcicdibbhdaa
open Go.RowKit
set_option linter.unusedVariables false

def StakesR (w : World) (R P : Nat) (e : Ending) (w' : World) : Prop := ∃ v xs, e = .returned v ∧ GamRel w R P v xs w' ∧ xs.length ≤ 8

/-- a number of worlds and a book -/
def DrawBk (w : World) (e : Ending) (w' : World) : Prop := ∃ (x : Int) (v : Value) (qs : List Qt), e = .returned (.tuple #[.int .i64 x, v]) ∧ QOwn w' w.heap.size v qs ∧ qs.length ≤ 4 ∧ Below w.heap.size w w'

/-- a number of worlds, a book, and stakes -/
def DrawBal (w : World) (e : Ending) (w' : World) : Prop := ∃ (x : Int) (v u : Value) (qs : List Qt) (ss : List Int), e = .returned (.tuple #[.int .i64 x, v, u]) ∧ QOwn w' w.heap.size v qs ∧ IOwn w' w.heap.size u ss ∧ qs.length ≤ 4 ∧ ss.length ≤ 8 ∧ Below w.heap.size w w'

end Go.Proofs.Yteljcicdibbhdaa
