/- What is drawn in chapter 13: l20Bids, DrawBidsOk, DrawFitsSides, DrawSidesFair, DrawTakerGain, DrawWinningStakes, DrawSidesOn, DrawTightOk. Conditions: a row of bytes that came in. (gen_jf.py) -/
import Derived.Test.YtodmgcbcacblbaaJc
import Derived.Test.YtodmgcbcacblbaaDw
import Derived.Test.YtodmgcbcacblbaaDm
import Derived.Test.YtodmgcbcacblbaaRh
import Derived.Deep.DeepCutAuto
namespace Go.Proofs.Ytodmgcbcacblbaa
open Go.RowKit
set_option linter.unusedVariables false

theorem odd0_any (w : World) (v : Value) :
    Calls Try.prog 102 #[v, .int .i64 0] w fun e w' => e = .returned (.bool false) ∧ w = w' := by
  go_enter Try.func102, Try.ntmps102
  go_wp2_with fail
  go_ret
  exact ⟨rfl, rfl⟩

/-- a number of worlds that is one, and a book -/
def BookS (w : World) (R P : Nat) (e : Ending) (w' : World) : Prop := ∃ (n : Nat) (v : Value) (qs : List Qt), e = .returned (.tuple #[.int .i64 (n : Int), v]) ∧ (1 ≤ n ∧ n ≤ 4) ∧ QOwn w' w.heap.size v qs ∧ qs.length ≤ 3 ∧ DR w R P w'

set_option maxRecDepth 100000 in
set_option maxHeartbeats 100000000 in
theorem l20Book0_any (w : World) (R P : Nat) (hP : P ≤ 10000) (h : Rd w R P) :
    Calls Try.prog 101 #[.pointer (some ⟨R, 0, none⟩), .int .i64 0] w (BookS w R (P + 24)) := by
  have D0 := Lib.hid (DR.start h)
  clear h
  obtain ⟨i0, hi, hz0, hz1, hz2⟩ := info_parts Try_intinfo
  obtain ⟨j0, hj, hy0, hy1, hy2⟩ := info_parts Try_quoteinfo
  go_enter Try.func101, Try.ntmps101
  go_wp2_with fail
  refine (pick_any _ R P _ (by omega) D0.out.1).mono ?_
  rintro e w2 ⟨v1, rfl, ⟨p1, p2, -⟩, k1⟩
  have p2 := p2 (by decide)
  have D2 := Lib.hid (D0.out.picked k1)
  clear k1
  go_wp2_with fail
  refine (pick_any _ R (P + 1) _ (by omega) D2.out.1).mono ?_
  rintro e w3 ⟨v2, rfl, ⟨p3, p4, -⟩, k1⟩
  have p4 := p4 (by decide)
  have D3 := Lib.hid (D2.out.picked k1)
  clear k1 D0 D2
  go_upto_if 20 with fail
  go_cut [6] (fun s6 wx => ∃ n : Nat, s6 = .int .i64 (n : Int) ∧ 1 ≤ n ∧ n ≤ 4 ∧ wx = w3)
  case first =>
    obtain rfl | rfl : v2 = 0 ∨ v2 = 1 := by omega
    · go_wp2_with fail
      go_meet
      exact ⟨4, rfl, by omega, by omega, rfl⟩
    · go_wp2_with fail
      go_meet
      exact ⟨(1 + v1).toNat, by rw [Int.toNat_of_nonneg (by omega)], by omega, by omega, rfl⟩
  case rest =>
    obtain ⟨n, rfl, hn1, hn2, rfl⟩ := hcut
    clear p1 p2 p3 p4
    have D4 := Lib.hid (book_start D3.out)
    have hnI1 : (1 : Int) ≤ (n : Int) := by omega
    have hnI2 : (n : Int) ≤ 4 := by omega
    go_wp2_with (at_make; (generalize wc.alloc (.cells #[] 37) = w4 at D4 ⊢); refine wpList_make_full _ rfl _ _ 31 rfl w4.heap.size 3 i0 (.int .i64 0) 1 Try.underlying31 hi hz0 hz1 .i64 .i64 _ _ n rfl rfl rfl rfl ?b2 ?b3 (Nat.le_refl _) ?_)
    case b2 => first | omega | (rw [hz2]; omega)
    case b3 => unfold maxLen; omega
    intro w0 hown0 hgrow0
    obtain ⟨g, hg⟩ : ∃ g, w4.heap.size = g := ⟨_, rfl⟩
    obtain ⟨p0, hp0⟩ : ∃ p0, (Value.slice (some ⟨wc.heap.size, 0, none⟩) 0 0) = p0 := ⟨_, rfl⟩
    have H0 : Hid (BkRel w R (P + 2) g n p0 [] w0) := Lib.hid (by
      rw [← hg, ← hp0]
      exact book_made D4.out.1 D4.out.2 (by simpa [toList_madeCells_one, Value.cells] using hown0) hgrow0)
    rw [hp0, hg]
    clear hown0 hgrow0 D3 D4 hp0 hg
    go_wp2_with fail
    go_loopw [9] (fun i wr => ∃ (k Q : Nat), i = .int .i64 (k : Int) ∧ k ≤ 6 ∧ Q ≤ P + 2 + k ∧ Hid (BkRel w R Q g n p0 [] wr)) (fun i _ => 6 - (intOf i).toNat)
    case atStart => exact ⟨0, P + 2, rfl, by omega, by omega, H0⟩
    case round =>
      obtain ⟨k, Q, rfl, hk, hQ, HB⟩ := hrel
      clear H0
      by_cases hlt : k < 6
      · have hlt' : (k : Int) < 6 := by omega
        go_wp2_with fail
        refine (pick_any _ R Q _ (by omega) HB.out.1.1).mono ?_
        rintro e w5 ⟨v3, rfl, ⟨p1, p2, -⟩, k1⟩
        have p2 := p2 hnI1
        obtain ⟨j, rfl⟩ : ∃ j : Nat, v3 = j := ⟨v3.toNat, by omega⟩
        have HB5 := Lib.hid (HB.out.picked k1)
        clear k1 HB
        have hjn : j < n := by omega
        obtain ⟨⟨x, hcx⟩, hfx⟩ := HB5.out.grain hjn
        go_wp2_with fail
        go_roundw
        case rel => exact ⟨k + 1, Q + 1, by go_num, by omega, by omega, Lib.hid (HB5.out.lay j _)⟩
        case measure => simp [intOf]; omega
      · have hlt' : (6 : Int) ≤ (k : Int) := by omega
        have HB0 := Lib.hid (HB.out.mono (Q := P + 8) (by omega))
        clear HB
        go_wp2_with fail
        refine (pick_any _ R (P + 8) _ (by omega) HB0.out.1.1).mono ?_
        rintro e w5 ⟨v3, rfl, ⟨p1, p2, -⟩, k1⟩
        have HB5 := Lib.hid (HB0.out.picked k1)
        clear k1 HB0
        have p2 := p2 (by decide)
        obtain ⟨f, hf⟩ : ∃ f : Bool, decide (0 < v3) = f := ⟨_, rfl⟩
        go_wp2_with fail
        clear hf p1 p2
        refine (pick_any _ R (P + 9) _ (by omega) HB5.out.1.1).mono ?_
        rintro e w6 ⟨v4, rfl, ⟨p3, p4, -⟩, k1⟩
        have p4 := p4 (by decide)
        have HB6 := Lib.hid (HB5.out.picked k1)
        obtain ⟨r, rfl⟩ : ∃ r : Nat, v4 = r := ⟨v4.toNat, by omega⟩
        have hr3 : r ≤ 3 := by omega
        clear k1 HB5 p3 p4
        go_wp2_with fail
        go_loopw [7, 12] (fun p i wr => ∃ (k Q : Nat) (qs : List Qt), i = .int .i64 (k : Int) ∧ k ≤ 3 ∧ Q + 2 * k ≤ P + 17 ∧ qs.length + k ≤ 3 ∧ Hid (BkRel w R Q g n p qs wr)) (fun _ i _ => (intOf i).toNat)
        case atStart => exact ⟨r, P + 10, [], rfl, by omega, by omega, by simp; omega, HB6⟩
        case round =>
          obtain ⟨k, Q, qs, rfl, hk, hQ, hqs, HB⟩ := hrel
          clear HB6
          by_cases hlt : 0 < k
          · have hlt' : (0 : Int) < (k : Int) := by omega
            go_wp2_with fail
            refine (l20Quote_any _ R Q _ (by omega) HB.out.1.1 hnI1 hnI2).mono ?_
            rintro e w7 ⟨⟨e1, pr1⟩, rfl, d7⟩
            unfold qV
            have HL := Lib.hid ((HB.out.dr d7).loc (e1, pr1))
            clear d7 HB
            obtain ⟨hc0, hc1, hf0, hf1⟩ := HL.out.cells
            obtain ⟨k, rfl⟩ : ∃ k', k = k' + 1 := ⟨k - 1, by omega⟩
            go_upto_if 51 with fail
            generalize w7.alloc (.cells #[.int .i64 e1, .int .i64 pr1] 37) = w8 at HL hc0 hc1 hf0 hf1 ⊢
            generalize w7.heap.size = b at HL hc0 hc1 hf0 hf1 ⊢
            clear hc0 hc1 hf0 hf1
            cases f
            · skip
              obtain ⟨hc0, hc1, hf0, hf1⟩ := HL.out.cells
              have hown := Lib.hid (World.ownsRow.alloc (w := w8) (show w8.ownsRow w.heap.size 37 2 u7 qs.length (qs.flatMap qC) from HL.out.1.2.1) (.cells #[.int .i64 e1, .int .i64 pr1] 37))
              have hsz := HL.out.1.1.size
              go_wp2_with (at_builtin; refine wpList_append_own_at _ rfl _ _ 35 rfl w.heap.size 37 j0 (.agg #[.int .i64 0, .int .i64 0]) 2 16 Try.underlying35 hj hy0 hy1 hy2 rfl (by decide) _ _ _ rfl hown.out ⟨w8.heap.size, 0, none⟩ 1 1 [.int .i64 e1, .int .i64 pr1] rfl rfl ?mc1 two_one ?mc3 ?mc4 ?mc5 ?_)
              first | (case mc1 => exact World.news_of_block (heap_alloc_new w8 _)) | skip
              case mc3 => unfold maxLen; omega
              case mc4 => omega
              case mc5 => first | omega | (simp; omega)
              intro v' w' hown' hgrow _ hwhere
              have HN := Lib.hid (BkRel.append (wr := w8) HL.out.1 (show QOwn w' w.heap.size v' (qs ++ [(e1, pr1)]) from by simpa [GOwn, qC] using hown') (grown_after (w := w8) ((Below.refl _ w8).alloc (Nat.le_refl _) _) hgrow) (by rcases hwhere with h | h; exact .inl h; exact .inr (.inr (by simpa using h))))
              clear hown' hgrow hown hwhere
              go_wp2_with fail
              go_roundw
              case rel => exact ⟨k, Q + 2, qs ++ [(e1, pr1)], by go_num, by omega, by omega, by simp; omega, HN⟩
              case measure => simp [intOf] <;> omega
            · obtain ⟨hc0, hc1, hf0, hf1⟩ := HL.out.cells
              have HZ := Lib.hid (HL.out.price 0)
              go_wp2_with fail
              clear hc0 hc1 hf0 hf1 HL
              go_loopw [14] (fun i wr => ∃ (j : Nat) (pr : Int), i = .int .i64 (j : Int) ∧ j ≤ n ∧ Hid (BkLoc w R (Q + 2) g n u7 qs b (e1, pr) wr)) (fun i _ => n - (intOf i).toNat)
              case atStart => exact ⟨0, 0, rfl, Nat.zero_le _, HZ⟩
              case round =>
                obtain ⟨j, pr, rfl, hj2, HI⟩ := hrel
                clear HZ
                by_cases hjn : j < n
                · have hjn' : (j : Int) < (n : Int) := by omega
                  obtain ⟨hc0, hc1, hf0, hf1⟩ := HI.out.cells
                  obtain ⟨⟨x, hcx⟩, hfx⟩ := HI.out.1.grain hjn
                  obtain rfl | rfl | rfl | rfl : j = 0 ∨ j = 1 ∨ j = 2 ∨ j = 3 := by omega
                  all_goals
                    go_wp2_with fail
                    go_region
                    all_goals
                      go_wp2_with fail
                      go_roundw
                      case rel => first | exact ⟨1, _, rfl, by omega, by first | exact Lib.hid (HI.out.drew.price _) | exact Lib.hid (HI.out.price _).drew⟩ | exact ⟨2, _, rfl, by omega, by first | exact Lib.hid (HI.out.drew.price _) | exact Lib.hid (HI.out.price _).drew⟩ | exact ⟨3, _, rfl, by omega, by first | exact Lib.hid (HI.out.drew.price _) | exact Lib.hid (HI.out.price _).drew⟩ | exact ⟨4, _, rfl, by omega, by first | exact Lib.hid (HI.out.drew.price _) | exact Lib.hid (HI.out.price _).drew⟩
                      case measure => simp [intOf]; omega
                · skip
                  obtain ⟨hc0, hc1, hf0, hf1⟩ := HI.out.cells
                  have hown := Lib.hid (World.ownsRow.alloc (w := wr) (show wr.ownsRow w.heap.size 37 2 u7 qs.length (qs.flatMap qC) from HI.out.1.2.1) (.cells #[.int .i64 e1, .int .i64 pr] 37))
                  have hsz := HI.out.1.1.size
                  go_wp2_with (at_builtin; refine wpList_append_own_at _ rfl _ _ 35 rfl w.heap.size 37 j0 (.agg #[.int .i64 0, .int .i64 0]) 2 16 Try.underlying35 hj hy0 hy1 hy2 rfl (by decide) _ _ _ rfl hown.out ⟨wr.heap.size, 0, none⟩ 1 1 [.int .i64 e1, .int .i64 pr] rfl rfl ?nc1 two_one ?nc3 ?nc4 ?nc5 ?_)
                  first | (case nc1 => exact World.news_of_block (heap_alloc_new wr _)) | skip
                  case nc3 => unfold maxLen; omega
                  case nc4 => omega
                  case nc5 => first | omega | (simp; omega)
                  intro v' w' hown' hgrow _ hwhere
                  have HN := Lib.hid (BkRel.append (wr := wr) HI.out.1 (show QOwn w' w.heap.size v' (qs ++ [(e1, pr)]) from by simpa [GOwn, qC] using hown') (grown_after (w := wr) ((Below.refl _ wr).alloc (Nat.le_refl _) _) hgrow) (by rcases hwhere with h | h; exact .inl h; exact .inr (.inr (by simpa using h))))
                  clear hown' hgrow hown hwhere
                  go_wp2_with fail
                  go_roundw
                  case rel => exact ⟨k, Q + 2, qs ++ [(e1, pr)], by go_num, by omega, by omega, by simp; omega, HN⟩
                  case measure => simp [intOf] <;> omega
          · have hk0 : k = 0 := by omega
            subst hk0
            have HB' := Lib.hid (HB.out.mono (Q := P + 17) (by omega))
            clear HB
            have hq3 : qs.length ≤ 3 := by omega
            go_wp2_with fail
            refine (odd0_any _ _).mono ?_
            rintro e w9 ⟨rfl, rfl⟩
            go_wp2_with fail
            go_ret2
            exact ⟨n, _, _, rfl, ⟨hn1, hn2⟩, HB'.out.2.1, hq3, HB'.out.1.mono (by omega)⟩

/-- the reader has turned, and a row of bids lies behind w -/
def BiS (w : World) (R Q : Nat) (p : Value) (bs : List Bt) (wr : World) : Prop := DR w R Q wr ∧ BOwn wr w.heap.size p bs

theorem BiS.picked {w wr w' : World} {R P Q : Nat} {p : Value} {bs : List Bt} (h : BiS w R P p bs wr) (k : Picked R Q wr w') : BiS w R Q p bs w' :=
  ⟨h.1.picked k, h.2.dr ((DR.start h.1.1).picked k) h.1.2.2⟩

theorem BiS.drew {w wr : World} {R P : Nat} {p : Value} {bs : List Bt} (h : BiS w R P p bs wr) : BiS w R P p bs wr.drew := ⟨h.1.drew, h.2⟩

theorem BiS.mono {w wr : World} {R P Q : Nat} {p : Value} {bs : List Bt} (h : BiS w R P p bs wr) (hq : P ≤ Q) : BiS w R Q p bs wr := ⟨h.1.mono hq, h.2⟩

theorem three_one13 {a b c : Int} : ∀ u ∈ [Value.int .i64 a, .int .i64 b, .int .i64 c], u.oneCell' = true := by
  intro u hu
  simp only [List.mem_cons, List.not_mem_nil, or_false] at hu
  rcases hu with rfl | rfl | rfl <;> rfl

theorem three_new13 (w : World) (x y z : Value) (t : TypeId) : ∀ j u, [x, y, z][j]? = some u → (w.alloc (.cells #[x, y, z] t)).cell? ((⟨w.heap.size, 0, none⟩ : Addr).add j) = some u := by
  intro j u hj
  have h : ∀ i, (w.alloc (.cells #[x, y, z] t)).cell? ⟨w.heap.size, i, none⟩ = (#[x, y, z] : Array Value)[i]? := fun i => cell_of_row _ _ i _ t (0, 0) (heap_alloc_new w _)
  rw [addr_add, h]
  match j, hj with
  | 0, hj => exact hj
  | 1, hj => exact hj
  | 2, hj => exact hj
  | j + 3, hj => cases hj

theorem wp_app_b13 {ops : Array Oper} {rest : List Oper} {o : Oper} {a : Act} {Q : Exit → Act → World → Prop} (hgd : o.guard = none) (s x : Operand)
    (ho : o.op = .call { callee := .builtin .append, args := #[s, x], argTypes := #[23, 23] }) (w : World) (base : Nat) (v : Value) (bs : List Bt) (L : Nat) (hL : bs.length = L) (e l u : Int)
    (hs : a.eval s = v) (hown : BOwn w base v bs) (hx : a.eval x = .slice (some ⟨w.heap.size, 0, none⟩) 1 1)
    (h1 : L ≤ 1000000) (hb : base ≤ w.heap.size)
    (h : ∀ g c w', BOwn w' base (.slice (some ⟨g, 0, none⟩) (L + 1) c) (bs ++ [(e, l, u)]) → w.grownBy w' v.ownBlock → wpList Try.prog ops Q rest (a.put o.dst (.slice (some ⟨g, 0, none⟩) (L + 1) c)) w') :
    wpList Try.prog ops Q (o :: rest) a (w.alloc (.cells #[.int .i64 e, .int .i64 l, .int .i64 u] 28)) := by
  subst hL
  obtain ⟨j0, hj, hy0, hy1, hy2⟩ := info_parts Try_bidinfo
  have hown2 : (w.alloc (.cells #[.int .i64 e, .int .i64 l, .int .i64 u] 28)).ownsRow base 28 3 v bs.length (bs.flatMap bC) := World.ownsRow.alloc hown _
  refine wpList_append_own_at _ hgd s x 23 ho base 28 j0 (.agg #[.int .i64 0, .int .i64 0, .int .i64 0]) 3 24 Try.underlying23 hj hy0 hy1 hy2 rfl (by decide) v bs.length (bs.flatMap bC) hs hown2 ⟨w.heap.size, 0, none⟩ 1 1 [.int .i64 e, .int .i64 l, .int .i64 u] hx rfl (three_new13 w _ _ _ _) three_one13 (by unfold maxLen; omega) (by omega) (by simp; omega) ?_
  intro v' w' k1 k2 k3 k4
  have hl : (bs ++ [(e, l, u)]).length = bs.length + 1 := by simp
  obtain ⟨g, c, hv, -⟩ : ∃ g c, v' = .slice (some ⟨g, 0, none⟩) (bs.length + 1) c ∧ True := by
    rcases k1.2 with ⟨-, hz⟩ | ⟨g, cap, cur, e, -⟩
    · omega
    · exact ⟨g, cap, e, trivial⟩
  subst hv
  refine h g c w' ?_ (grown_after (w := w) ((Below.refl _ w).alloc (Nat.le_refl _) _) k2)
  unfold BOwn GOwn
  rw [hl, List.flatMap_append]
  exact k1

theorem grow_far13 {w wr w' : World} {R : Nat} {row : Option Nat} (h : w.grownBy wr (some R)) (hg : wr.grownBy w' row) (hr : ∀ g, row = some g → w.heap.size ≤ g) : w.grownBy w' (some R) :=
  ⟨hg.os.trans h.os, hg.tape.trans h.tape, hg.output.trans h.output, Nat.le_trans h.size hg.size, fun i hi hne => (hg.block i (Nat.lt_of_lt_of_le hi h.size) (fun e => by have := hr i e.symm; omega)).trans (h.block i hi hne)⟩

theorem BiS.append {w wr w' : World} {R Q : Nat} {p p' : Value} {bs ys : List Bt} (h : BiS w R Q p bs wr) (ho : BOwn w' w.heap.size p' ys) (hg : wr.grownBy w' p.ownBlock) : BiS w R Q p' ys w' := by
  obtain ⟨⟨h1, h2, h3⟩, h4⟩ := h
  have hge := h4.ge
  exact ⟨⟨h1.grown hg (fun g hg' => by have := (hge g hg').1; omega), grow_far13 h2 hg (fun g hg' => (hge g hg').1), h3⟩, ho⟩

theorem BiS.start {w : World} {R P : Nat} (h : Rd w R P) : BiS w R P (.slice (some ⟨w.heap.size, 0, none⟩) 0 0) [] (w.alloc (.cells #[] 28)) := by
  refine ⟨(DR.start h).alloc _, ?_⟩
  have k := World.ownsRow_lit w #[] 0 (e := 28) (base := w.heap.size) (size := 3) (Nat.le_refl _) (by unfold maxLen; omega) rfl
  simpa [GOwn] using k

/-- a number of worlds, and bids -/
def BidsR (w : World) (R P : Nat) (e : Ending) (w' : World) : Prop := ∃ (n : Nat) (v : Value) (bs : List Bt), e = .returned (.tuple #[.int .i64 (n : Int), v]) ∧ (1 ≤ n ∧ n ≤ 4) ∧ BOwn w' w.heap.size v bs ∧ bs.length ≤ 4 ∧ DR w R P w'

theorem bids_ret {w w1 w' : World} {R P Q T n : Nat} {v : Value} {bs : List Bt} (h1 : DR w R P w1) (h : BiS w1 R Q v bs w') (hn1 : 1 ≤ n) (hn2 : n ≤ 4) (hl : bs.length ≤ 4) (hQ : Q ≤ T) : BidsR w R T (.returned (.tuple #[.int .i64 (n : Int), v])) w' :=
  ⟨n, v, bs, rfl, ⟨hn1, hn2⟩, h.2.base h1.2.1.size, hl, (h1.trans h.1).mono hQ⟩

set_option maxRecDepth 100000 in
set_option maxHeartbeats 16000000 in
theorem l20Bids_any (w : World) (R P : Nat) (m : Int) (hP : P ≤ 9000) (h : Rd w R P) (m1 : 1 ≤ m) (m2 : m ≤ 1000) :
    Calls Try.prog 55 #[.pointer (some ⟨R, 0, none⟩), .int .i64 m] w (BidsR w R (P + 40)) := by
  go_enter Try.func55, Try.ntmps55
  go_wp2_with fail
  refine (l20Book0_any _ R P (by omega) h).mono ?_
  rintro e w1 ⟨n, qv, qs, rfl, ⟨hn1, hn2⟩, oq, hq3, d1⟩
  have D1 := Lib.hid d1
  have hR : R < w.heap.size := d1.2.2
  obtain ⟨AQ, cq, rfl, hlq, hmq⟩ := (oq.rd qC_len).form
  have HQ : Hid (∀ wr Q, DR w1 R Q wr → QRd wr (.slice AQ qs.length cq) qs) := Lib.hid (fun wr Q k => (oq.dr k hR).rd qC_len)
  have H0 := Lib.hid (BiS.start d1.1)
  clear oq d1 h
  go_wp2_with fail
  go_loopw [8, 9] (fun p c wr => ∃ (k Q : Nat) (bs : List Bt), c = .int .i64 (k : Int) ∧ k ≤ qs.length ∧ Q ≤ P + 24 + 3 * k ∧ Hid (bs.length = k) ∧ Hid (BiS w1 R Q p bs wr)) (fun _ c _ => qs.length - (intOf c).toNat)
  case atStart => exact ⟨0, P + 24, [], rfl, Nat.zero_le _, by omega, Lib.hid rfl, H0⟩
  case round =>
    obtain ⟨k, Q, bs, rfl, hk, hQ, HL, HR⟩ := hrel
    clear H0
    by_cases hlt : k < qs.length
    · have hlt' : (k : Int) < (qs.length : Int) := by omega
      have hk0 : (0 : Int) ≤ (k : Int) := by omega
      obtain ⟨b, off, ⟨qe, pr⟩, rfl, -, hx, -, -⟩ := QRd.at_ (HQ.out wr Q HR.out.1) hlt
      have HC : Hid (∀ w' T, DR w1 R T w' → w'.cell? ⟨b, off + k * 2, none⟩ = some (.int .i64 qe) ∧ w'.cell? ⟨b, off + k * 2 + 1, none⟩ = some (.int .i64 pr)) := Lib.hid (fun w' T hd => QRd.cell (HQ.out w' T hd) hx)
      clear hx
      go_upto_region 6 with fail
      go_cut [10] (fun s wx => ∃ lo : Int, s = .int .i64 lo ∧ BiS w1 R (Q + 1) u8 bs wx)
      case first =>
        have s0 : BiS w1 R Q u8 bs wr.drew := HR.out.drew
        have hc1 := (HC.out wr.drew _ s0.1).2
        refine wp_region_held_drew (S := fun w' => w'.cell? ⟨b, off + k * 2 + 1, none⟩ = some (.int .i64 pr)) (by kernel_rfl) hc1 (fun hHeld => ?_)
        refine take_in (i := 0) (v := ?_) rfl (by kernel_rfl) (fun _ _ _ h => h) rfl ?_ hHeld ?_
        rotate_left
        · intro w' hSw; go_simp; all_goals with_reducible rfl
        try simp only [Act.put, List.setIfInBounds_toArray, List.set_cons_zero, List.set_cons_succ]
        refine take_in (i := 1) (v := ?_) rfl (by kernel_rfl) (fun _ _ _ h => h) rfl ?_ hHeld ?_
        rotate_left
        · intro w' hSw; go_simp; all_goals with_reducible rfl
        try simp only [Act.put, List.setIfInBounds_toArray, List.set_cons_zero, List.set_cons_succ]
        refine take_in (i := 2) (v := ?_) rfl (by kernel_rfl) (fun _ _ _ h => h) rfl ?_ hHeld ?_
        rotate_left
        · intro w' hSw; go_simp; all_goals with_reducible rfl
        try simp only [Act.put, List.setIfInBounds_toArray, List.set_cons_zero, List.set_cons_succ]
        refine take_in (i := 3) (v := ?_) rfl (by kernel_rfl) (fun _ _ _ h => h) rfl ?_ hHeld ?_
        rotate_left
        · intro w' hSw; go_simp; all_goals with_reducible rfl
        try simp only [Act.put, List.setIfInBounds_toArray, List.set_cons_zero, List.set_cons_succ]
        refine take_in (i := 4) (v := ?_) rfl (by kernel_rfl) (fun _ _ _ h => h) rfl ?_ hHeld ?_
        rotate_left
        · intro w' hSw; have d0 := hSw; go_simp; all_goals with_reducible rfl
        try simp only [Act.put, List.setIfInBounds_toArray, List.set_cons_zero, List.set_cons_succ]
        refine take_in (i := 5) (v := ?_) rfl (by kernel_rfl) (fun _ _ _ h => h) rfl ?_ hHeld ?_
        rotate_left
        · intro w' hSw; go_simp; all_goals with_reducible rfl
        try simp only [Act.put, List.setIfInBounds_toArray, List.set_cons_zero, List.set_cons_succ]
        refine ready_one (i := 6) rfl (by kernel_rfl) (fun K hK => ?_)
        go_simp
        go_at_call 78
        refine (pick_any wr.drew R (Q) _ (by omega) s0.1.1).mono ?_
        rintro e x1 ⟨v1, rfl, -, k1⟩
        have s1 := s0.picked k1
        refine hK.out _ x1 (HC.out x1 _ s1.1).2 (fun hHeld => ?_)
        clear hK K k1
        try simp only [Act.put, List.setIfInBounds_toArray, List.set_cons_zero, List.set_cons_succ]
        obtain ⟨z, hz⟩ : ∃ z, IntKind.i64.wrap (pr - v1) = z := ⟨_, rfl⟩
        by_cases hmx : z < 0
        · refine take_in (i := 7) (v := ?_) rfl (by kernel_rfl) (fun _ _ _ h => h) rfl ?_ hHeld ?_
          rotate_left
          · intro w' hSw; go_simp; all_goals with_reducible rfl
          try simp only [Act.put, List.setIfInBounds_toArray, List.set_cons_zero, List.set_cons_succ]
          refine take_in (i := 8) (v := ?_) rfl (by kernel_rfl) (fun _ _ _ h => h) rfl ?_ hHeld ?_
          rotate_left
          · intro w' hSw; go_simp; all_goals with_reducible rfl
          try simp only [Act.put, List.setIfInBounds_toArray, List.set_cons_zero, List.set_cons_succ]
          refine take_in (i := 9) (v := ?_) rfl (by kernel_rfl) (fun _ _ _ h => h) rfl ?_ hHeld ?_
          rotate_left
          · intro w' hSw; go_simp; all_goals with_reducible rfl
          try simp only [Act.put, List.setIfInBounds_toArray, List.set_cons_zero, List.set_cons_succ]
          refine wpAnyH_done (by kernel_rfl) ?_ _
          go_wp2
          go_meet
          exact ⟨_, rfl, s1⟩
        · have hmx' : 0 ≤ z := by omega
          refine take_in (i := 7) (v := ?_) rfl (by kernel_rfl) (fun _ _ _ h => h) rfl ?_ hHeld ?_
          rotate_left
          · intro w' hSw; go_simp; all_goals with_reducible rfl
          try simp only [Act.put, List.setIfInBounds_toArray, List.set_cons_zero, List.set_cons_succ]
          refine take_in (i := 8) (v := ?_) rfl (by kernel_rfl) (fun _ _ _ h => h) rfl ?_ hHeld ?_
          rotate_left
          · intro w' hSw; go_simp; all_goals with_reducible rfl
          try simp only [Act.put, List.setIfInBounds_toArray, List.set_cons_zero, List.set_cons_succ]
          refine take_in (i := 9) (v := ?_) rfl (by kernel_rfl) (fun _ _ _ h => h) rfl ?_ hHeld ?_
          rotate_left
          · intro w' hSw; go_simp; all_goals with_reducible rfl
          try simp only [Act.put, List.setIfInBounds_toArray, List.set_cons_zero, List.set_cons_succ]
          refine wpAnyH_done (by kernel_rfl) ?_ _
          go_wp2
          go_meet
          exact ⟨_, rfl, s1⟩
      case rest =>
        obtain ⟨lo, rfl, hbi⟩ := hcut
        have HR2 := Lib.hid hbi
        clear hbi HR
        go_upto_region 7 with fail
        go_cut [11] (fun s wx => ∃ hi : Int, s = .int .i64 hi ∧ BiS w1 R (Q + 2) u8 bs wx)
        case first =>
          have s0 : BiS w1 R (Q + 1) u8 bs wc.drew := HR2.out.drew
          have hc1 := (HC.out wc.drew _ s0.1).2
          refine wp_region_held_drew (S := fun w' => w'.cell? ⟨b, off + k * 2 + 1, none⟩ = some (.int .i64 pr)) (by kernel_rfl) hc1 (fun hHeld => ?_)
          refine take_in (i := 0) (v := ?_) rfl (by kernel_rfl) (fun _ _ _ h => h) rfl ?_ hHeld ?_
          rotate_left
          · intro w' hSw; go_simp; all_goals with_reducible rfl
          try simp only [Act.put, List.setIfInBounds_toArray, List.set_cons_zero, List.set_cons_succ]
          refine take_in (i := 1) (v := ?_) rfl (by kernel_rfl) (fun _ _ _ h => h) rfl ?_ hHeld ?_
          rotate_left
          · intro w' hSw; go_simp; all_goals with_reducible rfl
          try simp only [Act.put, List.setIfInBounds_toArray, List.set_cons_zero, List.set_cons_succ]
          refine take_in (i := 2) (v := ?_) rfl (by kernel_rfl) (fun _ _ _ h => h) rfl ?_ hHeld ?_
          rotate_left
          · intro w' hSw; go_simp; all_goals with_reducible rfl
          try simp only [Act.put, List.setIfInBounds_toArray, List.set_cons_zero, List.set_cons_succ]
          refine take_in (i := 3) (v := ?_) rfl (by kernel_rfl) (fun _ _ _ h => h) rfl ?_ hHeld ?_
          rotate_left
          · intro w' hSw; go_simp; all_goals with_reducible rfl
          try simp only [Act.put, List.setIfInBounds_toArray, List.set_cons_zero, List.set_cons_succ]
          refine take_in (i := 4) (v := ?_) rfl (by kernel_rfl) (fun _ _ _ h => h) rfl ?_ hHeld ?_
          rotate_left
          · intro w' hSw; have d0 := hSw; go_simp; all_goals with_reducible rfl
          try simp only [Act.put, List.setIfInBounds_toArray, List.set_cons_zero, List.set_cons_succ]
          refine take_in (i := 5) (v := ?_) rfl (by kernel_rfl) (fun _ _ _ h => h) rfl ?_ hHeld ?_
          rotate_left
          · intro w' hSw; go_simp; all_goals with_reducible rfl
          try simp only [Act.put, List.setIfInBounds_toArray, List.set_cons_zero, List.set_cons_succ]
          refine ready_one (i := 6) rfl (by kernel_rfl) (fun K hK => ?_)
          go_simp
          go_at_call 78
          refine (pick_any wc.drew R (Q + 1) _ (by omega) s0.1.1).mono ?_
          rintro e x1 ⟨v1, rfl, -, k1⟩
          have s1 := s0.picked k1
          refine hK.out _ x1 (HC.out x1 _ s1.1).2 (fun hHeld => ?_)
          clear hK K k1
          try simp only [Act.put, List.setIfInBounds_toArray, List.set_cons_zero, List.set_cons_succ]
          obtain ⟨z, hz⟩ : ∃ z, IntKind.i64.wrap (pr + v1) = z := ⟨_, rfl⟩
          by_cases hmx : 6 < z
          · refine take_in (i := 7) (v := ?_) rfl (by kernel_rfl) (fun _ _ _ h => h) rfl ?_ hHeld ?_
            rotate_left
            · intro w' hSw; go_simp; all_goals with_reducible rfl
            try simp only [Act.put, List.setIfInBounds_toArray, List.set_cons_zero, List.set_cons_succ]
            refine take_in (i := 8) (v := ?_) rfl (by kernel_rfl) (fun _ _ _ h => h) rfl ?_ hHeld ?_
            rotate_left
            · intro w' hSw; go_simp; all_goals with_reducible rfl
            try simp only [Act.put, List.setIfInBounds_toArray, List.set_cons_zero, List.set_cons_succ]
            refine take_in (i := 9) (v := ?_) rfl (by kernel_rfl) (fun _ _ _ h => h) rfl ?_ hHeld ?_
            rotate_left
            · intro w' hSw; go_simp; all_goals with_reducible rfl
            try simp only [Act.put, List.setIfInBounds_toArray, List.set_cons_zero, List.set_cons_succ]
            refine wpAnyH_done (by kernel_rfl) ?_ _
            go_wp2
            go_meet
            exact ⟨_, rfl, s1⟩
          · have hmx' : z ≤ 6 := by omega
            refine take_in (i := 7) (v := ?_) rfl (by kernel_rfl) (fun _ _ _ h => h) rfl ?_ hHeld ?_
            rotate_left
            · intro w' hSw; go_simp; all_goals with_reducible rfl
            try simp only [Act.put, List.setIfInBounds_toArray, List.set_cons_zero, List.set_cons_succ]
            refine take_in (i := 8) (v := ?_) rfl (by kernel_rfl) (fun _ _ _ h => h) rfl ?_ hHeld ?_
            rotate_left
            · intro w' hSw; go_simp; all_goals with_reducible rfl
            try simp only [Act.put, List.setIfInBounds_toArray, List.set_cons_zero, List.set_cons_succ]
            refine take_in (i := 9) (v := ?_) rfl (by kernel_rfl) (fun _ _ _ h => h) rfl ?_ hHeld ?_
            rotate_left
            · intro w' hSw; go_simp; all_goals with_reducible rfl
            try simp only [Act.put, List.setIfInBounds_toArray, List.set_cons_zero, List.set_cons_succ]
            refine wpAnyH_done (by kernel_rfl) ?_ _
            go_wp2
            go_meet
            exact ⟨_, rfl, s1⟩
        case rest =>
          obtain ⟨hi, rfl, hbi⟩ := hcut
          have HR3 := Lib.hid hbi
          clear hbi HR2
          go_wp2_with fail
          refine (pick_any _ R (Q + 2) _ (by omega) HR3.out.1.1).mono ?_
          rintro e w5 ⟨v4, rfl, ⟨p1, p2, -⟩, k1⟩
          have p2 := p2 (by decide)
          have H5 := Lib.hid (HR3.out.picked k1)
          clear k1 HR3
          obtain ⟨hcell0, -⟩ := HC.out w5 _ H5.out.1
          rcases Bool.eq_false_or_eq_true (v4 == 0) with hv0 | hv0
          · obtain ⟨z, hz⟩ : ∃ z, IntKind.i64.wrap (lo + 2) = z := ⟨_, rfl⟩
            by_cases hmn : hi < z
            · go_wp2_with (at_builtin; refine wp_app_b13 rfl _ _ rfl w5 w1.heap.size _ bs k HL.out _ _ _ (by rfl) H5.out.2 (by rfl) (by omega) H5.out.1.2.1.size ?_)
              intro g c w' hown' hgrow
              have HN := Lib.hid (H5.out.append hown' hgrow)
              clear hown' hgrow H5
              go_wp2_with fail
              go_roundw
              case rel => exact ⟨k + 1, Q + 3, _, by go_num, by omega, by omega, Lib.hid (by rw [List.length_append, HL.out]; rfl), HN⟩
              case measure => simp [intOf]; omega
            · have hmn' : z ≤ hi := by omega
              go_wp2_with (at_builtin; refine wp_app_b13 rfl _ _ rfl w5 w1.heap.size _ bs k HL.out _ _ _ (by rfl) H5.out.2 (by rfl) (by omega) H5.out.1.2.1.size ?_)
              intro g c w' hown' hgrow
              have HN := Lib.hid (H5.out.append hown' hgrow)
              clear hown' hgrow H5
              go_wp2_with fail
              go_roundw
              case rel => exact ⟨k + 1, Q + 3, _, by go_num, by omega, by omega, Lib.hid (by rw [List.length_append, HL.out]; rfl), HN⟩
              case measure => simp [intOf]; omega
          · go_wp2_with (at_builtin; refine wp_app_b13 rfl _ _ rfl w5 w1.heap.size _ bs k HL.out _ _ _ (by rfl) H5.out.2 (by rfl) (by omega) H5.out.1.2.1.size ?_)
            intro g c w' hown' hgrow
            have HN := Lib.hid (H5.out.append hown' hgrow)
            clear hown' hgrow H5
            go_wp2_with fail
            go_roundw
            case rel => exact ⟨k + 1, Q + 3, _, by go_num, by omega, by omega, Lib.hid (by rw [List.length_append, HL.out]; rfl), HN⟩
            case measure => simp [intOf]; omega
    · obtain rfl : k = qs.length := by omega
      have hlt' : decide ((qs.length : Int) < (qs.length : Int)) = false := by simp
      go_wp2_with fail
      refine (odd_any _ R Q m m1 (by omega) (by omega) HR.out.1.1).mono ?_
      rintro e w9 ⟨bo, rfl, k1⟩
      have H9 := Lib.hid (HR.out.picked k1)
      clear k1 HR
      cases bo
      · go_wp2_with fail
        go_ret2
        exact bids_ret D1.out H9.out hn1 hn2 (by have := HL.out; omega) (by omega)
      · go_wp2_with fail
        refine (pick_any _ R (Q + 1) _ (by omega) H9.out.1.1).mono ?_
        rintro e w10 ⟨v5, rfl, ⟨p1, p2, -⟩, k1⟩
        have p2 := p2 (by decide)
        have H10 := Lib.hid (H9.out.picked k1)
        clear k1 H9
        obtain rfl | rfl : v5 = 0 ∨ v5 = 1 := by omega
        · go_wp2_with (at_builtin; refine wp_app_b13 rfl _ _ rfl w10 w1.heap.size _ bs qs.length HL.out _ _ _ (by rfl) H10.out.2 (by rfl) (by omega) H10.out.1.2.1.size ?_)
          intro g c w' hown' hgrow
          have HN := Lib.hid (H10.out.append hown' hgrow)
          clear hown' hgrow H10
          go_wp2_with fail
          go_ret2
          exact bids_ret D1.out HN.out hn1 hn2 (by rw [List.length_append, HL.out]; simp; omega) (by omega)
        · go_wp2_with (at_builtin; refine wp_app_b13 rfl _ _ rfl w10 w1.heap.size _ bs qs.length HL.out _ _ _ (by rfl) H10.out.2 (by rfl) (by omega) H10.out.1.2.1.size ?_)
          intro g c w' hown' hgrow
          have HN := Lib.hid (H10.out.append hown' hgrow)
          clear hown' hgrow H10
          go_wp2_with fail
          go_ret2
          exact bids_ret D1.out HN.out hn1 hn2 (by rw [List.length_append, HL.out]; simp; omega) (by omega)

/-- a number of worlds and bids, which may be the first of more -/
def DrawBiT (w : World) (e : Ending) (w' : World) : Prop := ∃ (n : Nat) (v : Value) (bs : List Bt), e = .returned (.tuple #[.int .i64 (n : Int), v]) ∧ (1 ≤ n ∧ n ≤ 4) ∧ BRd w' v bs ∧ bs.length ≤ 4 ∧ Below w.heap.size w w'

theorem below_gam {w w' : World} {R P : Nat} {v : Value} {xs : List Int} (h : GamRel w R P v xs w') : Below R w w' :=
  ⟨h.2.2.1.os, h.2.2.1.tape, h.2.2.1.output, h.2.2.1.size, fun k hk => h.2.2.1.block k (by have := h.2.2.2; omega) (fun e => by injection e with e; omega)⟩

theorem DR.below_ {w w' : World} {R P : Nat} (h : Rd w R P) (hb : Below w.heap.size w w') : DR w R P w' :=
  ⟨h.keep hb.size (fun b hlt => hb.block b hlt), ⟨hb.os, hb.tape, hb.output, hb.size, fun i hi _ => hb.block i hi⟩, h.lt⟩

theorem IOwn.dr_ {w w' : World} {R P : Nat} {v : Value} {xs : List Int} (h : IOwn w R v xs) (hne : ∀ g, v.ownBlock = some g → g ≠ R) (k : DR w R P w') : IOwn w' R v xs := by
  refine h.keep (SameAt.of_grown k.2.1 ?_)
  rcases hv : v.ownBlock with _ | g
  · exact .inl rfl
  · refine .inr fun e => ?_
    injection e with e
    exact hne g hv e

theorem GRd.take13 {α : Type} {c : Nat} {enc : α → List Value} {w : World} {A : Option Addr} {n cp : Nat} {xs : List α} (h : GRd c enc w (.slice A n cp) xs) {k : Nat} (hk : k ≤ n) : GRd c enc w (.slice A k cp) (xs.take k) := by
  obtain ⟨A', cp', e, hl, hm, hc⟩ := h
  injection e with e1 e2 e3
  subst e1
  subst e3
  have hlen : (xs.take k).length = k := by rw [List.length_take]; omega
  refine ⟨A, cp, by rw [hlen], by omega, hm, fun h0 => ?_⟩
  obtain ⟨b, off, e, hb, hcell⟩ := hc (by omega)
  refine ⟨b, off, e, hb, fun i x hx j u hu => hcell i x ?_ j u hu⟩
  rw [List.getElem?_take] at hx
  split at hx
  · exact hx
  · cases hx

theorem win_len (n : Int) (bs : List Bt) : (winR n bs).length ≤ 3 := by
  rw [winR]
  cases h : winning n bs with
  | none => simp
  | some ss =>
    obtain ⟨hb, h1, -⟩ := winning_some h
    have := ((bidsB_iff _ _).1 hb).2.1
    simp; omega

/-- a number of worlds and bids -/
def DrawBi (w : World) (e : Ending) (w' : World) : Prop := ∃ (n : Nat) (v : Value) (bs : List Bt), e = .returned (.tuple #[.int .i64 (n : Int), v]) ∧ (1 ≤ n ∧ n ≤ 4) ∧ BOwn w' w.heap.size v bs ∧ bs.length ≤ 4 ∧ Below w.heap.size w w'

/-- a measure and bids -/
def DrawMeaBi (w : World) (e : Ending) (w' : World) : Prop := ∃ (v u : Value) (xs : List Int) (bs : List Bt), e = .returned (.tuple #[v, u]) ∧ IOwn w' w.heap.size v xs ∧ xs.length ≤ 4 ∧ Bnd 37 xs ∧ BOwn w' w.heap.size u bs ∧ bs.length ≤ 4 ∧ Below w.heap.size w w'

/-- a number of worlds, bids and stakes -/
def DrawBiSt (w : World) (e : Ending) (w' : World) : Prop := ∃ (n : Nat) (v u : Value) (bs : List Bt) (ss : List Int), e = .returned (.tuple #[.int .i64 (n : Int), v, u]) ∧ (1 ≤ n ∧ n ≤ 4) ∧ BOwn w' w.heap.size v bs ∧ bs.length ≤ 4 ∧ IOwn w' w.heap.size u ss ∧ ss.length ≤ 8 ∧ Below w.heap.size w w'

/-- a number of worlds, bids and an event -/
def DrawBiEv (w : World) (e : Ending) (w' : World) : Prop := ∃ (n : Nat) (v : Value) (bs : List Bt) (x : Int), e = .returned (.tuple #[.int .i64 (n : Int), v, .int .i64 x]) ∧ (1 ≤ n ∧ n ≤ 4) ∧ BOwn w' w.heap.size v bs ∧ bs.length ≤ 4 ∧ (0 ≤ x ∧ x ≤ 100) ∧ Below w.heap.size w w'

set_option maxRecDepth 100000 in
set_option maxHeartbeats 4000000 in
theorem drawBidsOk_any (w : World) (a : Option Addr) (len cap : Nat) (zs : List Int) (h : IsRowC .u8 w a len cap zs) :
    Calls Try.prog 17 #[.slice a len cap] w (DrawBi w) := by
  go_enter Try.func17, Try.ntmps17
  go_wp2_with fail
  refine (open_at _ w.heap.size a len cap zs rfl h).mono ?_
  rintro e w1 ⟨rfl, d1, b1, s1⟩
  have D1 := Lib.hid d1
  have B1 := Lib.hid b1
  clear d1 b1 h
  go_wp2_with fail
  refine (l20Bids_any _ w.heap.size 0 3 (by decide) D1.out.1 (by decide) (by decide)).mono ?_
  rintro e w2 ⟨n, v, bs, rfl, ⟨n1, n4⟩, o2, hl, d2⟩
  have hRlt : w.heap.size < w1.heap.size := by omega
  have B2 := Lib.hid (below_dr B1.out d2 (Nat.le_refl _))
  have D2 := Lib.hid d2
  have O2 := Lib.hid o2
  clear o2 d2 D1
  go_wp2_with fail
  go_ret2
  exact ⟨n, v, bs, rfl, ⟨n1, n4⟩, O2.out.base B1.out.size, hl, B2.out⟩

set_option maxRecDepth 100000 in
set_option maxHeartbeats 4000000 in
theorem drawSidesFair_any (w : World) (a : Option Addr) (len cap : Nat) (zs : List Int) (h : IsRowC .u8 w a len cap zs) :
    Calls Try.prog 26 #[.slice a len cap] w (DrawBi w) := by
  go_enter Try.func26, Try.ntmps26
  go_wp2_with fail
  refine (open_at _ w.heap.size a len cap zs rfl h).mono ?_
  rintro e w1 ⟨rfl, d1, b1, s1⟩
  have D1 := Lib.hid d1
  have B1 := Lib.hid b1
  clear d1 b1 h
  go_wp2_with fail
  refine (l20Bids_any _ w.heap.size 0 12 (by decide) D1.out.1 (by decide) (by decide)).mono ?_
  rintro e w2 ⟨n, v, bs, rfl, ⟨n1, n4⟩, o2, hl, d2⟩
  have hRlt : w.heap.size < w1.heap.size := by omega
  have B2 := Lib.hid (below_dr B1.out d2 (Nat.le_refl _))
  have D2 := Lib.hid d2
  have O2 := Lib.hid o2
  clear o2 d2 D1
  go_wp2_with fail
  go_ret2
  exact ⟨n, v, bs, rfl, ⟨n1, n4⟩, O2.out.base B1.out.size, hl, B2.out⟩

set_option maxRecDepth 100000 in
set_option maxHeartbeats 4000000 in
theorem drawWinningStakes_any (w : World) (a : Option Addr) (len cap : Nat) (zs : List Int) (h : IsRowC .u8 w a len cap zs) :
    Calls Try.prog 35 #[.slice a len cap] w (DrawBi w) := by
  go_enter Try.func35, Try.ntmps35
  go_wp2_with fail
  refine (open_at _ w.heap.size a len cap zs rfl h).mono ?_
  rintro e w1 ⟨rfl, d1, b1, s1⟩
  have D1 := Lib.hid d1
  have B1 := Lib.hid b1
  clear d1 b1 h
  go_wp2_with fail
  refine (l20Bids_any _ w.heap.size 0 12 (by decide) D1.out.1 (by decide) (by decide)).mono ?_
  rintro e w2 ⟨n, v, bs, rfl, ⟨n1, n4⟩, o2, hl, d2⟩
  have hRlt : w.heap.size < w1.heap.size := by omega
  have B2 := Lib.hid (below_dr B1.out d2 (Nat.le_refl _))
  have D2 := Lib.hid d2
  have O2 := Lib.hid o2
  clear o2 d2 D1
  go_wp2_with fail
  go_ret2
  exact ⟨n, v, bs, rfl, ⟨n1, n4⟩, O2.out.base B1.out.size, hl, B2.out⟩

set_option maxRecDepth 100000 in
set_option maxHeartbeats 4000000 in
theorem drawFitsSides_any (w : World) (a : Option Addr) (len cap : Nat) (zs : List Int) (h : IsRowC .u8 w a len cap zs) :
    Calls Try.prog 22 #[.slice a len cap] w (DrawMeaBi w) := by
  go_enter Try.func22, Try.ntmps22
  go_wp2_with fail
  refine (open_at _ w.heap.size a len cap zs rfl h).mono ?_
  rintro e w1 ⟨rfl, d1, b1, s1⟩
  have D1 := Lib.hid d1
  have B1 := Lib.hid b1
  clear d1 b1 h
  go_wp2_with fail
  refine (l20Bids_any _ w.heap.size 0 14 (by decide) D1.out.1 (by decide) (by decide)).mono ?_
  rintro e w2 ⟨n, v, bs, rfl, ⟨n1, n4⟩, o2, hl, d2⟩
  have hRlt : w.heap.size < w1.heap.size := by omega
  have B2 := Lib.hid (below_dr B1.out d2 (Nat.le_refl _))
  have D2 := Lib.hid d2
  have O2 := Lib.hid o2
  clear o2 d2 D1
  go_wp2_with fail
  refine (l20Measure_any _ w.heap.size 40 (n : Int) 14 (by decide) D2.out.1 (by omega) (by omega) (by decide) (by decide)).mono ?_
  rintro e w3 ⟨u, xs, rfl, g3, hx4, hbnd⟩
  have B3 := Lib.hid (B2.out.trans (below_gam g3))
  have O3 := Lib.hid (O2.out.dr ⟨g3.1, g3.2.2.1, g3.2.2.2⟩ hRlt)
  have G3 := Lib.hid (g3.2.1.base (Nat.le_trans B2.out.size (Nat.le_refl _)))
  clear g3
  go_wp2_with fail
  go_ret2
  exact ⟨u, v, xs, bs, rfl, G3.out, hx4, hbnd, O3.out.base B1.out.size, hl, B3.out⟩

set_option maxRecDepth 100000 in
set_option maxHeartbeats 4000000 in
theorem drawSidesOn_any (w : World) (a : Option Addr) (len cap : Nat) (zs : List Int) (h : IsRowC .u8 w a len cap zs) :
    Calls Try.prog 38 #[.slice a len cap] w (DrawBiEv w) := by
  go_enter Try.func38, Try.ntmps38
  go_wp2_with fail
  refine (open_at _ w.heap.size a len cap zs rfl h).mono ?_
  rintro e w1 ⟨rfl, d1, b1, s1⟩
  have D1 := Lib.hid d1
  have B1 := Lib.hid b1
  clear d1 b1 h
  go_wp2_with fail
  refine (l20Bids_any _ w.heap.size 0 14 (by decide) D1.out.1 (by decide) (by decide)).mono ?_
  rintro e w2 ⟨n, v, bs, rfl, ⟨n1, n4⟩, o2, hl, d2⟩
  have hRlt : w.heap.size < w1.heap.size := by omega
  have B2 := Lib.hid (below_dr B1.out d2 (Nat.le_refl _))
  have D2 := Lib.hid d2
  have O2 := Lib.hid o2
  clear o2 d2 D1
  obtain rfl | rfl | rfl | rfl : n = 1 ∨ n = 2 ∨ n = 3 ∨ n = 4 := by omega
  all_goals
    go_wp2_with fail
    refine (pick_any _ w.heap.size 40 _ (by decide) D2.out.1).mono ?_
    rintro e w3 ⟨v1, rfl, ⟨p1, p2, -⟩, k1⟩
    have p2 := p2 (by omega)
    have O3 := Lib.hid (O2.out.dr ((DR.start D2.out.1).picked k1) hRlt)
    have D3 := Lib.hid ((DR.start D2.out.1).picked k1)
    have B3 := Lib.hid (B2.out.trans (k1.below (Nat.le_refl _) D2.out.1.lt))
    clear k1
    go_wp2_with fail
    refine (pick_any _ w.heap.size 41 _ (by decide) D3.out.1).mono ?_
    rintro e w4 ⟨v2, rfl, ⟨p3, p4, -⟩, k1⟩
    have p4 := p4 (by decide)
    have O4 := Lib.hid (O3.out.dr ((DR.start D3.out.1).picked k1) hRlt)
    have B4 := Lib.hid (B3.out.trans (k1.below (Nat.le_refl _) D3.out.1.lt))
    clear k1
    have hq : v2.tdiv 39 = v2 / 39 := Int.tdiv_eq_ediv_of_nonneg p3
    have hq1 : 0 ≤ v2 / 39 ∧ v2 / 39 ≤ 1 := by omega
    obtain ⟨y, hy⟩ : ∃ y, v2 / 39 = y := ⟨_, rfl⟩
    rw [hy] at hq hq1
    clear hy
    have hw1 : wrap64 y = y := IntWalk.wrap64_in _ (by omega)
    have hw2 : IntKind.i64.wrap y = y := IntWalk.i64_in _ (by omega)
    have hw3 : IntKind.i64.wrap (y * 16) = y * 16 := IntWalk.i64_in _ (by omega)
    have hw4 : IntKind.i64.wrap (v1 + y * 16) = v1 + y * 16 := IntWalk.i64_in _ (by omega)
    go_wp2_with fail
    go_ret3
    exact ⟨_, v, bs, v1 + y * 16, rfl, ⟨n1, n4⟩, O4.out.base B1.out.size, hl, by omega, B4.out⟩

set_option maxRecDepth 100000 in
set_option maxHeartbeats 4000000 in
theorem drawTakerGain_any (w : World) (a : Option Addr) (len cap : Nat) (zs : List Int) (h : IsRowC .u8 w a len cap zs) :
    Calls Try.prog 30 #[.slice a len cap] w (DrawBiSt w) := by
  go_enter Try.func30, Try.ntmps30
  go_wp2_with fail
  refine (open_at _ w.heap.size a len cap zs rfl h).mono ?_
  rintro e w1 ⟨rfl, d1, b1, s1⟩
  have D1 := Lib.hid d1
  have B1 := Lib.hid b1
  clear d1 b1 h
  go_wp2_with fail
  refine (l20Bids_any _ w.heap.size 0 14 (by decide) D1.out.1 (by decide) (by decide)).mono ?_
  rintro e w2 ⟨n, v, bs, rfl, ⟨n1, n4⟩, o2, hl, d2⟩
  have hRlt : w.heap.size < w1.heap.size := by omega
  have B2 := Lib.hid (below_dr B1.out d2 (Nat.le_refl _))
  have D2 := Lib.hid d2
  have O2 := Lib.hid o2
  clear o2 d2 D1
  go_wp2_with fail
  refine (specWinningStakes_any _ (n : Int) v bs (O2.out.rd bC_len)).mono ?_
  rintro e w3 ⟨u, rfl, o3, b3⟩
  have d23 : DR w2 w.heap.size 40 w3 := DR.below_ D2.out.1 b3
  have O3 := Lib.hid (O2.out.dr d23 hRlt)
  have D3 := Lib.hid d23
  have B3 := Lib.hid (below_step B2.out b3 B2.out.size)
  have HGE : Hid (∀ g, u.ownBlock = some g → w.heap.size < g) := Lib.hid (fun g hg => by have := (o3.ge g hg).1; have := D2.out.1.lt; omega)
  have G3 := Lib.hid (o3.base B2.out.size)
  have hr3 : (winR (n : Int) bs).length ≤ 8 := by have := win_len (n : Int) bs; omega
  clear o3 b3
  obtain ⟨t, ht⟩ : ∃ t, winOk (n : Int) bs = t := ⟨_, rfl⟩
  rw [ht]
  clear ht
  have hbl : bs.length ≤ 4 := hl
  obtain ⟨AV, cv, rfl, hlv, hmv⟩ := (O2.out.rd bC_len).form
  cases t
  · go_wp2_with fail
    refine (l20Stakes_any _ w.heap.size 40 bs.length (by decide) D3.out.1 hbl).mono ?_
    rintro e w6 ⟨u6, ss, rfl, g6, hs8⟩
    have O6 := Lib.hid (O3.out.dr ⟨g6.1, g6.2.2.1, g6.2.2.2⟩ hRlt)
    have G6 := Lib.hid (g6.2.1.base B3.out.size)
    have B6 := Lib.hid (B3.out.trans (below_gam g6))
    clear g6
    go_wp2_with fail
    go_ret3
    exact ⟨n, _, u6, bs, ss, rfl, ⟨n1, n4⟩, O6.out.base B1.out.size, hl, G6.out, hs8, B6.out⟩
  · go_wp2_with fail
    refine (pick_any _ w.heap.size 40 _ (by decide) D3.out.1).mono ?_
    rintro e w4 ⟨v1, rfl, ⟨p1, p2, -⟩, k1⟩
    have p2 := p2 (by decide)
    have D4 := Lib.hid ((DR.start D3.out.1).picked k1)
    have O4 := Lib.hid (O3.out.dr D4.out hRlt)
    have G4 := Lib.hid (G3.out.dr_ (fun g hg => by have := HGE.out g hg; omega) D4.out)
    have B4 := Lib.hid (B3.out.trans (k1.below (Nat.le_refl _) D3.out.1.lt))
    clear k1
    rcases Bool.eq_false_or_eq_true (v1 == 0) with hv0 | hv0
    · go_wp2_with fail
      go_ret3
      exact ⟨n, _, u, bs, _, rfl, ⟨n1, n4⟩, O4.out.base B1.out.size, hl, G4.out, hr3, B4.out⟩
    · go_wp2_with fail
      refine (l20Stakes_any _ w.heap.size 41 bs.length (by decide) D4.out.1 hbl).mono ?_
      rintro e w6 ⟨u6, ss, rfl, g6, hs8⟩
      have O6 := Lib.hid (O4.out.dr ⟨g6.1, g6.2.2.1, g6.2.2.2⟩ hRlt)
      have G6 := Lib.hid (g6.2.1.base B4.out.size)
      have B6 := Lib.hid (B4.out.trans (below_gam g6))
      clear g6
      go_wp2_with fail
      go_ret3
      exact ⟨n, _, u6, bs, ss, rfl, ⟨n1, n4⟩, O6.out.base B1.out.size, hl, G6.out, hs8, B6.out⟩

set_option maxRecDepth 100000 in
set_option maxHeartbeats 4000000 in
theorem drawTightOk_any (w : World) (a : Option Addr) (len cap : Nat) (zs : List Int) (h : IsRowC .u8 w a len cap zs) :
    Calls Try.prog 44 #[.slice a len cap] w (DrawBiT w) := by
  go_enter Try.func44, Try.ntmps44
  go_wp2_with fail
  refine (open_at _ w.heap.size a len cap zs rfl h).mono ?_
  rintro e w1 ⟨rfl, d1, b1, s1⟩
  have D1 := Lib.hid d1
  have B1 := Lib.hid b1
  clear d1 b1 h
  go_wp2_with fail
  refine (l20Bids_any _ w.heap.size 0 12 (by decide) D1.out.1 (by decide) (by decide)).mono ?_
  rintro e w2 ⟨n, v, bs, rfl, ⟨n1, n4⟩, o2, hl, d2⟩
  have hRlt : w.heap.size < w1.heap.size := by omega
  have B2 := Lib.hid (below_dr B1.out d2 (Nat.le_refl _))
  have D2 := Lib.hid d2
  have O2 := Lib.hid o2
  clear o2 d2 D1
  obtain ⟨AV, cv, rfl, hlv, hmv⟩ := (O2.out.rd bC_len).form
  go_wp2_with fail
  refine (pick_any _ w.heap.size 40 _ (by decide) D2.out.1).mono ?_
  rintro e w3 ⟨v1, rfl, ⟨p1, p2, -⟩, k1⟩
  have p2 := p2 (by decide)
  have O3 := Lib.hid (O2.out.dr ((DR.start D2.out.1).picked k1) hRlt)
  have B3 := Lib.hid (B2.out.trans (k1.below (Nat.le_refl _) D2.out.1.lt))
  clear k1
  rcases Bool.eq_false_or_eq_true (v1 == 0) with hv0 | hv0
  · rcases Nat.eq_zero_or_pos bs.length with hz | hz
    · obtain rfl : bs = [] := List.eq_nil_of_length_eq_zero hz
      simp only [List.length_nil] at *
      go_wp2_with fail
      go_ret2
      exact ⟨n, _, [], rfl, ⟨n1, n4⟩, O3.out.rd bC_len, by simp, B3.out⟩
    · have hz' : (0 : Int) < (bs.length : Int) := by omega
      have h1l : (1 : Int) ≤ (bs.length : Int) := by omega
      have h1c : (1 : Int) ≤ (cv : Int) := by omega
      have h1c' : 1 ≤ cv := by omega
      have h1n : 1 ≤ bs.length := by omega
      have HT := Lib.hid (GRd.take13 (O3.out.rd bC_len) h1n)
      go_wp2_with fail
      go_region
      all_goals
        go_wp2_with fail
        go_ret2
        exact ⟨n, _, bs.take 1, rfl, ⟨n1, n4⟩, HT.out.keep (SameAt.of_below (Below.refl _ _).drew), by rw [List.length_take]; omega, B3.out.drew⟩
  · go_wp2_with fail
    go_ret2
    exact ⟨n, _, bs, rfl, ⟨n1, n4⟩, O3.out.rd bC_len, hl, B3.out⟩

end Go.Proofs.Ytodmgcbcacblbaa
