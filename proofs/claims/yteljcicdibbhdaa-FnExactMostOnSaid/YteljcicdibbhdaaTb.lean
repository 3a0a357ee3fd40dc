/- What is drawn for chapter 6: a book and an event, a quote, a gamble. Conditions: a row of bytes that came in. -/
import Derived.Test.YteljcicdibbhdaaDw
import Derived.Test.YteljcicdibbhdaaDi
namespace Go.Proofs.Yteljcicdibbhdaa
open Go.RowKit
set_option linter.unusedVariables false

/-- a number, a book and an event that were drawn -/
def BoundR (w : World) (R P : Nat) (e : Ending) (w' : World) : Prop :=
  ∃ (x : Int) (v : Value) (qs : List Qt) (y : Int), e = .returned (.tuple #[.int .i64 x, v, .int .i64 y]) ∧ QOwn w' w.heap.size v qs ∧ qs.length ≤ 4 ∧ DR w R P w'

theorem BoundR.fin {w w1 : World} {R P Q : Nat} {x y : Int} {v : Value} {qs : List Qt} (o : QOwn w1 w.heap.size v qs) (hl : qs.length ≤ 4) (d : DR w R P w1) (hPQ : P ≤ Q) : BoundR w R Q (.returned (.tuple #[.int .i64 x, v, .int .i64 y])) w1 :=
  ⟨x, v, qs, y, rfl, o, hl, d.mono hPQ⟩

/-- a book of the call's own through a pick -/
theorem own_pick {w w1 w2 : World} {R P Q : Nat} {v : Value} {qs : List Qt} (o : QOwn w1 w.heap.size v qs) (d : DR w R P w1) (k : Picked R Q w1 w2) : QOwn w2 w.heap.size v qs :=
  GOwn.dr o (⟨k.rd, k.grown, d.1.lt⟩ : DR w1 R Q w2) d.2.2

set_option maxHeartbeats 4000000 in
theorem l20Bound_any (w : World) (R P : Nat) (hP : P ≤ 1000) (h : Rd w R P) :
    Calls Try.prog 51 #[.pointer (some ⟨R, 0, none⟩)] w (BoundR w R (P + 26)) := by
  go_enter Try.func51, Try.ntmps51
  go_wp2_with fail
  refine (l20Book_any w R P 14 (by omega) h (by decide) (by decide)).mono ?_
  rintro e w1 ⟨x, v, qs, rfl, o1, hl, d1⟩
  have O1 := Lib.hid o1
  have D1 := Lib.hid d1
  have HL := Lib.hid hl
  clear h o1 d1 hl
  have hcs : x < 1 ∨ x = 1 ∨ x = 2 ∨ x = 3 ∨ x = 4 ∨ 4 < x := by omega
  rcases hcs with h | rfl | rfl | rfl | rfl | h
  all_goals
    try have h2 : ¬ x < 1 := by omega
    go_wp2_with fail
    refine (pick_any w1 R (P + 24) _ (by omega) D1.out.1).mono ?_
    rintro e w2 ⟨v1, rfl, ⟨p1, p2, -⟩, k1⟩
    have p2 := p2 (by decide)
    have O2 := Lib.hid (own_pick O1.out D1.out k1)
    have D2 := Lib.hid (D1.out.picked k1)
    clear k1
    go_wp2_with fail
    refine (pick_any w2 R (P + 25) _ (by omega) D2.out.1).mono ?_
    rintro e w3 ⟨v2, rfl, ⟨p3, p4, -⟩, k2⟩
    have p4 := p4 (by decide)
    have O3 := Lib.hid (own_pick O2.out D2.out k2)
    have D3 := Lib.hid (D2.out.picked k2)
    clear k2
    go_wp2_with fail
    go_ret3
    exact BoundR.fin O3.out HL.out D3.out (by omega)

/-- as a law reads it -/
def DrawBd (w : World) (e : Ending) (w' : World) : Prop :=
  ∃ (x : Int) (v : Value) (qs : List Qt) (y : Int), e = .returned (.tuple #[.int .i64 x, v, .int .i64 y]) ∧ QOwn w' w.heap.size v qs ∧ qs.length ≤ 4 ∧ Below w.heap.size w w'

set_option maxHeartbeats 1000000 in
theorem drawLeastOn_any (w : World) (a : Option Addr) (len cap : Nat) (zs : List Int) (h : IsRowC .u8 w a len cap zs) :
    Calls Try.prog 15 #[.slice a len cap] w (DrawBd w) := by
  go_enter Try.func15, Try.ntmps15
  go_wp2_with fail
  refine (open_at _ w.heap.size a len cap zs rfl h).mono ?_
  rintro e w1 ⟨rfl, d1, b1, s1⟩
  have D1 := Lib.hid d1
  have B1 := Lib.hid b1
  clear d1 b1 h
  go_wp2_with fail
  refine (l20Bound_any _ w.heap.size 0 (by decide) D1.out.1).mono ?_
  rintro e w2 ⟨x, v, qs, y, rfl, o2, hl, d2⟩
  have O2 := Lib.hid (o2.base (base' := w.heap.size) B1.out.size)
  have B2 := Lib.hid (below_dr B1.out d2 (Nat.le_refl _))
  clear o2 d2 D1 B1
  go_wp2_with fail
  go_ret3
  exact ⟨x, v, qs, y, rfl, O2.out, hl, B2.out⟩

set_option maxHeartbeats 1000000 in
theorem drawMostOn_any (w : World) (a : Option Addr) (len cap : Nat) (zs : List Int) (h : IsRowC .u8 w a len cap zs) :
    Calls Try.prog 24 #[.slice a len cap] w (DrawBd w) := by
  go_enter Try.func24, Try.ntmps24
  go_wp2_with fail
  refine (open_at _ w.heap.size a len cap zs rfl h).mono ?_
  rintro e w1 ⟨rfl, d1, b1, s1⟩
  have D1 := Lib.hid d1
  have B1 := Lib.hid b1
  clear d1 b1 h
  go_wp2_with fail
  refine (l20Bound_any _ w.heap.size 0 (by decide) D1.out.1).mono ?_
  rintro e w2 ⟨x, v, qs, y, rfl, o2, hl, d2⟩
  have O2 := Lib.hid (o2.base (base' := w.heap.size) B1.out.size)
  have B2 := Lib.hid (below_dr B1.out d2 (Nat.le_refl _))
  clear o2 d2 D1 B1
  go_wp2_with fail
  go_ret3
  exact ⟨x, v, qs, y, rfl, O2.out, hl, B2.out⟩

set_option maxHeartbeats 1000000 in
theorem drawPinnedOk_any (w : World) (a : Option Addr) (len cap : Nat) (zs : List Int) (h : IsRowC .u8 w a len cap zs) :
    Calls Try.prog 26 #[.slice a len cap] w (DrawBd w) := by
  go_enter Try.func26, Try.ntmps26
  go_wp2_with fail
  refine (open_at _ w.heap.size a len cap zs rfl h).mono ?_
  rintro e w1 ⟨rfl, d1, b1, s1⟩
  have D1 := Lib.hid d1
  have B1 := Lib.hid b1
  clear d1 b1 h
  go_wp2_with fail
  refine (l20Bound_any _ w.heap.size 0 (by decide) D1.out.1).mono ?_
  rintro e w2 ⟨x, v, qs, y, rfl, o2, hl, d2⟩
  have O2 := Lib.hid (o2.base (base' := w.heap.size) B1.out.size)
  have B2 := Lib.hid (below_dr B1.out d2 (Nat.le_refl _))
  clear o2 d2 D1 B1
  go_wp2_with fail
  go_ret3
  exact ⟨x, v, qs, y, rfl, O2.out, hl, B2.out⟩

/-- a number, a book and a quote that were drawn -/
def DrawBq (w : World) (e : Ending) (w' : World) : Prop :=
  ∃ (x : Int) (v : Value) (qs : List Qt) (q : Qt), e = .returned (.tuple #[.int .i64 x, v, qV q]) ∧ QOwn w' (w.heap.size + 1) v qs ∧ qs.length ≤ 4 ∧ Below w.heap.size w w'

theorem own_set {w : World} {base g : Nat} {v : Value} {qs : List Qt} (o : QOwn w base v qs) (hg : g < base) (x y : Value) : QOwn ((w.setCell ⟨g, 0, none⟩ x).setCell ⟨g, 1, none⟩ y) base v qs :=
  o.keep ⟨by simp [World.setCell], fun k hk hlt => by
    have := (o.ge k hk).1
    rw [Below.heap_setCell _ ⟨g, 1, none⟩ _ _ (show k ≠ g by omega), Below.heap_setCell _ ⟨g, 0, none⟩ _ _ (show k ≠ g by omega)]⟩

set_option maxHeartbeats 4000000 in
theorem drawFurtherOk_any (w : World) (a : Option Addr) (len cap : Nat) (zs : List Int) (h : IsRowC .u8 w a len cap zs) :
    Calls Try.prog 30 #[.slice a len cap] w (DrawBq w) := by
  have B0 := Lib.hid (blk_alloc w #[.int .i64 0, .int .i64 0] 35)
  go_enter Try.func30, Try.ntmps30
  go_wp2_with fail
  refine (open_at _ (w.heap.size + 1) a len cap zs (by simp) (h.alloc _)).mono ?_
  rintro e w1 ⟨rfl, d1, b1, s1⟩
  have B1 := Lib.hid (B0.out.more (b1.block w.heap.size (by simp)))
  have HB1 : Hid (Below w.heap.size w w1) := Lib.hid (below_step ((Below.refl _ _).alloc (Nat.le_refl _) _) b1 (by simp))
  have D1 := Lib.hid d1
  have HNE : Hid (w.heap.size ≠ w.heap.size + 1) := Lib.hid (by omega)
  have HS1 : Hid (w.heap.size + 1 ≤ w1.heap.size) := Lib.hid (by have := d1.1.lt; omega)
  clear b1 d1 h B0
  go_wp2_with fail
  refine (l20Bound_any _ (w.heap.size + 1) 0 (by decide) D1.out.1).mono ?_
  rintro e w2 ⟨x, v, qs, y, rfl, o2, hl, d2⟩
  have HB2 := Lib.hid (below_dr HB1.out d2 (by omega))
  have B2 := Lib.hid (B1.out.dr d2 HNE.out)
  have O2 := Lib.hid o2
  have D2 := Lib.hid d2
  clear d2 o2
  go_wp2_with fail
  refine (pick_any w2 (w.heap.size + 1) 26 _ (by omega) D2.out.1).mono ?_
  rintro e w3 ⟨v1, rfl, ⟨p1, p2, -⟩, k1⟩
  have p2 := p2 (by decide)
  have O3 := Lib.hid (own_pick O2.out D2.out k1)
  have D3 := Lib.hid (D2.out.picked k1)
  have B3 := Lib.hid (B2.out.picked k1 HNE.out)
  clear k1
  go_wp2_with fail
  refine (pick_any w3 (w.heap.size + 1) 27 _ (by omega) D3.out.1).mono ?_
  rintro e w4 ⟨v2, rfl, ⟨p3, p4, -⟩, k2⟩
  have p4 := p4 (by decide)
  have O4 := Lib.hid ((own_pick O3.out D3.out k2).base HS1.out)
  have D4 := Lib.hid (D3.out.picked k2)
  have B4 := Lib.hid (B3.out.picked k2 HNE.out)
  have HB4 := Lib.hid (below_dr HB1.out D4.out (by omega))
  clear k2
  obtain ⟨hc0, hc1, hf0, hf1⟩ := B4.out.two
  have HF := Lib.hid (B4.out.fin (.int .i64 y) (.int .i64 (v1 + v2 / 39)))
  have HO := Lib.hid (own_set O4.out (Nat.lt_succ_self _) (.int .i64 y) (.int .i64 (v1 + v2 / 39)))
  go_wp2_with fail
  obtain ⟨hr0, hr1⟩ := HF.out
  refine bodyPost_ret (v := .tuple #[.int .i64 x, v, .agg #[.int .i64 y, .int .i64 (v1 + v2 / 39)]]) (by simp [results, Try.results30, go_sem, hr0, hr1]) rfl ?_
  exact ⟨x, v, qs, (y, v1 + v2 / 39), rfl, HO.out, hl, (HB4.out.setCell (Nat.le_refl _) _).setCell (Nat.le_refl _) _⟩

/-- a number, a book and a gamble that were drawn -/
def DrawBg (w : World) (e : Ending) (w' : World) : Prop :=
  ∃ (x : Int) (v : Value) (qs : List Qt) (u : Value) (g : List Int), e = .returned (.tuple #[.int .i64 x, v, u]) ∧ QOwn w' w.heap.size v qs ∧ IOwn w' w.heap.size u g ∧ qs.length ≤ 4 ∧ g.length ≤ 8 ∧ Below w.heap.size w w'

set_option maxHeartbeats 4000000 in
theorem drawLeastBrings_any (w : World) (a : Option Addr) (len cap : Nat) (zs : List Int) (h : IsRowC .u8 w a len cap zs) :
    Calls Try.prog 34 #[.slice a len cap] w (DrawBg w) := by
  go_enter Try.func34, Try.ntmps34
  go_wp2_with fail
  refine (open_at _ w.heap.size a len cap zs rfl h).mono ?_
  rintro e w1 ⟨rfl, d1, b1, s1⟩
  have D1 := Lib.hid d1
  have B1 := Lib.hid b1
  have HS1 : Hid (w.heap.size < w1.heap.size) := Lib.hid d1.2.2
  clear d1 b1 h
  go_wp2_with fail
  refine (l20Book_any _ w.heap.size 0 14 (by decide) D1.out.1 (by decide) (by decide)).mono ?_
  rintro e w2 ⟨x, v, qs, rfl, o2, hl, d2⟩
  have O2 := Lib.hid o2
  have D2 := Lib.hid d2
  have HL := Lib.hid hl
  clear o2 d2 D1 hl
  have hcs : x < 1 ∨ x = 1 ∨ x = 2 ∨ x = 3 ∨ x = 4 ∨ 4 < x := by omega
  rcases hcs with h | rfl | rfl | rfl | rfl | h
  all_goals
    try have h2 : ¬ x < 1 := by omega
    go_wp2_with fail
    refine (l20Gamble_any w2 w.heap.size 24 _ 14 (by decide) D2.out.1 (by decide) (by decide) (by decide) (by decide)).mono ?_
    rintro e w3 ⟨u, g, rfl, g3, hgl, -⟩
    have b2 := below_dr B1.out D2.out (Nat.le_refl _)
    have O3 := Lib.hid ((GOwn.dr O2.out (⟨g3.1, g3.2.2.1, D2.out.1.lt⟩ : DR w2 w.heap.size _ w3) HS1.out).base (base' := w.heap.size) B1.out.size)
    have U3 := Lib.hid (g3.2.1.base (base' := w.heap.size) b2.size)
    have B3 := Lib.hid (b2.grown g3.2.2.1 b2.size (fun k hk => by injection hk with hk; omega))
    clear g3 b2
    go_wp2_with fail
    go_ret3
    exact ⟨_, v, qs, u, g, rfl, O3.out, U3.out, HL.out, hgl, B3.out⟩

end Go.Proofs.Yteljcicdibbhdaa
