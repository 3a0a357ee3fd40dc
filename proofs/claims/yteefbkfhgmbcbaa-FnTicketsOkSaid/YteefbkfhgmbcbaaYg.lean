/- What is drawn for chapter 10: tickets. Conditions: a reader; a row of bytes that came in. -/
import Derived.Test.YteefbkfhgmbcbaaYb
import Derived.Test.YteefbkfhgmbcbaaYr
import Derived.Test.YteefbkfhgmbcbaaRd3
import Derived.Test.YteefbkfhgmbcbaaRh
import Derived.Maps.AppendAt
namespace Go.Proofs.Yteefbkfhgmbcbaa
open Go.RowKit
set_option linter.unusedVariables false

theorem klit0 (w : World) (base : Nat) (hb : base ≤ w.heap.size) : KOwn (w.alloc (.cells #[] 35)) base (.slice (some ⟨w.heap.size, 0, none⟩) 0 0) [] :=
  World.ownsRow_lit w #[] 0 hb (by unfold maxLen; omega) rfl

theorem qC_one10 (q : Qt) : ∀ u ∈ qC q, u.oneCell' = true := by
  intro u hu
  simp only [qC, List.mem_cons, List.not_mem_nil, or_false] at hu
  rcases hu with rfl | rfl <;> rfl

theorem wp_app_ticket {ops : Array Oper} {rest : List Oper} {o : Oper} {a : Act} {Q : Exit → Act → World → Prop} (hgd : o.guard = none) (s x : Operand)
    (ho : o.op = .call { callee := .builtin .append, args := #[s, x], argTypes := #[23, 23] }) (w : World) (base : Nat) (v : Value) (ts : List Qt) (L : Nat) (hL : ts.length = L) (k l : Int)
    (hs : a.eval s = v) (hown : KOwn w base v ts) (hx : a.eval x = .slice (some ⟨w.heap.size, 0, none⟩) 1 1)
    (h1 : L ≤ 1000000) (hb : base ≤ w.heap.size)
    (h : ∀ g c w', KOwn w' base (.slice (some ⟨g, 0, none⟩) (L + 1) c) (ts ++ [(k, l)]) → w.grownBy w' v.ownBlock → wpList Try.prog ops Q rest (a.put o.dst (.slice (some ⟨g, 0, none⟩) (L + 1) c)) w') :
    wpList Try.prog ops Q (o :: rest) a (w.alloc (.cells #[.int .i64 k, .int .i64 l] 35)) := by
  subst hL
  obtain ⟨i0, hi, hz0, hz1, hz2⟩ := info_parts Try_ticketinfo
  have hown2 : (w.alloc (.cells #[.int .i64 k, .int .i64 l] 35)).ownsRow base 35 2 v ts.length (ts.flatMap qC) := World.ownsRow.alloc hown _
  have hnews : ∀ j u, (qC (k, l))[j]? = some u → (w.alloc (.cells #[.int .i64 k, .int .i64 l] 35)).cell? ((⟨w.heap.size, 0, none⟩ : Addr).add j) = some u := World.news_of_block (heap_alloc_new w _)
  refine wpList_append_own_at _ hgd s x 23 ho base 35 i0 (.agg #[.int .i64 0, .int .i64 0]) 2 16 Try.underlying23 hi hz0 hz1 hz2 rfl (by decide) v ts.length (ts.flatMap qC) hs hown2 ⟨w.heap.size, 0, none⟩ 1 1 (qC (k, l)) hx rfl hnews (qC_one10 _) (by unfold maxLen; omega) (by omega) (by simp; omega) ?_
  intro v' w' k1 k2 k3 k4
  have hl : (ts ++ [(k, l)]).length = ts.length + 1 := by simp
  obtain ⟨g, c, hv, -⟩ : ∃ g c, v' = .slice (some ⟨g, 0, none⟩) (ts.length + 1) c ∧ True := by
    rcases k1.2 with ⟨-, hz⟩ | ⟨g, cap, cur, e, -⟩
    · omega
    · exact ⟨g, cap, e, trivial⟩
  subst hv
  refine h g c w' ?_ (grown_after ((Below.refl _ w).alloc (Nat.le_refl _) _) k2)
  unfold KOwn GOwn
  rw [hl, List.flatMap_append]
  simpa using k1

/-- tickets that were drawn, behind a reader -/
def TkPost (R Q : Nat) (w : World) (e : Ending) (w' : World) : Prop := ∃ (W : Int) (g c : Nat) (ts : List Qt), e = .returned (.tuple #[.int .i64 W, .slice (some ⟨g, 0, none⟩) ts.length c]) ∧ 1 ≤ W ∧ W ≤ 4 ∧ ts.length ≤ 7 ∧ KOwn w' w.heap.size (.slice (some ⟨g, 0, none⟩) ts.length c) ts ∧ SR w R Q w'

theorem KOwn.sr {w w' : World} {R P base : Nat} {v : Value} {ms : List Qt} (h : KOwn w base v ms) (k : SR w R P w') (hb : R < base) : KOwn w' base v ms := by
  refine GOwn.keep h (SameAt.of_grown k.2.1 ?_)
  rcases hv : v.ownBlock with _ | g
  · exact .inl rfl
  · refine .inr fun e => ?_
    have := (GOwn.ge h g hv).1
    injection e with e
    omega

theorem six_at {u : Int} {n : Nat} (h : n < 3) : ∃ x y : Int, (#[Value.int .i64 u, .int .i64 1, .int .i64 0, .int .i64 0, .int .i64 0, .int .i64 51] : Array Value)[n * 2]? = some (.int .i64 x) ∧ (#[Value.int .i64 u, .int .i64 1, .int .i64 0, .int .i64 0, .int .i64 0, .int .i64 51] : Array Value)[n * 2 + 1]? = some (.int .i64 y) := by
  match n, h with
  | 0, _ => exact ⟨u, 1, rfl, rfl⟩
  | 1, _ => exact ⟨0, 0, rfl, rfl⟩
  | 2, _ => exact ⟨0, 51, rfl, rfl⟩

set_option maxRecDepth 100000 in
set_option maxHeartbeats 8000000 in
theorem l20Tickets_any (w : World) (R P : Nat) (hP : P ≤ 100000) (h : Rd w R P) :
    Calls Try.prog 41 #[.pointer (some ⟨R, 0, none⟩)] w (TkPost R (P + 30) w) := by
  go_enter Try.func41, Try.ntmps41
  go_wp2_with fail
  refine (pick_any _ R P _ (by omega) h).mono ?_
  rintro e w1 ⟨v1, rfl, ⟨p1, p2, -⟩, k1⟩
  have p2 := p2 (by decide)
  have S1 := Lib.hid ((SR.start h).picked k1)
  clear k1 h
  obtain ⟨W, hW⟩ : ∃ W, 1 + v1 = W := ⟨_, rfl⟩
  have hwW : IntKind.i64.wrap (1 + v1) = W := by rw [hW]; exact IntWalk.i64_in _ (by omega)
  have hW1 : 1 ≤ W := by omega
  have hW4 : W ≤ 4 := by omega
  have HS : Hid (SR w R (P + 1) (w1.alloc (.cells #[] 35)) ∧ KOwn (w1.alloc (.cells #[] 35)) w.heap.size (.slice (some ⟨w1.heap.size, 0, none⟩) 0 0) []) := Lib.hid ⟨S1.out.alloc _, klit0 w1 _ S1.out.size⟩
  clear hW p1 p2
  go_wp2_with fail
  refine (pick_any _ R (P + 1) _ (by omega) HS.out.1.1).mono ?_
  rintro e w2 ⟨v2, rfl, ⟨p1, p2, -⟩, k1⟩
  have p2 := p2 (by decide)
  have S2 : Hid (SR w R (P + 2) w2 ∧ KOwn w2 w.heap.size (.slice (some ⟨w1.heap.size, 0, none⟩) 0 0) []) := Lib.hid ⟨HS.out.1.picked k1, KOwn.sr HS.out.2 ((SR.start HS.out.1.1).picked k1) HS.out.1.2.2⟩
  obtain ⟨N, rfl⟩ : ∃ N : Nat, v2 = N := ⟨v2.toNat, by omega⟩
  have hN : N ≤ 6 := by omega
  clear k1 HS S1 p1 p2 hwW
  go_wp2_with fail
  go_loopw [5, 6] (fun p l wr => ∃ (k Q g c m : Nat) (ts : List Qt), p = .slice (some ⟨g, 0, none⟩) m c ∧ l = .int .i64 (k : Int) ∧ k ≤ 6 ∧ Q + 3 * k ≤ P + 22 ∧ m + k ≤ 6 ∧ Hid (ts.length = m) ∧ Hid (SR w R Q wr ∧ KOwn wr w.heap.size (.slice (some ⟨g, 0, none⟩) m c) ts)) (fun _ l _ => (intOf l).toNat)
  case atStart => exact ⟨N, P + 2, w1.heap.size, 0, 0, [], rfl, rfl, hN, by omega, by omega, Lib.hid rfl, S2⟩
  case round =>
    obtain ⟨k, Q, g, c, m, ts, rfl, rfl, hk, hQ, hm, HL, HR⟩ := hrel
    clear S2
    obtain rfl : ts.length = m := HL.out
    by_cases hlt : 0 < k
    · have hlt' : (0 : Int) < (k : Int) := by omega
      go_wp2_with fail
      refine (pick_any _ R Q _ (by omega) HR.out.1.1).mono ?_
      rintro e w3 ⟨a, rfl, ⟨a1, a2, -⟩, k1⟩
      have a2 := a2 (by omega)
      have H3 : Hid (SR w R (Q + 1) w3 ∧ KOwn w3 w.heap.size (.slice (some ⟨g, 0, none⟩) ts.length c) ts) := Lib.hid ⟨HR.out.1.picked k1, KOwn.sr HR.out.2 ((SR.start HR.out.1.1).picked k1) HR.out.1.2.2⟩
      clear k1 HR
      go_wp2_with fail
      refine (pick_any _ R (Q + 1) _ (by omega) H3.out.1.1).mono ?_
      rintro e w4 ⟨b, rfl, ⟨b1, b2, -⟩, k1⟩
      have b2 := b2 (by decide)
      have H4 : Hid (SR w R (Q + 2) w4 ∧ KOwn w4 w.heap.size (.slice (some ⟨g, 0, none⟩) ts.length c) ts) := Lib.hid ⟨H3.out.1.picked k1, KOwn.sr H3.out.2 ((SR.start H3.out.1.1).picked k1) H3.out.1.2.2⟩
      clear k1 H3
      go_wp2_with fail
      refine (pick_any _ R (Q + 2) _ (by omega) H4.out.1.1).mono ?_
      rintro e w5 ⟨d, rfl, ⟨d1, d2, -⟩, k1⟩
      have d2 := d2 (by decide)
      have H5 : Hid (SR w R (Q + 3) w5 ∧ KOwn w5 w.heap.size (.slice (some ⟨g, 0, none⟩) ts.length c) ts) := Lib.hid ⟨H4.out.1.picked k1, KOwn.sr H4.out.2 ((SR.start H4.out.1.1).picked k1) H4.out.1.2.2⟩
      clear k1 H4
      go_wp2_with (at_builtin; refine wp_app_ticket rfl _ _ rfl _ w.heap.size _ ts ts.length rfl _ _ (by rfl) H5.out.2 (by rfl) ?a1 ?a2 ?_)
      case a1 => omega
      case a2 => exact H5.out.1.size
      intro g6 c6 w6 o6 q6
      have H6 : Hid (SR w R (Q + 3) w6 ∧ KOwn w6 w.heap.size (.slice (some ⟨g6, 0, none⟩) (ts.length + 1) c6) _) := Lib.hid ⟨H5.out.1.grown q6 (fun g' hg' => (GOwn.ge H5.out.2 g' hg').1), o6⟩
      clear o6 q6 H5
      go_wp2_with fail
      have hk1 : ((k - 1 : Nat) : Int) = (k : Int) - 1 := by omega
      go_roundw
      case rel => exact ⟨k - 1, Q + 3, g6, c6, ts.length + 1, _, rfl, by rw [hk1], by omega, by omega, by omega, Lib.hid (by simp), H6⟩
      case measure => simp [intOf]; omega
    · obtain rfl : k = 0 := by omega
      go_wp2_with fail
      refine (odd_any _ R Q _ (by decide) (by decide) (by omega) HR.out.1.1).mono ?_
      rintro e w3 ⟨b, rfl, k1⟩
      have H3 : Hid (SR w R (Q + 1) w3 ∧ KOwn w3 w.heap.size (.slice (some ⟨g, 0, none⟩) ts.length c) ts) := Lib.hid ⟨HR.out.1.picked k1, KOwn.sr HR.out.2 ((SR.start HR.out.1.1).picked k1) HR.out.1.2.2⟩
      clear k1 HR
      cases b
      · go_wp2_with fail
        go_ret2
        exact ⟨W, g, c, ts, rfl, hW1, hW4, by omega, H3.out.2, H3.out.1.mono (by omega)⟩
      · have KB := Lib.hid (show Blk (w3.alloc (.cells #[.int .i64 W, .int .i64 1, .int .i64 0, .int .i64 0, .int .i64 0, .int .i64 51] 35)) w3.heap.size 35 #[.int .i64 W, .int .i64 1, .int .i64 0, .int .i64 0, .int .i64 0, .int .i64 51] from heap_alloc_new w3 _)
        have H4 : Hid (SR w R (Q + 1) (w3.alloc (.cells #[.int .i64 W, .int .i64 1, .int .i64 0, .int .i64 0, .int .i64 0, .int .i64 51] 35)) ∧ KOwn (w3.alloc (.cells #[.int .i64 W, .int .i64 1, .int .i64 0, .int .i64 0, .int .i64 0, .int .i64 51] 35)) w.heap.size (.slice (some ⟨g, 0, none⟩) ts.length c) ts ∧ w3.heap.size ≠ R) := Lib.hid ⟨H3.out.1.alloc _, GOwn.keep H3.out.2 (SameAt.of_below ((Below.refl _ _).alloc (Nat.le_refl _) _)), by have h1 := H3.out.1.size; have h2 := H3.out.1.2.2; omega⟩
        clear H3
        go_wp2_with fail
        refine (pick_any _ R (Q + 1) _ (by omega) H4.out.1.1).mono ?_
        rintro e w5 ⟨d, rfl, ⟨d1, d2, -⟩, k1⟩
        have d2 := d2 (by decide)
        have H5 : Hid (SR w R (Q + 2) w5 ∧ KOwn w5 w.heap.size (.slice (some ⟨g, 0, none⟩) ts.length c) ts) := Lib.hid ⟨H4.out.1.picked k1, KOwn.sr H4.out.2.1 ((SR.start H4.out.1.1).picked k1) H4.out.1.2.2⟩
        have KB5 : Hid (Blk w5 w3.heap.size 35 #[.int .i64 W, .int .i64 1, .int .i64 0, .int .i64 0, .int .i64 0, .int .i64 51]) := Lib.hid ((k1.grown.block _ KB.out.lt (fun e => H4.out.2.2 (by injection e))).trans KB.out)
        clear k1 H4 KB
        obtain ⟨n, rfl⟩ : ∃ n : Nat, d = n := ⟨d.toNat, by omega⟩
        have hn3 : (n : Int) < 3 := by omega
        obtain ⟨x, y, hx, hy⟩ := six_at (u := W) (n := n) (by omega)
        have hc0 : w5.cell? ⟨w3.heap.size, n * 2, none⟩ = some (.int .i64 x) := by rw [KB5.out.cell]; exact hx
        have hc1 : w5.cell? ⟨w3.heap.size, n * 2 + 1, none⟩ = some (.int .i64 y) := by rw [KB5.out.cell]; exact hy
        clear hx hy
        go_wp2_with (at_builtin; refine wp_app_ticket rfl _ _ rfl _ w.heap.size _ ts ts.length rfl x y (by rfl) H5.out.2 (by rfl) ?e1 ?e2 ?_)
        case e1 => omega
        case e2 => exact H5.out.1.size
        intro g6 c6 w6 o6 q6
        have H6 : Hid (SR w R (Q + 2) w6 ∧ KOwn w6 w.heap.size (.slice (some ⟨g6, 0, none⟩) (ts.length + 1) c6) (ts ++ [(x, y)])) := Lib.hid ⟨H5.out.1.grown q6 (fun g' hg' => (GOwn.ge H5.out.2 g' hg').1), o6⟩
        clear o6 q6 H5
        go_wp2_with fail
        go_ret2
        exact ⟨W, g6, c6, ts ++ [(x, y)], by rw [List.length_append, List.length_singleton]; rfl, hW1, hW4, by simp; omega, by rw [List.length_append, List.length_singleton]; exact H6.out.2, H6.out.1.mono (by omega)⟩

/-- tickets that were drawn -/
def KDraw (w : World) (e : Ending) (w' : World) : Prop := ∃ (W : Int) (g c : Nat) (ts : List Qt), e = .returned (.tuple #[.int .i64 W, .slice (some ⟨g, 0, none⟩) ts.length c]) ∧ ts.length ≤ 7 ∧ KOwn w' w.heap.size (.slice (some ⟨g, 0, none⟩) ts.length c) ts ∧ Below w.heap.size w w'

/-- tickets and a number that were drawn -/
def KDraw3 (w : World) (e : Ending) (w' : World) : Prop := ∃ (W x : Int) (g c : Nat) (ts : List Qt), e = .returned (.tuple #[.int .i64 W, .slice (some ⟨g, 0, none⟩) ts.length c, .int .i64 x]) ∧ ts.length ≤ 7 ∧ KOwn w' w.heap.size (.slice (some ⟨g, 0, none⟩) ts.length c) ts ∧ Below w.heap.size w w'

theorem SR.below10 {w w1 w' : World} {R P : Nat} (h : SR w1 R P w') (hb : Below w.heap.size w w1) (hR : w.heap.size ≤ R) : Below w.heap.size w w' :=
  hb.grown h.2.1 hb.size (fun g hg => by injection hg with hg; omega)

set_option maxHeartbeats 1000000 in
theorem drawPoolOf_any (w : World) (a : Option Addr) (len cap : Nat) (zs : List Int) (h : IsRowC .u8 w a len cap zs) :
    Calls Try.prog 19 #[.slice a len cap] w (KDraw w) := by
  go_enter Try.func19, Try.ntmps19
  go_wp2_with fail
  refine (open_any w a len cap zs h).mono ?_
  rintro e w1 ⟨rfl, ho⟩
  go_wp2_with fail
  refine (l20Tickets_any w1 w.heap.size 0 (by decide) ho.rd).mono ?_
  rintro e w2 ⟨W, g, c, ts, rfl, h1, h4, h7, o2, k2⟩
  have HO := Lib.hid (GOwn.base o2 ho.below.size)
  have HB := Lib.hid (k2.below10 ho.below (Nat.le_refl _))
  clear o2 k2 ho
  go_wp2_with fail
  go_ret2
  exact ⟨W, g, c, ts, rfl, h7, HO.out, HB.out⟩

set_option maxHeartbeats 1000000 in
theorem drawPaidOn_any (w : World) (a : Option Addr) (len cap : Nat) (zs : List Int) (h : IsRowC .u8 w a len cap zs) :
    Calls Try.prog 23 #[.slice a len cap] w (KDraw w) := by
  go_enter Try.func23, Try.ntmps23
  go_wp2_with fail
  refine (open_any w a len cap zs h).mono ?_
  rintro e w1 ⟨rfl, ho⟩
  go_wp2_with fail
  refine (l20Tickets_any w1 w.heap.size 0 (by decide) ho.rd).mono ?_
  rintro e w2 ⟨W, g, c, ts, rfl, h1, h4, h7, o2, k2⟩
  have HO := Lib.hid (GOwn.base o2 ho.below.size)
  have HB := Lib.hid (k2.below10 ho.below (Nat.le_refl _))
  clear o2 k2 ho
  go_wp2_with fail
  go_ret2
  exact ⟨W, g, c, ts, rfl, h7, HO.out, HB.out⟩

set_option maxHeartbeats 1000000 in
theorem drawTicketsOk_any (w : World) (a : Option Addr) (len cap : Nat) (zs : List Int) (h : IsRowC .u8 w a len cap zs) :
    Calls Try.prog 14 #[.slice a len cap] w (KDraw w) := by
  go_enter Try.func14, Try.ntmps14
  go_wp2_with fail
  refine (open_any w a len cap zs h).mono ?_
  rintro e w1 ⟨rfl, ho⟩
  go_wp2_with fail
  refine (l20Tickets_any w1 w.heap.size 0 (by decide) ho.rd).mono ?_
  rintro e w2 ⟨W, g, c, ts, rfl, h1, h4, h7, o2, k2⟩
  have HO := Lib.hid o2
  have HB1 := Lib.hid ho.below
  have HK := Lib.hid k2
  clear o2 k2 ho
  go_wp2_with fail
  refine (pick_any w2 w.heap.size _ _ (by decide) HK.out.1).mono ?_
  rintro e w3 ⟨v1, rfl, ⟨p1, p2, -⟩, k1⟩
  have HK3 : Hid (SR w1 w.heap.size (0 + 31) w3 ∧ KOwn w3 w1.heap.size (.slice (some ⟨g, 0, none⟩) ts.length c) ts) := Lib.hid ⟨HK.out.picked k1, KOwn.sr HO.out ((SR.start HK.out.1).picked k1) HK.out.2.2⟩
  clear k1 HK HO p1 p2
  go_wp2_with fail
  refine (pick_any w3 w.heap.size _ _ (by decide) HK3.out.1.1).mono ?_
  rintro e w4 ⟨v2, rfl, ⟨p1, p2, -⟩, k1⟩
  have HK4 : Hid (SR w1 w.heap.size (0 + 32) w4 ∧ KOwn w4 w1.heap.size (.slice (some ⟨g, 0, none⟩) ts.length c) ts) := Lib.hid ⟨HK3.out.1.picked k1, KOwn.sr HK3.out.2 ((SR.start HK3.out.1.1).picked k1) HK3.out.1.2.2⟩
  clear k1 HK3 p1 p2
  go_wp2_with fail
  go_ret2
  exact ⟨_, g, c, ts, rfl, h7, GOwn.base HK4.out.2 HB1.out.size, HK4.out.1.below10 HB1.out (Nat.le_refl _)⟩

set_option maxHeartbeats 1000000 in
theorem drawPaidOut_any (w : World) (a : Option Addr) (len cap : Nat) (zs : List Int) (h : IsRowC .u8 w a len cap zs) :
    Calls Try.prog 26 #[.slice a len cap] w (KDraw3 w) := by
  go_enter Try.func26, Try.ntmps26
  go_wp2_with fail
  refine (open_any w a len cap zs h).mono ?_
  rintro e w1 ⟨rfl, ho⟩
  go_wp2_with fail
  refine (l20Tickets_any w1 w.heap.size 0 (by decide) ho.rd).mono ?_
  rintro e w2 ⟨W, g, c, ts, rfl, h1, h4, h7, o2, k2⟩
  have HO := Lib.hid o2
  have HB1 := Lib.hid ho.below
  have HK := Lib.hid k2
  clear o2 k2 ho
  go_wp2_with fail
  refine (pick_any w2 w.heap.size _ _ (by decide) HK.out.1).mono ?_
  rintro e w3 ⟨v1, rfl, ⟨p1, p2, -⟩, k1⟩
  have HK3 : Hid (SR w1 w.heap.size (0 + 31) w3 ∧ KOwn w3 w1.heap.size (.slice (some ⟨g, 0, none⟩) ts.length c) ts) := Lib.hid ⟨HK.out.picked k1, KOwn.sr HO.out ((SR.start HK.out.1).picked k1) HK.out.2.2⟩
  clear k1 HK HO p1 p2
  go_wp2_with fail
  refine (pick_any w3 w.heap.size _ _ (by decide) HK3.out.1.1).mono ?_
  rintro e w4 ⟨v2, rfl, ⟨p1, p2, -⟩, k1⟩
  have HK4 : Hid (SR w1 w.heap.size (0 + 32) w4 ∧ KOwn w4 w1.heap.size (.slice (some ⟨g, 0, none⟩) ts.length c) ts) := Lib.hid ⟨HK3.out.1.picked k1, KOwn.sr HK3.out.2 ((SR.start HK3.out.1.1).picked k1) HK3.out.1.2.2⟩
  clear k1 HK3 p1 p2
  go_wp2_with fail
  go_returns
  exact ⟨W, _, g, c, ts, rfl, h7, GOwn.base HK4.out.2 HB1.out.size, HK4.out.1.below10 HB1.out (Nat.le_refl _)⟩

set_option maxHeartbeats 1000000 in
theorem drawTakenBy_any (w : World) (a : Option Addr) (len cap : Nat) (zs : List Int) (h : IsRowC .u8 w a len cap zs) :
    Calls Try.prog 29 #[.slice a len cap] w (KDraw3 w) := by
  go_enter Try.func29, Try.ntmps29
  go_wp2_with fail
  refine (open_any w a len cap zs h).mono ?_
  rintro e w1 ⟨rfl, ho⟩
  go_wp2_with fail
  refine (l20Tickets_any w1 w.heap.size 0 (by decide) ho.rd).mono ?_
  rintro e w2 ⟨W, g, c, ts, rfl, h1, h4, h7, o2, k2⟩
  have HO := Lib.hid o2
  have HB1 := Lib.hid ho.below
  have HK := Lib.hid k2
  clear o2 k2 ho
  go_wp2_with fail
  refine (pick_any w2 w.heap.size _ _ (by decide) HK.out.1).mono ?_
  rintro e w3 ⟨v1, rfl, ⟨p1, p2, -⟩, k1⟩
  have HK3 : Hid (SR w1 w.heap.size (0 + 31) w3 ∧ KOwn w3 w1.heap.size (.slice (some ⟨g, 0, none⟩) ts.length c) ts) := Lib.hid ⟨HK.out.picked k1, KOwn.sr HO.out ((SR.start HK.out.1).picked k1) HK.out.2.2⟩
  clear k1 HK HO p1 p2
  go_wp2_with fail
  refine (pick_any w3 w.heap.size _ _ (by decide) HK3.out.1.1).mono ?_
  rintro e w4 ⟨v2, rfl, ⟨p1, p2, -⟩, k1⟩
  have HK4 : Hid (SR w1 w.heap.size (0 + 32) w4 ∧ KOwn w4 w1.heap.size (.slice (some ⟨g, 0, none⟩) ts.length c) ts) := Lib.hid ⟨HK3.out.1.picked k1, KOwn.sr HK3.out.2 ((SR.start HK3.out.1.1).picked k1) HK3.out.1.2.2⟩
  clear k1 HK3 p1 p2
  go_wp2_with fail
  go_returns
  exact ⟨W, _, g, c, ts, rfl, h7, GOwn.base HK4.out.2 HB1.out.size, HK4.out.1.below10 HB1.out (Nat.le_refl _)⟩

end Go.Proofs.Yteefbkfhgmbcbaa
