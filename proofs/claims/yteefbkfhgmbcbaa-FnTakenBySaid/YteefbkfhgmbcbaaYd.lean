/- Contracts of spec's PaidOn, PaidOut. Conditions: rows that read. -/
import Derived.Test.YteefbkfhgmbcbaaYc
import Derived.Maps.AppendAt
namespace Go.Proofs.Yteefbkfhgmbcbaa
open Go.RowKit
set_option linter.unusedVariables false

/-- a fresh row of ints holds the first k of zs -/
def ARel (w : World) (zs : List Int) (k : Nat) (p : Value) (wr : World) : Prop := IOwn wr w.heap.size p (zs.take k) ∧ Below w.heap.size w wr

theorem lit0 (w : World) (base : Nat) (hb : base ≤ w.heap.size) : IOwn (w.alloc (.cells #[] 3)) base (.slice (some ⟨w.heap.size, 0, none⟩) 0 0) [] :=
  World.ownsRow_lit w #[] 0 hb (by unfold maxLen; omega) rfl

theorem ARel.start (w : World) (zs : List Int) : ARel w zs 0 (.slice (some ⟨w.heap.size, 0, none⟩) 0 0) (w.alloc (.cells #[] 3)) := ⟨lit0 w _ (Nat.le_refl _), (Below.refl _ _).alloc (Nat.le_refl _) _⟩

theorem alloc_b10 (w : World) (o : Obj) : Below w.heap.size w (w.alloc o) := (Below.refl _ _).alloc (Nat.le_refl _) o

theorem wp_app_int {ops : Array Oper} {rest : List Oper} {o : Oper} {a : Act} {Q : Exit → Act → World → Prop} (hgd : o.guard = none) (s x : Operand)
    (ho : o.op = .call { callee := .builtin .append, args := #[s, x], argTypes := #[31, 31] }) (w : World) (base : Nat) (v : Value) (xs : List Int) (L : Nat) (hL : xs.length = L) (n : Int)
    (hs : a.eval s = v) (hown : IOwn w base v xs) (hx : a.eval x = .slice (some ⟨w.heap.size, 0, none⟩) 1 1)
    (h1 : L ≤ 1000000) (hb : base ≤ w.heap.size)
    (h : ∀ g c w', IOwn w' base (.slice (some ⟨g, 0, none⟩) (L + 1) c) (xs ++ [n]) → Below base w w' → w.grownBy w' v.ownBlock → wpList Try.prog ops Q rest (a.put o.dst (.slice (some ⟨g, 0, none⟩) (L + 1) c)) w') :
    wpList Try.prog ops Q (o :: rest) a (w.alloc (.cells #[.int .i64 n] 3)) := by
  subst hL
  obtain ⟨i0, hi, hz0, hz1, hz2⟩ := info_parts Try_intinfo
  have hown2 : (w.alloc (.cells #[.int .i64 n] 3)).ownsRow base 3 1 v xs.length (xs.map (Value.int .i64)) := World.ownsRow.alloc hown _
  refine wpList_append_own_at _ hgd s x 31 ho base 3 i0 (.int .i64 0) 1 8 Try.underlying31 hi hz0 hz1 hz2 rfl (by decide) v xs.length (xs.map (Value.int .i64)) hs hown2 ⟨w.heap.size, 0, none⟩ 1 1 [.int .i64 n] hx rfl (one_new w _ _) one_int (by unfold maxLen; omega) (by omega) (by simp; omega) ?_
  intro v' w' k1 k2 k3 k4
  have hl : (xs ++ [n]).length = xs.length + 1 := by simp
  obtain ⟨g, c, hv, -⟩ : ∃ g c, v' = .slice (some ⟨g, 0, none⟩) (xs.length + 1) c ∧ True := by
    rcases k1.2 with ⟨-, hz⟩ | ⟨g, cap, cur, e, -⟩
    · omega
    · exact ⟨g, cap, e, trivial⟩
  subst hv
  refine h g c w' ?_ (((Below.refl base w).alloc hb _).grown k2 (by simp; omega) (fun g hg => (World.ownsRow.lt hown2 g hg).1)) (grown_after (alloc_b10 w _) k2)
  unfold IOwn
  rw [hl, List.map_append]
  exact k1

set_option maxHeartbeats 2000000 in
theorem specPaidOn_any (w : World) (W : Int) (v : Value) (ts : List Qt) (hv : QRd w v ts) :
    Calls Try.prog 25 #[.int .i64 W, v] w (NewInts (paidR W ts) w) := by
  obtain ⟨A, c, rfl, hl, hm⟩ := hv.form
  have HV : Hid (∀ wr, Below w.heap.size w wr → QRd wr (.slice A ts.length c) ts) := Lib.hid (fun wr hb => hv.keep (SameAt.of_below hb))
  clear hv
  have D0 := Lib.hid (ARel.start w (paidL W ts))
  rcases Bool.eq_false_or_eq_true (tkB W ts) with h | h
  · have HP := Lib.hid (pays_of h)
    obtain ⟨w1, w4, h6, -⟩ := (tkB_iff W ts).1 h
    obtain ⟨N, rfl⟩ : ∃ N : Nat, W = N := ⟨W.toNat, by omega⟩
    have HR : Hid (paidR (N : Int) ts = paidL (N : Int) ts) := Lib.hid (by rw [paidR, if_pos h])
    have HZ : Hid ((paidL (N : Int) ts).length = N) := Lib.hid (by rw [paid_len, Int.toNat_natCast])
    have H := Lib.hid h
    clear h
    go_enter Try.func25, Try.ntmps25
    go_wp2_with fail
    go_loopw [5, 6] (fun p i wr => ∃ k : Nat, i = .int .i64 (k : Int) ∧ k ≤ N ∧ Hid (ARel w (paidL (N : Int) ts) k p wr)) (fun _ i _ => N - (intOf i).toNat)
    case atStart => exact ⟨0, rfl, Nat.zero_le _, D0⟩
    case round =>
      obtain ⟨k, rfl, hk, HF⟩ := hrel
      clear D0
      by_cases hlt : k < N
      · have hlt' : (k : Int) < (N : Int) := by omega
        obtain ⟨n, hn⟩ : ∃ n, onW ts (k : Int) = n := ⟨_, rfl⟩
        have HS : Hid ((paidL (N : Int) ts)[k]? = some n) := Lib.hid (by rw [paid_at (by rw [Int.toNat_natCast]; exact hlt), hn])
        have hlk : Hid (((paidL (N : Int) ts).take k).length = k) := Lib.hid (by rw [List.length_take, HZ.out]; omega)
        go_wp2_with fail
        refine (specTicketsOk_any wr _ _ ts (HV.out _ HF.out.2)).mono ?_
        rintro r w' ⟨rfl, rfl⟩
        rw [H.out]
        go_wp2_with fail
        refine (l10On_any wr _ ts _ (HV.out _ HF.out.2) HP.out h6).mono ?_
        rintro r w' ⟨rfl, rfl⟩
        rw [hn]
        clear hn
        go_wp2_with (at_builtin; refine wp_app_int rfl _ _ rfl _ w.heap.size _ _ k hlk.out n (by rfl) HF.out.1 (by rfl) (by omega) HF.out.2.size ?_)
        intro g c5 w5 o5 b5 _
        have HF5 : Hid (ARel w (paidL (N : Int) ts) (k + 1) (.slice (some ⟨g, 0, none⟩) (k + 1) c5) w5) := Lib.hid ⟨by rw [List.take_add_one, HS.out]; exact o5, HF.out.2.trans b5⟩
        clear o5 b5 hlk
        go_wp2_with fail
        go_roundw
        case rel => exact ⟨k + 1, by go_num, by omega, HF5⟩
        case measure => simp [intOf]; omega
      · obtain rfl : k = N := by omega
        go_wp2_with fail
        go_ret
        exact ⟨_, rfl, by rw [HR.out]; have := HF.out.1; rwa [List.take_of_length_le (by rw [HZ.out]; exact Nat.le_refl _)] at this, HF.out.2⟩
  · have HR : Hid (paidR W ts = []) := Lib.hid (by rw [paidR, h]; rfl)
    go_enter Try.func25, Try.ntmps25
    go_wp2_with fail
    go_loopw [5, 6] (fun p i wr => i = .int .i64 0 ∧ p = .slice (some ⟨w.heap.size, 0, none⟩) 0 0 ∧ Hid (ARel w (paidL W ts) 0 p wr)) (fun _ i _ => 0)
    case atStart => exact ⟨rfl, rfl, D0⟩
    case round =>
      obtain ⟨rfl, rfl, HF⟩ := hrel
      clear D0
      by_cases hw : 0 < W
      · go_wp2_with fail
        refine (specTicketsOk_any wr _ _ ts (HV.out _ HF.out.2)).mono ?_
        rintro r w' ⟨rfl, rfl⟩
        rw [h]
        go_wp2_with fail
        go_ret
        exact ⟨_, rfl, by rw [HR.out]; exact HF.out.1, HF.out.2⟩
      · have hw' : W ≤ 0 := by omega
        go_wp2_with fail
        go_ret
        exact ⟨_, rfl, by rw [HR.out]; exact HF.out.1, HF.out.2⟩

end Go.Proofs.Yteefbkfhgmbcbaa
