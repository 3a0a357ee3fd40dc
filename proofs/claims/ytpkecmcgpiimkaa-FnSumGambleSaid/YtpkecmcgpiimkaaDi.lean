/- What is drawn for chapter 2 where one gamble is drawn. Conditions: a row of bytes that came in. -/
import Derived.Test.YtpkecmcgpiimkaaDh
namespace Go.Proofs.Ytpkecmcgpiimkaa
open Go.RowKit
set_option linter.unusedVariables false

/-- a fresh row of few numbers that are not far from nothing -/
def DrawRow (w : World) (e : Ending) (w' : World) : Prop := ∃ v xs, e = .returned v ∧ IOwn w' w.heap.size v xs ∧ xs.length ≤ 8 ∧ Amt 1090 xs ∧ Below w.heap.size w w'

theorem drawn_row {w w1 w2 w3 : World} {P Q : Nat} {v : Value} {xs : List Int} (ho : Opened w w1) (k : Picked w.heap.size P w1 w2) (h : GamRel w2 w.heap.size Q v xs w3) : IOwn w3 w.heap.size v xs ∧ Below w.heap.size w w3 := by
  have h1 := ho.picked k
  exact ⟨h.2.1.base h1.size, h1.grown h.2.2.1 h1.size (fun g hg => by injection hg with hg; omega)⟩

set_option maxHeartbeats 1000000 in
theorem drawGambleOk_any (w : World) (a : Option Addr) (len cap : Nat) (zs : List Int) (h : IsRowC .u8 w a len cap zs) :
    Calls Try.prog 17 #[.slice a len cap] w (DrawRow w) := by
  go_enter Try.func17, Try.ntmps17
  go_wp2_with fail
  refine (open_any w a len cap zs h).mono ?_
  rintro e w1 ⟨rfl, ho⟩
  go_wp2_with fail
  refine (pick_any _ w.heap.size 0 _ (by decide) ho.rd).mono ?_
  rintro e w2 ⟨v1, rfl, ⟨p1, p2, -⟩, k1⟩
  have p2 := p2 (by decide)
  go_wp2_with fail
  refine (l20Gamble_any _ w.heap.size 1 _ _ (by decide) k1.rd (by omega) (by omega) (by decide) (by decide)).mono ?_
  rintro e w3 ⟨v, xs, rfl, h3, hl, ha⟩
  obtain ⟨o1, o2⟩ := drawn_row ho k1 h3
  have O1 := Lib.hid o1
  have O2 := Lib.hid o2
  clear ho k1 h3 o1 o2
  go_wp2_with fail
  go_ret
  exact ⟨_, _, rfl, O1.out, hl, ha.mono (by decide), O2.out⟩

set_option maxHeartbeats 1000000 in
theorem drawWorstOf_any (w : World) (a : Option Addr) (len cap : Nat) (zs : List Int) (h : IsRowC .u8 w a len cap zs) :
    Calls Try.prog 30 #[.slice a len cap] w (DrawRow w) := by
  go_enter Try.func30, Try.ntmps30
  go_wp2_with fail
  refine (open_any w a len cap zs h).mono ?_
  rintro e w1 ⟨rfl, ho⟩
  go_wp2_with fail
  refine (pick_any _ w.heap.size 0 _ (by decide) ho.rd).mono ?_
  rintro e w2 ⟨v1, rfl, ⟨p1, p2, -⟩, k1⟩
  have p2 := p2 (by decide)
  go_wp2_with fail
  refine (l20Gamble_any _ w.heap.size 1 _ _ (by decide) k1.rd (by omega) (by omega) (by decide) (by decide)).mono ?_
  rintro e w3 ⟨v, xs, rfl, h3, hl, ha⟩
  obtain ⟨o1, o2⟩ := drawn_row ho k1 h3
  have O1 := Lib.hid o1
  have O2 := Lib.hid o2
  clear ho k1 h3 o1 o2
  go_wp2_with fail
  go_ret
  exact ⟨_, _, rfl, O1.out, hl, ha.mono (by decide), O2.out⟩

set_option maxHeartbeats 1000000 in
theorem drawBestOf_any (w : World) (a : Option Addr) (len cap : Nat) (zs : List Int) (h : IsRowC .u8 w a len cap zs) :
    Calls Try.prog 33 #[.slice a len cap] w (DrawRow w) := by
  go_enter Try.func33, Try.ntmps33
  go_wp2_with fail
  refine (drawWorstOf_any w a len cap zs h).mono ?_
  rintro e w1 ⟨v, xs, rfl, h1, h2, h3, h4⟩
  go_wp2_with fail
  go_ret
  exact ⟨_, _, rfl, h1, h2, h3, h4⟩

set_option maxHeartbeats 1000000 in
theorem drawLosesOk_any (w : World) (a : Option Addr) (len cap : Nat) (zs : List Int) (h : IsRowC .u8 w a len cap zs) :
    Calls Try.prog 38 #[.slice a len cap] w (DrawRow w) := by
  go_enter Try.func38, Try.ntmps38
  go_wp2_with fail
  refine (drawWorstOf_any w a len cap zs h).mono ?_
  rintro e w1 ⟨v, xs, rfl, h1, h2, h3, h4⟩
  go_wp2_with fail
  go_ret
  exact ⟨_, _, rfl, h1, h2, h3, h4⟩

/-- a fresh row and a number -/
def DrawRowNum (w : World) (e : Ending) (w' : World) : Prop := ∃ (v : Value) (xs : List Int) (t : Int), e = .returned (.tuple #[v, .int .i64 t]) ∧ IOwn w' w.heap.size v xs ∧ xs.length ≤ 8 ∧ Amt 1090 xs ∧ -4 ≤ t ∧ t ≤ 1004 ∧ Below w.heap.size w w'

theorem Picked.far {R P : Nat} {w w' : World} {v : Value} {xs : List Int} {base : Nat} (h : Picked R P w w') (o : IOwn w base v xs) (hb : R < base) : IOwn w' base v xs := by
  refine o.keep (SameAt.of_grown h.grown ?_)
  rcases hv : v.ownBlock with _ | g
  · exact .inl rfl
  · refine .inr fun e => ?_
    have := (o.ge g hv).1
    injection e with e
    omega

set_option maxHeartbeats 2000000 in
theorem drawTimesGamble_any (w : World) (a : Option Addr) (len cap : Nat) (zs : List Int) (h : IsRowC .u8 w a len cap zs) :
    Calls Try.prog 27 #[.slice a len cap] w (DrawRowNum w) := by
  go_enter Try.func27, Try.ntmps27
  go_wp2_with fail
  refine (open_any w a len cap zs h).mono ?_
  rintro e w1 ⟨rfl, ho⟩
  go_wp2_with fail
  refine (pick_any _ w.heap.size 0 _ (by decide) ho.rd).mono ?_
  rintro e w2 ⟨v1, rfl, ⟨p1, p2, -⟩, k1⟩
  have p2 := p2 (by decide)
  go_wp2_with fail
  refine (l20Gamble_any _ w.heap.size 1 _ _ (by decide) k1.rd (by omega) (by omega) (by decide) (by decide)).mono ?_
  rintro e w3 ⟨v, xs, rfl, h3, hl, ha⟩
  have HA := Lib.hid (ha.mono (C := 1090) (by decide))
  have B3 := Lib.hid (drawn_row ho k1 h3).2
  have hsz : w.heap.size < w2.heap.size := by have := ho.size; have := k1.size; omega
  have H3 := Lib.hid h3
  clear h3 ha ho k1
  go_wp2_with fail
  refine (pick_any _ w.heap.size 13 _ (by decide) H3.out.1).mono ?_
  rintro e w4 ⟨v2, rfl, ⟨p3, p4, -⟩, k2⟩
  have p4 := p4 (by decide)
  have H4 := Lib.hid (H3.out.picked k2)
  have B4 := Lib.hid (B3.out.grown k2.grown B3.out.size (fun g hg => by injection hg with hg; omega))
  clear H3 B3 k2
  go_wp2_with fail
  refine (pick_any _ w.heap.size 14 _ (by decide) H4.out.1).mono ?_
  rintro e w5 ⟨v3, rfl, ⟨p5, p6, -⟩, k3⟩
  have p6 := p6 (by decide)
  have H5 := Lib.hid (H4.out.picked k3)
  have B5 := Lib.hid (B4.out.grown k3.grown B4.out.size (fun g hg => by injection hg with hg; omega))
  clear H4 B4 k3
  go_wp2_with fail
  go_ret2
  exact ⟨_, _, _, rfl, H5.out.2.1.base (by omega), hl, HA.out, by omega, by omega, B5.out⟩

end Go.Proofs.Ytpkecmcgpiimkaa
