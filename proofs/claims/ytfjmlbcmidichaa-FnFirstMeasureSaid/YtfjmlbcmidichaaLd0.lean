/- Facts and steps for the laws over books: copies of a book. Conditions: stated at each. -/
import Derived.Test.YtfjmlbcmidichaaLc
import Derived.Laws.AppendOwnNone
namespace Go.Proofs.Ytfjmlbcmidichaa
open Go.RowKit
set_option linter.unusedVariables false

theorem flat_get (qs : List Qt) (j : Nat) : (qs.flatMap qC)[j]? = (qs[j / 2]?).bind fun q => (qC q)[j % 2]? := by
  induction qs generalizing j with
  | nil => simp
  | cons q qs ih =>
    rw [List.flatMap_cons]
    match j with
    | 0 => rfl
    | 1 => rfl
    | j + 2 =>
      have h1 : (j + 2) / 2 = j / 2 + 1 := by omega
      have h2 : (j + 2) % 2 = j % 2 := by omega
      rw [h1, h2, List.getElem?_append_right (by rw [qC_len]; omega), qC_len, Nat.add_sub_cancel, ih]
      rfl

theorem grd_news {w : World} {b off n c : Nat} {qs : List Qt} (h : QRd w (.slice (some ⟨b, off, none⟩) n c) qs) : ∀ j u, (qs.flatMap qC)[j]? = some u → w.cell? ((⟨b, off, none⟩ : Addr).add j) = some u := by
  intro j u hu
  rw [flat_get] at hu
  cases hq : qs[j / 2]? with
  | none => rw [hq] at hu; cases hu
  | some q =>
    rw [hq] at hu
    obtain ⟨c0, c1⟩ := QRd.cell h hq
    rw [addr_add]
    rcases Nat.mod_two_eq_zero_or_one j with h2 | h2
    · rw [h2] at hu
      obtain rfl : Value.int .i64 q.1 = u := Option.some.inj hu
      rw [show off + j = off + j / 2 * 2 from by omega]; exact c0
    · rw [h2] at hu
      obtain rfl : Value.int .i64 q.2 = u := Option.some.inj hu
      rw [show off + j = off + j / 2 * 2 + 1 from by omega]; exact c1

theorem quotes_one (qs : List Qt) : ∀ u ∈ qs.flatMap qC, u.oneCell' = true := by
  intro u hu
  obtain ⟨q, -, hq⟩ := List.mem_flatMap.1 hu
  simp only [qC, List.mem_cons, List.not_mem_nil, or_false] at hq
  rcases hq with rfl | rfl <;> rfl

theorem qown_form {w : World} {base : Nat} {v : Value} {qs : List Qt} (h : QOwn w base v qs) (hn : 0 < qs.length) : ∃ g cap, v = .slice (some ⟨g, 0, none⟩) qs.length cap ∧ qs.length ≤ cap ∧ cap ≤ 9223372036854775807 := by
  rcases h.2 with ⟨rfl, h0⟩ | ⟨g, cap, cur, rfl, -, -, h1, h2, -, -⟩
  · omega
  · exact ⟨g, cap, rfl, h1, by rw [maxLen_is] at h2; exact h2⟩

theorem qown_two {w : World} {base : Nat} {v : Value} (h : QOwn w base v []) : v = .slice none 0 0 ∨ ∃ g cap, v = .slice (some ⟨g, 0, none⟩) 0 cap := by
  rcases h.2 with ⟨rfl, h0⟩ | ⟨g, cap, cur, rfl, -⟩
  · exact .inl rfl
  · exact .inr ⟨g, cap, rfl⟩

theorem litq_own (w : World) : (w.alloc (.cells #[] 33)).ownsRow w.heap.size 33 2 (.slice (some ⟨w.heap.size, 0, none⟩) 0 0) 0 [] :=
  World.ownsRow_lit w #[] 0 (Nat.le_refl _) (by unfold maxLen; omega) rfl

theorem fair_nil {n : Int} {qs : List Qt} (h : bokB n qs = true) : fairB n [] = true := by
  have := ((bokB_iff _ _).1 h).1
  have h1 : 1 ≤ n := this.1
  rw [fairB, bok_nil h, any_nil (by omega)]; rfl

theorem fair_less {n : Int} {qs : List Qt} (h : bokB n qs = true) (hf : fairB n qs = true) (k : Nat) : fairB n (qs.take k) = true := by
  rw [fairB, h, Bool.true_and] at hf
  rw [fairB, bok_take h, any_sub (fun q hq => List.mem_of_mem_take hq) hf]; rfl

theorem other_valid {n : Int} {q : Qt} (h : qokB n q = true) : otherR n q = otherQ n q ∧ qokB n (otherQ n q) = true := by
  refine ⟨by rw [otherR, if_pos h], ?_⟩
  obtain ⟨h1, h2⟩ := (qokB_iff n q).1 h
  rw [qokB_iff]
  exact ⟨ev_not h1, by show 0 ≤ 6 - q.2 ∧ 6 - q.2 ≤ 6; omega⟩

theorem fair_other {n : Int} {qs : List Qt} {q : Qt} (h : bokB n qs = true) (hx : qs[0]? = some q) : fairB n (qs.set 0 (otherR n q)) = fairB n qs := by
  cases qs with
  | nil => cases hx
  | cons p ps =>
    obtain rfl : p = q := Option.some.inj hx
    have h2 := (bokB_iff _ _).1 h
    have hq := h2.2.2 p (by simp)
    obtain ⟨e1, e2⟩ := other_valid hq
    have hn1 : 1 ≤ n := h2.1.1
    obtain ⟨m, rfl⟩ : ∃ m : Nat, n = m := ⟨n.toNat, by omega⟩
    have hb : bokB (m : Int) (otherQ (m : Int) p :: ps) = true := by
      rw [bokB_iff]
      refine ⟨h2.1, by simpa using h2.2.1, fun y hy => ?_⟩
      rcases List.mem_cons.1 hy with rfl | hy
      · exact e2
      · exact h2.2.2 y (by simp [hy])
    rw [List.set_cons_zero, e1, fairB, fairB, h, hb, Int.toNat_natCast, any_other (by omega) hq]

theorem fair_one {n : Nat} {q : Qt} (h : bokB (n : Int) [q] = true) : fairB n [q] = !((q.1 == 0 && q.2 != 0) || (q.1 == 2 ^ n - 1 && q.2 != 6)) := by
  rw [fairB, h, Int.toNat_natCast, any_one h]; rfl

theorem fair_one_1 {q : Qt} (h : bokB 1 [q] = true) : fairB 1 [q] = !((q.1 == 0 && q.2 != 0) || (q.1 == 1 && q.2 != 6)) := by have := fair_one (n := 1) h; simpa using this

theorem fair_one_2 {q : Qt} (h : bokB 2 [q] = true) : fairB 2 [q] = !((q.1 == 0 && q.2 != 0) || (q.1 == 3 && q.2 != 6)) := by have := fair_one (n := 2) h; simpa using this

theorem fair_one_3 {q : Qt} (h : bokB 3 [q] = true) : fairB 3 [q] = !((q.1 == 0 && q.2 != 0) || (q.1 == 7 && q.2 != 6)) := by have := fair_one (n := 3) h; simpa using this

theorem fair_one_4 {q : Qt} (h : bokB 4 [q] = true) : fairB 4 [q] = !((q.1 == 0 && q.2 != 0) || (q.1 == 15 && q.2 != 6)) := by have := fair_one (n := 4) h; simpa using this

/-- a fresh copy of the book -/
theorem copy_of {w w' : World} {v' : Value} {qs : List Qt} {row : Option Nat} (h : w'.ownsRow w.heap.size 33 2 v' qs.length (qs.flatMap qC)) (hg : (w.alloc (.cells #[] 33)).grownBy w' row) (hr : row = some w.heap.size) : QOwn w' w.heap.size v' qs ∧ Below w.heap.size w w' := by
  subst hr
  refine ⟨h, ?_⟩
  exact (Below.refl _ w).grown (grown_after (w := w) ((Below.refl _ w).alloc (Nat.le_refl _) _) hg) (Nat.le_refl _) (fun k hk => by have h1 : w.heap.size = k := Option.some.inj hk; omega)

/-- the first quote replaced -/
theorem put_first {w : World} {base g cap : Nat} {qs : List Qt} (h : QOwn w base (.slice (some ⟨g, 0, none⟩) qs.length cap) qs) (hk : 0 < qs.length) (x y : Int) :
    QOwn ((w.setCell ⟨g, 0, none⟩ (.int .i64 x)).setCell ⟨g, 1, none⟩ (.int .i64 y)) base (.slice (some ⟨g, 0, none⟩) qs.length cap) (qs.set 0 (x, y)) ∧ w.grownBy ((w.setCell ⟨g, 0, none⟩ (.int .i64 x)).setCell ⟨g, 1, none⟩ (.int .i64 y)) (some g) := by
  have := GOwn.set2 qC_len h (k := 0) hk (x := (x, y)) (v0 := .int .i64 x) (v1 := .int .i64 y) rfl
  simpa using this

theorem first_cells {w : World} {base g cap : Nat} {qs : List Qt} (h : QOwn w base (.slice (some ⟨g, 0, none⟩) qs.length cap) qs) (hk : 0 < qs.length) :
    (∃ u, w.cell? ⟨g, 0, none⟩ = some u) ∧ w.frozen? ⟨g, 0, none⟩ = false ∧ (∃ u, w.cell? ⟨g, 1, none⟩ = some u) ∧ w.frozen? ⟨g, 1, none⟩ = false := by
  obtain ⟨q, hq⟩ : ∃ q, qs[0]? = some q := ⟨_, List.getElem?_eq_getElem hk⟩
  obtain ⟨c0, c1⟩ := QRd.cell (GOwn.rd qC_len h) hq
  unfold QOwn GOwn at h
  exact ⟨⟨_, by simpa using c0⟩, h.frozenAt 0, ⟨_, by simpa using c1⟩, h.frozenAt 1⟩

theorem news_second (w : World) (x y : Int) : ∀ j u, [Value.int .i64 x, .int .i64 y][j]? = some u → ((w.alloc (.cells #[] 33)).alloc (.cells #[.int .i64 x, .int .i64 y] 33)).cell? ((⟨w.heap.size + 1, 0, none⟩ : Addr).add j) = some u := by
  have h := World.news_of_block (heap_alloc_new (w.alloc (.cells #[] 33)) (.cells #[.int .i64 x, .int .i64 y] 33))
  rw [World.size_alloc] at h
  simpa using h

end Go.Proofs.Ytfjmlbcmidichaa
