/- The facts of wagers: their texts, how these are cut and read. No condition. -/
import Derived.Test.YtfdlfgokoponmaaDoorXo
namespace Go.Proofs.YtfdlfgokoponmaaDoor
open Go.RowKit
set_option linter.unusedVariables false

/-- a digit -/
def dg (n : Nat) : UInt8 := UInt8.ofNat (48 + n)

/-- a small number in decimal -/
def num (n : Int) : List UInt8 := if n < 0 then [45, dg (-n).toNat] else [dg n.toNat]

theorem dg_inj {n m : Nat} (hn : n ≤ 9) (hm : m ≤ 9) (h : dg n = dg m) : n = m := by
  have : ∀ a b : Fin 10, dg a = dg b → (a : Nat) = b := by decide
  exact this ⟨n, by omega⟩ ⟨m, by omega⟩ h

theorem dg_ne {n : Nat} (hn : n ≤ 9) : dg n ≠ 42 ∧ dg n ≠ 64 ∧ dg n ≠ 45 ∧ (dg n).toNat = 48 + n := by
  have : ∀ a : Fin 10, dg a ≠ 42 ∧ dg a ≠ 64 ∧ dg a ≠ 45 ∧ (dg a).toNat = 48 + a := by decide
  exact this ⟨n, by omega⟩

theorem num_pos {n : Int} (h0 : 0 ≤ n) : num n = [dg n.toNat] := by rw [num, if_neg (by omega)]

theorem num_neg {n : Int} (h0 : n < 0) : num n = [45, dg (-n).toNat] := by rw [num, if_pos h0]

theorem num_inj {n m : Int} (hn : -9 ≤ n ∧ n ≤ 9) (hm : -9 ≤ m ∧ m ≤ 9) (h : num n = num m) : n = m := by
  by_cases h1 : n < 0
  · by_cases h2 : m < 0
    · rw [num_neg h1, num_neg h2] at h
      injection h with _ h
      injection h with h _
      have := dg_inj (by omega) (by omega) h
      omega
    · rw [num_neg h1, num_pos (by omega)] at h
      injection h with _ h
      cases h
  · by_cases h2 : m < 0
    · rw [num_pos (by omega), num_neg h2] at h
      injection h with _ h
      cases h
    · rw [num_pos (by omega), num_pos (by omega)] at h
      injection h with h _
      have := dg_inj (by omega) (by omega) h
      omega

theorem num_mem {n : Int} (hn : -9 ≤ n ∧ n ≤ 9) : (42 : UInt8) ∉ num n ∧ (64 : UInt8) ∉ num n ∧ (num n).length ≤ 2 := by
  by_cases h1 : n < 0
  · rw [num_neg h1]
    obtain ⟨e1, e2, -, -⟩ := dg_ne (n := (-n).toNat) (by omega)
    refine ⟨?_, ?_, by simp⟩
    · intro h; simp only [List.mem_cons, List.not_mem_nil, or_false] at h
      rcases h with h | h
      · cases h
      · exact e1 h.symm
    · intro h; simp only [List.mem_cons, List.not_mem_nil, or_false] at h
      rcases h with h | h
      · cases h
      · exact e2 h.symm
  · rw [num_pos (by omega)]
    obtain ⟨e1, e2, -, -⟩ := dg_ne (n := n.toNat) (by omega)
    refine ⟨?_, ?_, by simp⟩
    · intro h; rw [List.mem_singleton] at h; exact e1 h.symm
    · intro h; rw [List.mem_singleton] at h; exact e2 h.symm

theorem brk_mem {c : UInt8} (h1 : c ≠ 40) (h2 : c ≠ 41) {b : Bool} {s : List UInt8} (h : c ∉ s) : c ∉ brk b s := by
  unfold brk
  split
  · intro hm
    rcases List.mem_cons.1 hm with e | hm
    · exact h1 e
    · rcases List.mem_append.1 hm with hm | hm
      · exact h hm
      · exact h2 (List.mem_singleton.1 hm)
  · exact h

theorem txt_mem {c : UInt8} (hc : c = 42 ∨ c = 64) (T : Tm) : c ∉ txtT T := by
  have hb : c ≠ 40 ∧ c ≠ 41 ∧ c ≠ 33 ∧ c ≠ 38 ∧ c ≠ 124 ∧ c ≠ 97 ∧ c ≠ 98 := by rcases hc with rfl | rfl <;> decide
  obtain ⟨h1, h2, h3, h4, h5, h6, h7⟩ := hb
  induction T with
  | lt b => intro h; cases b <;> (simp only [txtT, List.mem_singleton] at h; first | exact h6 h | exact h7 h)
  | no t ih =>
    intro h
    rcases List.mem_cons.1 h with e | h
    · exact h3 e
    · exact brk_mem h1 h2 ih h
  | an x y ihx ihy =>
    intro h
    rcases List.mem_append.1 h with h | h
    · exact brk_mem h1 h2 ihx h
    · rcases List.mem_cons.1 h with e | h
      · exact h4 e
      · exact brk_mem h1 h2 ihy h
  | vel x y ihx ihy =>
    intro h
    rcases List.mem_append.1 h with h | h
    · exact ihx h
    · rcases List.mem_cons.1 h with e | h
      · exact h5 e
      · exact brk_mem h1 h2 ihy h

/-! wagers -/

def wgB (s : Int) (t : List Mk) (p : Int) : Bool := inB s (-9) 9 && (tmB t && inB p 0 6)

theorem wgB_iff (s : Int) (t : List Mk) (p : Int) : wgB s t p = true ↔ (-9 ≤ s ∧ s ≤ 9) ∧ tmB t = true ∧ 0 ≤ p ∧ p ≤ 6 := by
  rw [wgB, Bool.and_eq_true, Bool.and_eq_true, inB_iff, inB_iff]

def wtx (s : Int) (l : List UInt8) (p : Int) : List UInt8 := num s ++ 42 :: (l ++ 64 :: num p)

noncomputable def wgT (s : Int) (t : List Mk) (p : Int) : List UInt8 := if wgB s t p = true then wtx s (txtI t) p else []

theorem wgT_yes {s : Int} {t : List Mk} {p : Int} (h : wgB s t p = true) : wgT s t p = wtx s (txtI t) p := by rw [wgT, if_pos h]

theorem wgT_no {s : Int} {t : List Mk} {p : Int} (h : wgB s t p = false) : wgT s t p = [] := by rw [wgT, h]; rfl

theorem wtx_len {s : Int} {l : List UInt8} {p : Int} (hs : -9 ≤ s ∧ s ≤ 9) (hp : 0 ≤ p ∧ p ≤ 6) : (wtx s l p).length ≤ l.length + 6 := by
  have h1 := (num_mem hs).2.2
  have h2 := (num_mem (n := p) (by omega)).2.2
  simp only [wtx, List.length_append, List.length_cons]; omega

/-! cutting -/

def pstep (c : UInt8) (l : List UInt8) (st : List (List UInt8) × Nat) (k : Nat) : List (List UInt8) × Nat := if l[k]? = some c then (st.1 ++ [(l.drop st.2).take (k - st.2)], k + 1) else st

def pcs (c : UInt8) (l : List UInt8) (k : Nat) : List (List UInt8) × Nat := (List.range k).foldl (pstep c l) ([], 0)

def cutF (c : UInt8) (l : List UInt8) : List (List UInt8) := (pcs c l l.length).1 ++ [l.drop (pcs c l l.length).2]

theorem pcs_zero (c : UInt8) (l : List UInt8) : pcs c l 0 = ([], 0) := rfl

theorem pcs_succ (c : UInt8) (l : List UInt8) (k : Nat) : pcs c l (k + 1) = pstep c l (pcs c l k) k := by
  unfold pcs
  rw [List.range_succ, List.foldl_append]; rfl

theorem pcs_le (c : UInt8) (l : List UInt8) (k : Nat) : (pcs c l k).2 ≤ k ∧ (pcs c l k).1.length ≤ k := by
  induction k with
  | zero => simp [pcs_zero]
  | succ k ih =>
    rw [pcs_succ, pstep]
    split
    · simp only [List.length_append, List.length_singleton]; omega
    · omega

theorem cut_len (c : UInt8) (l : List UInt8) : 1 ≤ (cutF c l).length ∧ (cutF c l).length ≤ l.length + 1 := by
  have := (pcs_le c l l.length).2
  simp only [cutF, List.length_append, List.length_singleton]; omega

theorem cut_nil (c : UInt8) : cutF c [] = [[]] := rfl

theorem cut_two {c : UInt8} {A B : List UInt8} (hA : c ∉ A) (hB : c ∉ B) : cutF c (A ++ c :: B) = [A, B] := by
  have hk : ∀ k, k ≤ (A ++ c :: B).length → pcs c (A ++ c :: B) k = if k ≤ A.length then ([], 0) else ([A], A.length + 1) := by
    intro k
    induction k with
    | zero => intro _; rfl
    | succ k ih =>
      intro hk
      have h1 := ih (by omega)
      rw [pcs_succ, pstep]
      rcases Nat.lt_trichotomy k A.length with h | h | h
      · rw [if_neg, h1, if_pos (by omega), if_pos (by omega)]
        rw [List.getElem?_append_left h]
        intro e
        exact hA (List.mem_of_getElem? e)
      · subst h
        rw [if_pos (by simp), h1, if_pos (Nat.le_refl _), if_neg (by omega)]
        simp
      · rw [if_neg, h1, if_neg (by omega), if_neg (by omega)]
        rw [List.getElem?_append_right (by omega)]
        obtain ⟨j, hj⟩ : ∃ j, k - A.length = j + 1 := ⟨k - A.length - 1, by omega⟩
        rw [hj, List.getElem?_cons_succ]
        intro e
        exact hB (List.mem_of_getElem? e)
  rw [cutF, hk _ (Nat.le_refl _), if_neg (by simp)]
  simp

/-! reading -/

/-- the wager that a text is of -/
def WReadsB (l : List UInt8) (s : Int) (T : Tm) (p : Int) : Prop := wtx s (txtT T) p = l ∧ (-9 ≤ s ∧ s ≤ 9) ∧ (0 ≤ p ∧ p ≤ 6) ∧ (encT T).length ≤ 40

theorem WReadsB.cuts {l : List UInt8} {s : Int} {T : Tm} {p : Int} (h : WReadsB l s T p) : cutF 42 l = [num s, txtT T ++ 64 :: num p] ∧ cutF 64 (txtT T ++ 64 :: num p) = [txtT T, num p] := by
  obtain ⟨rfl, hs, hp, -⟩ := h
  have h1 := num_mem hs
  have h2 := num_mem (n := p) (by omega)
  constructor
  · refine cut_two h1.1 (fun hm => ?_)
    rcases List.mem_append.1 hm with hm | hm
    · exact txt_mem (.inl rfl) T hm
    · rcases List.mem_cons.1 hm with e | hm
      · cases e
      · exact h2.1 hm
  · exact cut_two (txt_mem (.inr rfl) T) h2.2.1

theorem WReadsB.one {l : List UInt8} {s s' : Int} {T T' : Tm} {p p' : Int} (h : WReadsB l s T p) (k : WReadsB l s' T' p') : s = s' ∧ T = T' ∧ p = p' := by
  have e1 := h.cuts
  have e2 := k.cuts
  rw [e1.1] at e2
  have e3 := e2.1
  injection e3 with a1 a2
  injection a2 with a2 _
  have e4 := e2.2
  rw [← a2, e1.2] at e4
  injection e4 with b1 b2
  injection b2 with b2 _
  exact ⟨num_inj h.2.1 k.2.1 a1, txt_inj b1, num_inj (by have := h.2.2.1; omega) (by have := k.2.2.1; omega) b2⟩

theorem WReadsB.ok {l : List UInt8} {s : Int} {T : Tm} {p : Int} (h : WReadsB l s T p) : wgB s (encT T) p = true ∧ wgT s (encT T) p = l := by
  have hb : wgB s (encT T) p = true := (wgB_iff _ _ _).2 ⟨h.2.1, tree_tm h.2.2.2, h.2.2.1⟩
  exact ⟨hb, by rw [wgT_yes hb, txtI_tree h.2.2.2]; exact h.1⟩

theorem wreads_of {s : Int} {t : List Mk} {p : Int} (h : wgB s t p = true) : ∃ T, encT T = t ∧ WReadsB (wgT s t p) s T p := by
  obtain ⟨h1, h2, h3⟩ := (wgB_iff _ _ _).1 h
  obtain ⟨T, rfl, h40⟩ := tm_tree h2
  exact ⟨T, rfl, by rw [wgT_yes h, txtI_tree h40], h1, h3, h40⟩

noncomputable def rwB (S : ByteArray) : Bool := open Classical in decide (∃ s T p, WReadsB (bs S) s T p)

noncomputable def rwS (S : ByteArray) : Int := open Classical in if h : ∃ s T p, WReadsB (bs S) s T p then h.choose else 0

noncomputable def rwL (S : ByteArray) : List Mk := open Classical in if h : ∃ s T p, WReadsB (bs S) s T p then encT h.choose_spec.choose else []

noncomputable def rwP (S : ByteArray) : Int := open Classical in if h : ∃ s T p, WReadsB (bs S) s T p then h.choose_spec.choose_spec.choose else 0

theorem rw_yes {S : ByteArray} {s : Int} {T : Tm} {p : Int} (h : WReadsB (bs S) s T p) : rwB S = true ∧ rwS S = s ∧ rwL S = encT T ∧ rwP S = p := by
  have hx : ∃ s T p, WReadsB (bs S) s T p := ⟨s, T, p, h⟩
  obtain ⟨e1, e2, e3⟩ := hx.choose_spec.choose_spec.choose_spec.one h
  refine ⟨by simp only [rwB, decide_eq_true_eq]; exact hx, ?_, ?_, ?_⟩
  · unfold rwS; rw [dif_pos hx]; exact e1
  · unfold rwL; rw [dif_pos hx]; rw [e2]
  · unfold rwP; rw [dif_pos hx]; exact e3

theorem rw_no {S : ByteArray} (h : ∀ s T p, ¬ WReadsB (bs S) s T p) : rwB S = false ∧ rwS S = 0 ∧ rwL S = [] ∧ rwP S = 0 := by
  have hx : ¬ ∃ s T p, WReadsB (bs S) s T p := fun ⟨s, T, p, hT⟩ => h s T p hT
  exact ⟨by simp only [rwB, decide_eq_false_iff_not]; exact hx, by unfold rwS; exact dif_neg hx, by unfold rwL; exact dif_neg hx, by unfold rwP; exact dif_neg hx⟩

theorem rw_tree {S : ByteArray} (h : rwB S = true) : ∃ s T p, WReadsB (bs S) s T p ∧ rwS S = s ∧ rwL S = encT T ∧ rwP S = p := by
  have hx : ∃ s T p, WReadsB (bs S) s T p := by simpa only [rwB, decide_eq_true_eq] using h
  obtain ⟨s, T, p, hT⟩ := hx
  exact ⟨s, T, p, hT, (rw_yes hT).2⟩

/-! what a wager brings -/

noncomputable def wgR (s : Int) (t : List Mk) (p : Int) : List Int := if wgB s t p = true then gainL 4 (evI t, p) s else []

theorem wgR_yes {s : Int} {t : List Mk} {p : Int} (h : wgB s t p = true) : wgR s t p = gainL 4 (evI t, p) s := by rw [wgR, if_pos h]

theorem wgR_no {s : Int} {t : List Mk} {p : Int} (h : wgB s t p = false) : wgR s t p = [] := by rw [wgR, h]; rfl

end Go.Proofs.YtfdlfgokoponmaaDoor
