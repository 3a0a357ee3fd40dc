/- The facts of chapter 9's laws. No condition. -/
import Derived.Test.YtfdlfgokoponmaaDoorXn
namespace Go.Proofs.YtfdlfgokoponmaaDoor
open Go.RowKit
set_option linter.unusedVariables false

theorem enc_len_two (T : Tm) (c : Mk) : (encT T ++ [(0, 1)] ++ [c]).length = (encT T).length + 2 := by simp

theorem enc_and (T : Tm) : encT T ++ [(0, 1)] ++ [(2, 0)] = encT (.an T (.lt true)) := rfl

theorem enc_or (T : Tm) : encT T ++ [(0, 1)] ++ [(3, 0)] = encT (.vel T (.lt true)) := rfl

theorem enc_not (T : Tm) : encT T ++ [(1, 0)] = encT (.no T) := rfl

theorem tm_letters : tmB [(0, 1)] = true ∧ tmB [(0, 0)] = true ∧ tmB [] = false := by decide

theorem tm_ext {t : List Mk} (h : tmB t = true) (hl : t.length ≤ 38) : tmB (t ++ [(0, 1)] ++ [(2, 0)]) = true ∧ tmB (t ++ [(0, 1)] ++ [(3, 0)]) = true ∧ tmB (t ++ [(1, 0)]) = true := by
  obtain ⟨T, rfl, -⟩ := tm_tree h
  refine ⟨?_, ?_, ?_⟩
  · rw [enc_and]; exact tree_tm (by rw [← enc_and, enc_len_two]; omega)
  · rw [enc_or]; exact tree_tm (by rw [← enc_or, enc_len_two]; omega)
  · rw [enc_not]; exact tree_tm (by rw [← enc_not, List.length_append]; simp; omega)

theorem ev_yes {t : List Mk} (h : tmB t = true) : ∃ n : Nat, n < 16 ∧ evI t = n ∧ (tmB (t ++ [(0, 1)] ++ [(2, 0)]) = true → evI (t ++ [(0, 1)] ++ [(2, 0)]) = ((n &&& 12 : Nat) : Int) ∧ evI (t ++ [(0, 1)] ++ [(3, 0)]) = ((n ||| 12 : Nat) : Int)) ∧ (tmB (t ++ [(1, 0)]) = true → evI (t ++ [(1, 0)]) = ((15 - n : Nat) : Int)) := by
  obtain ⟨T, rfl, h40⟩ := tm_tree h
  refine ⟨evT T, evT_16 T, evI_tree h40, fun hb => ?_, fun hn => ?_⟩
  · have hl := ((tmB_iff _).1 hb).2
    constructor
    · rw [enc_and] at hl ⊢
      rw [evI_tree hl]; rfl
    · rw [enc_or, evI_tree (by rw [← enc_or, enc_len_two]; rw [enc_len_two] at hl; exact hl)]; rfl
  · have hl := ((tmB_iff _).1 hn).2
    rw [enc_not] at hl ⊢
    rw [evI_tree hl]; rfl

theorem txt_yes {t : List Mk} (h : tmB t = true) : txtI t ≠ [] ∧ rdB ⟨(txtI t).toArray⟩ = true ∧ rdL ⟨(txtI t).toArray⟩ = t := by
  obtain ⟨T, rfl, h40⟩ := tm_tree h
  rw [txtI_tree h40]
  have h1 := rd_yes (S := ⟨(txtT T).toArray⟩) (T := T) (by rw [bs_mk]; exact reads_of h40)
  refine ⟨fun e => ?_, h1.1, h1.2⟩
  have := (txt_len T).2
  rw [e] at this
  simp at this

theorem rd_tree {S : ByteArray} (h : rdB S = true) : ∃ T, ReadsB (bs S) T ∧ rdL S = encT T := by
  have hx : ∃ T, ReadsB (bs S) T := by simpa only [rdB, decide_eq_true_eq] using h
  obtain ⟨T, hT⟩ := hx
  exact ⟨T, hT, (rd_yes hT).2⟩

theorem rd_nil {S : ByteArray} (h : rdB S = false) : rdL S = [] := (rd_no (fun T hT => by rw [(rd_yes hT).1] at h; cases h)).2

theorem rd_back {S : ByteArray} (h : rdB S = true) : tmB (rdL S) = true ∧ txtI (rdL S) = bs S ∧ rdB ⟨(40 :: (bs S ++ [41])).toArray⟩ = false := by
  obtain ⟨T, hT, e⟩ := rd_tree h
  rw [e]
  refine ⟨tree_tm hT.2.1, by rw [txtI_tree hT.2.1]; exact hT.1, (rd_no fun U hU => ?_).1⟩
  have h1 := hU.1
  rw [bs_mk, ← hT.1] at h1
  exact txt_brackets T U h1

theorem sum_yes {E : Nat} (h : E < 16) : sumTR (E : Int) ≠ [] ∧ tmB (sumTR (E : Int)) = true ∧ evI (sumTR (E : Int)) = E := by
  have hE : evB 4 (E : Int) = true := by rw [evB_iff]; simp [allI]; omega
  have h1 := sum_len ⟨E, h⟩
  have h2 := sum_ev ⟨E, h⟩
  dsimp only at h1 h2
  rw [sumTR, if_pos hE, Int.toNat_natCast]
  refine ⟨fun e => ?_, tree_tm h1, by rw [evI_tree h1, h2]⟩
  have := enc_pos (sumT E)
  rw [e] at this
  simp at this

theorem sum_none {e : Int} (h : evB 4 e = false) : sumTR e = [] := by rw [sumTR, h]; rfl

end Go.Proofs.YtfdlfgokoponmaaDoor
