/- What the walks of the laws of chapter 2 share: hasInt, rows that are laid out. Conditions: rows that read as lists. -/
import Derived.Test.YtpkecmcgpiimkaaGf
import Derived.Test.YtpkecmcgpiimkaaEv2
import Derived.Test.YtpkecmcgpiimkaaDi
namespace Go.Proofs.Ytpkecmcgpiimkaa
open Go.RowKit
set_option linter.unusedVariables false

theorem lit_one (w : World) (base : Nat) (hb : base ≤ w.heap.size) (x : Int) : IOwn (w.alloc (.cells #[.int .i64 x] 3)) base (.slice (some ⟨w.heap.size, 0, none⟩) 1 1) [x] :=
  World.ownsRow_lit w #[.int .i64 x] 1 hb (by unfold maxLen; omega) rfl

set_option maxHeartbeats 1000000 in
theorem hasInt_any (w : World) (v : Value) (xs : List Int) (n : Int) (hv : IRd w v xs) (hn : n ∈ xs) :
    Calls Try.prog 32 #[v, .int .i64 n] w fun r w' => r = .returned (.bool true) ∧ w = w' := by
  obtain ⟨A, c, rfl, hl, hm, -⟩ := id hv
  have HV := Lib.hid hv
  have HN := Lib.hid hn
  clear hv hn
  go_enter Try.func32, Try.ntmps32
  go_wp2_with fail
  go_loop [5] (fun i => ∃ k : Nat, i = .int .i64 k ∧ k ≤ xs.length ∧ Hid (n ∉ xs.take k)) (fun i => xs.length - (intOf i).toNat)
  case atStart => exact ⟨0, rfl, Nat.zero_le _, Lib.hid (by simp)⟩
  case round =>
    obtain ⟨k, rfl, hk, HE⟩ := hrel
    by_cases hlt : k < xs.length
    · obtain ⟨b, off, x, rfl, -, hx, hcx⟩ := HV.out.at_ hlt
      have HX := Lib.hid hx
      clear hx
      by_cases hxn : x = n
      · subst hxn
        go_wp2_with fail
        go_ret
        exact ⟨rfl, rfl⟩
      · have hne : (x == n) = false := by simpa using hxn
        go_wp2_with fail
        go_round
        case rel => exact ⟨k + 1, by go_num, by omega, Lib.hid (by
          rw [List.take_add_one, HX.out]
          intro h
          rcases List.mem_append.1 h with h1 | h1
          · exact HE.out h1
          · simp at h1; exact hxn h1.symm)⟩
        case measure => simp [intOf]; omega
    · have HF : Hid False := Lib.hid (by
        have := HE.out
        rw [List.take_of_length_le (by omega)] at this
        exact this HN.out)
      exact HF.out.elim

end Go.Proofs.Ytpkecmcgpiimkaa
