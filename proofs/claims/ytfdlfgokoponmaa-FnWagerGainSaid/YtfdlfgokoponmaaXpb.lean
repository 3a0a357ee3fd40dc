/- The program's readers of terms, walked. Conditions: texts of at most 100000 bytes. (gen_xpb.py) -/
import Derived.Test.YtfdlfgokoponmaaXpa
import Derived.OwnWalk
namespace Go.Proofs.Ytfdlfgokoponmaa
open Go.RowKit
set_option linter.unusedVariables false
set_option linter.unusedSimpArgs false

theorem mform {w : World} {base : Nat} {v : Value} {ms : List Mk} (o : MOwn w base v ms) : ∃ A n c, v = .slice A n c := by
  obtain ⟨A, c, rfl, -, -⟩ := (o.rd qC_len).form
  exact ⟨A, _, c, rfl⟩

theorem mown_form {w : World} {base : Nat} {A : Option Addr} {n c : Nat} {ms : List Mk} (o : MOwn w base (.slice A n c) ms) : Value.slice A n c = .slice none 0 0 ∨ ∃ g, A = some ⟨g, 0, none⟩ := by
  rcases o.2 with ⟨h, -⟩ | ⟨g, cap, cur, e, -⟩
  · exact .inl h
  · injection e with e; exact .inr ⟨g, e⟩

theorem mown_nil {w : World} {base : Nat} {ms : List Mk} (o : MOwn w base (.slice none 0 0) ms) : ms = [] := by
  rcases o.2 with ⟨-, h⟩ | ⟨g, cap, cur, e, -⟩
  · exact List.eq_nil_of_length_eq_zero h
  · cases e

theorem wp_app_none {ops : Array Oper} {rest : List Oper} {o : Oper} {a : Act} {Q : Exit → Act → World → Prop} (hgd : o.guard = none) (s x : Operand)
    (ho : o.op = .call { callee := .builtin .append, args := #[s, x], argTypes := #[23, 23] }) (w : World) (base : Nat) (v : Value) (ms : List Qt)
    (hs : a.eval s = v) (hown : MOwn w base v ms) (hx : a.eval x = .slice none 0 0) (h : wpList Try.prog ops Q rest (a.put o.dst v) w) :
    wpList Try.prog ops Q (o :: rest) a w := by
  obtain ⟨i0, hi, hz0, hz1, hz2⟩ := info_parts Try_markinfo
  exact wpList_append_own_none hgd s x 23 ho base 34 i0 2 Try.underlying23 hi v ms.length (ms.flatMap qC) hs hown hx h

end Go.Proofs.Ytfdlfgokoponmaa
