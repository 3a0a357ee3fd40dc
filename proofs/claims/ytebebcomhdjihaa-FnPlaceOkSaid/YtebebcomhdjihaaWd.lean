/- The words of the program's order of initialisation, and the facts of the form that read them. Conditions: none. -/
import Derived.Test.YtebebcomhdjihaaRows
import Derived.JoinedOf
import Derived.KernelRfl
namespace Go.Proofs.Ytebebcomhdjihaa
set_option linter.unusedVariables false

/-- the signs of the order of initialisation -/
def signs : List Char := [Char.ofNat 104, Char.ofNat 97, Char.ofNat 114, Char.ofNat 110, Char.ofNat 101, Char.ofNat 115, Char.ofNat 115, Char.ofNat 32, Char.ofNat 101, Char.ofNat 102, Char.ofNat 52, Char.ofNat 52, 
  Char.ofNat 54, Char.ofNat 57, Char.ofNat 100, Char.ofNat 52, Char.ofNat 100, Char.ofNat 49, Char.ofNat 102, Char.ofNat 51, Char.ofNat 100, Char.ofNat 56, Char.ofNat 49, Char.ofNat 49, 
  Char.ofNat 52, Char.ofNat 101, Char.ofNat 48, Char.ofNat 102, Char.ofNat 98, Char.ofNat 100, Char.ofNat 100, Char.ofNat 102, Char.ofNat 50, Char.ofNat 53, Char.ofNat 50, Char.ofNat 57, 
  Char.ofNat 57, Char.ofNat 99, Char.ofNat 51, Char.ofNat 50, Char.ofNat 54, Char.ofNat 99, Char.ofNat 98, Char.ofNat 99, Char.ofNat 97, Char.ofNat 53, Char.ofNat 51, Char.ofNat 48, 
  Char.ofNat 50, Char.ofNat 50, Char.ofNat 56, Char.ofNat 53, Char.ofNat 97, Char.ofNat 49, Char.ofNat 100, Char.ofNat 51, Char.ofNat 48, Char.ofNat 52, Char.ofNat 55, Char.ofNat 101, 
  Char.ofNat 99, Char.ofNat 52, Char.ofNat 48, Char.ofNat 48, Char.ofNat 56, Char.ofNat 49, Char.ofNat 100, Char.ofNat 102, Char.ofNat 102, Char.ofNat 48, Char.ofNat 49, Char.ofNat 102, 
  Char.ofNat 32, Char.ofNat 99, Char.ofNat 117, Char.ofNat 116, Char.ofNat 32, Char.ofNat 97, Char.ofNat 116, Char.ofNat 32, Char.ofNat 108, Char.ofNat 111, Char.ofNat 111, Char.ofNat 112, 
  Char.ofNat 46, Char.ofNat 101, Char.ofNat 120, Char.ofNat 97, Char.ofNat 109, Char.ofNat 112, Char.ofNat 108, Char.ofNat 101, Char.ofNat 47, Char.ofNat 102, Char.ofNat 97, Char.ofNat 105, 
  Char.ofNat 114, Char.ofNat 98, Char.ofNat 111, Char.ofNat 111, Char.ofNat 107, Char.ofNat 115, Char.ofNat 47, Char.ofNat 108, Char.ofNat 97, Char.ofNat 119, Char.ofNat 115, Char.ofNat 46, 
  Char.ofNat 70, Char.ofNat 110, Char.ofNat 68, Char.ofNat 101, Char.ofNat 115, Char.ofNat 107, Char.ofNat 79, Char.ofNat 107, Char.ofNat 32, Char.ofNat 108, Char.ofNat 111, Char.ofNat 111, 
  Char.ofNat 112, Char.ofNat 46, Char.ofNat 101, Char.ofNat 120, Char.ofNat 97, Char.ofNat 109, Char.ofNat 112, Char.ofNat 108, Char.ofNat 101, Char.ofNat 47, Char.ofNat 102, Char.ofNat 97, 
  Char.ofNat 105, Char.ofNat 114, Char.ofNat 98, Char.ofNat 111, Char.ofNat 111, Char.ofNat 107, Char.ofNat 115, Char.ofNat 47, Char.ofNat 108, Char.ofNat 97, Char.ofNat 119, Char.ofNat 115, 
  Char.ofNat 46, Char.ofNat 70, Char.ofNat 110, Char.ofNat 68, Char.ofNat 101, Char.ofNat 115, Char.ofNat 107, Char.ofNat 78, Char.ofNat 101, Char.ofNat 119, Char.ofNat 32, Char.ofNat 108, 
  Char.ofNat 111, Char.ofNat 111, Char.ofNat 112, Char.ofNat 46, Char.ofNat 101, Char.ofNat 120, Char.ofNat 97, Char.ofNat 109, Char.ofNat 112, Char.ofNat 108, Char.ofNat 101, Char.ofNat 47, 
  Char.ofNat 102, Char.ofNat 97, Char.ofNat 105, Char.ofNat 114, Char.ofNat 98, Char.ofNat 111, Char.ofNat 111, Char.ofNat 107, Char.ofNat 115, Char.ofNat 47, Char.ofNat 108, Char.ofNat 97, 
  Char.ofNat 119, Char.ofNat 115, Char.ofNat 46, Char.ofNat 70, Char.ofNat 110, Char.ofNat 80, Char.ofNat 108, Char.ofNat 97, Char.ofNat 99, Char.ofNat 101, Char.ofNat 79, Char.ofNat 107, 
  Char.ofNat 32, Char.ofNat 108, Char.ofNat 111, Char.ofNat 111, Char.ofNat 112, Char.ofNat 46, Char.ofNat 101, Char.ofNat 120, Char.ofNat 97, Char.ofNat 109, Char.ofNat 112, Char.ofNat 108, 
  Char.ofNat 101, Char.ofNat 47, Char.ofNat 102, Char.ofNat 97, Char.ofNat 105, Char.ofNat 114, Char.ofNat 98, Char.ofNat 111, Char.ofNat 111, Char.ofNat 107, Char.ofNat 115, Char.ofNat 47, 
  Char.ofNat 108, Char.ofNat 97, Char.ofNat 119, Char.ofNat 115, Char.ofNat 46, Char.ofNat 70, Char.ofNat 110, Char.ofNat 69, Char.ofNat 120, Char.ofNat 97, Char.ofNat 99, Char.ofNat 116, 
  Char.ofNat 80, Char.ofNat 108, Char.ofNat 97, Char.ofNat 99, Char.ofNat 101, Char.ofNat 79, Char.ofNat 107, Char.ofNat 32, Char.ofNat 108, Char.ofNat 111, Char.ofNat 111, Char.ofNat 112, 
  Char.ofNat 46, Char.ofNat 101, Char.ofNat 120, Char.ofNat 97, Char.ofNat 109, Char.ofNat 112, Char.ofNat 108, Char.ofNat 101, Char.ofNat 47, Char.ofNat 102, Char.ofNat 97, Char.ofNat 105, 
  Char.ofNat 114, Char.ofNat 98, Char.ofNat 111, Char.ofNat 111, Char.ofNat 107, Char.ofNat 115, Char.ofNat 47, Char.ofNat 108, Char.ofNat 97, Char.ofNat 119, Char.ofNat 115, Char.ofNat 46, 
  Char.ofNat 70, Char.ofNat 110, Char.ofNat 69, Char.ofNat 120, Char.ofNat 97, Char.ofNat 99, Char.ofNat 116, Char.ofNat 68, Char.ofNat 101, Char.ofNat 115, Char.ofNat 107, Char.ofNat 79, 
  Char.ofNat 107, Char.ofNat 32, Char.ofNat 108, Char.ofNat 111, Char.ofNat 111, Char.ofNat 112, Char.ofNat 46, Char.ofNat 101, Char.ofNat 120, Char.ofNat 97, Char.ofNat 109, Char.ofNat 112, 
  Char.ofNat 108, Char.ofNat 101, Char.ofNat 47, Char.ofNat 102, Char.ofNat 97, Char.ofNat 105, Char.ofNat 114, Char.ofNat 98, Char.ofNat 111, Char.ofNat 111, Char.ofNat 107, Char.ofNat 115, 
  Char.ofNat 47, Char.ofNat 108, Char.ofNat 97, Char.ofNat 119, Char.ofNat 115, Char.ofNat 46, Char.ofNat 70, Char.ofNat 110, Char.ofNat 69, Char.ofNat 120, Char.ofNat 97, Char.ofNat 99, 
  Char.ofNat 116, Char.ofNat 68, Char.ofNat 101, Char.ofNat 115, Char.ofNat 107, Char.ofNat 78, Char.ofNat 101, Char.ofNat 119]

theorem signs_of : Try.pinned.checked.prog.initOrder = String.ofList signs := by kernel_rfl

theorem signs_are : Try.pinned.checked.prog.initOrder.toList = signs := by rw [signs_of, String.toList_ofList]

/-- its words, behind the main's -/
def words : List (List Char) := [[Char.ofNat 99, Char.ofNat 117, Char.ofNat 116],
  [Char.ofNat 97, Char.ofNat 116],
  [Char.ofNat 108, Char.ofNat 111, Char.ofNat 111, Char.ofNat 112, Char.ofNat 46, Char.ofNat 101, Char.ofNat 120, Char.ofNat 97, Char.ofNat 109, Char.ofNat 112, Char.ofNat 108, Char.ofNat 101, 
    Char.ofNat 47, Char.ofNat 102, Char.ofNat 97, Char.ofNat 105, Char.ofNat 114, Char.ofNat 98, Char.ofNat 111, Char.ofNat 111, Char.ofNat 107, Char.ofNat 115, Char.ofNat 47, Char.ofNat 108, 
    Char.ofNat 97, Char.ofNat 119, Char.ofNat 115, Char.ofNat 46, Char.ofNat 70, Char.ofNat 110, Char.ofNat 68, Char.ofNat 101, Char.ofNat 115, Char.ofNat 107, Char.ofNat 79, Char.ofNat 107],
  [Char.ofNat 108, Char.ofNat 111, Char.ofNat 111, Char.ofNat 112, Char.ofNat 46, Char.ofNat 101, Char.ofNat 120, Char.ofNat 97, Char.ofNat 109, Char.ofNat 112, Char.ofNat 108, Char.ofNat 101, 
    Char.ofNat 47, Char.ofNat 102, Char.ofNat 97, Char.ofNat 105, Char.ofNat 114, Char.ofNat 98, Char.ofNat 111, Char.ofNat 111, Char.ofNat 107, Char.ofNat 115, Char.ofNat 47, Char.ofNat 108, 
    Char.ofNat 97, Char.ofNat 119, Char.ofNat 115, Char.ofNat 46, Char.ofNat 70, Char.ofNat 110, Char.ofNat 68, Char.ofNat 101, Char.ofNat 115, Char.ofNat 107, Char.ofNat 78, Char.ofNat 101, 
    Char.ofNat 119],
  [Char.ofNat 108, Char.ofNat 111, Char.ofNat 111, Char.ofNat 112, Char.ofNat 46, Char.ofNat 101, Char.ofNat 120, Char.ofNat 97, Char.ofNat 109, Char.ofNat 112, Char.ofNat 108, Char.ofNat 101, 
    Char.ofNat 47, Char.ofNat 102, Char.ofNat 97, Char.ofNat 105, Char.ofNat 114, Char.ofNat 98, Char.ofNat 111, Char.ofNat 111, Char.ofNat 107, Char.ofNat 115, Char.ofNat 47, Char.ofNat 108, 
    Char.ofNat 97, Char.ofNat 119, Char.ofNat 115, Char.ofNat 46, Char.ofNat 70, Char.ofNat 110, Char.ofNat 80, Char.ofNat 108, Char.ofNat 97, Char.ofNat 99, Char.ofNat 101, Char.ofNat 79, 
    Char.ofNat 107],
  [Char.ofNat 108, Char.ofNat 111, Char.ofNat 111, Char.ofNat 112, Char.ofNat 46, Char.ofNat 101, Char.ofNat 120, Char.ofNat 97, Char.ofNat 109, Char.ofNat 112, Char.ofNat 108, Char.ofNat 101, 
    Char.ofNat 47, Char.ofNat 102, Char.ofNat 97, Char.ofNat 105, Char.ofNat 114, Char.ofNat 98, Char.ofNat 111, Char.ofNat 111, Char.ofNat 107, Char.ofNat 115, Char.ofNat 47, Char.ofNat 108, 
    Char.ofNat 97, Char.ofNat 119, Char.ofNat 115, Char.ofNat 46, Char.ofNat 70, Char.ofNat 110, Char.ofNat 69, Char.ofNat 120, Char.ofNat 97, Char.ofNat 99, Char.ofNat 116, Char.ofNat 80, 
    Char.ofNat 108, Char.ofNat 97, Char.ofNat 99, Char.ofNat 101, Char.ofNat 79, Char.ofNat 107],
  [Char.ofNat 108, Char.ofNat 111, Char.ofNat 111, Char.ofNat 112, Char.ofNat 46, Char.ofNat 101, Char.ofNat 120, Char.ofNat 97, Char.ofNat 109, Char.ofNat 112, Char.ofNat 108, Char.ofNat 101, 
    Char.ofNat 47, Char.ofNat 102, Char.ofNat 97, Char.ofNat 105, Char.ofNat 114, Char.ofNat 98, Char.ofNat 111, Char.ofNat 111, Char.ofNat 107, Char.ofNat 115, Char.ofNat 47, Char.ofNat 108, 
    Char.ofNat 97, Char.ofNat 119, Char.ofNat 115, Char.ofNat 46, Char.ofNat 70, Char.ofNat 110, Char.ofNat 69, Char.ofNat 120, Char.ofNat 97, Char.ofNat 99, Char.ofNat 116, Char.ofNat 68, 
    Char.ofNat 101, Char.ofNat 115, Char.ofNat 107, Char.ofNat 79, Char.ofNat 107],
  [Char.ofNat 108, Char.ofNat 111, Char.ofNat 111, Char.ofNat 112, Char.ofNat 46, Char.ofNat 101, Char.ofNat 120, Char.ofNat 97, Char.ofNat 109, Char.ofNat 112, Char.ofNat 108, Char.ofNat 101, 
    Char.ofNat 47, Char.ofNat 102, Char.ofNat 97, Char.ofNat 105, Char.ofNat 114, Char.ofNat 98, Char.ofNat 111, Char.ofNat 111, Char.ofNat 107, Char.ofNat 115, Char.ofNat 47, Char.ofNat 108, 
    Char.ofNat 97, Char.ofNat 119, Char.ofNat 115, Char.ofNat 46, Char.ofNat 70, Char.ofNat 110, Char.ofNat 69, Char.ofNat 120, Char.ofNat 97, Char.ofNat 99, Char.ofNat 116, Char.ofNat 68, 
    Char.ofNat 101, Char.ofNat 115, Char.ofNat 107, Char.ofNat 78, Char.ofNat 101, Char.ofNat 119]]

theorem words_of : behindMainWord (wordsSigns signs) = words := by kernel_rfl

theorem words_are : behindMainWord (wordsSigns Try.pinned.checked.prog.initOrder.toList) = words := by rw [signs_are, words_of]

theorem may_enter : Try.pinned.checked.prog.mayEnter = true := by
  rw [Program.mayEnter, words_are]
  kernel_rfl

theorem lifts_final : Try.pinned.checked.prog.liftsFinal = false := by
  rw [Program.liftsFinal, Program.headLifts, words_are]
  kernel_rfl

theorem make_is : Try.pinned.checked.prog.make = some .cut := by
  rw [Program.make, words_are]
  kernel_rfl

theorem and_mk {a b : Bool} (h : a = true) (k : b = true) : (a && b) = true := by rw [h, k]; rfl

end Go.Proofs.Ytebebcomhdjihaa
