/-
  IsTokenTable and TokenFrequency with their answers under names. By an AI agent.
-/
import Derived.Test.YtggohfinkpppkaaTcF
namespace Go.Proofs.Ytggohfinkpppkaa
open Go.RowKit
set_option linter.unusedVariables false

theorem ttab_specC (a : Option Addr) (c : Nat) (l : List TC) (r : Bool) (w : World) (hr : ttB l = r) (h : SmT w a l c) :
    Calls Try.prog 63 #[.slice a l.length c] w fun e w' => e = .returned (.bool r) ∧ Below w.heap.size w w' := by
  subst hr
  exact ttab_spec a c l w h
theorem ttab_implC (a : Option Addr) (c : Nat) (l : List TC) (r : Bool) (w : World) (hr : ttB l = r) (h : SmT w a l c) :
    Calls Try.prog 46 #[.slice a l.length c] w fun e w' => e = .returned (.bool r) ∧ Below w.heap.size w w' := by
  subst hr
  exact ttab_impl a c l w h

theorem freq_specC (a : Option Addr) (c : Nat) (l : List TC) (t : ByteArray) (r : Int) (w : World) (hs : t.size ≤ 1048576) (hr : frqL l t.data.toList = r) (h : SmT w a l c) :
    Calls Try.prog 93 #[.slice a l.length c, .string t] w fun e w' => e = .returned (.int .i64 r) ∧ Below w.heap.size w w' :=
  (freq_spec a c l t w h.2.2.2.1 h.1 r hr).mono fun e w' ⟨he, hw⟩ => ⟨he, by rw [hw]; exact Below.refl _ _⟩
theorem freq_implC (a : Option Addr) (c : Nat) (l : List TC) (t : ByteArray) (r : Int) (w : World) (hs : t.size ≤ 1048576) (hr : frqL l t.data.toList = r) (h : SmT w a l c) :
    Calls Try.prog 44 #[.slice a l.length c, .string t] w fun e w' => e = .returned (.int .i64 r) ∧ Below w.heap.size w w' := by
  subst hr
  exact freq_impl a c l t w h

end Go.Proofs.Ytggohfinkpppkaa
