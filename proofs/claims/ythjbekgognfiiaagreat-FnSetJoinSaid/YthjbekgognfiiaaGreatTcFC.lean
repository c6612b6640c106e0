/-
  IsTokenTable and TokenFrequency with their answers under names. By an AI agent.
-/
import Derived.Test.YthjbekgognfiiaaGreatJ6
namespace Go.Proofs.YthjbekgognfiiaaGreat
open Go.RowKit
set_option linter.unusedVariables false

theorem ttab_specC (a : Option Addr) (c : Nat) (l : List TC) (r : Bool) (w : World) (hr : ttB l = r) (h : SmT w a l c) :
    Calls Tryz.prog 72 #[.slice a l.length c] w fun e w' => e = .returned (.bool r) ∧ Below w.heap.size w w' := by
  subst hr
  exact ttab_spec a c l w h
theorem ttab_implC (a : Option Addr) (c : Nat) (l : List TC) (r : Bool) (w : World) (hr : ttB l = r) (h : SmT w a l c) :
    Calls Tryz.prog 50 #[.slice a l.length c] w fun e w' => e = .returned (.bool r) ∧ Below w.heap.size w w' := by
  subst hr
  exact ttab_impl a c l w h

end Go.Proofs.YthjbekgognfiiaaGreat
