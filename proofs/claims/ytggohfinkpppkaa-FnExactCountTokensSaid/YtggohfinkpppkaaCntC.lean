/-
  CountTokens with its answer under a name. By an AI agent.
-/
import Derived.Test.YtggohfinkpppkaaCnt
import Derived.Test.YtggohfinkpppkaaCntS
namespace Go.Proofs.Ytggohfinkpppkaa
open Go.RowKit
set_option linter.unusedVariables false

theorem cnt_specC (a : Option Addr) (c : Nat) (ls : List (List Str)) (r : List TC) (w : World) (hr : ctR ls = r) (h : SmSS w a ls) :
    Calls Try.prog 33 #[.slice a ls.length c] w (GivesT w r) := by
  subst hr
  exact cnt_spec a c ls w h
theorem cnt_implC (a : Option Addr) (c : Nat) (ls : List (List Str)) (r : List TC) (w : World) (hr : ctR ls = r) (h : SmSS w a ls) :
    Calls Try.prog 35 #[.slice a ls.length c] w (GivesT w r) := by
  subst hr
  exact cnt_impl a c ls w h
theorem ct_small {ls : List (List Str)} (h : yzL ls ≤ 1048576) : (ctR ls).length ≤ 4000000 := by
  have := ct_len ls
  have := yzL_flat ls
  omega

end Go.Proofs.Ytggohfinkpppkaa
