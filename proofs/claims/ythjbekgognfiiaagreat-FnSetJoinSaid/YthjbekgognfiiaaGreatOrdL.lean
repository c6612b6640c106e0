/-
  OrderTokens on both sides, as the laws call it. By an AI agent.
-/
import Derived.Test.YthjbekgognfiiaaGreatJ7
import Derived.Test.YthjbekgognfiiaaGreatOrdS
namespace Go.Proofs.YthjbekgognfiiaaGreat
open Go.RowKit
set_option linter.unusedVariables false

theorem ord_specC (a0 a1 : Option Addr) (c0 c1 : Nat) (tab : List TC) (l : List Str) (r : List Str) (w : World) (hr : ordR tab l = r) (h0 : SmW w a0 tab c0) (h1 : Sm w a1 l c1) :
    Calls Tryz.prog 109 #[.slice a0 tab.length c0, .slice a1 l.length c1] w (GivesS w r) := ord_spec a0 c0 tab a1 c1 l r w hr h0.1 h1
theorem ord_implC (a0 a1 : Option Addr) (c0 c1 : Nat) (tab : List TC) (l : List Str) (r : List Str) (w : World) (hr : ordR tab l = r) (h0 : SmW w a0 tab c0) (h1 : Sm w a1 l c1) :
    Calls Tryz.prog 128 #[.slice a0 tab.length c0, .slice a1 l.length c1] w (GivesS w r) := ord_impl a0 c0 tab a1 c1 l r w hr h0 h1
theorem ord_small {tab : List TC} {l : List Str} (h : szL l ≤ 1048576) : (ordR tab l).length ≤ 4000000 := by rw [ord_len]; exact sz_len h

end Go.Proofs.YthjbekgognfiiaaGreat
