/-
  What is read of a slice of rules of the call's own that lies in a span of blocks. By an AI agent.
-/
import Derived.Test.YtookcggmapldeaaRuS
namespace Go.Proofs.Ytookcggmapldeaa
open Go.RowKit
set_option linter.unusedVariables false

theorem OwnHRu.smRu {w : World} {lo hi : Nat} {a : Option Addr} {n cap : Nat} {q : List XU} {R : List (List TS)} (h : OwnHRu w lo hi (.slice a n cap) q) (hq : rulesU q = R) (h1 : R.length ≤ 4000000) (h2 : ∀ x ∈ R, x.length ≤ 4000000) : SmRu w a R cap := h.1.smRu hq h1 h2
theorem OwnHRu.inRu {w : World} {lo hi : Nat} {a : Option Addr} {n cap : Nat} {q : List XU} {R : List (List TS)} (h : OwnHRu w lo hi (.slice a n cap) q) (hq : rulesU q = R) : InRu w a R := by rw [← hq]; exact h.1.inRu
theorem ArgRu.inRu {w : World} {a : Option Addr} {R : List (List TS)} (h : ArgRu w a R) : InRu w a R := h.1
theorem ArgTs.inTs {w : World} {a : Option Addr} {l : List TS} (h : ArgTs w a l) : InTs w a l := h.1
theorem rl_len {l : List TS} (h : l.length ≤ 1048576) : l.length ≤ 4000000 := by omega

end Go.Proofs.Ytookcggmapldeaa
