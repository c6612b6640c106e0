/-
  Bounds of what is found in an index. By an AI agent.
-/
import Derived.Test.YthjbekgognfiiaaGreatCdI
namespace Go.Proofs.YthjbekgognfiiaaGreat
open Go.RowKit
set_option linter.unusedVariables false

theorem cntq_of {T : List TC} {S : List IS} (h : ixz T S ≤ 1048576) : cntQ S S.length ≤ 4000000 := by
  unfold cntQ
  rw [List.take_length]
  unfold ixz at h
  have h2 := flat_sum (toksX S)
  have h3 : yzL (toksX S) = S.length + ((toksX S).map szL).sum := by unfold yzL yzT; rw [List.take_length, toksX_len]
  omega
theorem cand_len {t : Int} {T : List TC} {S : List IS} {l : List Str} (h : ixz T S ≤ 1048576) : (candR t T S l).length ≤ 4000000 := by
  have h1 := ixn_le h
  unfold ixn at h1
  unfold candR
  split
  · rw [List.length_map]
    have := List.length_filter_le (fun x : IS => cdB T t l x.2) S
    omega
  · simp
theorem sear_len {t : Int} {T : List TC} {S : List IS} {l : List Str} (h : ixz T S ≤ 1048576) : (searR t T S l).length ≤ 4000000 := by
  have h1 := ixn_le h
  unfold ixn at h1
  unfold searR
  split
  · rw [List.length_map]
    have := List.length_filter_le (fun x : IS => meetR x.2 l t) S
    omega
  · simp

end Go.Proofs.YthjbekgognfiiaaGreat
