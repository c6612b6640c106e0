/-
  Bounds of the answers of blocks, for the walks. By an AI agent.
-/
import Derived.Test.YtebddnjccmaimaaGreatDoorBpS
import Derived.Test.YtebddnjccmaimaaGreatDoorGBl
import Derived.Test.YtebddnjccmaimaaGreatDoorGRc
namespace Go.Proofs.YtebddnjccmaimaaGreatDoor
open Go.RowKit
set_option linter.unusedVariables false

theorem rcz_len {S : List RC} (hz : rcz S ≤ 1048576) : S.length ≤ 1048576 := by have := yzL_len (toksRc S); unfold rcz at hz; rw [toksRc_len] at this; omega
theorem rcz_mem {S : List RC} (hz : rcz S ≤ 1048576) : ∀ x ∈ S, x.2.length ≤ 1048576 := fun x hx => by
  have h1 := yzL_mem (toksRc_mem hx)
  have h2 := szL_len x.2
  unfold rcz at hz
  omega
theorem sum_bound (c : Nat) : ∀ (l : List BK), (∀ x ∈ l, x.2.length ≤ c) → (l.map fun x => x.2.length).sum ≤ l.length * c
  | [], _ => by simp
  | x :: l, h => by
    have h1 := sum_bound c l fun y hy => h y (List.mem_cons_of_mem _ hy)
    have h2 := h x (List.mem_cons_self ..)
    simp only [List.map_cons, List.sum_cons, List.length_cons, Nat.succ_mul]
    omega
theorem bmn_small {q : List XB} {r : List BK} (hq : blksB q = r) (h : SmB r) : bmn 1 q ≤ 4000000 := by
  rw [bmn_is]
  have h1 := sum_bound 12 r fun x hx => (h.2 x hx).1
  have h2 := h.1
  have h3 := blksB_len q
  rw [hq] at h3 ⊢
  omega
theorem os_len (S : List RC) (most : Int) : (osR (kbR S) most).length ≤ 4000000 := by
  unfold osR
  rw [List.length_map]
  have h2 := (blk_small S).1
  exact Nat.le_trans (List.length_filter_le _ _) (by omega)
theorem bp_len (S : List RC) (most : Int) : (bpR (kbR S) most).length ≤ 288000 := by
  unfold bpR rawP
  have h1 := setP_length ((blkL (kbR S)).flatMap (smallB most))
  have h2 := raw_len most (blkL (kbR S)) fun x hx => ((blk_small S).2 x hx).1
  have h3 := (blk_small S).1
  omega
theorem BlkV.chg_ {w w' : World} {g : Nat} {t : TypeId} {cs : Array Value} {lo hi : Nat} (h : BlkV w g t cs) (hc : Chg w w' lo hi) (hn : ¬ (lo ≤ g ∧ g < hi)) : BlkV w' g t cs := (hc.block g h.lt hn).trans h

end Go.Proofs.YtebddnjccmaimaaGreatDoor
