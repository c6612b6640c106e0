/-
  What FormatFeatures answers, on both sides. By an AI agent.
-/
import Derived.Test.YtknkhljegmielaaDoorFeatP
import Derived.Test.YtknkhljegmielaaDoorFmtAt
import Derived.Test.YtknkhljegmielaaDoorGMem
import Derived.Deep.RegionHeld3
import Derived.Deep.RegionWith
namespace Go.Proofs.YtknkhljegmielaaDoor
open Go.RowKit
set_option linter.unusedVariables false

theorem cell_in {w : World} {b off k : Nat} {l : List Int} {x : Int} (h : InI w (some ⟨b, off, none⟩) l) (hx : l[k]? = some x) : w.cell? ⟨b, off + k, none⟩ = some (.int .i64 x) := by
  obtain ⟨hlt, -⟩ := List.getElem?_eq_some_iff.1 hx
  obtain ⟨b', off', ha, -, hc⟩ := h (by omega)
  injection ha with ha
  injection ha with h1 h2
  subst h1
  subst h2
  exact hc k x hx

/-- the text behind k rounds -/
def ffT (l : List Int) (k : Nat) : ByteArray := strOf (Lib.join ((fparts l).take k) [32])
theorem ffT_zero (l : List Int) : ffT l 0 = ⟨#[]⟩ := rfl
theorem ffT_size {l : List Int} (h : fvB l = true) (k : Nat) : (ffT l k).size ≤ 200 := by
  unfold ffT
  rw [strOf_size]
  have h1 := join_len (L := (fparts l).take k) (fun y hy => fparts_small h y (List.mem_of_mem_take hy))
  have h2 : ((fparts l).take k).length ≤ 6 := by rw [List.length_take, fparts_len, (fv_of h).1]; omega
  omega
theorem ffT_all {l : List Int} (h : fvB l = true) : ffT l 6 = ffR l := by
  unfold ffT
  rw [List.take_of_length_le (by rw [fparts_len, (fv_of h).1]; omega), ff_yes h]
  rfl
theorem part_str {k : Nat} {x : Int} {N t : ByteArray} (hN : fnR k = N) (ht : strOf (Lib.itoa x) = t) : (N ++ ⟨#[61]⟩) ++ t = strOf (fpart k x) := by
  rw [← hN, ← ht]
  show (strOf (fnL k) ++ strOf [61]) ++ strOf (Lib.itoa x) = _
  rw [strOf_append, strOf_append]
  unfold fpart
  simp
theorem ffT_first {l : List Int} {x : Int} {N t : ByteArray} (hx : l[0]? = some x) (hN : fnR (0 : Nat) = N) (ht : strOf (Lib.itoa x) = t) : ((⟨#[]⟩ ++ N) ++ ⟨#[61]⟩) ++ t = ffT l 1 := by
  unfold ffT
  rw [join_first (fparts_at hx), ← part_str hN ht]
  have e : (⟨#[]⟩ : ByteArray) ++ N = N := ByteArray.ext (by simp)
  rw [e]
theorem ffT_next {l : List Int} {k : Nat} {x : Int} {u N t : ByteArray} (hk : 0 < k) (hx : l[k]? = some x) (hu : ffT l k = u) (hN : fnR k = N) (ht : strOf (Lib.itoa x) = t) : (((u ++ ⟨#[32]⟩) ++ N) ++ ⟨#[61]⟩) ++ t = ffT l (k + 1) := by
  unfold ffT at hu ⊢
  rw [join_snoc (fparts_at hx) hk, ← hu, ← hN, ← ht]
  show (((strOf _ ++ strOf [32]) ++ strOf (fnL k)) ++ strOf [61]) ++ strOf (Lib.itoa x) = _
  rw [strOf_append, strOf_append, strOf_append, strOf_append]
  unfold fpart
  simp [List.append_assoc]
theorem fn_size (n : Int) : (fnR n).size ≤ 6 := fn_len n

end Go.Proofs.YtknkhljegmielaaDoor
