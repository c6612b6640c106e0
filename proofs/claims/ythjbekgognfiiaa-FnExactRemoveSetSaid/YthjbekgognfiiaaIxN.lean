/-
  What NewSetIndex answers, on both sides. By an AI agent.
-/
import Derived.Test.YthjbekgognfiiaaIxV2
import Derived.Test.YthjbekgognfiiaaRowApp
namespace Go.Proofs.Ythjbekgognfiiaa
open Go.RowKit
set_option linter.unusedVariables false

theorem OwnX.nil (w : World) (lo : Nat) : OwnX w lo (.slice none 0 0) [] := ⟨World.ownsRow_nil _ _ _ _, (fun p h => by cases h), (fun p h => by cases h), List.Pairwise.nil⟩
/-- an index that is laid into the result's block -/
theorem own_end {w W : World} {g n tc xc : Nat} {ta xa : Option Addr} {T : List TC} {q : List XS} (a b c : Value) (hT : OwnT W (g + 1) (.slice ta T.length tc) T) (hX : OwnX W (g + 1) (.slice xa n xc) q)
    (hap : ∀ k, (Value.slice ta T.length tc).ownBlock = some k → (Value.slice xa n xc).ownBlock ≠ some k ∧ ∀ p ∈ q, p.2.ownBlock ≠ some k) (hg : w.heap.size ≤ g) :
    OwnIx (((W.setCell ⟨g, 0, none⟩ a).setCell ⟨g, 1, none⟩ b).setCell ⟨g, 2, none⟩ c) w.heap.size (((W.setCell ⟨g, 0, none⟩ a).setCell ⟨g, 1, none⟩ b).setCell ⟨g, 2, none⟩ c).heap.size (.slice ta T.length tc) (.slice xa n xc) T q := by
  have k1 : OwnT (((W.setCell ⟨g, 0, none⟩ a).setCell ⟨g, 1, none⟩ b).setCell ⟨g, 2, none⟩ c) (g + 1) (.slice ta T.length tc) T := row_setCell (row_setCell (row_setCell hT _ _ (by simp)) _ _ (by simp)) _ _ (by simp)
  have k2 : OwnX (((W.setCell ⟨g, 0, none⟩ a).setCell ⟨g, 1, none⟩ b).setCell ⟨g, 2, none⟩ c) (g + 1) (.slice xa n xc) q := ((hX.setCell _ _ (by simp)).setCell _ _ (by simp)).setCell _ _ (by simp)
  exact ⟨⟨k1.mono (by omega), fun k hk => (World.ownsRow.lt k1 k hk).2⟩, OwnHX.of (k2.mono (by omega)), hap⟩
theorem ap_nil {ta : Option Addr} {n tc : Nat} : ∀ k, (Value.slice ta n tc).ownBlock = some k → (Value.slice none 0 0).ownBlock ≠ some k ∧ ∀ p ∈ ([] : List XS), p.2.ownBlock ≠ some k := fun k _ => ⟨(fun e => by simp [Value.ownBlock] at e), (fun p h => by cases h)⟩
theorem ix_new (t : Int) (T : List TC) : ixB t T [] = newR t T := by
  unfold ixB newR
  rw [gxB_true.2 gx_nil]
  simp

end Go.Proofs.Ythjbekgognfiiaa
