/-
  What spec.DrawMonotoneViolation draws, where spec.l14Rules draws rules. By an AI agent.
-/
import Derived.Test.YtpldjihajclblaaAny14
import Derived.Test.YtpldjihajclblaaDomDraw
namespace Go.Proofs.Ytpldjihajclblaa
open Go.RowKit
set_option linter.unusedVariables false
set_option linter.unusedSimpArgs false
set_option linter.unnecessarySimpa false

theorem CodeAt.more {w : World} {B B' : Nat} {A : Option Addr} {len : Nat} (h : CodeAt w B A len) (hB : B ≤ B') : CodeAt w B' A len := by
  refine ⟨h.1, fun h0 => ?_⟩
  obtain ⟨b, off, hA, hb, hz⟩ := h.2 h0
  exact ⟨b, off, hA, by omega, hz⟩
def SomeRw (w : World) (e : Ending) (w' : World) : Prop :=
  ∃ (R : List (List TS)) (a : Option Addr) (cap : Nat) (q : List XU), e = .returned (.agg #[.slice a R.length cap]) ∧ rulesU q = R ∧ OwnRu w' w.heap.size (.slice a R.length cap) q ∧ SmallX R ∧ Below w.heap.size w w'

set_option maxRecDepth 100000 in
set_option maxHeartbeats 2000000 in
theorem mvdraw_any (A : Option Addr) (len cap : Nat) (w : World) (hcode : CodeAt w w.heap.size A len) (hrules : ∀ (B c : Nat) (W : World), Cur W B c → Calls Try.prog 32 #[.pointer (some ⟨c, 0, none⟩)] W (SomeRs W B c)) : Calls Try.prog 5 #[.slice A len cap] w (SomeRw w) := by
  obtain ⟨w1, hw1⟩ : ∃ w1, w.alloc (.cells #[.slice none 0 0] 26) = w1 := ⟨_, rfl⟩
  have HB1 := Lib.hid (show Below w.heap.size w w1 by rw [← hw1]; exact (Below.refl w.heap.size w).alloc (Nat.le_refl _) _)
  have HBX := Lib.hid (show BlkV w1 w.heap.size 26 #[.slice none 0 0] by rw [← hw1]; exact BlkV.new _ _ _)
  have HZ1 := Lib.hid (show w1.heap.size = w.heap.size + 1 by rw [← hw1]; simp)
  have HCODE := Lib.hid (show CodeAt w1 w1.heap.size A len from (hcode.keep (w' := w1) (fun k hk => HB1.out.block k hk)).more HB1.out.size)
  have HWE := Lib.hid hw1
  have HRL := Lib.hid hrules
  clear hw1 hcode hrules
  go_enter Try.func5, Try.ntmps5
  go_wp2_with (first
    | (go_at_call 17; rw [HWE.out]; ((with_reducible refine (l1New_any A len cap w1 HCODE.out).mono ?_); rintro e w2 ⟨c, rfl, hcur, hb⟩; have HC2 := Lib.hid hcur; have HB2 := Lib.hid hb; clear hcur hb))
    | (go_at_call 16; ((refine (any14 _ c _ HC2.out (fun W hW => HRL.out _ c W hW)).mono ?_); rintro e w3 ⟨R, a, cap3, q, rfl, hq, ho, hsm, hc3, hg3⟩; refine Hid.out ?_)))
  have HCG := Lib.hid (show w1.heap.size ≤ c from HC2.out.1)
  have HX2 := HBX.out.below HB2.out
  have h3 : BlkV w3 w.heap.size 26 #[.slice none 0 0] := (hg3.block w.heap.size HX2.lt (by intro e; injection e with e; have := HCG.out; have := HZ1.out; omega)).trans HX2
  have HX3 := Lib.hid h3
  have c30 : w3.cell? ⟨w.heap.size, 0, none⟩ = some (.slice none 0 0) := h3.cell 0
  have f30 := h3.frozen 0
  have HO := Lib.hid ho
  have HQ := Lib.hid hq
  have HS := Lib.hid hsm
  have HB3 := Lib.hid (below_cur (HB1.out.trans (HB2.out.mono HB1.out.size)) hg3 (by have := HCG.out; have := HB1.out.size; omega))
  have HZ2 := Lib.hid HB2.out.size
  clear HX2 h3 ho hq hsm hc3 hg3
  refine Lib.hid ?_
  go_wp2
  have e0 : _ = some (Value.slice a R.length cap3) := (HX3.out.set_ 0 (.slice a R.length cap3)).cell 0
  have hz1 := HZ1.out
  have hz2 := HZ2.out
  refine bodyPost_ret (v := .agg #[.slice a R.length cap3]) (by simp [results, Try.results5, go_sem, e0]) rfl ⟨R, a, cap3, q, rfl, HQ.out, ?_, HS.out, HB3.out.setCell (by simp) _⟩
  exact (HO.out.setc ⟨w.heap.size, 0, none⟩ _ (by show w.heap.size < _; omega)).mono (by omega)

end Go.Proofs.Ytpldjihajclblaa
