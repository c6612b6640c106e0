/-
  Rules and a vector drawn: spec.DrawFirstRule. By an AI agent.
-/
import Derived.Test.YtpmfabpnjacegaaGreatDoorMvDraw
import Derived.Test.YtpmfabpnjacegaaGreatDoorDomDraw
import Derived.Test.YtpmfabpnjacegaaGreatDoorVecDraw
namespace Go.Proofs.YtpmfabpnjacegaaGreatDoor
open Go.RowKit
set_option linter.unusedVariables false
set_option linter.unusedSimpArgs false
set_option linter.unnecessarySimpa false

def SomeFr (w : World) (e : Ending) (w' : World) : Prop :=
  ∃ (R : List (List TS)) (a : Option Addr) (cap : Nat) (q : List XU) (l : List Int) (g off cp : Nat), e = .returned (.tuple #[.agg #[.slice a R.length cap], .slice (some ⟨g, off, none⟩) l.length cp]) ∧ rulesU q = R ∧ OwnRu w' w.heap.size (.slice a R.length cap) q ∧ SmallX R ∧ l.length ≤ 6 ∧ InI w' (some ⟨g, off, none⟩) l ∧ Below w.heap.size w w'

set_option maxRecDepth 100000 in
set_option maxHeartbeats 2000000 in
theorem frdraw_any (A : Option Addr) (len cap : Nat) (w : World) (hcode : CodeAt w w.heap.size A len) (hrules : ∀ (B c : Nat) (W : World), Cur W B c → Calls Tryz.prog 52 #[.pointer (some ⟨c, 0, none⟩)] W (SomeRs W B c)) : Calls Tryz.prog 5 #[.slice A len cap] w (SomeFr w) := by
  obtain ⟨w1, hw1⟩ : ∃ w1, w.alloc (.cells #[.slice none 0 0] 26) = w1 := ⟨_, rfl⟩
  have HB1 := Lib.hid (show Below w.heap.size w w1 by rw [← hw1]; exact (Below.refl w.heap.size w).alloc (Nat.le_refl _) _)
  have HBX := Lib.hid (show BlkV w1 w.heap.size 26 #[.slice none 0 0] by rw [← hw1]; exact BlkV.new _ _ _)
  have HZ1 := Lib.hid (show w1.heap.size = w.heap.size + 1 by rw [← hw1]; simp)
  have HCODE := Lib.hid (show CodeAt w1 w1.heap.size A len from (hcode.keep (w' := w1) (fun k hk => HB1.out.block k hk)).more HB1.out.size)
  have HWE := Lib.hid hw1
  have HRL := Lib.hid hrules
  clear hw1 hcode hrules
  go_enter Tryz.func5, Tryz.ntmps5
  go_wp2_with (first
    | (go_at_call 22; rw [HWE.out]; ((with_reducible refine (l1New_any A len cap w1 HCODE.out).mono ?_); rintro e w2 ⟨c, rfl, hcur, hb⟩; have HC2 := Lib.hid hcur; have HB2 := Lib.hid hb; clear hcur hb))
    | (go_at_call 23; ((refine (any14 _ c _ HC2.out (fun W hW => HRL.out _ c W hW)).mono ?_); rintro e w3 ⟨R, a, cap3, q, rfl, hq, ho, hsm, hc3, hg3⟩; have HC3 := Lib.hid hc3; have HG3 := Lib.hid hg3; have HO3 := Lib.hid ho; have HQ := Lib.hid hq; have HS := Lib.hid hsm; clear hq ho hsm hc3 hg3))
    | (go_at_call 24; ((with_reducible refine (any_any _ c _ HC3.out).mono ?_); rintro e w4 ⟨l, g, off, cp, rfl, hl6, hl5, hin, hg0, hg1, hcur, hgr⟩; refine Hid.out ?_)))
  have HCG := Lib.hid (show w1.heap.size ≤ c from HC2.out.1)
  have HCL := Lib.hid (show c < w2.heap.size from HC2.out.lt)
  have HX2 := HBX.out.below HB2.out
  have hz1 := HZ1.out
  have hcg := HCG.out
  have hcl := HCL.out
  have h3 : BlkV w3 w.heap.size 26 #[.slice none 0 0] := (HG3.out.block w.heap.size HX2.lt (by intro e; injection e with e; omega)).trans HX2
  have h4 : BlkV w4 w.heap.size 26 #[.slice none 0 0] := (hgr.block w.heap.size h3.lt (by intro e; injection e with e; omega)).trans h3
  have HX4 := Lib.hid h4
  have c40 : w4.cell? ⟨w.heap.size, 0, none⟩ = some (.slice none 0 0) := h4.cell 0
  have f40 := h4.frozen 0
  have HO4 := Lib.hid (HO3.out.cur hgr hcl)
  have HB3 := Lib.hid (below_cur (HB1.out.trans (HB2.out.mono HB1.out.size)) HG3.out (by have := HB1.out.size; omega))
  have HB4 := Lib.hid (below_cur HB3.out hgr (by have := HB1.out.size; omega))
  have HZ2 := Lib.hid HB2.out.size
  have HZ3 := Lib.hid HG3.out.size
  have HL6 := Lib.hid hl6
  have HIN := Lib.hid hin
  have HGG := Lib.hid hg0
  clear HX2 h3 h4 hl5 hl6 hin hg0 hg1 hcur hgr hz1 hcg hcl
  refine Lib.hid ?_
  go_wp2
  have e0 : _ = some (Value.slice a R.length cap3) := (HX4.out.set_ 0 (.slice a R.length cap3)).cell 0
  have hz1 := HZ1.out
  have hz2 := HZ2.out
  have hz3 := HZ3.out
  have hgg := HGG.out
  refine bodyPost_ret (v := .tuple #[.agg #[.slice a R.length cap3], .slice (some ⟨g, off, none⟩) l.length cp]) (by simp [results, Tryz.results5, go_sem, e0]) rfl ⟨R, a, cap3, q, l, g, off, cp, rfl, HQ.out, ?_, HS.out, HL6.out, ?_, HB4.out.setCell (by simp) _⟩
  · exact (HO4.out.setc ⟨w.heap.size, 0, none⟩ _ (by show w.heap.size < _; omega)).mono (by omega)
  · refine HIN.out.keep (by simp [World.setCell]) (fun b o e _ => Below.heap_setCell w4 ⟨w.heap.size, 0, none⟩ _ b (fun e2 => ?_))
    injection e with e
    injection e with e1
    have e2 : b = w.heap.size := e2
    omega

end Go.Proofs.YtpmfabpnjacegaaGreatDoor
