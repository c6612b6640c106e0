/-
  What spec.DrawDominatesFeatures draws. By an AI agent.
-/
import Derived.Test.YtpldjihajclblaaVecDraw
namespace Go.Proofs.Ytpldjihajclblaa
open Go.RowKit
set_option linter.unusedVariables false
set_option linter.unusedSimpArgs false
set_option linter.unnecessarySimpa false

/-- two slices of integers are handed back -/
def SomeTwo (w : World) (e : Ending) (w' : World) : Prop :=
  ∃ (l m : List Int) (a1 a2 : Option Addr) (c1 c2 : Nat), e = .returned (.tuple #[.slice a1 l.length c1, .slice a2 m.length c2]) ∧ l.length ≤ 6 ∧ m.length ≤ 6 ∧ InI w' a1 l ∧ InI w' a2 m ∧ Below w.heap.size w w'
theorem in_cur {w w' : World} {g off c : Nat} {l : List Int} (h : InI w (some ⟨g, off, none⟩) l) (hg : w.grownBy w' (some c)) (hc : c ≠ g) : InI w' (some ⟨g, off, none⟩) l :=
  h.grown hg (fun b o e => by injection e with e; injection e with e1; subst e1; intro e2; injection e2 with e2; exact hc e2.symm)
theorem below_cur {w w1 w2 : World} {c : Nat} (h : Below w.heap.size w w1) (hg : w1.grownBy w2 (some c)) (hc : w.heap.size ≤ c) : Below w.heap.size w w2 := h.grown hg h.size (fun q hq => by injection hq with hq; omega)

set_option maxRecDepth 100000 in
set_option maxHeartbeats 3200000 in
theorem domdraw_any (A : Option Addr) (len cap : Nat) (w : World) (hcode : CodeAt w w.heap.size A len) : Calls Try.prog 13 #[.slice A len cap] w (SomeTwo w) := by
  have HCODE := Lib.hid hcode
  clear hcode
  go_enter Try.func13, Try.ntmps13
  go_wp2_with (first
    | (go_at_call 17; ((with_reducible refine (l1New_any A len cap w HCODE.out).mono ?_); rintro e w1 ⟨c, rfl, hcur, hb⟩; have HC1 := Lib.hid hcur; have HB1 := Lib.hid hb; clear hcur hb))
    | (go_at_call 28; ((with_reducible refine (any_any _ c _ HC1.out).mono ?_); rintro e w2 ⟨l, g, off, cp, rfl, hl6, hl5, hin, hg0, hg1, hcur, hgr⟩; refine Hid.out ?_)))
  have HBC := Lib.hid (show w.heap.size ≤ c from HC1.out.1)
  have HCL := Lib.hid HC1.out.lt
  have HC2 := Lib.hid hcur
  have HIN := Lib.hid hin
  have HB2 := Lib.hid (below_cur HB1.out hgr HBC.out)
  have HGC := Lib.hid (show c ≠ g ∧ g < w2.heap.size ∧ c < w2.heap.size by have := HCL.out; have := hgr.size; omega)
  have HL := Lib.hid (And.intro hl6 hl5)
  obtain ⟨v3, w3, hrun, ho3, hg3⟩ := run_appI 28 w2.heap.size (.slice (some ⟨w2.heap.size, 0, none⟩) 0 0) [] (w2.alloc (.cells #[] 3)) (own_newI w2 w2.heap.size w2.heap.size rfl (Nat.le_refl _)) (some ⟨g, off, none⟩) cp l (hin.alloc _) nofun (by simp; omega) (by simp)
  rw [List.nil_append] at ho3
  obtain ⟨a3, c3, rfl⟩ := ho3.shape
  obtain ⟨⟨g3, rfl⟩, hcap3⟩ := owni_some ho3 (by omega)
  have hbx : Below w2.heap.size w2 w3 := ((Below.refl w2.heap.size w2).alloc (Nat.le_refl _) _).grown hg3 (by simp) (fun q hq => by simp [Value.ownBlock] at hq; omega)
  have HRUN := Lib.hid hrun
  have HO3 := Lib.hid ho3
  have HBX := Lib.hid hbx
  have HC3 := Lib.hid (hcur.below hbx HGC.out.2.2)
  have HIN3 := Lib.hid (hin.below hbx)
  have HB3 := Lib.hid (HB2.out.trans (hbx.mono HB2.out.size))
  have HG3 := Lib.hid (World.ownsRow.lt ho3 g3 rfl)
  have hcp : (l.length : Int) ≤ (c3 : Int) := by omega
  clear hl6 hl5 hin hg0 hg1 hcur hgr hrun ho3 hg3 hcap3 hbx
  refine Lib.hid ?_
  go_wp2_with (first
    | (at_builtin; refine Lib.wpList_append_run _ rfl _ _ _ _ rfl _ _ rfl rfl _ _ HRUN.out ?_)
    | (go_at_call 29; ((refine (l1Below_any _ c _ _ HC3.out (by omega) (by omega)).mono ?_); rintro e w4 ⟨x, rfl, hx0, hx1, hc4, hg4⟩; refine Hid.out ?_)))
  have HC4 := Lib.hid hc4
  have HIN4 := Lib.hid (in_cur HIN3.out hg4 HGC.out.1)
  have HO4 := Lib.hid (own_cur HO3.out hg4 HGC.out.2.2)
  have HB4 := Lib.hid (below_cur HB3.out hg4 HBC.out)
  have HS4 := Lib.hid hg4.size
  clear hc4 hg4
  refine Lib.hid ?_
  have hcase : x = 0 ∨ x = 1 ∨ 1 < x := by omega
  rcases hcase with rfl | rfl | hx
  · go_wp2_with (go_at_call 28; ((with_reducible refine (any_any _ c _ HC4.out).mono ?_); rintro e w5 ⟨m, g5, off5, cp5, rfl, hm6, hm5, hin5, hg50, hg51, hcur5, hgr5⟩; have HIN5 := Lib.hid hin5; have HM := Lib.hid hm6; have HINF := Lib.hid (in_cur HIN4.out hgr5 HGC.out.1); have HB5 := Lib.hid (below_cur HB4.out hgr5 HBC.out); clear hm6 hm5 hin5 hg50 hg51 hcur5 hgr5))
    go_ret2
    exact ⟨l, m, _, _, _, _, rfl, HL.out.1, HM.out, HINF.out, HIN5.out, HB5.out⟩
  · have hl2 : (2 : Int) < (l.length : Int) := by have := HL.out; omega
    have hl9 : 0 < (l.length : Int) ∧ (l.length : Int) ≤ 6 := by have := HL.out; omega
    go_wp2_with (go_at_call 29; ((refine (l1Below_any _ c _ _ HC4.out (by omega) (by omega)).mono ?_); rintro e w5 ⟨j0, rfl, hj0, hj1, hc5, hg5⟩; refine Hid.out ?_))
    obtain ⟨j, rfl⟩ := Int.eq_ofNat_of_zero_le hj0
    have hjl : j < l.length := by omega
    have HO5 := Lib.hid (own_cur HO4.out hg5 HGC.out.2.2)
    have HIN5 := Lib.hid (in_cur HIN4.out hg5 HGC.out.1)
    have HB5 := Lib.hid (below_cur HB4.out hg5 HBC.out)
    obtain ⟨u0, u1⟩ := HO5.out.cellI hjl
    have HSU := Lib.hid (HO5.out.set j 0)
    have hr0 : j + 0 = j := rfl
    clear hc5 hg5
    refine Lib.hid ?_
    go_wp2
    go_ret2
    refine ⟨l, l.set j 0, _, _, _, _, by rw [List.length_set]; rfl, HL.out.1, by rw [List.length_set]; exact HL.out.1, in_cur HIN5.out HSU.out.2 ?_, HSU.out.1.inI, HB5.out.grown HSU.out.2 HB5.out.size (fun q hq => by injection hq with hq; have := HG3.out.1; have := HB2.out.size; omega)⟩
    have h1 := HG3.out.1
    have h2 := HGC.out.2.1
    omega
  · have hx1' : ¬ x = 0 := by omega
    have hx2 : ¬ x = 1 := by omega
    go_wp2
    go_ret2
    exact ⟨l, l, _, _, _, _, rfl, HL.out.1, HL.out.1, HIN4.out, HO4.out.inI, HB4.out⟩

end Go.Proofs.Ytpldjihajclblaa
