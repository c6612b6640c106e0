/-
  Feature vectors drawn: spec.l9Vector, spec.l9Any, spec.DrawDominatesFeatures. By an AI agent.
-/
import Derived.Test.YtpmfabpnjacegaaGreatDoorGQ16
import Derived.Test.YtpmfabpnjacegaaGreatDoorGQ6
import Derived.Lib.AppendZeros
namespace Go.Proofs.YtpmfabpnjacegaaGreatDoor
open Go.RowKit
set_option linter.unusedVariables false
set_option linter.unusedSimpArgs false
set_option linter.unnecessarySimpa false

theorem own_cur {w w' : World} {base c : Nat} {v : Value} {l : List Int} (h : OwnI w base v l) (hg : w.grownBy w' (some c)) (hc : c < base) : OwnI w' base v l :=
  row_keptO h hg (fun k hk e => by injection hk with hk; subst hk; have := (World.ownsRow.lt h c e).1; omega)
theorem grown_up {w w1 w2 : World} {c : Nat} {r : Option Nat} (h : w.grownBy w1 (some c)) (hg : w1.grownBy w2 r) (hr : ∀ k, r = some k → w.heap.size ≤ k) : w.grownBy w2 (some c) :=
  ⟨hg.os.trans h.os, hg.tape.trans h.tape, hg.output.trans h.output, Nat.le_trans h.size hg.size, fun i hi hne => (hg.block i (Nat.lt_of_lt_of_le hi h.size) (fun e => by have := hr i e.symm; omega)).trans (h.block i hi hne)⟩
/-- some vector is handed back -/
def SomeVec (w : World) (B c : Nat) (e : Ending) (w' : World) : Prop :=
  ∃ (l : List Int) (g cap : Nat), e = .returned (.slice (some ⟨g, 0, none⟩) 6 cap) ∧ l.length = 6 ∧ OwnI w' w.heap.size (.slice (some ⟨g, 0, none⟩) 6 cap) l ∧ Cur w' B c ∧ w.grownBy w' (some c)

set_option maxRecDepth 100000 in
set_option maxHeartbeats 1600000 in
theorem vec_any (B c : Nat) (w : World) (hcur : Cur w B c) : Calls Tryz.prog 55 #[.pointer (some ⟨c, 0, none⟩)] w (SomeVec w B c) := by
  have HC0 := Lib.hid (hcur.alloc (.cells #[] 3))
  have HLT := Lib.hid hcur.lt
  have HO0 := Lib.hid (own_newI w w.heap.size w.heap.size rfl (Nat.le_refl _))
  clear hcur
  go_enter Tryz.func55, Tryz.ntmps55
  go_wp2
  go_loopw [3, 4] (fun v i wr => ∃ (k : Nat) (l : List Int) (a : Option Addr) (c' : Nat), k ≤ 6 ∧ i = .int .i64 k ∧ l.length = k ∧ v = .slice a k c' ∧ OwnI wr w.heap.size (.slice a k c') l ∧ Cur wr B c ∧ w.grownBy wr (some c)) (fun _ i _ => 6 - (intOf i).toNat)
  case atStart => exact ⟨0, [], _, _, Nat.zero_le _, rfl, rfl, rfl, HO0.out, HC0.out, World.grownBy_alloc _ _ _⟩
  case round =>
    obtain ⟨k, l, a, c', hk, rfl, hl, rfl, hown, hcur, hg⟩ := hrel
    have HL := Lib.hid hl
    have HO := Lib.hid hown
    have HC := Lib.hid hcur
    have HG := Lib.hid hg
    have HCL := Lib.hid hcur.lt
    clear hl hown hcur hg
    by_cases hlt : k < 6
    · go_wp2_with (go_at_call 54; (refine (l1PickInt_any B c wr.heap.size 7 _ (HC.out.alloc _) (by omega) (by omega) (by have := HCL.out; omega) (lit_cells wr [0, 400, 500, 700, 800, 900, 1000] (by decide))).mono ?_); rintro e w2 ⟨y, rfl, hy0, hy1, hc2, hg2⟩; refine Hid.out ?_)
      have HC2 := Lib.hid hc2
      have HO2 := Lib.hid (own_cur (HO.out.alloc _) hg2 HLT.out)
      have HG2 := Lib.hid (grown_trans HG.out (grown_trans (grown_alloc wr _ c) hg2))
      have hws : w.heap.size ≤ w2.heap.size := HG2.out.size
      obtain ⟨v3, w3, hrun, ho3, hg3⟩ := run_appI 27 w.heap.size (.slice a k c') l (w2.alloc (.cells #[.int .i64 y] 3)) (HO2.out.alloc _) (some ⟨w2.heap.size, 0, none⟩) 1 [y] (in_oneI w2 w2.heap.size y rfl) nofun (by have := HL.out; simp; omega) (by simp; omega)
      obtain ⟨a3, c3, rfl⟩ := ho3.shape
      have hln : (l ++ [y]).length = k + 1 := by have := HL.out; simp; omega
      rw [hln] at ho3 hrun
      have HRUN := Lib.hid hrun
      have HO3 := Lib.hid ho3
      have hup : ∀ q, (Value.slice a k c').ownBlock = some q → w.heap.size ≤ q := fun q hq => (World.ownsRow.lt HO2.out q hq).1
      have HG3 := Lib.hid (grown_up (grown_trans HG2.out (grown_alloc w2 (.cells #[.int .i64 y] 3) c)) hg3 hup)
      have HC3 := Lib.hid ((HC2.out.alloc (.cells #[.int .i64 y] 3)).below ((Below.refl w.heap.size _).grown hg3 (by simp; omega) hup) HLT.out)
      have HLN := Lib.hid hln
      clear hc2 hg2 hrun ho3 hg3 hup hws hln
      refine Lib.hid ?_
      go_wp2_with (at_builtin; refine Lib.wpList_append_run _ rfl _ _ _ _ rfl _ _ rfl rfl _ _ HRUN.out ?_)
      go_roundw
      case rel => exact ⟨k + 1, l ++ [y], a3, c3, by omega, by go_num, HLN.out, by go_num, HO3.out, HC3.out, HG3.out⟩
      case measure => simp [intOf]; omega
    · obtain rfl : k = 6 := by omega
      obtain ⟨⟨g, rfl⟩, -⟩ := owni_some HO.out (by have := HL.out; omega)
      go_wp2
      go_ret
      exact ⟨l, g, c', rfl, HL.out, HO.out, HC.out, HG.out⟩

/-- some slice of integers is handed back -/
def SomeInts (w : World) (B c : Nat) (e : Ending) (w' : World) : Prop :=
  ∃ (l : List Int) (g off cap : Nat), e = .returned (.slice (some ⟨g, off, none⟩) l.length cap) ∧ l.length ≤ 6 ∧ 5 ≤ l.length ∧ InI w' (some ⟨g, off, none⟩) l ∧ w.heap.size ≤ g ∧ g < w'.heap.size ∧ Cur w' B c ∧ w.grownBy w' (some c)

set_option maxRecDepth 100000 in
set_option maxHeartbeats 1600000 in
theorem any_any (B c : Nat) (w : World) (hcur : Cur w B c) : Calls Tryz.prog 24 #[.pointer (some ⟨c, 0, none⟩)] w (SomeInts w B c) := by
  have HC0 := Lib.hid hcur
  have HLT := Lib.hid hcur.lt
  clear hcur
  go_enter Tryz.func24, Tryz.ntmps24
  go_wp2_with (first
    | (go_at_call 55; ((with_reducible refine (vec_any B c _ HC0.out).mono ?_); rintro e w1 ⟨l, g, cap, rfl, hl, hown, hcur, hg⟩; have HL := Lib.hid hl; have HO := Lib.hid hown; have HC := Lib.hid hcur; have HG := Lib.hid hg; clear hl hown hcur hg))
    | (go_at_call 53; ((refine (l1Below_any B c _ _ HC.out (by omega) (by omega)).mono ?_); rintro e w2 ⟨x, rfl, hx0, hx1, hc2, hg2⟩; refine Hid.out ?_)))
  have HC2 := Lib.hid hc2
  have HO2 := Lib.hid (own_cur HO.out hg2 HLT.out)
  have HG2 := Lib.hid (grown_trans HG.out hg2)
  have HLE := Lib.hid (show 6 ≤ cap by have h := (owni_some HO.out (by have := HL.out; omega)).2; have := HL.out; omega)
  have HGB := Lib.hid (World.ownsRow.lt HO2.out g rfl)
  have HCL := Lib.hid hc2.lt
  have hcap : (6 : Int) ≤ (cap : Int) := by have := HLE.out; omega
  clear hc2 hg2
  refine Lib.hid ?_
  have hcase : x = 0 ∨ x = 1 ∨ 1 < x := by omega
  rcases hcase with rfl | rfl | hx
  · go_wp2_with (go_at_call 54; (refine (l1PickInt_any B c w2.heap.size 2 _ (HC2.out.alloc _) (by omega) (by omega) (by have := HCL.out; omega) (lit_cells w2 [-1, 1001] (by decide))).mono ?_); rintro e w3 ⟨y, rfl, hy0, hy1, hc3, hg3⟩; refine Hid.out ?_)
    have HC3 := Lib.hid hc3
    have HO3 := Lib.hid (own_cur (HO2.out.alloc _) hg3 HLT.out)
    have HG3 := Lib.hid (grown_trans HG2.out (grown_trans (grown_alloc w2 _ c) hg3))
    obtain ⟨u0, u1⟩ := HO3.out.cellI (j := 0) (by have := HL.out; omega)
    have HSU := Lib.hid (HO3.out.set 0 y)
    have hup : ∀ q, some g = some q → w.heap.size ≤ q := fun q hq => by injection hq with hq; have := HGB.out.1; omega
    have HG4 := Lib.hid (grown_up HG3.out HSU.out.2 hup)
    have HC4 := Lib.hid (HC3.out.below ((Below.refl w.heap.size w3).grown HSU.out.2 HG3.out.size hup) HLT.out)
    clear hc3 hg3 hup
    refine Lib.hid ?_
    go_wp2
    go_ret
    refine ⟨l.set 0 y, g, 0, cap, by rw [List.length_set, HL.out]; rfl, by rw [List.length_set, HL.out]; omega, by rw [List.length_set, HL.out]; omega, HSU.out.1.inI, HGB.out.1, ?_, HC4.out, HG4.out⟩
    exact (World.ownsRow.lt HSU.out.1 g rfl).2
  · go_wp2
    go_ret
    refine ⟨l.drop 1, g, 1, cap - 1, ?_, by rw [List.length_drop, HL.out]; omega, by rw [List.length_drop, HL.out]; omega, HO2.out.inI.drop0 1, HGB.out.1, HGB.out.2, HC2.out, HG2.out⟩
    rw [List.length_drop, HL.out]
    rfl
  · have hx1 : ¬ x = 0 := by omega
    have hx2 : ¬ x = 1 := by omega
    go_wp2
    go_ret
    exact ⟨l, g, 0, cap, by rw [HL.out]; rfl, by rw [HL.out]; omega, by rw [HL.out]; omega, HO2.out.inI, HGB.out.1, HGB.out.2, HC2.out, HG2.out⟩

end Go.Proofs.YtpmfabpnjacegaaGreatDoor
