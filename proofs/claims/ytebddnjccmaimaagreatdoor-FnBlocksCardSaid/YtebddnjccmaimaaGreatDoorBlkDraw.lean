/-
  What spec.DrawBlockPairs draws: a few records and how many members at most. By an AI agent.
-/
import Derived.Test.YtebddnjccmaimaaGreatDoorRcDraw
namespace Go.Proofs.YtebddnjccmaimaaGreatDoor
open Go.RowKit
set_option linter.unusedVariables false

set_option maxRecDepth 100000 in
set_option maxHeartbeats 1000000 in
theorem l1PickInt_of (R : Int → Prop) (B c g n : Nat) (w : World) (hcur : Cur w B c) (hn : 0 < n) (hn2 : n ≤ 65536) (hg : g ≠ c) (hl : ∀ j, j < n → ∃ z : Int, R z ∧ w.cell? ⟨g, j, none⟩ = some (.int .i64 z)) :
    Calls Tryz.prog 44 #[.pointer (some ⟨c, 0, none⟩), .slice (some ⟨g, 0, none⟩) n n] w fun e w' => ∃ z, e = .returned (.int .i64 z) ∧ R z ∧ Cur w' B c ∧ w.grownBy w' (some c) := by
  have HC := Lib.hid hcur
  have HL := Lib.hid hl
  clear hcur hl
  go_enter Tryz.func44, Tryz.ntmps44
  go_wp2_with (go_at_call 78; (refine (l1Below_any B c _ _ HC.out (by omega) (by omega)).mono ?_); rintro e w1 ⟨x, rfl, hx0, hx1, hc1, hg1⟩; refine Hid.out ?_)
  refine Lib.hid ?_
  obtain ⟨k, rfl⟩ := Int.eq_ofNat_of_zero_le hx0
  obtain ⟨z, hz0, hcell⟩ := HL.out k (by omega)
  have hcell1 : w1.cell? ⟨g, k, none⟩ = some (.int .i64 z) := hg1.cell hcell (by simpa using hg)
  have HC1 := Lib.hid hc1
  have HG1 := Lib.hid hg1
  have HZ := Lib.hid hz0
  clear hc1 hg1 hz0
  go_wp2
  go_ret
  exact ⟨_, rfl, HZ.out, HC1.out, HG1.out⟩
theorem lit_some (R : Int → Prop) (w : World) (l : List Int) (hr : ∀ z ∈ l, R z) : ∀ j, j < l.length → ∃ z : Int, R z ∧ (w.alloc (.cells (l.map (fun z => Value.int .i64 z)).toArray 3)).cell? ⟨w.heap.size, j, none⟩ = some (.int .i64 z) := by
  intro j hj
  refine ⟨l[j], hr _ (List.getElem_mem hj), ?_⟩
  rw [World.cell?_alloc_at _ _ _ _ rfl]
  simp [hj]

/-- some records and a bound, the memory below as it was -/
def DrawnBP (w : World) (e : Ending) (w' : World) : Prop :=
  ∃ a cp S most, e = .returned (.tuple #[.slice a S.length cp, .int .i64 most]) ∧ SmRc w' a S cp ∧ S.length ≤ 7 ∧ 0 ≤ most ∧ most ≤ 12 ∧ Below w.heap.size w w'

set_option maxRecDepth 100000 in
set_option maxHeartbeats 3200000 in
theorem drawBP_any (A : Option Addr) (len cap : Nat) (w : World) (hcode : CodeAt w w.heap.size A len) : Calls Tryz.prog 11 #[.slice A len cap] w (DrawnBP w) := by
  have HCODE := Lib.hid hcode
  clear hcode
  go_enter Tryz.func11, Tryz.ntmps11
  go_wp2_with (go_at_call 42; (refine (l1New_any A len cap _ HCODE.out).mono ?_); rintro e w1 ⟨c, rfl, hc1, hb1⟩; refine Hid.out ?_)
  have hcl : w.heap.size ≤ c := hc1.1
  have HC1 := Lib.hid hc1
  have HB1 := Lib.hid hb1
  have hl1 := hc1.lt
  have hs1 := hb1.size
  clear hc1 hb1
  refine Lib.hid ?_
  go_wp2_with (go_at_call 43; (refine (l13_any _ c _ HC1.out).mono ?_); rintro e w2 ⟨a, cp, q, rfl, hd, hq, hc, hg⟩; refine Hid.out ?_)
  have HD2 := Lib.hid hd
  have HC2 := Lib.hid hc
  have HG2 := Lib.hid hg
  have hl2 := hc.lt
  have hs2 := hg.size
  clear hd hc hg
  refine Lib.hid ?_
  go_wp2_with (go_at_call 44; (refine (l1PickInt_of (fun z => 0 ≤ z ∧ z ≤ 12) _ c w2.heap.size 6 _ (HC2.out.alloc _) (by omega) (by omega) (by omega) (lit_some (fun z => 0 ≤ z ∧ z ≤ 12) w2 [12, 12, 3, 2, 1, 0] (by decide))).mono ?_); rintro e w3 ⟨most, rfl, hz, hc, hg⟩; refine Hid.out ?_)
  have hg0 := gtrans (galloc (World.grownBy.refl w2 (some c)) (.cells (([12, 12, 3, 2, 1, 0] : List Int).map (fun z => Value.int .i64 z)).toArray 3)) hg
  have HD3 := Lib.hid (HD2.out.kept hg0 (by omega))
  have HB3 := Lib.hid ((HB1.out.grown HG2.out HB1.out.size (fun j hj => by injection hj with hj; omega)).grown hg0 (by omega) (fun j hj => by injection hj with hj; omega))
  have HZ := Lib.hid hz
  clear hz hc hg hg0
  refine Lib.hid ?_
  go_wp2
  refine bodyPost_ret (v := .tuple #[.slice a (recsR q).length cp, .int .i64 most]) (by simp [results, Tryz.results11, go_sem, recsR_len]) rfl ⟨a, cp, recsR q, most, rfl, ?_, by rw [recsR_len]; exact hq, HZ.out.1, HZ.out.2, HB3.out⟩
  exact HD3.out.smRc hq

end Go.Proofs.YtebddnjccmaimaaGreatDoor
