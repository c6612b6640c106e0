/-
  Records as values: what the laws' own szRecord, toRecord, eqRecord, markRecord and heldRecord do. By an AI agent.
-/
import Derived.Test.YtebddnjccmaimaaGreatDoorGMem
namespace Go.Proofs.YtebddnjccmaimaaGreatDoor
open Go.RowKit
set_option linter.unusedVariables false

set_option maxRecDepth 100000 in
theorem szr_yes {w0 : World} (s k v : Int) (a : Option Addr) (cap : Nat) (l : List Str) (left r : Nat) (w : World) (h : ArgS w0 a l) (hb : Below w0.heap.size w0 w) (hleft : left ≤ 1048576) (hr : r + szL l = left) :
    Calls Tryz.prog 23 #[.agg #[.int .i64 s, .int .i64 k, .int .i64 v, .slice a l.length cap], .int .i64 left] w fun e w' => e = .returned (.int .i64 r) ∧ Below w.heap.size w w' := by
  have HA := Lib.hid h
  have HB := Lib.hid hb
  have HR := Lib.hid hr
  have hrl : (r : Int) ≤ 1048576 := by omega
  clear h hb hr
  go_enter Tryz.func23, Tryz.ntmps23
  go_wp2_with (go_at_call 63; (refine (sz_yes a cap l left r _ HA.out (HB.out.alloc HB.out.size _) hleft HR.out).mono ?_); rintro e w' ⟨rfl, rfl⟩)
  go_ret
  exact ⟨rfl, (Below.refl _ _).alloc (Nat.le_refl _) _⟩

set_option maxRecDepth 100000 in
theorem szr_no {w0 : World} (s k v : Int) (a : Option Addr) (cap : Nat) (l : List Str) (left : Nat) (w : World) (h : ArgS w0 a l) (hb : Below w0.heap.size w0 w) (hleft : left ≤ 1048576) (hn : ¬ szL l ≤ left) :
    Calls Tryz.prog 23 #[.agg #[.int .i64 s, .int .i64 k, .int .i64 v, .slice a l.length cap], .int .i64 left] w fun e w' => e = .returned (.int .i64 (-1)) ∧ Below w.heap.size w w' := by
  have HA := Lib.hid h
  have HB := Lib.hid hb
  have HR := Lib.hid hn
  clear h hb hn
  go_enter Tryz.func23, Tryz.ntmps23
  go_wp2_with (go_at_call 63; (refine (sz_no a cap l left _ HA.out (HB.out.alloc HB.out.size _) hleft HR.out).mono ?_); rintro e w' ⟨rfl, rfl⟩)
  go_ret
  exact ⟨rfl, (Below.refl _ _).alloc (Nat.le_refl _) _⟩

/-- block g holds a record -/
def RecB (ty : TypeId) (w : World) (g : Nat) (s k v : Int) (V : Value) : Prop := w.heap[g]? = some (.cells #[.int .i64 s, .int .i64 k, .int .i64 v, V] ty (0, 0))

theorem RecB.c0 {ty : TypeId} {w : World} {g : Nat} {s k v : Int} {V : Value} (h : RecB ty w g s k v V) : w.cell? ⟨g, 0, none⟩ = some (.int .i64 s) := by rw [cell_of_row w g 0 _ _ _ h]; rfl
theorem RecB.c1 {ty : TypeId} {w : World} {g : Nat} {s k v : Int} {V : Value} (h : RecB ty w g s k v V) : w.cell? ⟨g, 1, none⟩ = some (.int .i64 k) := by rw [cell_of_row w g 1 _ _ _ h]; rfl
theorem RecB.c2 {ty : TypeId} {w : World} {g : Nat} {s k v : Int} {V : Value} (h : RecB ty w g s k v V) : w.cell? ⟨g, 2, none⟩ = some (.int .i64 v) := by rw [cell_of_row w g 2 _ _ _ h]; rfl
theorem RecB.c3 {ty : TypeId} {w : World} {g : Nat} {s k v : Int} {V : Value} (h : RecB ty w g s k v V) : w.cell? ⟨g, 3, none⟩ = some V := by rw [cell_of_row w g 3 _ _ _ h]; rfl
theorem RecB.frozen {ty : TypeId} {w : World} {g : Nat} {s k v : Int} {V : Value} (h : RecB ty w g s k v V) (i : Nat) : w.frozen? ⟨g, i, none⟩ = false := by
  unfold RecB at h
  simp [World.frozen?, h]
theorem RecB.below {ty : TypeId} {w w' : World} {g : Nat} {s k v : Int} {V : Value} (h : RecB ty w g s k v V) (hb : Below w.heap.size w w') : RecB ty w' g s k v V :=
  (hb.block g (Array.getElem?_eq_some_iff.1 h).1).trans h
theorem RecB.alloc {ty : TypeId} {w : World} {g : Nat} {s k v : Int} {V : Value} (h : RecB ty w g s k v V) (o : Obj) : RecB ty (w.alloc o) g s k v V := h.below ((Below.refl _ _).alloc (Nat.le_refl _) o)
theorem RecB.new (ty : TypeId) (w : World) (g : Nat) (s k v : Int) (V : Value) (hg : w.heap.size = g) : RecB ty (w.alloc (.cells #[.int .i64 s, .int .i64 k, .int .i64 v, V] ty)) g s k v V := by
  subst hg
  exact heap_alloc_new w _

theorem RecB.set0 {ty : TypeId} {w : World} {g : Nat} {s k v : Int} {V : Value} (h : RecB ty w g s k v V) (x : Int) : RecB ty (w.setCell ⟨g, 0, none⟩ (.int .i64 x)) g x k v V := by
  unfold RecB at h ⊢
  simp [World.setCell, Array.getElem?_modify, h]
theorem RecB.set1 {ty : TypeId} {w : World} {g : Nat} {s k v : Int} {V : Value} (h : RecB ty w g s k v V) (x : Int) : RecB ty (w.setCell ⟨g, 1, none⟩ (.int .i64 x)) g s x v V := by
  unfold RecB at h ⊢
  simp [World.setCell, Array.getElem?_modify, h]
theorem RecB.set2 {ty : TypeId} {w : World} {g : Nat} {s k v : Int} {V : Value} (h : RecB ty w g s k v V) (x : Int) : RecB ty (w.setCell ⟨g, 2, none⟩ (.int .i64 x)) g s k x V := by
  unfold RecB at h ⊢
  simp [World.setCell, Array.getElem?_modify, h]
theorem RecB.set3 {ty : TypeId} {w : World} {g : Nat} {s k v : Int} {V : Value} (h : RecB ty w g s k v V) (x : Value) : RecB ty (w.setCell ⟨g, 3, none⟩ x) g s k v x := by
  unfold RecB at h ⊢
  simp [World.setCell, Array.getElem?_modify, h]
theorem RecB.other {ty : TypeId} {w : World} {g : Nat} {s k v : Int} {V : Value} (h : RecB ty w g s k v V) (p : Addr) (u : Value) (hne : g ≠ p.block) : RecB ty (w.setCell p u) g s k v V :=
  (Below.heap_setCell w p u g hne).trans h
theorem ArgS.inS {w : World} {a : Option Addr} {l : List Str} (h : ArgS w a l) : InS w a l := h.1
theorem RecB.lt {ty : TypeId} {w : World} {g : Nat} {s k v : Int} {V : Value} (h : RecB ty w g s k v V) : g < w.heap.size := (Array.getElem?_eq_some_iff.1 h).1
theorem OwnH.alloc {w : World} {lo hi : Nat} {v : Value} {l : List Str} (h : OwnH w lo hi v l) (o : Obj) : OwnH (w.alloc o) lo hi v l := h.below ((Below.refl _ _).alloc (Nat.le_refl _) o)
theorem OwnH.drew {w : World} {lo hi : Nat} {v : Value} {l : List Str} (h : OwnH w lo hi v l) : OwnH w.drew lo hi v l := h
theorem OwnS.set_ {w : World} {base : Nat} {v : Value} {l : List Str} (h : OwnS w base v l) (p : Addr) (u : Value) (hp : p.block < base) : OwnS (w.setCell p u) base v l := by
  refine World.ownsRow.kept (w' := w.setCell p u) h (row := some p.block) ⟨rfl, rfl, rfl, by simp [World.setCell], fun i hi hne => Below.heap_setCell w p u i (fun e => hne (by rw [e]))⟩ ?_
  cases hv : v.ownBlock with
  | none => exact .inl rfl
  | some k =>
    refine .inr fun e => ?_
    have h1 := (World.ownsRow.lt h k hv).1
    simp only [Option.some.injEq] at e
    omega

/-- a record of the call's own is handed back -/
def GivesR (w : World) (s k v : Int) (l : List Str) (e : Ending) (w' : World) : Prop :=
  ∃ a cap, e = .returned (.agg #[.int .i64 s, .int .i64 k, .int .i64 v, .slice a l.length cap]) ∧ OwnS w' w.heap.size (.slice a l.length cap) l ∧ Below w.heap.size w w'

set_option maxRecDepth 100000 in
theorem tor_any (s k v : Int) (a : Option Addr) (cap : Nat) (l : List Str) (w : World) (hl : l.length ≤ 4000000) (hin : InS w a l) :
    Calls Tryz.prog 25 #[.agg #[.int .i64 s, .int .i64 k, .int .i64 v, .slice a l.length cap]] w (GivesR w s k v l) := by
  have HIN := Lib.hid hin
  clear hin
  obtain ⟨w3, hw3⟩ : ∃ w3, w3 = ((w.alloc (.cells #[.int .i64 s, .int .i64 k, .int .i64 v, .slice a l.length cap] 44)).alloc (.cells #[.int .i64 0, .int .i64 0, .int .i64 0, .slice none 0 0] 37)).alloc (.cells #[.int .i64 s, .int .i64 k, .int .i64 v, .slice none 0 0] 37) := ⟨_, rfl⟩
  have HW := Lib.hid hw3
  have HB3 := Lib.hid (show Below w.heap.size w w3 by rw [hw3]; exact (((Below.refl _ _).alloc (Nat.le_refl _) _).alloc (by simp) _).alloc (by simp; omega) _)
  have HR1 := Lib.hid (show RecB 37 w3 (w.heap.size + 1) 0 0 0 (.slice none 0 0) by rw [hw3]; exact (RecB.new _ _ _ _ _ _ _ (by simp)).alloc _)
  have HR2 := Lib.hid (show RecB 37 w3 (w.heap.size + 1 + 1) s k v (.slice none 0 0) by rw [hw3]; exact RecB.new _ _ _ _ _ _ _ (by simp))
  clear hw3
  go_enter Tryz.func25, Tryz.ntmps25
  go_wp2_with (go_at_call 71; rw [← HW.out]; (refine (to_any a cap l w3 hl (HIN.out.below HB3.out)).mono ?_); rintro e w' ⟨a1, c1, rfl, ho, hb⟩; refine Hid.out ?_)
  have r1 := HR1.out.below hb
  have r2 := HR2.out.below hb
  have HO := Lib.hid ho
  have HB := Lib.hid (HB3.out.trans (hb.mono HB3.out.size))
  have HS3 := Lib.hid (show w3.heap.size = w.heap.size + 3 by rw [HW.out]; simp)
  clear ho hb
  have R1 := Lib.hid r1
  have c10 := r1.c0
  have c11 := r1.c1
  have c12 := r1.c2
  have c13 := r1.c3
  have f10 := r1.frozen 0
  have f11 := r1.frozen 1
  have f12 := r1.frozen 2
  have f13 := r1.frozen 3
  have c20 := r2.c0
  have c21 := r2.c1
  have c22 := r2.c2
  have c23 := r2.c3
  have f23 := r2.frozen 3
  clear r1 r2
  refine Lib.hid ?_
  go_wp2
  have z := ((((R1.out.other ⟨w.heap.size + 1 + 1, 3, none⟩ (.slice a1 l.length c1) (by simp)).set0 s).set1 k).set2 v).set3 (.slice a1 l.length c1)
  have e0 := z.c0
  have e1 := z.c1
  have e2 := z.c2
  have e3 := z.c3
  have hs3 := HS3.out
  refine bodyPost_ret (v := .agg #[.int .i64 s, .int .i64 k, .int .i64 v, .slice a1 l.length c1]) (by simp [results, Tryz.results25, go_sem, e0, e1, e2, e3]) rfl ⟨_, _, rfl, ?_, ?_⟩
  · exact (((((HO.out.set_ _ _ (by simp; omega)).set_ _ _ (by simp; omega)).set_ _ _ (by simp; omega)).set_ _ _ (by simp; omega)).set_ _ _ (by simp; omega)).mono HB3.out.size
  · exact ((((HB.out.setCell (by simp; omega) _).setCell (by simp) _).setCell (by simp) _).setCell (by simp) _).setCell (by simp) _

set_option maxRecDepth 100000 in
theorem eqr_same (s k v : Int) (a1 a2 : Option Addr) (c1 c2 : Nat) (l : List Str) (w : World) (hl : l.length ≤ maxLen) (h1 : InS w a1 l) (h2 : InS w a2 l) :
    Calls Tryz.prog 27 #[.agg #[.int .i64 s, .int .i64 k, .int .i64 v, .slice a1 l.length c1], .agg #[.int .i64 s, .int .i64 k, .int .i64 v, .slice a2 l.length c2]] w fun e w' => e = .returned (.bool true) ∧ Below w.heap.size w w' := by
  have H1 := Lib.hid ((h1.alloc (.cells #[.int .i64 s, .int .i64 k, .int .i64 v, .slice a1 l.length c1] 37)).alloc (.cells #[.int .i64 s, .int .i64 k, .int .i64 v, .slice a2 l.length c2] 37))
  have H2 := Lib.hid ((h2.alloc (.cells #[.int .i64 s, .int .i64 k, .int .i64 v, .slice a1 l.length c1] 37)).alloc (.cells #[.int .i64 s, .int .i64 k, .int .i64 v, .slice a2 l.length c2] 37))
  clear h1 h2
  go_enter Tryz.func27, Tryz.ntmps27
  go_wp2_with (go_at_call 26; (refine (eq_same a1 a2 c1 c2 l _ hl H1.out H2.out).mono ?_); rintro e w' ⟨rfl, hb⟩)
  go_ret
  exact ⟨rfl, (((Below.refl w.heap.size w).alloc (Nat.le_refl _) _).alloc (by simp) _).trans (hb.mono (by simp; omega))⟩

set_option maxRecDepth 100000 in
theorem markr_any (s k v : Int) (base : Nat) (a : Option Addr) (cap : Nat) (l : List Str) (k0 : Nat) (w : World) (hl : l.length ≤ 4000000) (hk0 : 0 < k0) (hk1 : k0 ≤ 4000000) (hbase : base ≤ w.heap.size) (hown : OwnS w base (.slice a l.length cap) l) :
    Calls Tryz.prog 28 #[.agg #[.int .i64 s, .int .i64 k, .int .i64 v, .slice a l.length cap], .int .i64 k0] w (Marked w base a l.length cap k0) := by
  have HO := Lib.hid (hown.alloc (.cells #[.int .i64 s, .int .i64 k, .int .i64 v, .slice a l.length cap] 37))
  clear hown
  go_enter Tryz.func28, Tryz.ntmps28
  go_wp2_with (go_at_call 29; (refine (mark_any base a cap l k0 _ hl hk0 hk1 HO.out).mono ?_); rintro e w' ⟨rfl, ho, hg⟩)
  go_ret
  exact ⟨rfl, ho, (World.grownBy_alloc w _ _).trans hg⟩

end Go.Proofs.YtebddnjccmaimaaGreatDoor
