/-
  What DrawSetCandidates and DrawInsertSet of spec hand back. By an AI agent.
-/
import Derived.Test.YthjbekgognfiiaaGreatIxD3
namespace Go.Proofs.YthjbekgognfiiaaGreat
open Go.RowKit
set_option linter.unusedVariables false

theorem codeAt_up {w w' : World} {A : Option Addr} {len : Nat} (h : CodeAt w w.heap.size A len) (hb : Below w.heap.size w w') : CodeAt w' w'.heap.size A len := by
  have h1 := h.keep (w' := w') (fun k hk => hb.block k hk)
  refine ⟨h1.1, fun h0 => ?_⟩
  obtain ⟨b, off, hA, hlt, hz⟩ := h1.2 h0
  exact ⟨b, off, hA, Nat.lt_of_lt_of_le hlt hb.size, hz⟩
/-- an index and a list of strings are handed back -/
def DrawnCd (w : World) (e : Ending) (w' : World) : Prop :=
  ∃ (t : Int) (ta : Option Addr) (tc : Nat) (T : List TC) (xa : Option Addr) (xc : Nat) (S : List IS) (la : Option Addr) (lc : Nat) (l : List Str), e = .returned (.tuple #[.agg #[.int .i64 t, .slice ta T.length tc, .slice xa S.length xc], .slice la l.length lc]) ∧ SmIx w' ta T tc xa S xc ∧ BIx 13 T S ∧ Sm w' la l lc ∧ l.length ≤ 7 ∧ (∀ x ∈ l, x.length ≤ 10) ∧ Below w.heap.size w w'
def DrawnIn (w : World) (e : Ending) (w' : World) : Prop :=
  ∃ (t : Int) (ta : Option Addr) (tc : Nat) (T : List TC) (xa : Option Addr) (xc : Nat) (S : List IS) (id : Int) (la : Option Addr) (lc : Nat) (l : List Str), e = .returned (.tuple #[.agg #[.int .i64 t, .slice ta T.length tc, .slice xa S.length xc], .int .i64 id, .slice la l.length lc]) ∧ SmIx w' ta T tc xa S xc ∧ BIx 13 T S ∧ Sm w' la l lc ∧ l.length ≤ 7 ∧ (∀ x ∈ l, x.length ≤ 10) ∧ Below w.heap.size w w'
theorem below_cur {w0 w w' : World} {c : Nat} (h : Below w0.heap.size w0 w) (hg : w.grownBy w' (some c)) (hc : w0.heap.size ≤ c) : Below w0.heap.size w0 w' := h.grown hg h.size (fun k hk => by injection hk with hk; omega)
theorem drawn_sm {W : World} {lo hi g m : Nat} {T : List TC} {S : List IS} {ta xa : Option Addr} {tc xc : Nat} {q : List XS} (hT : OwnT W lo (.slice ta T.length tc) T) (hX : OwnX W lo (.slice xa S.length xc) q) (hq : setsX q = S) (hb : BIx m T S) (hm : m ≤ 1000) (hg : g < lo) (a b c : Value) :
    SmIx (((W.setCell ⟨g, 0, none⟩ a).setCell ⟨g, 1, none⟩ b).setCell ⟨g, 2, none⟩ c) ta T tc xa S xc := by
  have k1 : OwnT (((W.setCell ⟨g, 0, none⟩ a).setCell ⟨g, 1, none⟩ b).setCell ⟨g, 2, none⟩ c) lo (.slice ta T.length tc) T := row_setCell (row_setCell (row_setCell hT _ _ hg) _ _ hg) _ _ hg
  have k2 := ((hX.setCell ⟨g, 0, none⟩ a hg).setCell ⟨g, 1, none⟩ b hg).setCell ⟨g, 2, none⟩ c hg
  exact ⟨tab_sm k1 (by have := hb.1; omega) hb.2.1, k2.smX hq (by have := hb.2.2.1; omega) (fun x hx => ⟨by have := (hb.2.2.2 x hx).1; omega, fun y hy => by have := (hb.2.2.2 x hx).2 y hy; omega⟩)⟩
theorem drawn_l {W : World} {lo g : Nat} {l : List Str} {la : Option Addr} {lc : Nat} (h : OwnS W lo (.slice la l.length lc) l) (h1 : l.length ≤ 7) (h2 : ∀ x ∈ l, x.length ≤ 10) (hg : g < lo) (a b c : Value) :
    Sm (((W.setCell ⟨g, 0, none⟩ a).setCell ⟨g, 1, none⟩ b).setCell ⟨g, 2, none⟩ c) la l lc := by
  have k1 : OwnS (((W.setCell ⟨g, 0, none⟩ a).setCell ⟨g, 1, none⟩ b).setCell ⟨g, 2, none⟩ c) lo (.slice la l.length lc) l := row_setCell (row_setCell (row_setCell h _ _ hg) _ _ hg) _ _ hg
  exact k1.sm (by omega) (fun x hx => by have := h2 x hx; omega)

set_option maxRecDepth 100000 in
set_option maxHeartbeats 4000000 in
theorem drawCand_any (A : Option Addr) (len cap : Nat) (w : World) (hcode : CodeAt w w.heap.size A len) : Calls Tryz.prog 6 #[.slice A len cap] w (DrawnCd w) := by
  obtain ⟨w1, hw1⟩ : ∃ w1, w1 = w.alloc (.cells #[.int .i64 0, .slice none 0 0, .slice none 0 0] 27) := ⟨_, rfl⟩
  have HW1 := Lib.hid hw1
  have hb1 : Below w.heap.size w w1 := by rw [hw1]; exact (Below.refl _ _).alloc (Nat.le_refl _) _
  have HB1 := Lib.hid hb1
  have HCODE := Lib.hid (codeAt_up hcode hb1)
  have HR1 := Lib.hid (show BlkV w1 w.heap.size 27 #[.int .i64 0, .slice none 0 0, .slice none 0 0] by rw [hw1]; exact BlkV.new _ _ _)
  clear hcode hw1 hb1
  go_enter Tryz.func6, Tryz.ntmps6
  go_wp2_with (go_at_call 27; rw [← HW1.out]; (refine (l1New_any A len cap w1 HCODE.out).mono ?_); rintro e w2 ⟨c, rfl, hc2, hb2⟩; refine Hid.out ?_)
  have HC2 := Lib.hid hc2
  have HCL := Lib.hid (show w1.heap.size ≤ c from hc2.1)
  have HC2L := Lib.hid hc2.lt
  have HB2 := Lib.hid (HB1.out.trans (hb2.mono HB1.out.size))
  have HR2 := Lib.hid (HR1.out.below hb2)
  have HGL := Lib.hid (show w.heap.size < w1.heap.size from HR1.out.lt)
  clear hc2 hb2
  refine Lib.hid ?_
  go_wp2_with (first
    | (go_at_call 28; (refine (l12Any_any w1.heap.size c w2 HC2.out).mono ?_); rintro e w3 ⟨t, ta, tc, T, xa, xc, S, q, rfl, hq, ho, hbi, hc3, hg3⟩; have HQ := Lib.hid hq; have HT3 := Lib.hid ho.tab.1; have HX3 := Lib.hid ho.sets.1; have HBI := Lib.hid hbi; have HC3 := Lib.hid hc3; have HG3 := Lib.hid hg3; clear hq ho hbi hc3 hg3)
    | (go_at_call 29; (refine (l3Any_any w1.heap.size c w3 HC3.out).mono ?_); rintro e w4 ⟨la, lc, l, rfl, ho, hl, hx, hc4, hg4⟩; refine Hid.out ?_))
  have hgl := HGL.out
  have hcl := HCL.out
  have hr4 := ((HR2.out.grown HG3.out (by simp; omega)).grown hg4 (by simp; omega))
  have HT4 := Lib.hid (row_keptc HT3.out hg4 HC2L.out)
  have HX4 := Lib.hid (HX3.out.keptc hg4 HC2L.out)
  have HL4 := Lib.hid ho
  have HLL := Lib.hid hl
  have HLX := Lib.hid hx
  have HG4 := Lib.hid hg4
  have HR4 := Lib.hid hr4
  have r0 := hr4.three0
  have r1 := hr4.three1
  have r2 := hr4.three2
  have f0 := hr4.frozen 0
  have f1 := hr4.frozen 1
  have f2 := hr4.frozen 2
  clear ho hl hx hc4 hg4 hr4 hgl hcl
  refine Lib.hid ?_
  go_wp2
  have z := ((HR4.out.set_ 0 (.int .i64 t)).set_ 1 (.slice ta T.length tc)).set_ 2 (.slice xa S.length xc)
  have z0 : _ = some (Value.int .i64 t) := z.three0
  have z1 : _ = some (Value.slice ta T.length tc) := z.three1
  have z2 : _ = some (Value.slice xa S.length xc) := z.three2
  have h23 := HG3.out.size
  have hgl := HGL.out
  have h12 : w1.heap.size ≤ c := HCL.out
  have h2l := HC2L.out
  refine bodyPost_ret (v := .tuple #[.agg #[.int .i64 t, .slice ta T.length tc, .slice xa S.length xc], .slice la l.length lc]) (by simp [results, Tryz.results6, go_sem, z0, z1, z2]) rfl
    ⟨t, ta, tc, T, xa, xc, S, la, lc, l, rfl, drawn_sm (hi := 0) HT4.out HX4.out HQ.out HBI.out (by omega) (by omega) _ _ _, HBI.out, drawn_l HL4.out HLL.out HLX.out (by omega) _ _ _, HLL.out, HLX.out, ?_⟩
  exact (((below_cur (below_cur HB2.out HG3.out (by omega)) HG4.out (by omega)).setCell (Nat.le_refl _) _).setCell (Nat.le_refl _) _).setCell (Nat.le_refl _) _

set_option maxRecDepth 100000 in
set_option maxHeartbeats 4000000 in
theorem drawIns_any (A : Option Addr) (len cap : Nat) (w : World) (hcode : CodeAt w w.heap.size A len) : Calls Tryz.prog 15 #[.slice A len cap] w (DrawnIn w) := by
  obtain ⟨w1, hw1⟩ : ∃ w1, w1 = w.alloc (.cells #[.int .i64 0, .slice none 0 0, .slice none 0 0] 27) := ⟨_, rfl⟩
  have HW1 := Lib.hid hw1
  have hb1 : Below w.heap.size w w1 := by rw [hw1]; exact (Below.refl _ _).alloc (Nat.le_refl _) _
  have HB1 := Lib.hid hb1
  have HCODE := Lib.hid (codeAt_up hcode hb1)
  have HR1 := Lib.hid (show BlkV w1 w.heap.size 27 #[.int .i64 0, .slice none 0 0, .slice none 0 0] by rw [hw1]; exact BlkV.new _ _ _)
  clear hcode hw1 hb1
  go_enter Tryz.func15, Tryz.ntmps15
  go_wp2_with (go_at_call 27; rw [← HW1.out]; (refine (l1New_any A len cap w1 HCODE.out).mono ?_); rintro e w2 ⟨c, rfl, hc2, hb2⟩; refine Hid.out ?_)
  have HC2 := Lib.hid hc2
  have HCL := Lib.hid (show w1.heap.size ≤ c from hc2.1)
  have HC2L := Lib.hid hc2.lt
  have HB2 := Lib.hid (HB1.out.trans (hb2.mono HB1.out.size))
  have HR2 := Lib.hid (HR1.out.below hb2)
  have HGL := Lib.hid (show w.heap.size < w1.heap.size from HR1.out.lt)
  clear hc2 hb2
  refine Lib.hid ?_
  go_wp2_with (first
    | (go_at_call 28; (refine (l12Any_any w1.heap.size c w2 HC2.out).mono ?_); rintro e w3 ⟨t, ta, tc, T, xa, xc, S, q, rfl, hq, ho, hbi, hc3, hg3⟩; have HQ := Lib.hid hq; have HT3 := Lib.hid ho.tab.1; have HX3 := Lib.hid ho.sets.1; have HBI := Lib.hid hbi; have HC3 := Lib.hid hc3; have HG3 := Lib.hid hg3; clear hq ho hbi hc3 hg3)
    | (go_at_call 41; (refine (l1PickIntP_any (fun _ => True) w1.heap.size c w3.heap.size 7 _ (HC3.out.alloc _) (by omega) (by omega) (by have := HC3.out.lt; omega) (lit_cellsP (fun _ => True) w3 [0, 3, 7, 25, 999, 1000, -1] (fun _ _ => trivial))).mono ?_); rintro e w4 ⟨id, rfl, _, hc4, hg4⟩; have HC4 := Lib.hid hc4; have HG34 := Lib.hid (grown_trans (grown_alloc w3 _ c) hg4); clear hc4 hg4)
    | (go_at_call 29; (refine (l3Any_any w1.heap.size c w4 HC4.out).mono ?_); rintro e w5 ⟨la, lc, l, rfl, ho, hl, hx, hc5, hg5⟩; refine Hid.out ?_))
  have hgl := HGL.out
  have hcl := HCL.out
  have hr5 := (((HR2.out.grown HG3.out (by simp; omega)).grown HG34.out (by simp; omega)).grown hg5 (by simp; omega))
  have HT5 := Lib.hid (row_keptc (row_keptc HT3.out HG34.out HC2L.out) hg5 HC2L.out)
  have HX5 := Lib.hid ((HX3.out.keptc HG34.out HC2L.out).keptc hg5 HC2L.out)
  have HL5 := Lib.hid ho
  have HLL := Lib.hid hl
  have HLX := Lib.hid hx
  have HG5 := Lib.hid hg5
  have HR5 := Lib.hid hr5
  have r0 := hr5.three0
  have r1 := hr5.three1
  have r2 := hr5.three2
  have f0 := hr5.frozen 0
  have f1 := hr5.frozen 1
  have f2 := hr5.frozen 2
  clear ho hl hx hc5 hg5 hr5 hgl hcl
  refine Lib.hid ?_
  go_wp2
  have z := ((HR5.out.set_ 0 (.int .i64 t)).set_ 1 (.slice ta T.length tc)).set_ 2 (.slice xa S.length xc)
  have z0 : _ = some (Value.int .i64 t) := z.three0
  have z1 : _ = some (Value.slice ta T.length tc) := z.three1
  have z2 : _ = some (Value.slice xa S.length xc) := z.three2
  have h23 := HG3.out.size
  have h34 := HG34.out.size
  have hgl := HGL.out
  have h12 : w1.heap.size ≤ c := HCL.out
  have h2l := HC2L.out
  refine bodyPost_ret (v := .tuple #[.agg #[.int .i64 t, .slice ta T.length tc, .slice xa S.length xc], .int .i64 id, .slice la l.length lc]) (by simp [results, Tryz.results15, go_sem, z0, z1, z2]) rfl
    ⟨t, ta, tc, T, xa, xc, S, id, la, lc, l, rfl, drawn_sm (hi := 0) HT5.out HX5.out HQ.out HBI.out (by omega) (by omega) _ _ _, HBI.out, drawn_l HL5.out HLL.out HLX.out (by omega) _ _ _, HLL.out, HLX.out, ?_⟩
  exact (((below_cur (below_cur (below_cur HB2.out HG3.out (by omega)) HG34.out (by omega)) HG5.out (by omega)).setCell (Nat.le_refl _) _).setCell (Nat.le_refl _) _).setCell (Nat.le_refl _) _

end Go.Proofs.YthjbekgognfiiaaGreat
