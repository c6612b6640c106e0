/-
  What spec.DrawNormalize, spec.DrawQGrams and spec.DrawCommonGrams hand back: texts and grams within their bounds. By an AI agent.
-/
import Derived.Test.YtggohfinkpppkabDoorDraw2
import Derived.Test.YtggohfinkpppkabDoorNNorm
import Derived.Test.YtggohfinkpppkabDoorQGrams
namespace Go.Proofs.YtggohfinkpppkabDoor
open Go.RowKit
set_option linter.unusedVariables false

theorem CodeAt.later {w w' : World} {A : Option Addr} {len : Nat} (h : CodeAt w w.heap.size A len) (hb : Below w.heap.size w w') : CodeAt w' w'.heap.size A len := by
  have h1 := h.keep (w' := w') (fun k hk => hb.block k hk)
  refine ⟨h1.1, fun h0 => ?_⟩
  obtain ⟨b, off, hA, hlt, hz⟩ := h1.2 h0
  exact ⟨b, off, hA, Nat.lt_of_lt_of_le hlt hb.size, hz⟩

theorem OwnS.keptc {w w' : World} {base c : Nat} {v : Value} {l : List Str} (h : OwnS w base v l) (hg : w.grownBy w' (some c)) (hc : c < base) : OwnS w' base v l := by
  refine World.ownsRow.kept h hg (.inr fun e => ?_)
  have := (World.ownsRow.lt h c e).1
  omega

theorem qgR_mem {s : Str} {q : Int} {x : Str} (h : x ∈ qgR s q) : x.length ≤ 3 := by
  unfold qgR at h
  split at h
  · rename_i hq
    have h2 := (sortL_perm _).mem_iff.1 h
    obtain ⟨i, -, rfl⟩ := List.mem_map.1 h2
    have := List.length_take_le q.toNat (s.drop i)
    omega
  · simp at h

theorem norm_small {s : ByteArray} (h : s.size ≤ 100) : (nstr (normL s.data.toList)).size ≤ 200 := by
  rw [nstr_size]
  have h1 := norm_len s.data.toList
  have h2 : s.data.toList.length = s.size := Array.length_toList
  omega

theorem qgR_small {s : ByteArray} {q : Int} (h : s.size ≤ 200) : (qgR s.data.toList q).length ≤ 200 := by
  have h1 := qgR_len s.data.toList q
  have h2 : s.data.toList.length = s.size := Array.length_toList
  omega

def DrawnText (w : World) (e : Ending) (w' : World) : Prop := ∃ s : ByteArray, e = .returned (.string s) ∧ s.size ≤ 100 ∧ Below w.heap.size w w'
def DrawnTextInt (w : World) (e : Ending) (w' : World) : Prop := ∃ (u : ByteArray) (q : Int), e = .returned (.tuple #[.string u, .int .i64 q]) ∧ u.size ≤ 200 ∧ -9223372036854775808 ≤ q ∧ q ≤ 9223372036854775807 ∧ Below w.heap.size w w'
def DrawnGrams (w : World) (e : Ending) (w' : World) : Prop := ∃ (a1 a2 : Option Addr) (c1 c2 : Nat) (l1 l2 : List Str), e = .returned (.tuple #[.slice a1 l1.length c1, .slice a2 l2.length c2]) ∧ Sm w' a1 l1 c1 ∧ Sm w' a2 l2 c2 ∧ Below w.heap.size w w'

set_option maxRecDepth 100000 in
set_option maxHeartbeats 1000000 in
theorem drawNormalize_any (A : Option Addr) (len cap : Nat) (w : World) (hcode : CodeAt w w.heap.size A len) : Calls Tryd.prog 13 #[.slice A len cap] w (DrawnText w) := by
  have HCODE := Lib.hid hcode
  clear hcode
  go_enter Tryd.func13, Tryd.ntmps13
  go_wp2_with (go_at_call 55; (refine (l1New_any A len cap _ HCODE.out).mono ?_); rintro e w1 ⟨c, rfl, hc1, hb1⟩; refine Hid.out ?_)
  refine Lib.hid ?_
  have HC1 := Lib.hid hc1
  have HB1 := Lib.hid hb1
  clear hc1 hb1
  go_wp2_with (go_at_call 54; (refine (l2Text_any w.heap.size c _ HC1.out).mono ?_); rintro e w2 ⟨s, rfl, hs, hc2, hg2⟩)
  go_ret
  exact ⟨s, rfl, hs, HB1.out.grown hg2 HB1.out.size (fun k hk => by injection hk with hk; have := HC1.out.1; omega)⟩

set_option maxRecDepth 100000 in
set_option maxHeartbeats 1000000 in
theorem drawQGrams_any (A : Option Addr) (len cap : Nat) (w : World) (hcode : CodeAt w w.heap.size A len) : Calls Tryd.prog 30 #[.slice A len cap] w (DrawnTextInt w) := by
  have HCODE := Lib.hid hcode
  clear hcode
  go_enter Tryd.func30, Tryd.ntmps30
  go_wp2_with (go_at_call 55; (refine (l1New_any A len cap _ HCODE.out).mono ?_); rintro e w1 ⟨c, rfl, hc1, hb1⟩; refine Hid.out ?_)
  refine Lib.hid ?_
  have HC1 := Lib.hid hc1
  have HB1 := Lib.hid hb1
  clear hc1 hb1
  go_wp2_with (go_at_call 54; (refine (l2Text_any w.heap.size c _ HC1.out).mono ?_); rintro e w2 ⟨s, rfl, hs, hc2, hg2⟩; refine Hid.out ?_)
  refine Lib.hid ?_
  have HC2 := Lib.hid hc2
  have HG2 := Lib.hid hg2
  have HS := Lib.hid hs
  clear hc2 hg2 hs
  go_wp2_with (go_at_call 15; (refine (spec_no s _ (by have := HS.out; omega)).mono ?_); rintro e w3 ⟨rfl, hb3⟩; refine Hid.out ?_)
  refine Lib.hid ?_
  have HC3 := Lib.hid (HC2.out.below hb3 HC2.out.lt)
  have HG3 := Lib.hid (grown_below HG2.out (hb3.mono HG2.out.size))
  have HL3 := Lib.hid HC3.out.lt
  clear hb3
  go_wp2_with (go_at_call 61; (refine (l1PickInt_any w.heap.size c w3.heap.size 7 (w3.alloc _) (HC3.out.alloc _) (by omega) (by omega) (by have := HL3.out; omega) (lit_cells w3 [2, 2, 3, 1, 0, 4, -1] (by decide))).mono ?_); rintro e w4 ⟨q, rfl, hq0, hq1, hc4, hg4⟩)
  go_ret2
  exact ⟨_, q, rfl, norm_small HS.out, hq0, hq1, HB1.out.grown (grown_trans HG3.out (grown_trans (grown_alloc w3 _ c) hg4)) HB1.out.size (fun k hk => by injection hk with hk; have := HC1.out.1; omega)⟩

set_option maxRecDepth 100000 in
set_option maxHeartbeats 1000000 in
theorem drawCommonGrams_any (A : Option Addr) (len cap : Nat) (w : World) (hcode : CodeAt w w.heap.size A len) : Calls Tryd.prog 32 #[.slice A len cap] w (DrawnGrams w) := by
  have HCODE := Lib.hid hcode
  clear hcode
  go_enter Tryd.func32, Tryd.ntmps32
  go_wp2_with (go_at_call 55; (refine (l1New_any A len cap _ HCODE.out).mono ?_); rintro e w1 ⟨c, rfl, hc1, hb1⟩; refine Hid.out ?_)
  refine Lib.hid ?_
  have HC1 := Lib.hid hc1
  have HB1 := Lib.hid hb1
  clear hc1 hb1
  go_wp2_with (go_at_call 54; (refine (l2Text_any w.heap.size c _ HC1.out).mono ?_); rintro e w2 ⟨s, rfl, hs, hc2, hg2⟩; refine Hid.out ?_)
  refine Lib.hid ?_
  have HC2 := Lib.hid hc2
  have HG2 := Lib.hid hg2
  have HS := Lib.hid hs
  clear hc2 hg2 hs
  go_wp2_with (go_at_call 15; (refine (spec_no s _ (by have := HS.out; omega)).mono ?_); rintro e w3 ⟨rfl, hb3⟩; refine Hid.out ?_)
  refine Lib.hid ?_
  have HC3 := Lib.hid (HC2.out.below hb3 HC2.out.lt)
  have HG3 := Lib.hid (grown_below HG2.out (hb3.mono HG2.out.size))
  have HL3 := Lib.hid HC3.out.lt
  have HN := Lib.hid (norm_small HS.out)
  clear hb3
  obtain ⟨n, hn⟩ : ∃ n, n = nstr (normL s.data.toList) := ⟨_, rfl⟩
  rw [← hn] at HN ⊢
  clear hn
  go_wp2_with (go_at_call 33; (refine (qg_spec n 2 _ (by have := HN.out; omega) (by omega) (by omega)).mono ?_); rintro e w4 ⟨a1, c1, rfl, ho4, hb4⟩; refine Hid.out ?_)
  refine Lib.hid ?_
  have HC4 := Lib.hid (HC3.out.below hb4 HC3.out.lt)
  have HG4 := Lib.hid (grown_below HG3.out (hb4.mono HG3.out.size))
  have HO4 := Lib.hid ho4
  clear hb4 ho4
  have HQ := Lib.hid (And.intro (qgR_small (q := 2) HN.out) (fun x hx => (qgR_mem (s := n.data.toList) (q := 2) (x := x) hx)))
  obtain ⟨L, hL⟩ : ∃ L, L = qgR n.data.toList 2 := ⟨_, rfl⟩
  rw [← hL] at HO4 HQ ⊢
  clear hL
  go_wp2_with (go_at_call 54; (refine (l2Text_any w.heap.size c _ HC4.out).mono ?_); rintro e w5 ⟨s2, rfl, hs2, hc5, hg5⟩; refine Hid.out ?_)
  refine Lib.hid ?_
  have HC5 := Lib.hid hc5
  have HG5 := Lib.hid (grown_trans HG4.out hg5)
  have HO5 := Lib.hid (HO4.out.keptc hg5 HL3.out)
  have HS2 := Lib.hid hs2
  clear hc5 hg5 hs2
  go_wp2_with (go_at_call 15; (refine (spec_no s2 _ (by have := HS2.out; omega)).mono ?_); rintro e w6 ⟨rfl, hb6⟩; refine Hid.out ?_)
  refine Lib.hid ?_
  have HG6 := Lib.hid (grown_below HG5.out (hb6.mono HG5.out.size))
  have HO6 := Lib.hid (HO5.out.below hb6)
  have HN2 := Lib.hid (norm_small HS2.out)
  clear hb6
  obtain ⟨n2, hn2⟩ : ∃ n, n = nstr (normL s2.data.toList) := ⟨_, rfl⟩
  rw [← hn2] at HN2 ⊢
  clear hn2
  go_wp2_with (go_at_call 33; (refine (qg_spec n2 2 _ (by have := HN2.out; omega) (by omega) (by omega)).mono ?_); rintro e w7 ⟨a2, c2, rfl, ho7, hb7⟩)
  go_ret2
  exact ⟨a1, a2, c1, c2, L, qgR n2.data.toList 2, rfl, (HO6.out.below hb7).sm (by have := HQ.out.1; omega) (fun x hx => by have := HQ.out.2 x hx; omega), ho7.sm (by have := qgR_small (q := 2) HN2.out; omega) (fun x hx => by have := qgR_mem hx; omega), HB1.out.grown (grown_below HG6.out (hb7.mono HG6.out.size)) HB1.out.size (fun k hk => by injection hk with hk; have := HC1.out.1; omega)⟩

end Go.Proofs.YtggohfinkpppkabDoor
