/-
  What the drawing functions of chapter 4 and laws.fresh hand back. By an AI agent.
-/
import Derived.Test.YtkeimdobcfoplaaDraw2
import Derived.Test.YtkeimdobcfoplaaNNorm
import Derived.Test.YtkeimdobcfoplaaNText
import Derived.Test.YtkeimdobcfoplaaEncVar
namespace Go.Proofs.Ytkeimdobcfoplaa
open Go.RowKit
set_option linter.unusedVariables false

theorem codeAt_later {w w' : World} {A : Option Addr} {len : Nat} (h : CodeAt w w.heap.size A len) (hb : Below w.heap.size w w') : CodeAt w' w'.heap.size A len := by
  have h1 := h.keep (w' := w') (fun k hk => hb.block k hk)
  refine ⟨h1.1, fun h0 => ?_⟩
  obtain ⟨b, off, hA, hlt, hz⟩ := h1.2 h0
  exact ⟨b, off, hA, Nat.lt_of_lt_of_le hlt hb.size, hz⟩
theorem norm_b {s : ByteArray} {m : Nat} (h : s.size ≤ m) : (nstr (normL s.data.toList)).size ≤ 2 * m := by
  rw [nstr_size]
  have h1 := norm_len s.data.toList
  have h2 : s.data.toList.length = s.size := Array.length_toList
  omega
theorem below_cur {w w' : World} {c : Nat} (h : Below w.heap.size w w') {w2 : World} (hg : w'.grownBy w2 (some c)) (hc : w.heap.size ≤ c) : Below w.heap.size w w2 :=
  h.grown hg h.size (fun k hk => by injection hk with hk; omega)

/-- two strings are handed back -/
def TwoStr (w : World) (B c m : Nat) (e : Ending) (w' : World) : Prop := ∃ s t : ByteArray, e = .returned (.tuple #[.string s, .string t]) ∧ s.size ≤ m ∧ t.size ≤ m ∧ Cur w' B c ∧ w.grownBy w' (some c)

set_option maxRecDepth 100000 in
set_option maxHeartbeats 1000000 in
theorem l4Two_any (B c : Nat) (w : World) (hcur : Cur w B c) : Calls Try.prog 37 #[.pointer (some ⟨c, 0, none⟩)] w (TwoStr w B c 440) := by
  have HC := Lib.hid hcur
  clear hcur
  go_enter Try.func37, Try.ntmps37
  go_wp2_with (go_at_call 42; (refine (l2Text_any B c _ HC.out).mono ?_); rintro e w1 ⟨s, rfl, hs, hc1, hg1⟩; refine Hid.out ?_)
  refine Lib.hid ?_
  have HC1 := Lib.hid hc1
  have HG1 := Lib.hid hg1
  have HS := Lib.hid hs
  clear hc1 hg1 hs
  go_wp2_with (go_at_call 38; (refine (l1Below_any B c _ _ HC1.out (by omega) (by omega)).mono ?_); rintro e w2 ⟨x, rfl, hx0, hx1, hc2, hg2⟩; refine Hid.out ?_)
  refine Lib.hid ?_
  have HC2 := Lib.hid hc2
  have HG2 := Lib.hid (grown_trans HG1.out hg2)
  clear hc2 hg2
  have hcase : x = 0 ∨ x = 1 ∨ 1 < x := by omega
  rcases hcase with rfl | rfl | hx
  · go_wp2_with (go_at_call 42; (refine (l2Text_any B c _ HC2.out).mono ?_); rintro e w3 ⟨t, rfl, ht, hc3, hg3⟩; refine Hid.out ?_)
    refine Lib.hid ?_
    have HC3 := Lib.hid hc3
    have HG3 := Lib.hid (grown_trans HG2.out hg3)
    have HT := Lib.hid ht
    clear hc3 hg3 ht
    go_wp2
    go_ret2
    exact ⟨s, t, rfl, by have := HS.out; omega, by have := HT.out; omega, HC3.out, HG3.out⟩
  · go_wp2
    go_ret2
    exact ⟨s, s, rfl, by have := HS.out; omega, by have := HS.out; omega, HC2.out, HG2.out⟩
  · have e0 : (x == 0) = false := by simp; omega
    have e1 : (x == 1) = false := by simp; omega
    have HS1 := Lib.hid (show s.size ≤ 1048576 by have := HS.out; omega)
    go_wp2_with (go_at_call 41; (refine (spec_no s _ HS1.out).mono ?_); rintro e w3 ⟨rfl, hb3⟩; refine Hid.out ?_)
    refine Lib.hid ?_
    have HC3 := Lib.hid (HC2.out.below hb3 HC2.out.lt)
    have HG3 := Lib.hid (grown_below HG2.out (hb3.mono HG2.out.size))
    have HN1 := Lib.hid (norm_b HS.out)
    clear hb3
    obtain ⟨n1, hn1⟩ : ∃ n, n = nstr (normL s.data.toList) := ⟨_, rfl⟩
    rw [← hn1] at HN1 ⊢
    clear hn1
    go_wp2_with (go_at_call 51; (refine (l1Spoil_m 100 (by omega) B c s _ HC3.out HS.out).mono ?_); rintro e w4 ⟨t, rfl, ht, hc4, hg4⟩; refine Hid.out ?_)
    refine Lib.hid ?_
    have HC4 := Lib.hid hc4
    have HG4 := Lib.hid (grown_trans HG3.out hg4)
    have HT := Lib.hid ht
    have HT1 := Lib.hid (show t.size ≤ 1048576 by omega)
    clear hc4 hg4 ht
    go_wp2_with (go_at_call 41; (refine (spec_no t _ HT1.out).mono ?_); rintro e w5 ⟨rfl, hb5⟩; refine Hid.out ?_)
    refine Lib.hid ?_
    have HC5 := Lib.hid (HC4.out.below hb5 HC4.out.lt)
    have HG5 := Lib.hid (grown_below HG4.out (hb5.mono HG4.out.size))
    have HN2 := Lib.hid (norm_b HT.out)
    clear hb5
    obtain ⟨n2, hn2⟩ : ∃ n, n = nstr (normL t.data.toList) := ⟨_, rfl⟩
    rw [← hn2] at HN2 ⊢
    clear hn2
    go_wp2
    go_ret2
    exact ⟨n1, n2, rfl, by have := HN1.out; omega, by have := HN2.out; omega, HC5.out, HG5.out⟩

def DrawnTwo (w : World) (e : Ending) (w' : World) : Prop := ∃ s t : ByteArray, e = .returned (.tuple #[.string s, .string t]) ∧ s.size ≤ 440 ∧ t.size ≤ 440 ∧ Below w.heap.size w w'
def DrawnTwoInt (w : World) (e : Ending) (w' : World) : Prop := ∃ (s t : ByteArray) (q : Int), e = .returned (.tuple #[.string s, .string t, .int .i64 q]) ∧ s.size ≤ 440 ∧ t.size ≤ 440 ∧ -1 ≤ q ∧ q ≤ 7 ∧ Below w.heap.size w w'
def DrawnTexts (w : World) (e : Ending) (w' : World) : Prop := ∃ s t : ByteArray, e = .returned (.tuple #[.string s, .string t]) ∧ isTextB s.data.toList = true ∧ isTextB t.data.toList = true ∧ Below w.heap.size w w'

def SomeStrP (P : ByteArray → Prop) (w : World) (B c : Nat) (e : Ending) (w' : World) : Prop := ∃ s : ByteArray, e = .returned (.string s) ∧ P s ∧ Cur w' B c ∧ w.grownBy w' (some c)

theorem lit_strsP (P : ByteArray → Prop) (w : World) (l : List ByteArray) (hr : ∀ s ∈ l, P s) : ∀ j, j < l.length → ∃ s : ByteArray, P s ∧ (w.alloc (.cells (l.map Value.string).toArray 9)).cell? ⟨w.heap.size, j, none⟩ = some (.string s) := by
  intro j hj
  refine ⟨l[j], hr _ (List.getElem_mem hj), ?_⟩
  rw [World.cell?_alloc_at _ _ _ _ rfl]
  simp [hj]

set_option maxRecDepth 100000 in
set_option maxHeartbeats 1000000 in
theorem l1PickP_any (P : ByteArray → Prop) (B c g n : Nat) (w : World) (hcur : Cur w B c) (hn : 0 < n) (hn2 : n ≤ 65536) (hg : g ≠ c)
    (hl : ∀ j, j < n → ∃ s : ByteArray, P s ∧ w.cell? ⟨g, j, none⟩ = some (.string s)) :
    Calls Try.prog 57 #[.pointer (some ⟨c, 0, none⟩), .slice (some ⟨g, 0, none⟩) n n] w (SomeStrP P w B c) := by
  have HC := Lib.hid hcur
  have HL := Lib.hid hl
  clear hcur hl
  go_enter Try.func57, Try.ntmps57
  go_wp2_with (go_at_call 38; (refine (l1Below_any B c _ _ HC.out (by omega) (by omega)).mono ?_); rintro e w1 ⟨x, rfl, hx0, hx1, hc1, hg1⟩; refine Hid.out ?_)
  refine Lib.hid ?_
  obtain ⟨k, rfl⟩ := Int.eq_ofNat_of_zero_le hx0
  obtain ⟨s, hs, hcell⟩ := HL.out k (by omega)
  have HSP := Lib.hid hs
  clear hs
  have hcell1 : w1.cell? ⟨g, k, none⟩ = some (.string s) := hg1.cell hcell (by simpa using hg)
  have HC1 := Lib.hid hc1
  have HG1 := Lib.hid hg1
  clear hc1 hg1
  go_wp2
  go_ret
  exact ⟨s, rfl, HSP.out, HC1.out, HG1.out⟩

def IsTxt (s : ByteArray) : Prop := isTextB s.data.toList = true

/-- a code of the call's own -/
def SomeCode (w : World) (e : Ending) (w' : World) : Prop := ∃ (a : Option Addr) (n c : Nat), e = .returned (.slice a n c) ∧ CodeAt w' w'.heap.size a n ∧ Below w.heap.size w w'

theorem OwnB.one (w : World) (base : Nat) (x : Int) (h0 : 0 ≤ x) (h1 : x ≤ 255) (hb : base ≤ w.heap.size) : OwnB (w.alloc (.cells #[.int .u8 x] 5)) base (.slice (some ⟨w.heap.size, 0, none⟩) 1 1) [UInt8.ofNat x.toNat] := by
  refine ⟨by simp [Lib.byteCells], .inr ⟨w.heap.size, 1, #[.int .u8 x], rfl, hb, heap_alloc_new w _, Nat.le_refl _, by unfold maxLen; omega, by simp, ?_⟩⟩
  simp only [Lib.byteCells, List.map_cons, List.map_nil, ofNat_toNat_int x h0 h1]
  rfl
theorem OwnB.code {w : World} {base : Nat} {v : Value} {l : List UInt8} (h : OwnB w base v l) (hl : l.length ≤ 1048576) : ∃ (a : Option Addr) (c : Nat), v = .slice a l.length c ∧ CodeAt w w.heap.size a l.length := by
  rcases h.2 with ⟨rfl, h0⟩ | ⟨g, cap, cur, rfl, hb, hg, h2, h3, h4, h5⟩
  · exact ⟨none, 0, by rw [h0], hl, fun h1 => by omega⟩
  · refine ⟨some ⟨g, 0, none⟩, cap, rfl, hl, fun _ => ⟨g, 0, rfl, (Array.getElem?_eq_some_iff.1 hg).1, fun j hj => ⟨(l[j].toNat : Int), by omega, by have := l[j].toNat_lt; omega, ?_⟩⟩⟩
    have h6 := World.ownsRow.cells h (g := g) rfl j (.int .u8 (l[j].toNat : Int)) (by simp [Lib.byteCells, hj])
    have e : (⟨g, 0, none⟩ : Addr).add j = ⟨g, 0 + j, none⟩ := by unfold Addr.add; split <;> simp_all
    rw [e] at h6
    exact h6

end Go.Proofs.Ytkeimdobcfoplaa
