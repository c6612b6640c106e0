/-
  The rule sets that spec.l14Known picks from. By an AI agent.
-/
import Derived.Test.YtpmfabpnjacegaaGreatDoorPrsS
import Derived.Test.YtpmfabpnjacegaaGreatDoorGQ16
import Derived.Test.YtpmfabpnjacegaaGreatDoorVecDraw
namespace Go.Proofs.YtpmfabpnjacegaaGreatDoor
open Go.RowKit
set_option linter.unusedVariables false
set_option linter.unusedSimpArgs false
set_option linter.unnecessarySimpa false

/-- a text that is read, as rules -/
def IsRul (s : ByteArray) : Prop := s.size ≤ 1048576 ∧ ∃ R, vsB R = true ∧ rsL R = s.data.toList
theorem isrul_of (s : Str) (R : List (List TS)) (h : s.length ≤ 1048576) (h1 : vsB R = true) (h2 : rsL R = s) : IsRul ⟨s.toArray⟩ := ⟨by simpa [ByteArray.size] using h, R, h1, by simpa using h2⟩
theorem known1 : IsRul ⟨#[110, 97, 109, 101, 62, 61, 56, 48, 48, 44, 112, 104, 111, 110, 101, 62, 61, 56, 48, 48]⟩ := isrul_of [110, 97, 109, 101, 62, 61, 56, 48, 48, 44, 112, 104, 111, 110, 101, 62, 61, 56, 48, 48] [[((0, 800), false), ((5, 800), false)]] (by decide) (by decide) (by decide +kernel)
theorem known2 : IsRul ⟨#[110, 97, 109, 101, 62, 61, 57, 48, 48, 32, 111, 114, 32, 116, 111, 107, 101, 110, 115, 62, 61, 53, 48, 48, 44, 112, 104, 111, 110, 101, 62, 61, 52, 48, 48]⟩ := isrul_of [110, 97, 109, 101, 62, 61, 57, 48, 48, 32, 111, 114, 32, 116, 111, 107, 101, 110, 115, 62, 61, 53, 48, 48, 44, 112, 104, 111, 110, 101, 62, 61, 52, 48, 48] [[((0, 900), false)], [((1, 500), false), ((5, 400), false)]] (by decide) (by decide) (by decide +kernel)
theorem known3 : IsRul ⟨#[115, 111, 117, 110, 100, 62, 61, 53, 48, 48, 44, 121, 101, 97, 114, 62, 61, 55, 48, 48, 32, 111, 114, 32, 112, 104, 111, 110, 101, 62, 61, 49, 48, 48, 48]⟩ := isrul_of [115, 111, 117, 110, 100, 62, 61, 53, 48, 48, 44, 121, 101, 97, 114, 62, 61, 55, 48, 48, 32, 111, 114, 32, 112, 104, 111, 110, 101, 62, 61, 49, 48, 48, 48] [[((2, 500), false), ((4, 700), false)], [((5, 1000), false)]] (by decide) (by decide) (by decide +kernel)
theorem known4 : IsRul ⟨#[110, 97, 109, 101, 62, 61, 55, 48, 48, 44, 121, 101, 97, 114, 60, 53, 48, 48]⟩ := isrul_of [110, 97, 109, 101, 62, 61, 55, 48, 48, 44, 121, 101, 97, 114, 60, 53, 48, 48] [[((0, 700), false), ((4, 500), true)]] (by decide) (by decide) (by decide +kernel)
theorem known5 : IsRul ⟨#[116, 111, 107, 101, 110, 115, 62, 61, 49, 48, 48, 48, 32, 111, 114, 32, 110, 97, 109, 101, 62, 61, 56, 48, 48, 44, 99, 105, 116, 121, 62, 61, 53, 48, 48, 44, 121, 101, 97, 114, 62, 61, 56, 48, 48, 32, 111, 114, 32, 112, 104, 111, 110, 101, 62, 61, 49, 48, 48, 48]⟩ := isrul_of [116, 111, 107, 101, 110, 115, 62, 61, 49, 48, 48, 48, 32, 111, 114, 32, 110, 97, 109, 101, 62, 61, 56, 48, 48, 44, 99, 105, 116, 121, 62, 61, 53, 48, 48, 44, 121, 101, 97, 114, 62, 61, 56, 48, 48, 32, 111, 114, 32, 112, 104, 111, 110, 101, 62, 61, 49, 48, 48, 48] [[((1, 1000), false)], [((0, 800), false), ((3, 500), false), ((4, 800), false)], [((5, 1000), false)]] (by decide) (by decide) (by decide +kernel)
theorem known6 : IsRul ⟨#[112, 104, 111, 110, 101, 60, 53, 48, 48, 32, 111, 114, 32, 112, 104, 111, 110, 101, 62, 61, 53, 48, 48]⟩ := isrul_of [112, 104, 111, 110, 101, 60, 53, 48, 48, 32, 111, 114, 32, 112, 104, 111, 110, 101, 62, 61, 53, 48, 48] [[((5, 500), true)], [((5, 500), false)]] (by decide) (by decide) (by decide +kernel)
theorem known7 : IsRul ⟨#[110, 97, 109, 101, 62, 61, 54, 48, 48]⟩ := isrul_of [110, 97, 109, 101, 62, 61, 54, 48, 48] [[((0, 600), false)]] (by decide) (by decide) (by decide +kernel)

def knownL : List ByteArray := [⟨#[110, 97, 109, 101, 62, 61, 56, 48, 48, 44, 112, 104, 111, 110, 101, 62, 61, 56, 48, 48]⟩, ⟨#[110, 97, 109, 101, 62, 61, 57, 48, 48, 32, 111, 114, 32, 116, 111, 107, 101, 110, 115, 62, 61, 53, 48, 48, 44, 112, 104, 111, 110, 101, 62, 61, 52, 48, 48]⟩, ⟨#[115, 111, 117, 110, 100, 62, 61, 53, 48, 48, 44, 121, 101, 97, 114, 62, 61, 55, 48, 48, 32, 111, 114, 32, 112, 104, 111, 110, 101, 62, 61, 49, 48, 48, 48]⟩, ⟨#[110, 97, 109, 101, 62, 61, 55, 48, 48, 44, 121, 101, 97, 114, 60, 53, 48, 48]⟩, ⟨#[116, 111, 107, 101, 110, 115, 62, 61, 49, 48, 48, 48, 32, 111, 114, 32, 110, 97, 109, 101, 62, 61, 56, 48, 48, 44, 99, 105, 116, 121, 62, 61, 53, 48, 48, 44, 121, 101, 97, 114, 62, 61, 56, 48, 48, 32, 111, 114, 32, 112, 104, 111, 110, 101, 62, 61, 49, 48, 48, 48]⟩, ⟨#[112, 104, 111, 110, 101, 60, 53, 48, 48, 32, 111, 114, 32, 112, 104, 111, 110, 101, 62, 61, 53, 48, 48]⟩, ⟨#[110, 97, 109, 101, 62, 61, 54, 48, 48]⟩]
theorem known_all : ∀ s ∈ knownL, IsRul s := by
  intro s hs
  unfold knownL at hs
  simp only [List.mem_cons, List.not_mem_nil, or_false] at hs
  rcases hs with rfl | rfl | rfl | rfl | rfl | rfl | rfl
  · exact known1
  · exact known2
  · exact known3
  · exact known4
  · exact known5
  · exact known6
  · exact known7

def SomeStrP (P : ByteArray → Prop) (w : World) (B c : Nat) (e : Ending) (w' : World) : Prop := ∃ s : ByteArray, e = .returned (.string s) ∧ P s ∧ Cur w' B c ∧ w.grownBy w' (some c)
theorem lit_strsP (P : ByteArray → Prop) (w : World) (l : List ByteArray) (hr : ∀ s ∈ l, P s) : ∀ j, j < l.length → ∃ s : ByteArray, P s ∧ (w.alloc (.cells (l.map Value.string).toArray 9)).cell? ⟨w.heap.size, j, none⟩ = some (.string s) := by
  intro j hj
  refine ⟨l[j], hr _ (List.getElem_mem hj), ?_⟩
  rw [World.cell?_alloc_at _ _ _ _ rfl]
  simp [hj]
set_option maxRecDepth 100000 in
set_option maxHeartbeats 1000000 in
theorem l1Pick_P (P : ByteArray → Prop) (B c g n : Nat) (w : World) (hcur : Cur w B c) (hn : 0 < n) (hn2 : n ≤ 65536) (hg : g ≠ c)
    (hl : ∀ j, j < n → ∃ s : ByteArray, P s ∧ w.cell? ⟨g, j, none⟩ = some (.string s)) :
    Calls Tryz.prog 105 #[.pointer (some ⟨c, 0, none⟩), .slice (some ⟨g, 0, none⟩) n n] w (SomeStrP P w B c) := by
  have HC := Lib.hid hcur
  have HL := Lib.hid hl
  clear hcur hl
  go_enter Tryz.func105, Tryz.ntmps105
  go_wp2_with (go_at_call 53; (refine (l1Below_any B c _ _ HC.out (by omega) (by omega)).mono ?_); rintro e w1 ⟨x, rfl, hx0, hx1, hc1, hg1⟩; refine Hid.out ?_)
  refine Lib.hid ?_
  obtain ⟨k, rfl⟩ := Int.eq_ofNat_of_zero_le hx0
  obtain ⟨s, hs, hcell⟩ := HL.out k (by omega)
  have hcell1 : w1.cell? ⟨g, k, none⟩ = some (.string s) := hg1.cell hcell (by simpa using hg)
  have HC1 := Lib.hid hc1
  have HG1 := Lib.hid hg1
  have HP := Lib.hid hs
  clear hc1 hg1 hs
  go_wp2
  go_ret
  exact ⟨s, rfl, HP.out, HC1.out, HG1.out⟩

/-- rules are drawn: at least one, the first of at least one test -/
def SmallR (R : List (List TS)) : Prop := 1 ≤ R.length ∧ R.length ≤ 4 ∧ (∀ l ∈ R, l.length ≤ 3) ∧ ∀ l, R[0]? = some l → 1 ≤ l.length
def SomeRs (w : World) (B c : Nat) (e : Ending) (w' : World) : Prop :=
  ∃ (R : List (List TS)) (a : Option Addr) (cap : Nat) (q : List XU), e = .returned (.agg #[.slice a R.length cap]) ∧ rulesU q = R ∧ OwnRu w' w.heap.size (.slice a R.length cap) q ∧ SmallR R ∧ Cur w' B c ∧ w.grownBy w' (some c)
theorem small_vs {R : List (List TS)} (h : vsB R = true) : SmallR R := by
  have h1 := vs_size h
  exact ⟨h1.1, by omega, fun l hl => (vr_len (vs_rule h hl)).2, fun l hl => (vr_len (vs_rule h (List.mem_of_getElem? hl))).1⟩
theorem grown_cur {w w1 w2 : World} {c : Nat} (h : w.grownBy w1 (some c)) (hb : Below w1.heap.size w1 w2) : w.grownBy w2 (some c) :=
  ⟨hb.os.trans h.os, hb.tape.trans h.tape, hb.output.trans h.output, Nat.le_trans h.size hb.size, fun i hi hne => (hb.block i (Nat.lt_of_lt_of_le hi h.size)).trans (h.block i hi hne)⟩

set_option maxRecDepth 100000 in
set_option maxHeartbeats 2000000 in
theorem known_any (B c : Nat) (w : World) (hcur : Cur w B c) : Calls Tryz.prog 81 #[.pointer (some ⟨c, 0, none⟩)] w (SomeRs w B c) := by
  obtain ⟨w1, hw1⟩ : ∃ w1, w.alloc (.cells #[.slice none 0 0] 26) = w1 := ⟨_, rfl⟩
  have HBX := Lib.hid (show BlkV w1 w.heap.size 26 #[.slice none 0 0] by rw [← hw1]; exact BlkV.new _ _ _)
  have HC1 := Lib.hid (show Cur w1 B c by rw [← hw1]; exact hcur.alloc _)
  have HLT := Lib.hid hcur.lt
  have HZ1 := Lib.hid (show w1.heap.size = w.heap.size + 1 by rw [← hw1]; simp)
  have HG1 := Lib.hid (show w.grownBy w1 (some c) by rw [← hw1]; exact World.grownBy_alloc _ _ _)
  have HWE := Lib.hid hw1
  clear hcur hw1
  go_enter Tryz.func81, Tryz.ntmps81
  go_wp2_with (go_at_call 105; rw [HWE.out]; (refine (l1Pick_P IsRul B c (w.heap.size + 1) 7 _ (HC1.out.alloc _) (by omega) (by omega) (by have := HLT.out; omega) (by rw [← HZ1.out]; exact lit_strsP IsRul w1 knownL known_all)).mono ?_); rintro e w2 ⟨s, rfl, hp, hc2, hg2⟩; refine Hid.out ?_)
  obtain ⟨hs9, R, hv, hl⟩ := hp
  obtain ⟨hg0, -⟩ : w1.grownBy w2 (some c) ∧ True := ⟨grown_trans (grown_alloc w1 _ c) hg2, trivial⟩
  have HC2 := Lib.hid hc2
  have HG2 := Lib.hid (grown_trans HG1.out hg0)
  have HX2 := Lib.hid (show BlkV w2 w.heap.size 26 #[.slice none 0 0] from (hg0.block w.heap.size (by have := HZ1.out; omega) (by intro e; injection e with e; have := HLT.out; omega)).trans HBX.out)
  have HV := Lib.hid hv
  have HPS := Lib.hid (prs_spec s R true w2 hs9 (.inl ⟨rfl, hv, hl⟩))
  have HSZ := Lib.hid (show w.heap.size + 1 ≤ w2.heap.size by have := HZ1.out; have := hg0.size; omega)
  have HCL := Lib.hid hc2.lt
  clear hv hl hg0 hg2 hc2 hs9
  refine Lib.hid ?_
  go_wp2_with (go_at_call 104; ((with_reducible refine HPS.out.mono ?_); rintro e w3 ⟨a, cap, q, rfl, hq, ho, hb3⟩; have h3 := HX2.out.below hb3; have c30 : w3.cell? ⟨w.heap.size, 0, none⟩ = some (.slice none 0 0) := h3.cell 0; have f30 := h3.frozen 0; have hz3 : w.heap.size + 1 ≤ w3.heap.size := (by have := HSZ.out; have := hb3.size; omega); have hne : ¬ w3.heap.size = w.heap.size := (by omega); have hne2 : ¬ w.heap.size = w3.heap.size := (by omega); have H3 := Lib.hid h3; have HQ := Lib.hid hq; have HO := Lib.hid ho; have HB3 := Lib.hid hb3; clear h3 hq ho hb3; refine Hid.out ?_))
  have HX4 := Lib.hid (H3.out.alloc (.cells #[.slice a R.length cap] 26))
  have z := HX4.out.set_ 0 (.slice a R.length cap)
  have c40 : (w3.alloc (.cells #[.slice a R.length cap] 26)).cell? ⟨w.heap.size, 0, none⟩ = some (.slice none 0 0) := HX4.out.cell 0
  have f40 := HX4.out.frozen 0
  have e0 : _ = some (Value.slice a R.length cap) := z.cell 0
  have hsz := HSZ.out
  have HA := Lib.hid (HB3.out.alloc HB3.out.size (.cells #[.slice a R.length cap] 26))
  have hup : ∀ k, some w.heap.size = some k → w.heap.size ≤ k := fun k hk => by injection hk with hk; omega
  refine Lib.hid ?_
  go_wp2
  have hg4 := grown_cur HG2.out HA.out
  have hst := egrown_set (w3.alloc (.cells #[.slice a R.length cap] 26)) w.heap.size 0 (.slice a R.length cap)
  refine bodyPost_ret (v := .agg #[.slice a R.length cap]) (by simp [results, Tryz.results81, go_sem, e0]) rfl ⟨R, a, cap, q, rfl, HQ.out, ?_, small_vs HV.out, ?_, grown_up hg4 hst hup⟩
  · exact ((HO.out.below ((Below.refl w3.heap.size w3).alloc (Nat.le_refl _) (.cells #[.slice a R.length cap] 26))).setc ⟨w.heap.size, 0, none⟩ _ (by show w.heap.size < _; omega)).mono (by omega)
  · exact (HC2.out.below HA.out HCL.out).below ((Below.refl w.heap.size _).grown hst (by have := HA.out.size; omega) hup) HLT.out

end Go.Proofs.YtpmfabpnjacegaaGreatDoor
