/-
  The score of two sets of tokens or keys, on both sides; the closure that compares sets. By an AI agent.
-/
import Derived.Test.YtggohfinkpppkabGreatDoorStrE
import Derived.Test.YtggohfinkpppkabGreatDoorSndKeys
import Derived.Test.YtggohfinkpppkabGreatDoorSim2
import Derived.Deep.RegionHeld3
namespace Go.Proofs.YtggohfinkpppkabGreatDoor
open Go.RowKit
set_option linter.unusedVariables false

noncomputable def setR (A B : List Str) : Int := if A.length = 0 ∨ B.length = 0 then 0 else jacR A B
theorem toks_small (s : ByteArray) (h : s.size ≤ 1000) : (tokensR s.data.toList).length ≤ 4000000 ∧ ∀ x ∈ tokensR s.data.toList, x.length ≤ 1048576 := by
  refine ⟨tokens_len s (by omega), fun x hx => ?_⟩
  have h1 := (setL_mem (wordsL (normL s.data.toList)) x).1 hx
  have h2 := words_short _ x h1
  have h3 := norm_len s.data.toList
  have h4 := dsize s
  omega
theorem keys_small (s : ByteArray) (h : s.size ≤ 1000) : (soundR s.data.toList).length ≤ 4000000 ∧ ∀ x ∈ soundR s.data.toList, x.length ≤ 1048576 := by
  refine ⟨sound_len s (by omega), fun x hx => ?_⟩
  have h1 := (setL_mem (keysL (tokensR s.data.toList)) x).1 hx
  obtain ⟨y, hy, rfl⟩ := List.mem_map.1 (List.mem_filter.1 h1).1
  have := sx_short y
  omega
theorem jac_spec_at (a0 a1 : Option Addr) (c0 c1 : Nat) (l0 l1 : List Str) (r : Int) (w : World) (h0 : Sm w a0 l0 c0) (h1 : Sm w a1 l1 c1) (hr : jacR l0 l1 = r) :
    Calls Tryz.prog 55 #[.slice a0 l0.length c0, .slice a1 l1.length c1] w fun e w' => e = .returned (.int .i64 r) ∧ Below w.heap.size w w' := by
  rw [← hr]
  exact jac_spec a0 a1 c0 c1 l0 l1 w h0 h1
theorem jac_impl_at (a0 a1 : Option Addr) (c0 c1 : Nat) (l0 l1 : List Str) (r : Int) (w : World) (h0 : Sm w a0 l0 c0) (h1 : Sm w a1 l1 c1) (hr : jacR l0 l1 = r) :
    Calls Tryz.prog 74 #[.slice a0 l0.length c0, .slice a1 l1.length c1] w fun e w' => e = .returned (.int .i64 r) ∧ Below w.heap.size w w' := by
  rw [← hr]
  exact jac_impl a0 a1 c0 c1 l0 l1 w h0 h1

set_option maxRecDepth 100000 in
set_option maxHeartbeats 800000 in
theorem sets_spec (a1 a2 : Option Addr) (c1 c2 : Nat) (A B : List Str) (r : Int) (w : World) (h1 : Sm w a1 A c1) (h2 : Sm w a2 B c2) (hr : setR A B = r) :
    Calls Tryz.prog 26 #[.slice a1 A.length c1, .slice a2 B.length c2] w fun e w' => e = .returned (.int .i64 r) ∧ Below w.heap.size w w' := by
  have HA := Lib.hid h1
  have HB := Lib.hid h2
  have HR := Lib.hid hr
  clear h1 h2 hr
  by_cases hx : A.length = 0
  · obtain rfl : 0 = r := by rw [← HR.out]; unfold setR; rw [if_pos (.inl hx)]
    have q1 : ((A.length : Int) == 0) = true := by simp [hx]
    go_enter Tryz.func26, Tryz.ntmps26
    go_wp2
    go_ret
    exact ⟨rfl, Below.refl _ _⟩
  · have q1 : ((A.length : Int) == 0) = false := by simp; exact fun e => hx (by rw [e]; rfl)
    by_cases hy : B.length = 0
    · obtain rfl : 0 = r := by rw [← HR.out]; unfold setR; rw [if_pos (.inr hy)]
      have q2 : ((B.length : Int) == 0) = true := by simp [hy]
      go_enter Tryz.func26, Tryz.ntmps26
      go_wp2
      go_ret
      exact ⟨rfl, Below.refl _ _⟩
    · have q2 : ((B.length : Int) == 0) = false := by simp; exact fun e => hy (by rw [e]; rfl)
      have HE := Lib.hid (show jacR A B = r by rw [← HR.out]; unfold setR; rw [if_neg (by rintro (e | e); exact hx e; exact hy e)])
      clear hx hy
      go_enter Tryz.func26, Tryz.ntmps26
      go_wp2_with (go_at_call 55; ((with_reducible refine (jac_spec_at a1 a2 c1 c2 A B r _ HA.out HB.out HE.out).mono ?_); rintro e w1 ⟨rfl, hb1⟩; have B1 := Lib.hid hb1; clear hb1))
      go_ret
      exact ⟨rfl, B1.out⟩

set_option maxRecDepth 100000 in
set_option maxHeartbeats 1600000 in
theorem tok_clo (a b : ByteArray) (g : Nat) (r : Int) (w : World) (ha : a.size ≤ 1000) (hb : b.size ≤ 1000) (hr : setR (tokensR a.data.toList) (tokensR b.data.toList) = r) (hT : SpT w)
    (hg : w.cell? ⟨g, 0, none⟩ = some (.func (.func 50) #[] #[])) :
    Calls Tryz.prog 73 #[.string a, .string b, .pointer (some ⟨g, 0, none⟩)] w fun e w' => e = .returned (.int .i64 r) ∧ Below w.heap.size w w' := by
  obtain ⟨A, hA⟩ : ∃ A, tokensR a.data.toList = A := ⟨_, rfl⟩
  obtain ⟨B, hB⟩ : ∃ B, tokensR b.data.toList = B := ⟨_, rfl⟩
  have HAS := Lib.hid (show A.length ≤ 4000000 ∧ ∀ x ∈ A, x.length ≤ 1048576 by rw [← hA]; exact toks_small a ha)
  have HBS := Lib.hid (show B.length ≤ 4000000 ∧ ∀ x ∈ B, x.length ≤ 1048576 by rw [← hB]; exact toks_small b hb)
  have HA := Lib.hid (fun u (h : SpT u) => show Calls Tryz.prog 50 #[.string a] u (GivesS u A) by rw [← hA]; exact tokens_impl a u (by omega) h)
  have HB := Lib.hid (fun u (h : SpT u) => show Calls Tryz.prog 50 #[.string b] u (GivesS u B) by rw [← hB]; exact tokens_impl b u (by omega) h)
  have HR := Lib.hid (show setR A B = r by rw [← hA, ← hB]; exact hr)
  have HT := Lib.hid hT
  have HGL := Lib.hid (World.block_lt_of_cell? w _ hg)
  clear hA hB hr ha hb hT
  by_cases hx : A.length = 0
  · obtain rfl : 0 = r := by rw [← HR.out]; unfold setR; rw [if_pos (.inl hx)]
    have q1 : ((A.length : Int) == 0) = true := by simp [hx]
    go_enter Tryz.func73, Tryz.ntmps73
    go_wp2_with (fail)
    go_region_held3 (fun w' => w'.cell? ⟨g, 0, none⟩ = some (.func (.func 50) #[] #[]))
      (first | exact y0 | exact x0 | exact hg)
      (first
        | (go_at_call 50; (with_reducible refine (HA.out _ ?_).mono ?_); exact HT.out; rintro e w2 ⟨aA, cA, rfl, ho, hb⟩; have x0 := ((undrew hb).cell (p := ⟨g, 0, none⟩) HGL.out).trans hg; have HB2 := Lib.hid (undrew hb); have HO2 := Lib.hid ho; clear ho hb)
        | (go_at_call 50; (with_reducible refine (HB.out _ (HT.out.below HB2.out)).mono ?_); rintro e w3 ⟨aB, cB, rfl, ho, hb⟩; have y0 := (hb.cell (p := ⟨g, 0, none⟩) (Nat.lt_of_lt_of_le HGL.out HB2.out.size)).trans x0; have HB3 := Lib.hid (HB2.out.trans (hb.mono HB2.out.size)); have HO3 := Lib.hid (HO2.out.below hb); have HP3 := Lib.hid ho; clear ho hb))
    all_goals
      go_wp2
      go_ret
      exact ⟨rfl, HB3.out⟩
  · have q1 : ((A.length : Int) == 0) = false := by simp; exact fun e => hx (by rw [e]; rfl)
    by_cases hy : B.length = 0
    · obtain rfl : 0 = r := by rw [← HR.out]; unfold setR; rw [if_pos (.inr hy)]
      have q2 : ((B.length : Int) == 0) = true := by simp [hy]
      go_enter Tryz.func73, Tryz.ntmps73
      go_wp2_with (fail)
      go_region_held3 (fun w' => w'.cell? ⟨g, 0, none⟩ = some (.func (.func 50) #[] #[]))
        (first | exact y0 | exact x0 | exact hg)
        (first
          | (go_at_call 50; (with_reducible refine (HA.out _ ?_).mono ?_); exact HT.out; rintro e w2 ⟨aA, cA, rfl, ho, hb⟩; have x0 := ((undrew hb).cell (p := ⟨g, 0, none⟩) HGL.out).trans hg; have HB2 := Lib.hid (undrew hb); have HO2 := Lib.hid ho; clear ho hb)
          | (go_at_call 50; (with_reducible refine (HB.out _ (HT.out.below HB2.out)).mono ?_); rintro e w3 ⟨aB, cB, rfl, ho, hb⟩; have y0 := (hb.cell (p := ⟨g, 0, none⟩) (Nat.lt_of_lt_of_le HGL.out HB2.out.size)).trans x0; have HB3 := Lib.hid (HB2.out.trans (hb.mono HB2.out.size)); have HO3 := Lib.hid (HO2.out.below hb); have HP3 := Lib.hid ho; clear ho hb))
      all_goals
        go_wp2
        go_ret
        exact ⟨rfl, HB3.out⟩
    · have q2 : ((B.length : Int) == 0) = false := by simp; exact fun e => hy (by rw [e]; rfl)
      have HE := Lib.hid (show jacR A B = r by rw [← HR.out]; unfold setR; rw [if_neg (by rintro (e | e); exact hx e; exact hy e)])
      clear hx hy
      go_enter Tryz.func73, Tryz.ntmps73
      go_wp2_with (fail)
      go_region_held3 (fun w' => w'.cell? ⟨g, 0, none⟩ = some (.func (.func 50) #[] #[]))
        (first | exact y0 | exact x0 | exact hg)
        (first
          | (go_at_call 50; (with_reducible refine (HA.out _ ?_).mono ?_); exact HT.out; rintro e w2 ⟨aA, cA, rfl, ho, hb⟩; have x0 := ((undrew hb).cell (p := ⟨g, 0, none⟩) HGL.out).trans hg; have HB2 := Lib.hid (undrew hb); have HO2 := Lib.hid ho; clear ho hb)
          | (go_at_call 50; (with_reducible refine (HB.out _ (HT.out.below HB2.out)).mono ?_); rintro e w3 ⟨aB, cB, rfl, ho, hb⟩; have y0 := (hb.cell (p := ⟨g, 0, none⟩) (Nat.lt_of_lt_of_le HGL.out HB2.out.size)).trans x0; have HB3 := Lib.hid (HB2.out.trans (hb.mono HB2.out.size)); have HO3 := Lib.hid (HO2.out.below hb); have HP3 := Lib.hid ho; clear ho hb))
      all_goals
        have HSA := Lib.hid (HO3.out.sm HAS.out.1 HAS.out.2)
        have HSB := Lib.hid (HP3.out.sm HBS.out.1 HBS.out.2)
        go_wp2_with (go_at_call 74; ((with_reducible refine (jac_impl_at aA aB cA cB A B r _ HSA.out HSB.out HE.out).mono ?_); rintro e w4 ⟨rfl, hb4⟩; have HB4 := Lib.hid (HB3.out.trans (hb4.mono HB3.out.size)); clear hb4))
        go_ret
        exact ⟨rfl, HB4.out⟩

end Go.Proofs.YtggohfinkpppkabGreatDoor
