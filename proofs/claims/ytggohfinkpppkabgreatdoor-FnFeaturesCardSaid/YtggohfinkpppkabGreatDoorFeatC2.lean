/-
  The closure that compares sets of phonetic keys. By an AI agent.
-/
import Derived.Test.YtggohfinkpppkabGreatDoorFeatC
namespace Go.Proofs.YtggohfinkpppkabGreatDoor
open Go.RowKit
set_option linter.unusedVariables false

set_option maxRecDepth 100000 in
set_option maxHeartbeats 1600000 in
theorem snd_clo (a b : ByteArray) (g : Nat) (r : Int) (w : World) (ha : a.size ≤ 1000) (hb : b.size ≤ 1000) (hr : setR (soundR a.data.toList) (soundR b.data.toList) = r) (hT : SpT w)
    (hg : w.cell? ⟨g, 0, none⟩ = some (.func (.func 51) #[] #[])) :
    Calls Tryz.prog 73 #[.string a, .string b, .pointer (some ⟨g, 0, none⟩)] w fun e w' => e = .returned (.int .i64 r) ∧ Below w.heap.size w w' := by
  obtain ⟨A, hA⟩ : ∃ A, soundR a.data.toList = A := ⟨_, rfl⟩
  obtain ⟨B, hB⟩ : ∃ B, soundR b.data.toList = B := ⟨_, rfl⟩
  have HAS := Lib.hid (show A.length ≤ 4000000 ∧ ∀ x ∈ A, x.length ≤ 1048576 by rw [← hA]; exact keys_small a ha)
  have HBS := Lib.hid (show B.length ≤ 4000000 ∧ ∀ x ∈ B, x.length ≤ 1048576 by rw [← hB]; exact keys_small b hb)
  have HA := Lib.hid (fun u (h : SpT u) => show Calls Tryz.prog 51 #[.string a] u (GivesS u A) by rw [← hA]; exact sound_impl a u (by omega) h)
  have HB := Lib.hid (fun u (h : SpT u) => show Calls Tryz.prog 51 #[.string b] u (GivesS u B) by rw [← hB]; exact sound_impl b u (by omega) h)
  have HR := Lib.hid (show setR A B = r by rw [← hA, ← hB]; exact hr)
  have HT := Lib.hid hT
  have HGL := Lib.hid (World.block_lt_of_cell? w _ hg)
  clear hA hB hr ha hb hT
  by_cases hx : A.length = 0
  · obtain rfl : 0 = r := by rw [← HR.out]; unfold setR; rw [if_pos (.inl hx)]
    have q1 : ((A.length : Int) == 0) = true := by simp [hx]
    go_enter Tryz.func73, Tryz.ntmps73
    go_wp2_with (fail)
    go_region_held3 (fun w' => w'.cell? ⟨g, 0, none⟩ = some (.func (.func 51) #[] #[]))
      (first | exact y0 | exact x0 | exact hg)
      (first
        | (go_at_call 51; (with_reducible refine (HA.out _ ?_).mono ?_); exact HT.out; rintro e w2 ⟨aA, cA, rfl, ho, hb⟩; have x0 := ((undrew hb).cell (p := ⟨g, 0, none⟩) HGL.out).trans hg; have HB2 := Lib.hid (undrew hb); have HO2 := Lib.hid ho; clear ho hb)
        | (go_at_call 51; (with_reducible refine (HB.out _ (HT.out.below HB2.out)).mono ?_); rintro e w3 ⟨aB, cB, rfl, ho, hb⟩; have y0 := (hb.cell (p := ⟨g, 0, none⟩) (Nat.lt_of_lt_of_le HGL.out HB2.out.size)).trans x0; have HB3 := Lib.hid (HB2.out.trans (hb.mono HB2.out.size)); have HO3 := Lib.hid (HO2.out.below hb); have HP3 := Lib.hid ho; clear ho hb))
    all_goals
      go_wp2
      go_ret
      exact ⟨rfl, HB3.out⟩
  · have q1 : ((A.length : Int) == 0) = false := by simp; exact fun e => hx (by rw [e]; rfl)
    by_cases hy : B.length = 0
    · obtain rfl : 0 = r := by rw [← HR.out]; unfold setR; rw [if_pos (.inr hy)]
      have q2 : ((B.length : Int) == 0) = true := by simp [hy]
      go_enter Tryz.func73, Tryz.ntmps73
      go_wp2_with (fail)
      go_region_held3 (fun w' => w'.cell? ⟨g, 0, none⟩ = some (.func (.func 51) #[] #[]))
        (first | exact y0 | exact x0 | exact hg)
        (first
          | (go_at_call 51; (with_reducible refine (HA.out _ ?_).mono ?_); exact HT.out; rintro e w2 ⟨aA, cA, rfl, ho, hb⟩; have x0 := ((undrew hb).cell (p := ⟨g, 0, none⟩) HGL.out).trans hg; have HB2 := Lib.hid (undrew hb); have HO2 := Lib.hid ho; clear ho hb)
          | (go_at_call 51; (with_reducible refine (HB.out _ (HT.out.below HB2.out)).mono ?_); rintro e w3 ⟨aB, cB, rfl, ho, hb⟩; have y0 := (hb.cell (p := ⟨g, 0, none⟩) (Nat.lt_of_lt_of_le HGL.out HB2.out.size)).trans x0; have HB3 := Lib.hid (HB2.out.trans (hb.mono HB2.out.size)); have HO3 := Lib.hid (HO2.out.below hb); have HP3 := Lib.hid ho; clear ho hb))
      all_goals
        go_wp2
        go_ret
        exact ⟨rfl, HB3.out⟩
    · have q2 : ((B.length : Int) == 0) = false := by simp; exact fun e => hy (by rw [e]; rfl)
      have HE := Lib.hid (show jacR A B = r by rw [← HR.out]; unfold setR; rw [if_neg (by rintro (e | e); exact hx e; exact hy e)])
      clear hx hy
      go_enter Tryz.func73, Tryz.ntmps73
      go_wp2_with (fail)
      go_region_held3 (fun w' => w'.cell? ⟨g, 0, none⟩ = some (.func (.func 51) #[] #[]))
        (first | exact y0 | exact x0 | exact hg)
        (first
          | (go_at_call 51; (with_reducible refine (HA.out _ ?_).mono ?_); exact HT.out; rintro e w2 ⟨aA, cA, rfl, ho, hb⟩; have x0 := ((undrew hb).cell (p := ⟨g, 0, none⟩) HGL.out).trans hg; have HB2 := Lib.hid (undrew hb); have HO2 := Lib.hid ho; clear ho hb)
          | (go_at_call 51; (with_reducible refine (HB.out _ (HT.out.below HB2.out)).mono ?_); rintro e w3 ⟨aB, cB, rfl, ho, hb⟩; have y0 := (hb.cell (p := ⟨g, 0, none⟩) (Nat.lt_of_lt_of_le HGL.out HB2.out.size)).trans x0; have HB3 := Lib.hid (HB2.out.trans (hb.mono HB2.out.size)); have HO3 := Lib.hid (HO2.out.below hb); have HP3 := Lib.hid ho; clear ho hb))
      all_goals
        have HSA := Lib.hid (HO3.out.sm HAS.out.1 HAS.out.2)
        have HSB := Lib.hid (HP3.out.sm HBS.out.1 HBS.out.2)
        go_wp2_with (go_at_call 74; ((with_reducible refine (jac_impl_at aA aB cA cB A B r _ HSA.out HSB.out HE.out).mono ?_); rintro e w4 ⟨rfl, hb4⟩; have HB4 := Lib.hid (HB3.out.trans (hb4.mono HB3.out.size)); clear hb4))
        go_ret
        exact ⟨rfl, HB4.out⟩

end Go.Proofs.YtggohfinkpppkabGreatDoor
