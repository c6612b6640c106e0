/-
  What impl.BlockKeys answers. By an AI agent.
-/
import Derived.Test.YtebddnjccmaimaaGreatDoorBkI
import Derived.Deep.RegionHeld3
import Derived.Deep.RegionWith
namespace Go.Proofs.YtebddnjccmaimaaGreatDoor
open Go.RowKit Go.Maps
set_option linter.unusedVariables false

set_option maxRecDepth 100000 in
set_option maxHeartbeats 3200000 in
theorem bk_impl (s k v : Int) (b : Option Addr) (d : Nat) (l r : List Str) (w : World) (hr : bkR ((s, k, v), l) = r) (h : Sm w b l d) (hT : SpT w) (hA : TabAt w) :
    Calls Tryz.prog 21 #[.agg #[.int .i64 s, .int .i64 k, .int .i64 v, .slice b l.length d]] w (GivesS w r) := by
  obtain ⟨wb, hwb⟩ : ∃ wb, wb = w.alloc (.cells #[.int .i64 s, .int .i64 k, .int .i64 v, .slice b l.length d] 37) := ⟨_, rfl⟩
  have B0 := Lib.hid (show Below w.heap.size w wb by rw [hwb]; exact (Below.refl w.heap.size w).alloc (Nat.le_refl _) _)
  have RA := Lib.hid (show RecB 37 wb w.heap.size s k v (.slice b l.length d) by rw [hwb]; exact RecB.new _ _ _ _ _ _ _ rfl)
  have HWB := Lib.hid hwb
  have H0 := Lib.hid h
  have HS := Lib.hid hT
  have HTA := Lib.hid hA
  have HR := Lib.hid hr
  clear hwb h hT hA hr
  obtain ⟨x, hx⟩ : ∃ x, recB s k v l = x := ⟨_, rfl⟩
  have HX := Lib.hid hx
  clear hx
  have qa0 := RA.out.c0
  have qa1 := RA.out.c1
  have qa2 := RA.out.c2
  have qa3 := RA.out.c3
  cases x
  · obtain rfl : [] = r := by rw [← HR.out, bk_no HX.out]
    go_enter Tryz.func21, Tryz.ntmps21
    go_wp2_with (go_at_call 53; rw [← HWB.out]; ((with_reducible refine (iv_impl s k v _ d l _ _ HX.out (H0.out.below B0.out)).mono ?_); rintro e w1 ⟨rfl, hb⟩; have B1 := Lib.hid (B0.out.trans (hb.mono B0.out.size)); clear hb))
    go_ret
    exact ⟨none, 0, rfl, OwnS.nil _ _, B1.out⟩
  · have hrr : setL (rawK l) = r := by rw [← HR.out, bk_yes HX.out]
    obtain ⟨A0, A1, A2, A3, ba, oa, hA⟩ := fours_of H0.out HX.out
    have HA := Lib.hid hA
    obtain ⟨rfl, hbal, hl0, hd0, hll, -, ha0, ha1, ha2, ha3⟩ := hA
    obtain ⟨K1, hK1⟩ : ∃ x, sKeys A0.data.toList = x := ⟨_, rfl⟩
    obtain ⟨K2, hK2⟩ : ∃ x, pKeys A3.data.toList = x := ⟨_, rfl⟩
    obtain ⟨K3, hK3⟩ : ∃ x, yKeys A2.data.toList A0.data.toList = x := ⟨_, rfl⟩
    have hraw : rawK l = K1 ++ K2 ++ K3 := by rw [hll, ← hK1, ← hK2, ← hK3]; rfl
    obtain ⟨K, hK⟩ : ∃ x, K1 ++ K2 ++ K3 = x := ⟨_, rfl⟩
    have hKx : ∀ x ∈ K, x.length ≤ 100 := fun x hx => rawK_mem HX.out (by rw [hraw, hK]; exact hx)
    have hKl : K.length ≤ 163 := by rw [← hK, ← hraw]; exact rawK_len HX.out
    have hK1l : K1.length + K2.length + K3.length ≤ 163 := by rw [← hK, List.length_append, List.length_append] at hKl; exact hKl
    have S1 := Lib.hid (show K1.length ≤ 4000000 ∧ ∀ x ∈ K1, x.length ≤ 1048576 from ⟨by omega, fun x hx => by have := hKx x (by rw [← hK]; simp [hx]); omega⟩)
    have S2 := Lib.hid (show K2.length ≤ 4000000 ∧ ∀ x ∈ K2, x.length ≤ 1048576 from ⟨by omega, fun x hx => by have := hKx x (by rw [← hK]; simp [hx]); omega⟩)
    have S3 := Lib.hid (show K3.length ≤ 4000000 ∧ ∀ x ∈ K3, x.length ≤ 1048576 from ⟨by omega, fun x hx => by have := hKx x (by rw [← hK]; simp [hx]); omega⟩)
    have SK := Lib.hid (show ∀ x ∈ K, x.length ≤ 9000000 from fun x hx => by have := hKx x hx; omega)
    have X1 := Lib.hid (fun u (h : SpT u) => show Calls Tryz.prog 55 #[.string A0] u (GivesS u K1) by rw [← hK1]; exact sk_impl A0 u ha0 h)
    have X2 := Lib.hid (fun u => show Calls Tryz.prog 56 #[.string A3] u (GivesS u K2) by rw [← hK2]; exact pk_impl A3 u ha3)
    have X3 := Lib.hid (fun u (h : SpT u) (h' : TabAt u) => show Calls Tryz.prog 57 #[.string A2, .string A0] u (GivesS u K3) by rw [← hK3]; exact yk_impl A2 A0 u ha2 ha0 h h')
    have HRES := Lib.hid (show setL K = r by rw [← hK, ← hraw]; exact hrr)
    have HKK := Lib.hid hK
    have HL0 := Lib.hid hl0
    have hkl : K.length ≤ 9000000 := by omega
    clear hK1 hK2 hK3 hraw hK hKx hKl hrr hll hl0
    go_enter Tryz.func21, Tryz.ntmps21
    go_wp2_with (go_at_call 53; rw [← HWB.out]; ((with_reducible refine (iv_impl s k v _ d l _ _ HX.out (H0.out.below B0.out)).mono ?_); rintro e w1 ⟨rfl, hb⟩; refine Hid.out ?_))
    have B1 := Lib.hid (B0.out.trans (hb.mono B0.out.size))
    have c3 := (RA.out.below hb).c3
    rw [HL0.out] at c3
    have fx : FixR w1 w.heap.size ba oa d A0 A2 A3 := by
      have FA := HA.out.below B1.out
      exact ⟨c3, FA.2.2.2.2.2.1.1, FA.2.2.2.2.2.1.2.2.1, FA.2.2.2.2.2.1.2.2.2⟩
    clear hb c3 qa0 qa1 qa2 qa3
    refine Lib.hid ?_
    go_wp2_with (fail)
    go_region_held3 (fun w' => w'.cell? ⟨w.heap.size, 3, none⟩ = some (.slice (some ⟨ba, oa, none⟩) 4 d) ∧ w'.cell? ⟨ba, oa, none⟩ = some (.string A0) ∧ w'.cell? ⟨ba, oa + 2, none⟩ = some (.string A2) ∧ w'.cell? ⟨ba, oa + 3, none⟩ = some (.string A3))
      (first | exact fx5 | exact fx4 | exact fx3 | exact fx2 | exact fx | exact fx4.below ((Below.refl _ _).alloc (Nat.le_refl _) _))
      (first
        | (go_at_call 55; (with_reducible refine (X1.out _ (HS.out.below B1.out.drew)).mono ?_); rintro e w2 ⟨a1, c1, rfl, ho, hb⟩; have hq := undrew hb; have fx2 := fx.below hq; have B2 := Lib.hid (B1.out.trans (hq.mono B1.out.size)); have O1_2 := Lib.hid ho; clear ho hb hq)
        | (go_at_call 56; (with_reducible refine (X2.out _).mono ?_); rintro e w3 ⟨a2, c2, rfl, ho, hb⟩; have fx3 := fx2.below hb; have B3 := Lib.hid (B2.out.trans (hb.mono B2.out.size)); have O1_3 := Lib.hid (O1_2.out.below hb); have O2_3 := Lib.hid ho; clear ho hb)
        | (go_at_call 57; (with_reducible refine (X3.out _ (HS.out.below B3.out) (HTA.out.on B3.out)).mono ?_); rintro e w4 ⟨a3, c3, rfl, ho, hb⟩; have fx4 := fx3.below hb; have B4 := Lib.hid (B3.out.trans (hb.mono B3.out.size)); have O1_4 := Lib.hid (O1_3.out.below hb); have O2_4 := Lib.hid (O2_3.out.below hb); have O3_4 := Lib.hid ho; clear ho hb)
        | (go_at_call 54; (with_reducible refine (concat_box a1 a2 a3 c1 c2 c3 K1 K2 K3 _ (O1_4.out.sm S1.out.1 S1.out.2) (O2_4.out.sm S2.out.1 S2.out.2) (O3_4.out.sm S3.out.1 S3.out.2) (by omega)).mono ?_); rw [HKK.out]; rintro e w5 ⟨a5, c5, rfl, ho, hb⟩; have fx5 := fx4.below hb; have B5 := Lib.hid (B4.out.trans (hb.mono B4.out.size)); have O5 := Lib.hid ho; clear ho hb))
    refine Hid.out ?_
    clear fx fx2 fx3 fx4 fx5
    refine Lib.hid ?_
    go_wp2_with (first
      | (go_at_call 59; (refine (set_of a5 c5 K _ hkl SK.out O5.out.inS).mono ?_); rintro e w6 ⟨bI, rfl, hs1, hlo, hb⟩; have HS1 := Lib.hid hs1; have B6 := Lib.hid (B5.out.trans (hb.mono B5.out.size)); clear hs1 hb hlo)
      | (go_at_call 58; (refine (sorted_members bI K.length K _ hkl HS1.out).mono ?_); rintro e w7 ⟨a7, c7, rfl, ho, hb⟩; have O7 := Lib.hid (ho.mono B6.out.size); have B7 := Lib.hid (B6.out.trans (hb.mono B6.out.size)); clear ho hb))
    go_ret
    rw [← HRES.out]
    exact ⟨a7, c7, rfl, O7.out, B7.out⟩

end Go.Proofs.YtebddnjccmaimaaGreatDoor
