/-
  What spec.PairFeatures answers. By an AI agent.
-/
import Derived.Test.YtggohfinkpppkabGreatDoorPairP
import Derived.Deep.RegionHeld3
import Derived.Deep.RegionWith
namespace Go.Proofs.YtggohfinkpppkabGreatDoor
open Go.RowKit
set_option linter.unusedVariables false

theorem yr_pos (l : List UInt8) : yrR l = 0 ∨ 0 < yrR l := by
  by_cases h : ∃ y, YrOk l y
  · obtain ⟨y, hy⟩ := h
    rw [yrR_of hy]
    obtain ⟨n, ok, h1, rfl⟩ := hy
    split
    · right; omega
    · left; rfl
  · left
    unfold yrR
    rw [dif_neg h]
theorem ownI_lit (w : World) (l : List Int) (hl : l.length ≤ maxLen) : OwnI (w.alloc (.cells (l.map encI).toArray 3)) w.heap.size (.slice (some ⟨w.heap.size, 0, none⟩) l.length l.length) l := by
  have h := World.ownsRow_lit (base := w.heap.size) (e := 3) (size := 1) w (l.map encI).toArray l.length (Nat.le_refl _) hl (by simp)
  unfold OwnI
  simpa using h
/-- the strings that the region reads -/
def SixS (w : World) (ba oa bc oc : Nat) (A0 C0 A1 C1 A3 C3 : ByteArray) : Prop :=
  w.cell? ⟨ba, oa, none⟩ = some (.string A0) ∧ w.cell? ⟨bc, oc, none⟩ = some (.string C0) ∧ w.cell? ⟨ba, oa + 1, none⟩ = some (.string A1) ∧ w.cell? ⟨bc, oc + 1, none⟩ = some (.string C1) ∧ w.cell? ⟨ba, oa + 3, none⟩ = some (.string A3) ∧ w.cell? ⟨bc, oc + 3, none⟩ = some (.string C3)
theorem SixS.below {w w' : World} {ba oa bc oc : Nat} {A0 C0 A1 C1 A3 C3 : ByteArray} (h : SixS w ba oa bc oc A0 C0 A1 C1 A3 C3) (hb : Below w.heap.size w w') : SixS w' ba oa bc oc A0 C0 A1 C1 A3 C3 := by
  have k : ∀ {p : Addr} {v : Value}, w.cell? p = some v → w'.cell? p = some v := fun {p v} hc => (hb.cell (World.block_lt_of_cell? w _ hc)).trans hc
  exact ⟨k h.1, k h.2.1, k h.2.2.1, k h.2.2.2.1, k h.2.2.2.2.1, k h.2.2.2.2.2⟩

set_option maxRecDepth 100000 in
set_option maxHeartbeats 3200000 in
theorem pf2_spec (s0 k0 v0 s1 k1 v1 : Int) (b0 b1 : Option Addr) (d0 d1 : Nat) (l0 l1 : List Str) (r : List Int) (w : World) (hr : pairR s0 k0 v0 l0 s1 k1 v1 l1 = r) (h0 : Sm w b0 l0 d0) (h1 : Sm w b1 l1 d1) (hT : SpT w) :
    Calls Tryz.prog 9 #[.agg #[.int .i64 s0, .int .i64 k0, .int .i64 v0, .slice b0 l0.length d0], .agg #[.int .i64 s1, .int .i64 k1, .int .i64 v1, .slice b1 l1.length d1]] w (GivesL w r) := by
  obtain ⟨wb, hwb⟩ : ∃ wb, wb = (w.alloc (.cells #[.int .i64 s0, .int .i64 k0, .int .i64 v0, .slice b0 l0.length d0] 26)).alloc (.cells #[.int .i64 s1, .int .i64 k1, .int .i64 v1, .slice b1 l1.length d1] 26) := ⟨_, rfl⟩
  have B0 := Lib.hid (show Below w.heap.size w wb by rw [hwb]; exact ((Below.refl w.heap.size w).alloc (Nat.le_refl _) _).alloc (by simp) _)
  have RA := Lib.hid (show RecB 26 wb w.heap.size s0 k0 v0 (.slice b0 l0.length d0) by rw [hwb]; exact (RecB.new _ _ _ _ _ _ _ rfl).alloc _)
  have RB := Lib.hid (show RecB 26 wb (w.heap.size + 1) s1 k1 v1 (.slice b1 l1.length d1) by rw [hwb]; exact RecB.new _ _ _ _ _ _ _ (by simp))
  have HWB := Lib.hid hwb
  have H0 := Lib.hid h0
  have H1 := Lib.hid h1
  have HS := Lib.hid hT
  have HR := Lib.hid hr
  clear hwb h0 h1 hT hr
  obtain ⟨x, hx⟩ : ∃ x, recB s0 k0 v0 l0 = x := ⟨_, rfl⟩
  obtain ⟨y, hy⟩ : ∃ y, recB s1 k1 v1 l1 = y := ⟨_, rfl⟩
  have HX := Lib.hid hx
  have HY := Lib.hid hy
  clear hx hy
  have qa0 := RA.out.c0
  have qa1 := RA.out.c1
  have qa2 := RA.out.c2
  have qa3 := RA.out.c3
  have qb0 := RB.out.c0
  have qb1 := RB.out.c1
  have qb2 := RB.out.c2
  have qb3 := RB.out.c3
  cases x
  · obtain rfl : [] = r := by rw [← HR.out, pair_no1 HX.out]
    go_enter Tryz.func9, Tryz.ntmps9
    go_wp2_with (go_at_call 10; rw [← HWB.out]; ((with_reducible refine (iv_spec s0 k0 v0 _ d0 l0 _ _ HX.out (H0.out.below B0.out)).mono ?_); rintro e w1 ⟨rfl, hb⟩; have B1 := Lib.hid (B0.out.trans (hb.mono B0.out.size)); have RA1 := Lib.hid (RA.out.below hb); have RB1 := Lib.hid (RB.out.below hb); have pb0 := RB1.out.c0; have pb1 := RB1.out.c1; have pb2 := RB1.out.c2; have pb3 := RB1.out.c3; clear hb))
    go_ret
    exact ⟨_, _, rfl, OwnI.made w1 w.heap.size #[] 0 B1.out.size (Nat.zero_le _) rfl, B1.out.alloc B1.out.size _⟩
  · cases y
    · obtain rfl : [] = r := by rw [← HR.out, pair_no2 HY.out]
      go_enter Tryz.func9, Tryz.ntmps9
      go_wp2_with (first | (go_at_call 10; rw [← HWB.out]; ((with_reducible refine (iv_spec s0 k0 v0 _ d0 l0 _ _ HX.out (H0.out.below B0.out)).mono ?_); rintro e w1 ⟨rfl, hb⟩; have B1 := Lib.hid (B0.out.trans (hb.mono B0.out.size)); have RA1 := Lib.hid (RA.out.below hb); have RB1 := Lib.hid (RB.out.below hb); have pb0 := RB1.out.c0; have pb1 := RB1.out.c1; have pb2 := RB1.out.c2; have pb3 := RB1.out.c3; clear hb)) | (go_at_call 10; ((with_reducible refine (iv_spec s1 k1 v1 _ d1 l1 _ _ HY.out (H1.out.below B1.out)).mono ?_); rintro e w2 ⟨rfl, hb⟩; have B2 := Lib.hid (B1.out.trans (hb.mono B1.out.size)); have RA2 := Lib.hid (RA1.out.below hb); have RB2 := Lib.hid (RB1.out.below hb); clear hb)))
      go_ret
      exact ⟨_, _, rfl, OwnI.made w2 w.heap.size #[] 0 B2.out.size (Nat.zero_le _) rfl, B2.out.alloc B2.out.size _⟩
    · obtain ⟨A0, A1, A2, A3, ba, oa, hA⟩ := fours_of H0.out HX.out
      obtain ⟨C0, C1, C2, C3, bc, oc, hC⟩ := fours_of H1.out HY.out
      obtain ⟨r0, hr0⟩ : ∃ x, edR A0.data.toList C0.data.toList = x := ⟨_, rfl⟩
      obtain ⟨r1, hr1⟩ : ∃ x, setR (tokensR A0.data.toList) (tokensR C0.data.toList) = x := ⟨_, rfl⟩
      obtain ⟨r2, hr2⟩ : ∃ x, setR (soundR A0.data.toList) (soundR C0.data.toList) = x := ⟨_, rfl⟩
      obtain ⟨r3, hr3⟩ : ∃ x, edR A1.data.toList C1.data.toList = x := ⟨_, rfl⟩
      obtain ⟨r4, hr4⟩ : ∃ x, yearR A2.data.toList C2.data.toList = x := ⟨_, rfl⟩
      obtain ⟨r5, hr5⟩ : ∃ x, phR (digL A3.data.toList) (digL C3.data.toList) = x := ⟨_, rfl⟩
      have HL := Lib.hid (show [r0, r1, r2, r3, r4, r5] = r by rw [← HR.out, pair_yes' HX.out HY.out, feats_of hA hC, hr0, hr1, hr2, hr3, hr4, hr5])
      have HA := Lib.hid hA
      have HC := Lib.hid hC
      obtain ⟨rfl, hbal, hl0, hd0, -, -, ha0, ha1, ha2, ha3⟩ := hA
      obtain ⟨rfl, hbcl, hl1, hd1, -, -, hc0, hc1, hc2, hc3⟩ := hC
      obtain ⟨TA, hTA⟩ : ∃ x, tokensR A0.data.toList = x := ⟨_, rfl⟩
      have STA := Lib.hid (show TA.length ≤ 4000000 ∧ ∀ x ∈ TA, x.length ≤ 1048576 by rw [← hTA]; exact toks_small A0 ha0)
      have XTA := Lib.hid (fun u (h : SpT u) => show Calls Tryz.prog 27 #[.string A0] u (GivesS u TA) by rw [← hTA]; exact tokens_spec A0 u (by omega) h)
      obtain ⟨TC, hTC⟩ : ∃ x, tokensR C0.data.toList = x := ⟨_, rfl⟩
      have STC := Lib.hid (show TC.length ≤ 4000000 ∧ ∀ x ∈ TC, x.length ≤ 1048576 by rw [← hTC]; exact toks_small C0 hc0)
      have XTC := Lib.hid (fun u (h : SpT u) => show Calls Tryz.prog 27 #[.string C0] u (GivesS u TC) by rw [← hTC]; exact tokens_spec C0 u (by omega) h)
      obtain ⟨KA, hKA⟩ : ∃ x, soundR A0.data.toList = x := ⟨_, rfl⟩
      have SKA := Lib.hid (show KA.length ≤ 4000000 ∧ ∀ x ∈ KA, x.length ≤ 1048576 by rw [← hKA]; exact keys_small A0 ha0)
      have XKA := Lib.hid (fun u (h : SpT u) => show Calls Tryz.prog 28 #[.string A0] u (GivesS u KA) by rw [← hKA]; exact sound_spec A0 u (by omega) h)
      obtain ⟨KC, hKC⟩ : ∃ x, soundR C0.data.toList = x := ⟨_, rfl⟩
      have SKC := Lib.hid (show KC.length ≤ 4000000 ∧ ∀ x ∈ KC, x.length ≤ 1048576 by rw [← hKC]; exact keys_small C0 hc0)
      have XKC := Lib.hid (fun u (h : SpT u) => show Calls Tryz.prog 28 #[.string C0] u (GivesS u KC) by rw [← hKC]; exact sound_spec C0 u (by omega) h)
      rw [hTA, hTC] at hr1
      rw [hKA, hKC] at hr2
      obtain ⟨yx, hyx⟩ : ∃ x, yrR A2.data.toList = x := ⟨_, rfl⟩
      obtain ⟨yy, hyy⟩ : ∃ x, yrR C2.data.toList = x := ⟨_, rfl⟩
      have PX := Lib.hid (show yx = 0 ∨ 0 < yx by rw [← hyx]; exact yr_pos _)
      have PY := Lib.hid (show yy = 0 ∨ 0 < yy by rw [← hyy]; exact yr_pos _)
      have HR4 := Lib.hid (show (if yx = 0 ∨ yy = 0 then 0 else nsR yx yy 10) = r4 by rw [← hr4]; unfold yearR; rw [hyx, hyy])
      have YX := Lib.hid hyx
      have YY := Lib.hid hyy
      have R0 := Lib.hid hr0
      have R1 := Lib.hid hr1
      have R2 := Lib.hid hr2
      have R3 := Lib.hid hr3
      have R4 := Lib.hid hr4
      have R5 := Lib.hid hr5
      have HL0 := Lib.hid hl0
      have HL1 := Lib.hid hl1
      clear hr0 hr1 hr2 hr3 hr4 hr5 hl0 hl1 hTA hTC hKA hKC hyx hyy
      go_enter Tryz.func9, Tryz.ntmps9
      go_wp2_with (first | (go_at_call 10; rw [← HWB.out]; ((with_reducible refine (iv_spec s0 k0 v0 _ d0 l0 _ _ HX.out (H0.out.below B0.out)).mono ?_); rintro e w1 ⟨rfl, hb⟩; have B1 := Lib.hid (B0.out.trans (hb.mono B0.out.size)); have RA1 := Lib.hid (RA.out.below hb); have RB1 := Lib.hid (RB.out.below hb); have pb0 := RB1.out.c0; have pb1 := RB1.out.c1; have pb2 := RB1.out.c2; have pb3 := RB1.out.c3; clear hb)) | (go_at_call 10; ((with_reducible refine (iv_spec s1 k1 v1 _ d1 l1 _ _ HY.out (H1.out.below B1.out)).mono ?_); rintro e w2 ⟨rfl, hb⟩; have B2 := Lib.hid (B1.out.trans (hb.mono B1.out.size)); have RA2 := Lib.hid (RA1.out.below hb); have RB2 := Lib.hid (RB1.out.below hb); clear hb; have ua3 := RA2.out.c3; have ub3 := RB2.out.c3; rw [HL0.out] at ua3; rw [HL1.out] at ub3)))
      clear qa0 qa1 qa2 qa3 qb0 qb1 qb2 qb3 pb0 pb1 pb2 pb3
      have FA2 := HA.out.below B2.out
      have FC2 := HC.out.below B2.out
      have six : SixS w2 ba oa bc oc A0 C0 A1 C1 A3 C3 := ⟨FA2.2.2.2.2.2.1.1, FC2.2.2.2.2.2.1.1, FA2.2.2.2.2.2.1.2.1, FC2.2.2.2.2.2.1.2.1, FA2.2.2.2.2.2.1.2.2.2, FC2.2.2.2.2.2.1.2.2.2⟩
      clear FA2 FC2
      go_region_held3 (fun w' => w'.cell? ⟨ba, oa, none⟩ = some (.string A0) ∧ w'.cell? ⟨bc, oc, none⟩ = some (.string C0) ∧ w'.cell? ⟨ba, oa + 1, none⟩ = some (.string A1) ∧ w'.cell? ⟨bc, oc + 1, none⟩ = some (.string C1) ∧ w'.cell? ⟨ba, oa + 3, none⟩ = some (.string A3) ∧ w'.cell? ⟨bc, oc + 3, none⟩ = some (.string C3))
        (first | exact six11 | exact six10 | exact six9 | exact six8 | exact six7 | exact six6 | exact six5 | exact six4 | exact six3 | exact six | exact six11.below ((Below.refl _ _).alloc (Nat.le_refl _) _))
        (first
          | (go_at_call 25; (with_reducible refine (ed_spec A0 C0 r0 _ ha0 hc0 R0.out).mono ?_); rintro e w3 ⟨rfl, hb⟩; have hq := undrew hb; have six3 := six.below hq; have B3 := Lib.hid (B2.out.trans (hq.mono B2.out.size)); clear hb hq)
          | (go_at_call 27; (with_reducible refine (XTA.out _ (HS.out.below B3.out)).mono ?_); rintro e w4 ⟨aTA, cTA, rfl, ho, hb⟩; have hq := hb; have six4 := six3.below hq; have B4 := Lib.hid (B3.out.trans (hq.mono B3.out.size)); have OTA_4 := Lib.hid ho; clear ho hb hq)
          | (go_at_call 27; (with_reducible refine (XTC.out _ (HS.out.below B4.out)).mono ?_); rintro e w5 ⟨aTC, cTC, rfl, ho, hb⟩; have hq := hb; have six5 := six4.below hq; have B5 := Lib.hid (B4.out.trans (hq.mono B4.out.size)); have OTA_5 := Lib.hid (OTA_4.out.below hq); have OTC_5 := Lib.hid ho; clear ho hb hq)
          | (go_at_call 26; (with_reducible refine (sets_spec aTA aTC cTA cTC TA TC r1 _ (OTA_5.out.sm STA.out.1 STA.out.2) (OTC_5.out.sm STC.out.1 STC.out.2) R1.out).mono ?_); rintro e w6 ⟨rfl, hb⟩; have hq := hb; have six6 := six5.below hq; have B6 := Lib.hid (B5.out.trans (hq.mono B5.out.size)); have OTA_6 := Lib.hid (OTA_5.out.below hq); have OTC_6 := Lib.hid (OTC_5.out.below hq); clear hb hq)
          | (go_at_call 28; (with_reducible refine (XKA.out _ (HS.out.below B6.out)).mono ?_); rintro e w7 ⟨aKA, cKA, rfl, ho, hb⟩; have hq := hb; have six7 := six6.below hq; have B7 := Lib.hid (B6.out.trans (hq.mono B6.out.size)); have OKA_7 := Lib.hid ho; clear ho hb hq)
          | (go_at_call 28; (with_reducible refine (XKC.out _ (HS.out.below B7.out)).mono ?_); rintro e w8 ⟨aKC, cKC, rfl, ho, hb⟩; have hq := hb; have six8 := six7.below hq; have B8 := Lib.hid (B7.out.trans (hq.mono B7.out.size)); have OKA_8 := Lib.hid (OKA_7.out.below hq); have OKC_8 := Lib.hid ho; clear ho hb hq)
          | (go_at_call 26; (with_reducible refine (sets_spec aKA aKC cKA cKC KA KC r2 _ (OKA_8.out.sm SKA.out.1 SKA.out.2) (OKC_8.out.sm SKC.out.1 SKC.out.2) R2.out).mono ?_); rintro e w9 ⟨rfl, hb⟩; have hq := hb; have six9 := six8.below hq; have B9 := Lib.hid (B8.out.trans (hq.mono B8.out.size)); have OKA_9 := Lib.hid (OKA_8.out.below hq); have OKC_9 := Lib.hid (OKC_8.out.below hq); clear hb hq)
          | (go_at_call 25; (with_reducible refine (ed_spec A1 C1 r3 _ ha1 hc1 R3.out).mono ?_); rintro e w10 ⟨rfl, hb⟩; have hq := hb; have six10 := six9.below hq; have B10 := Lib.hid (B9.out.trans (hq.mono B9.out.size)); clear hb hq)
          | (go_at_call 29; (with_reducible refine (ph_spec A3 C3 r5 _ (by omega) (by omega) R5.out).mono ?_); rintro e w11 ⟨rfl, hb⟩; have hq := hb; have six11 := six10.below hq; have B11 := Lib.hid (B10.out.trans (hq.mono B10.out.size)); clear hb hq))
      have OW := Lib.hid ((ownI_lit w11 [r0, r1, r2, r3, 0, r5] (by unfold maxLen; simp)).mono B11.out.size)
      have BW := Lib.hid (B11.out.alloc B11.out.size (.cells #[.int .i64 r0, .int .i64 r1, .int .i64 r2, .int .i64 r3, .int .i64 0, .int .i64 r5] 3))
      clear six six3 six4 six5 six6 six7 six8 six9 six10 six11
      have ya := (HA.out.below BW.out).2.2.2.2.2.1.2.2.1
      have yc := (HC.out.below BW.out).2.2.2.2.2.1.2.2.1
      refine Hid.out ?_
      refine Lib.hid ?_
      go_wp2_with (go_at_call 12; ((with_reducible refine (yr_spec A2 yx _ (by omega) YX.out).mono ?_); rintro e w20 ⟨rfl, hb⟩; refine Hid.out ?_))
      have OW20 := Lib.hid (show OwnI w20 w.heap.size (.slice (some ⟨w11.heap.size, 0, none⟩) 6 6) [r0, r1, r2, r3, 0, r5] from OwnI.below OW.out hb)
      have BW20 := Lib.hid (BW.out.trans (hb.mono BW.out.size))
      have yc20 := (HC.out.below BW20.out).2.2.2.2.2.1.2.2.1
      clear hb ya yc
      refine Lib.hid ?_
      go_wp2_with (go_at_call 12; ((with_reducible refine (yr_spec C2 yy _ (by omega) YY.out).mono ?_); rintro e w21 ⟨rfl, hb⟩; refine Hid.out ?_))
      have OW21 := Lib.hid (OW20.out.below hb)
      have BW21 := Lib.hid (BW20.out.trans (hb.mono BW20.out.size))
      clear hb yc20
      refine Lib.hid ?_
      rcases PX.out with hx0 | hx0
      · subst hx0
        obtain rfl : 0 = r4 := by rw [← HR4.out, if_pos (.inl rfl)]
        obtain rfl := HL.out
        go_wp2
        go_ret
        exact ⟨some ⟨w11.heap.size, 0, none⟩, 6, rfl, OW21.out, BW21.out⟩
      · have hx1 : ¬ yx = 0 := by omega
        rcases PY.out with hy0 | hy0
        · subst hy0
          obtain rfl : 0 = r4 := by rw [← HR4.out, if_pos (.inr rfl)]
          obtain rfl := HL.out
          go_wp2
          go_ret
          exact ⟨some ⟨w11.heap.size, 0, none⟩, 6, rfl, OW21.out, BW21.out⟩
        · have hy1 : ¬ yy = 0 := by omega
          have HE := Lib.hid (show nsR yx yy 10 = r4 by rw [← HR4.out, if_neg (by rintro (e | e); exact hx1 e; exact hy1 e)])
          have HN := Lib.hid (World.ownsRow.stored OW21.out 4 (.int .i64 r4))
          have hold : w21.cell? ⟨w11.heap.size, 4, none⟩ = some (.int .i64 0) := World.ownsRow.cellAt OW21.out 4 (by decide)
          have hfz : w21.frozen? ⟨w11.heap.size, 4, none⟩ = false := World.ownsRow.frozenAt OW21.out 4
          have HZL := Lib.hid (show w.heap.size ≤ w11.heap.size from B11.out.size)
          obtain rfl := HL.out
          go_wp2_with (go_at_call 30; ((with_reducible refine (ns_spec yx yy 10 r4 _ HE.out).mono ?_); rintro e w22 ⟨rfl, rfl⟩))
          go_ret
          exact ⟨some ⟨w11.heap.size, 0, none⟩, 6, rfl, HN.out.1, BW21.out.setCell HZL.out _⟩

end Go.Proofs.YtggohfinkpppkabGreatDoor
