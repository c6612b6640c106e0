/-
  The walk of laws.FnSetJoin: it answers true for every slice of bytes, a nil one too. By an AI agent.
-/
import Derived.Test.YthjbekgognfiiaaGreatJnW
import Derived.Test.YthjbekgognfiiaaGreatLawCode
import Derived.Laws.StructEq
import Derived.Deep.QuietTactic
import Derived.Deep.RegionHeld3
import Derived.BigQuiet
namespace Go.Proofs.YthjbekgognfiiaaGreat
open Go.RowKit
set_option linter.unusedVariables false

set_option maxRecDepth 100000 in
set_option maxHeartbeats 8000000 in
theorem FnSetJoin_core (A : Option Addr) (len cap : Nat) (w : World) (hcode : CodeAt w w.heap.size A len) :
    Calls Tryz.prog 3 #[.slice A len cap] w fun e w' => e = .returned (.bool true) ∧ Below w.heap.size w w' := by
  have HCODE := Lib.hid hcode
  have hlen : (len : Int) ≤ 1048576 := by have := hcode.1; omega
  clear hcode
  go_enter Tryz.func3, Tryz.ntmps3
  go_wp2_with (go_at_call 5; (refine (big_no A len cap _ hlen).mono ?_); rintro e w0 ⟨rfl, rfl⟩; refine Hid.out ?_)
  refine Lib.hid ?_
  clear hlen
  go_wp2_with (go_at_call 6; ((with_reducible refine (drawCand_any A len cap _ HCODE.out).mono ?_); rintro e wd ⟨t, ta, tc, T, xa, xc, S, la, lc, l, rfl, hx, hbi, hl, hll, hlx, hbd⟩; refine Hid.out ?_))
  obtain ⟨w1, hw1⟩ : ∃ x, x = wd.alloc (.cells #[.int .i64 t, .slice ta T.length tc, .slice xa S.length xc] 27) := ⟨_, rfl⟩
  have hb1 : Below wd.heap.size wd w1 := by rw [hw1]; exact (Below.refl _ _).alloc (Nat.le_refl _) _
  have RX1 := Lib.hid (show BlkV w1 wd.heap.size 27 #[.int .i64 t, .slice ta T.length tc, .slice xa S.length xc] by rw [hw1]; exact BlkV.new _ _ _)
  have HW1 := Lib.hid hw1
  have BD := Lib.hid (hbd.trans (hb1.mono hbd.size))
  have HX := Lib.hid (hx.below hb1)
  have HL := Lib.hid (hl.below hb1)
  have HBI := Lib.hid (bix_up hbi (show 13 ≤ 14 by omega))
  obtain ⟨rc, hrc⟩ : ∃ r, candR t T S l = r := ⟨_, rfl⟩
  obtain ⟨rs, hrs⟩ : ∃ r, searR t T S l = r := ⟨_, rfl⟩
  obtain ⟨rj, hrj⟩ : ∃ r, joinR t T S = r := ⟨_, rfl⟩
  have HRCL := Lib.hid (show rc.length ≤ 13 by rw [← hrc]; exact Nat.le_trans (cand_len2 t T S l) hbi.2.2.1)
  have HRSL := Lib.hid (show rs.length ≤ 13 by rw [← hrs]; exact Nat.le_trans (sear_len2 t T S l) hbi.2.2.1)
  have HSC := Lib.hid (fun z (hz : z ∈ rs) => show z ∈ rc by rw [← hrc]; exact sear_cand (by rw [hrs]; exact hz))
  have HJL := Lib.hid (show rj.length ≤ 4000000 by rw [← hrj]; exact joinR_len t T S)
  have HASC := Lib.hid (fun p (hp : p ∈ rj) => show p.1 < p.2 from joinR_asc p (by rw [hrj]; exact hp))
  have KCI := Lib.hid (fun (W : World) (hW : Below w1.heap.size w1 W) => jw_cs_impl t ta tc T xa xc S la lc l rc W hrc HBI.out (HX.out.below hW) (HL.out.below hW))
  have KCS := Lib.hid (fun (W : World) (hW : Below w1.heap.size w1 W) => jw_cs_spec t ta tc T xa xc S la lc l rc W hrc (HX.out.below hW) (HL.out.below hW))
  have KSI := Lib.hid (fun (W : World) (hW : Below w1.heap.size w1 W) => jw_ss_impl t ta tc T xa xc S la lc l rs W hrs HBI.out (HX.out.below hW) (HL.out.below hW))
  have KSS := Lib.hid (fun (W : World) (hW : Below w1.heap.size w1 W) => jw_ss_spec t ta tc T xa xc S la lc l rs W hrs (HX.out.below hW) (HL.out.below hW))
  have KJI := Lib.hid (fun (W : World) (hW : Below w1.heap.size w1 W) => jw_jn_impl t ta tc T xa xc S rj W hrj HBI.out (HX.out.below hW))
  have KJS := Lib.hid (fun (W : World) (hW : Below w1.heap.size w1 W) => jw_jn_spec t ta tc T xa xc S rj W hrj (HX.out.below hW))
  clear hx hbi hl hll hlx hbd hw1 hb1 hrc hrs hrj
  have x0 := RX1.out.three0
  have x1 := RX1.out.three1
  have x2 := RX1.out.three2
  refine Lib.hid ?_
  go_wp2_with (go_at_call 7; rw [← HW1.out]; ((with_reducible refine (KCI.out _ (Below.refl _ _)).mono ?_); rintro e w2 ⟨ac, cc, rfl, ho, hb⟩; refine Hid.out ?_))
  have OC2 := Lib.hid ho
  have B2 := Lib.hid hb
  clear ho hb
  clear x0 x1 x2
  have x0 := (RX1.out.below B2.out).three0
  have x1 := (RX1.out.below B2.out).three1
  have x2 := (RX1.out.below B2.out).three2
  refine Lib.hid ?_
  go_wp2_with (go_at_call 8; ((with_reducible refine (KSI.out _ B2.out).mono ?_); rintro e w3 ⟨av, cs, rfl, ho, hb⟩; refine Hid.out ?_))
  have OC3 := Lib.hid (OC2.out.below hb)
  have OS3 := Lib.hid ho
  have B3 := Lib.hid (B2.out.trans (hb.mono B2.out.size))
  clear ho hb
  clear x0 x1 x2
  have x0 := (RX1.out.below B3.out).three0
  have x1 := (RX1.out.below B3.out).three1
  have x2 := (RX1.out.below B3.out).three2
  refine Lib.hid ?_
  go_wp2_with (go_at_call 10; ((with_reducible refine (KCS.out _ B3.out).mono ?_); rintro e w4 ⟨ac4, cc4, rfl, ho, hb⟩; refine Hid.out ?_))
  have OC4 := Lib.hid (OC3.out.below hb)
  have OS4 := Lib.hid (OS3.out.below hb)
  have OD4 := Lib.hid ho
  have B4 := Lib.hid (B3.out.trans (hb.mono B3.out.size))
  clear ho hb
  clear x0 x1 x2
  have x0 := (RX1.out.below B4.out).three0
  have x1 := (RX1.out.below B4.out).three1
  have x2 := (RX1.out.below B4.out).three2
  refine Lib.hid ?_
  go_wp2_with (go_at_call 9; ((with_reducible refine (same_ints ac ac4 cc cc4 rc _ (by have := HRCL.out; unfold maxLen; omega) OC4.out OD4.out).mono ?_); rintro e w5 ⟨rfl, hb⟩; refine Hid.out ?_))
  have OC5 := Lib.hid (OC4.out.below hb)
  have OS5 := Lib.hid (OS4.out.below hb)
  have B5 := Lib.hid (B4.out.trans (hb.mono B4.out.size))
  clear hb
  clear x0 x1 x2
  have x0 := (RX1.out.below B5.out).three0
  have x1 := (RX1.out.below B5.out).three1
  have x2 := (RX1.out.below B5.out).three2
  refine Lib.hid ?_
  go_wp2_with (go_at_call 11; ((with_reducible refine (KSS.out _ B5.out).mono ?_); rintro e w6 ⟨as6, cs6, rfl, ho, hb⟩; refine Hid.out ?_))
  have OC6 := Lib.hid (OC5.out.below hb)
  have OS6 := Lib.hid (OS5.out.below hb)
  have OD6 := Lib.hid ho
  have B6 := Lib.hid (B5.out.trans (hb.mono B5.out.size))
  clear ho hb
  clear x0 x1 x2
  have x0 := (RX1.out.below B6.out).three0
  have x1 := (RX1.out.below B6.out).three1
  have x2 := (RX1.out.below B6.out).three2
  refine Lib.hid ?_
  go_wp2_with (go_at_call 9; ((with_reducible refine (same_ints av as6 cs cs6 rs _ (by have := HRSL.out; unfold maxLen; omega) OS6.out OD6.out).mono ?_); rintro e w7 ⟨rfl, hb⟩; have OC7 := Lib.hid (OC6.out.below hb); have OS7 := Lib.hid (OS6.out.below hb); have B7 := Lib.hid (B6.out.trans (hb.mono B6.out.size)); clear hb))
  clear x0 x1 x2
  go_loopw [7] (fun i wr => ∃ k : Nat, k ≤ rs.length ∧ i = .int .i64 k ∧ Below w7.heap.size w7 wr) (fun i _ => rs.length - (intOf i).toNat)
  case atStart => exact ⟨0, Nat.zero_le _, rfl, Below.refl _ _⟩
  case round =>
    obtain ⟨k, hk, rfl, hb⟩ := hrel
    have HB := Lib.hid hb
    clear hb
    by_cases hlt : k < rs.length
    · have hrl : rs.length ≤ 4000000 := Nat.le_trans HRSL.out (by omega)
      obtain ⟨b, off, rfl, hbw, hc⟩ := OS7.out (by omega)
      have hz := List.getElem?_eq_getElem hlt
      have c0 : wr.cell? ⟨b, off + k, none⟩ = some (.int .i64 rs[k]) := by rw [HB.out.cell (p := ⟨b, off + k, none⟩) hbw]; exact hc k _ hz
      have HZ := Lib.hid (HSC.out _ (List.mem_of_getElem? hz))
      generalize rs[k] = z at c0 HZ
      clear hz hbw hc
      go_wp2_with (go_at_call 12; ((with_reducible refine (lhas_yes ac cc rc z _ (by have := HRCL.out; omega) (OC7.out.below HB.out) HZ.out).mono ?_); rintro e w8 ⟨rfl, hb⟩; have HB8 := Lib.hid (HB.out.trans (hb.mono HB.out.size)); clear hb))
      go_roundw
      case rel => exact ⟨k + 1, by omega, by go_num, HB8.out⟩
      case measure => simp [intOf]; omega
    · have BR := Lib.hid (B7.out.trans (HB.out.mono B7.out.size))
      have x0 := (RX1.out.below BR.out).three0
      have x1 := (RX1.out.below BR.out).three1
      have x2 := (RX1.out.below BR.out).three2
      clear KCI KCS KSI KSS OC2 OC3 OC4 OC5 OC6 OC7 OS3 OS4 OS5 OS6 OS7 OD4 OD6 B2 B3 B4 B5 B6 HB HSC HRCL HRSL
      go_wp2_with (go_at_call 13; ((with_reducible refine (KJI.out _ BR.out).mono ?_); rintro e w9 ⟨aj, cj, rfl, ho, hb⟩; refine Hid.out ?_))
      have OJ9 := Lib.hid ho
      have B9 := Lib.hid (BR.out.trans (hb.mono BR.out.size))
      clear ho hb
      clear x0 x1 x2
      have x0 := (RX1.out.below B9.out).three0
      have x1 := (RX1.out.below B9.out).three1
      have x2 := (RX1.out.below B9.out).three2
      refine Lib.hid ?_
      go_wp2_with (go_at_call 14; ((with_reducible refine (KJS.out _ B9.out).mono ?_); rintro e w10 ⟨ak, ck, rfl, ho, hb⟩; have OJ := Lib.hid (OJ9.out.below hb); have OK := Lib.hid ho; have B10 := Lib.hid (B9.out.trans (hb.mono B9.out.size)); clear ho hb))
      clear x0 x1 x2
      go_loopw [10] (fun i wr => ∃ k : Nat, k ≤ rj.length ∧ i = .int .i64 k ∧ Below w10.heap.size w10 wr) (fun i _ => rj.length - (intOf i).toNat)
      case atStart => exact ⟨0, Nat.zero_le _, rfl, Below.refl _ _⟩
      case round =>
        rename_i wq
        obtain ⟨k2, hk2, rfl, hb⟩ := hrel
        have HB := Lib.hid hb
        clear hb
        by_cases hlt2 : k2 < rj.length
        · obtain ⟨b1, o1, rfl, hb1, hc1⟩ := OJ.out (by omega)
          obtain ⟨b2, o2, rfl, hb2, hc2⟩ := OK.out (by omega)
          have hp := List.getElem?_eq_getElem hlt2
          obtain ⟨p0, p1⟩ := hc1 k2 _ hp
          obtain ⟨q0, q1⟩ := hc2 k2 _ hp
          have g0 := (HB.out.cell (p := ⟨b1, o1 + k2 * 2, none⟩) hb1).trans p0
          have g1 := (HB.out.cell (p := ⟨b1, o1 + k2 * 2 + 1, none⟩) hb1).trans p1
          have g2 := (HB.out.cell (p := ⟨b2, o2 + k2 * 2, none⟩) hb2).trans q0
          have g3 := (HB.out.cell (p := ⟨b2, o2 + k2 * 2 + 1, none⟩) hb2).trans q1
          have hasc := HASC.out _ (List.mem_of_getElem? hp)
          clear p0 p1 q0 q1 hc1 hc2 hp hb1 hb2
          generalize rj[k2].1 = x at g0 g2 hasc
          generalize rj[k2].2 = y at g1 g3 hasc
          have d1 : decide (y ≤ x) = false := decide_eq_false (by omega)
          have hn := fun W => neq_ip x y W
          have hgd := fun x y xs ys W => guard_ip x y xs ys W
          have hki : (k2 : Int) < (rj.length : Int) := by omega
          have hjl := HJL.out
          clear hasc
          go_wp2_with fail
          go_quiet (fail)
          go_wp2
          go_roundw
          case rel => exact ⟨k2 + 1, by omega, by go_num, jn_drewN HB.out _⟩
          case measure => simp [intOf]; omega
        · have BW := Lib.hid (BD.out.trans ((B10.out.trans (HB.out.mono B10.out.size)).mono BD.out.size))
          clear KJI KJS OJ9 OJ OK B9 B10 BR HB HASC HJL HX HL HBI RX1 HW1 BD B7
          go_wp2_with (go_at_call 15; ((with_reducible refine (drawIns_any A len cap _ (codeAt_up HCODE.out BW.out)).mono ?_); rintro e wi ⟨t2, ta2, tc2, T2, xa2, xc2, S2, id, lb, ld, m, rfl, hx, hbi, hl, hll, hlx, hbd⟩; refine Hid.out ?_))
          obtain ⟨wy, hwy⟩ : ∃ x, x = wi.alloc (.cells #[.int .i64 t2, .slice ta2 T2.length tc2, .slice xa2 S2.length xc2] 27) := ⟨_, rfl⟩
          have hby : Below wi.heap.size wi wy := by rw [hwy]; exact (Below.refl _ _).alloc (Nat.le_refl _) _
          have RY := Lib.hid (show BlkV wy wi.heap.size 27 #[.int .i64 t2, .slice ta2 T2.length tc2, .slice xa2 S2.length xc2] by rw [hwy]; exact BlkV.new _ _ _)
          have HWY := Lib.hid hwy
          have BY := Lib.hid (BW.out.trans ((hbd.trans (hby.mono hbd.size)).mono BW.out.size))
          have HX := Lib.hid (hx.below hby)
          have HL := Lib.hid (hl.below hby)
          obtain ⟨R, hR⟩ : ∃ R, insR t2 T2 S2 id m = R := ⟨_, rfl⟩
          obtain ⟨rs2, hrs2⟩ : ∃ r, searR t2 T2 S2 m = r := ⟨_, rfl⟩
          obtain ⟨rz, hrz⟩ : ∃ r, searR t2 T2 R m = r := ⟨_, rfl⟩
          have HBR := Lib.hid (show BIx 14 T2 R by rw [← hR]; exact bix_insR _ _ _ _ hbi hll hlx)
          have HBI := Lib.hid (bix_up hbi (show 13 ≤ 14 by omega))
          have HRS2 := Lib.hid (show rs2.length ≤ 13 by rw [← hrs2]; exact Nat.le_trans (sear_len2 t2 T2 S2 m) hbi.2.2.1)
          have HRZ := Lib.hid (show rz.length ≤ 14 by rw [← hrz]; exact Nat.le_trans (sear_len2 t2 T2 R m) HBR.out.2.2.1)
          have KSY := Lib.hid (fun (W : World) (hW : Below wy.heap.size wy W) => jw_ss_spec t2 ta2 tc2 T2 xa2 xc2 S2 lb ld m rs2 W hrs2 (HX.out.below hW) (HL.out.below hW))
          have KSW := Lib.hid (fun (W : World) (hW : Below wy.heap.size wy W) (a c) (xa xc) (h : SmIx W a T2 c xa S2 xc) => jw_ss_impl t2 a c T2 xa xc S2 lb ld m rs2 W hrs2 HBI.out h (HL.out.below hW))
          have KSZ := Lib.hid (fun (W : World) (hW : Below wy.heap.size wy W) (a c) (xa xc) (h : SmIx W a T2 c xa R xc) => jw_ss_impl t2 a c T2 xa xc R lb ld m rz W hrz HBR.out h (HL.out.below hW))
          have y0 := RY.out.three0
          have y1 := RY.out.three1
          have y2 := RY.out.three2
          obtain ⟨ob, hob⟩ : ∃ b, okIns t2 T2 S2 id m = b := ⟨_, rfl⟩
          have KII := Lib.hid (fun (W : World) (hW : Below wy.heap.size wy W) => jw_in_impl t2 ta2 tc2 T2 xa2 xc2 S2 lb ld m id R ob W hR hob HBR.out (HX.out.below hW) (HL.out.below hW))
          have KIS := Lib.hid (fun (W : World) (hW : Below wy.heap.size wy W) => jw_in_spec t2 ta2 tc2 T2 xa2 xc2 S2 lb ld m id R ob W hR hob HBR.out (HX.out.below hW) (HL.out.below hW))
          have HOB := Lib.hid (fun (he : ob = true) => show remR t2 T2 R id = S2 ∧ okRem t2 T2 R id = true ∧ ixB t2 T2 R = true ∧ id ∈ rz by rw [← hrz, ← hR]; rw [he] at hob; exact ⟨rem_ins _ _ _ _ hob, okrem_insR _ _ _ _ hob, ix_insR _ _ _ _ hob, found_insR _ _ _ _ hob (by omega)⟩)
          clear hx hbi hl hll hlx hbd hwy hby hR hrs2 hrz hob
          refine Lib.hid ?_
          go_wp2_with (go_at_call 16; rw [← HWY.out]; ((with_reducible refine (KII.out _ (Below.refl _ _)).mono ?_); rintro e wa ⟨zta, ztc, zxa, zxc, rfl, ho, hb⟩; refine Hid.out ?_))
          obtain ⟨wz, hwz⟩ : ∃ x, x = wa.alloc (.cells #[.int .i64 t2, .slice zta T2.length ztc, .slice zxa R.length zxc] 27) := ⟨_, rfl⟩
          have hbz : Below wa.heap.size wa wz := by rw [hwz]; exact (Below.refl _ _).alloc (Nat.le_refl _) _
          have RZ := Lib.hid (show BlkV wz wa.heap.size 27 #[.int .i64 t2, .slice zta T2.length ztc, .slice zxa R.length zxc] by rw [hwz]; exact BlkV.new _ _ _)
          have HWZ := Lib.hid hwz
          have BZ := Lib.hid (hb.trans (hbz.mono hb.size))
          have HZ := Lib.hid (ho.below hbz)
          clear ho hb hbz y0 y1 y2
          replace hwz := hwz.symm
          have y0 := (RY.out.below BZ.out).three0
          have y1 := (RY.out.below BZ.out).three1
          have y2 := (RY.out.below BZ.out).three2
          have z0 := RZ.out.three0
          have z1 := RZ.out.three1
          have z2 := RZ.out.three2
          refine Lib.hid ?_
          go_wp2_with (go_at_call 17; (try rw [← HWZ.out]); ((with_reducible refine (KIS.out _ BZ.out).mono ?_); rintro e wb ⟨uta, utc, uxa, uxc, rfl, ho, hb⟩; refine Hid.out ?_))
          obtain ⟨wc, hwc⟩ : ∃ x, x = wb.alloc (.cells #[.int .i64 t2, .slice uta T2.length utc, .slice uxa R.length uxc] 27) := ⟨_, rfl⟩
          have hbc : Below wb.heap.size wb wc := by rw [hwc]; exact (Below.refl _ _).alloc (Nat.le_refl _) _
          have HWC := Lib.hid hwc
          have BZC := Lib.hid (hb.trans (hbc.mono hb.size))
          have BC := Lib.hid (BZ.out.trans (BZC.out.mono BZ.out.size))
          have BBC := Lib.hid (BZ.out.trans (hb.mono BZ.out.size))
          have HZC := Lib.hid (HZ.out.below BZC.out)
          clear ho hb hbc hwz y0 y1 y2 z0 z1 z2
          replace hwc := hwc.symm
          have y0 := (RY.out.below BC.out).three0
          have y1 := (RY.out.below BC.out).three1
          have y2 := (RY.out.below BC.out).three2
          have z0 := (RZ.out.below BZC.out).three0
          have z1 := (RZ.out.below BZC.out).three1
          have z2 := (RZ.out.below BZC.out).three2
          cases ob
          · refine Lib.hid ?_
            go_wp2
            go_ret
            (try rw [← HWC.out])
            exact ⟨rfl, BY.out.trans (BC.out.mono BY.out.size)⟩
          · obtain ⟨h1, h2, h3, h4⟩ := HOB.out rfl
            have KRM := Lib.hid (fun (W : World) (a c) (xa xc) (h : SmIx W a T2 c xa R xc) => jw_rm_impl t2 a c T2 xa xc R id S2 true W h1 h2 HBI.out h)
            have KIX := Lib.hid (fun (W : World) (a c) (xa xc) (h : SmIx W a T2 c xa R xc) => ix_impl t2 a c T2 xa xc R true W h3 h)
            have HIN := Lib.hid h4
            clear h1 h2 h3 h4 KII KIS HOB
            refine Lib.hid ?_
            go_wp2_with (go_at_call 18; (try rw [← HWC.out]); ((with_reducible refine (KRM.out _ zta ztc zxa zxc HZC.out).mono ?_); rintro e wd2 ⟨vta, vtc, vxa, vxc, rfl, ho, hb⟩; refine Hid.out ?_))
            obtain ⟨we, hwe⟩ : ∃ x, x = wd2.alloc (.cells #[.int .i64 t2, .slice vta T2.length vtc, .slice vxa S2.length vxc] 27) := ⟨_, rfl⟩
            have hbe : Below wd2.heap.size wd2 we := by rw [hwe]; exact (Below.refl _ _).alloc (Nat.le_refl _) _
            have RV := Lib.hid (show BlkV we wd2.heap.size 27 #[.int .i64 t2, .slice vta T2.length vtc, .slice vxa S2.length vxc] by rw [hwe]; exact BlkV.new _ _ _)
            have HWE := Lib.hid hwe
            have BCE := Lib.hid (hb.trans (hbe.mono hb.size))
            have BE := Lib.hid (BC.out.trans (BCE.out.mono BC.out.size))
            have HZE := Lib.hid (HZC.out.below BCE.out)
            have HV := Lib.hid (ho.below hbe)
            have BZE := Lib.hid (BZC.out.trans (BCE.out.mono BZC.out.size))
            clear ho hb hbe hwe hwc y0 y1 y2 z0 z1 z2
            have y0 := (RY.out.below BE.out).three0
            have y1 := (RY.out.below BE.out).three1
            have y2 := (RY.out.below BE.out).three2
            have z0 := (RZ.out.below BZE.out).three0
            have z1 := (RZ.out.below BZE.out).three1
            have z2 := (RZ.out.below BZE.out).three2
            have v0 := RV.out.three0
            have v1 := RV.out.three1
            have v2 := RV.out.three2
            refine Lib.hid ?_
            go_wp2_with (fail)
            rw [← HWE.out]
            go_region_held3 (fun w' => w'.cell? ⟨wi.heap.size, 0, none⟩ = some (.int .i64 t2) ∧ w'.cell? ⟨wi.heap.size, 1, none⟩ = some (.slice ta2 T2.length tc2) ∧ w'.cell? ⟨wi.heap.size, 2, none⟩ = some (.slice xa2 S2.length xc2) ∧ w'.cell? ⟨wa.heap.size, 0, none⟩ = some (.int .i64 t2) ∧ w'.cell? ⟨wa.heap.size, 1, none⟩ = some (.slice zta T2.length ztc) ∧ w'.cell? ⟨wa.heap.size, 2, none⟩ = some (.slice zxa R.length zxc) ∧ w'.cell? ⟨wd2.heap.size, 0, none⟩ = some (.int .i64 t2) ∧ w'.cell? ⟨wd2.heap.size, 1, none⟩ = some (.slice vta T2.length vtc) ∧ w'.cell? ⟨wd2.heap.size, 2, none⟩ = some (.slice vxa S2.length vxc))
              (first | exact ⟨fy0, fy1, fy2, fz0, fz1, fz2, fv0, fv1, fv2⟩ | exact ⟨ey0, ey1, ey2, ez0, ez1, ez2, ev0, ev1, ev2⟩ | exact ⟨dy0, dy1, dy2, dz0, dz1, dz2, dv0, dv1, dv2⟩ | exact ⟨cy0, cy1, cy2, cz0, cz1, cz2, cv0, cv1, cv2⟩ | exact ⟨by0, by1, by2, bz0, bz1, bz2, bv0, bv1, bv2⟩ | exact ⟨ay0, ay1, ay2, az0, az1, az2, av0, av1, av2⟩ | exact ⟨y0, y1, y2, z0, z1, z2, v0, v1, v2⟩)
              (first
                | (go_at_call 19; (with_reducible refine (KIX.out _ zta ztc zxa zxc (HZE.out.below (Below.refl _ we).drew)).mono ?_); rintro e wf ⟨rfl, hb⟩; have hr := undrew hb; have Ea := Lib.hid hr; have ay0 := ((RY.out.below BE.out).below Ea.out).three0; have ay1 := ((RY.out.below BE.out).below Ea.out).three1; have ay2 := ((RY.out.below BE.out).below Ea.out).three2; have az0 := ((RZ.out.below BZE.out).below Ea.out).three0; have az1 := ((RZ.out.below BZE.out).below Ea.out).three1; have az2 := ((RZ.out.below BZE.out).below Ea.out).three2; have av0 := (RV.out.below Ea.out).three0; have av1 := (RV.out.below Ea.out).three1; have av2 := (RV.out.below Ea.out).three2; clear hb hr)
                | (go_at_call 8; (with_reducible refine (KSZ.out _ (BE.out.trans (Ea.out.mono BE.out.size)) zta ztc zxa zxc (HZE.out.below Ea.out)).mono ?_); rintro e wg ⟨pz, cz, rfl, ho, hb⟩; have OZ := Lib.hid ho; have Eb := Lib.hid (Ea.out.trans (hb.mono Ea.out.size)); have by0 := ((RY.out.below BE.out).below Eb.out).three0; have by1 := ((RY.out.below BE.out).below Eb.out).three1; have by2 := ((RY.out.below BE.out).below Eb.out).three2; have bz0 := ((RZ.out.below BZE.out).below Eb.out).three0; have bz1 := ((RZ.out.below BZE.out).below Eb.out).three1; have bz2 := ((RZ.out.below BZE.out).below Eb.out).three2; have bv0 := (RV.out.below Eb.out).three0; have bv1 := (RV.out.below Eb.out).three1; have bv2 := (RV.out.below Eb.out).three2; clear hb ho)
                | (go_at_call 12; (with_reducible refine (lhas_yes pz cz rz id _ (by have := HRZ.out; omega) OZ.out HIN.out).mono ?_); rintro e wh ⟨rfl, hb⟩; have Ec := Lib.hid (Eb.out.trans (hb.mono Eb.out.size)); have cy0 := ((RY.out.below BE.out).below Ec.out).three0; have cy1 := ((RY.out.below BE.out).below Ec.out).three1; have cy2 := ((RY.out.below BE.out).below Ec.out).three2; have cz0 := ((RZ.out.below BZE.out).below Ec.out).three0; have cz1 := ((RZ.out.below BZE.out).below Ec.out).three1; have cz2 := ((RZ.out.below BZE.out).below Ec.out).three2; have cv0 := (RV.out.below Ec.out).three0; have cv1 := (RV.out.below Ec.out).three1; have cv2 := (RV.out.below Ec.out).three2; clear hb)
                | (go_at_call 8; (with_reducible refine (KSW.out _ (BE.out.trans (Ec.out.mono BE.out.size)) vta vtc vxa vxc (HV.out.below Ec.out)).mono ?_); rintro e wj ⟨pw, cw, rfl, ho, hb⟩; have OW := Lib.hid ho; have Ed := Lib.hid (Ec.out.trans (hb.mono Ec.out.size)); have dy0 := ((RY.out.below BE.out).below Ed.out).three0; have dy1 := ((RY.out.below BE.out).below Ed.out).three1; have dy2 := ((RY.out.below BE.out).below Ed.out).three2; have dz0 := ((RZ.out.below BZE.out).below Ed.out).three0; have dz1 := ((RZ.out.below BZE.out).below Ed.out).three1; have dz2 := ((RZ.out.below BZE.out).below Ed.out).three2; have dv0 := (RV.out.below Ed.out).three0; have dv1 := (RV.out.below Ed.out).three1; have dv2 := (RV.out.below Ed.out).three2; clear hb ho)
                | (go_at_call 11; (with_reducible refine (KSY.out _ (BE.out.trans (Ed.out.mono BE.out.size))).mono ?_); rintro e wk ⟨pv, cv, rfl, ho, hb⟩; have OV := Lib.hid ho; have OW2 := Lib.hid (OW.out.below hb); have Ee := Lib.hid (Ed.out.trans (hb.mono Ed.out.size)); have ey0 := ((RY.out.below BE.out).below Ee.out).three0; have ey1 := ((RY.out.below BE.out).below Ee.out).three1; have ey2 := ((RY.out.below BE.out).below Ee.out).three2; have ez0 := ((RZ.out.below BZE.out).below Ee.out).three0; have ez1 := ((RZ.out.below BZE.out).below Ee.out).three1; have ez2 := ((RZ.out.below BZE.out).below Ee.out).three2; have ev0 := (RV.out.below Ee.out).three0; have ev1 := (RV.out.below Ee.out).three1; have ev2 := (RV.out.below Ee.out).three2; clear hb ho)
                | (go_at_call 9; (with_reducible refine (same_ints pw pv cw cv rs2 _ (by have := HRS2.out; unfold maxLen; omega) OW2.out OV.out).mono ?_); rintro e wl ⟨rfl, hb⟩; have Ef := Lib.hid (Ee.out.trans (hb.mono Ee.out.size)); have fy0 := ((RY.out.below BE.out).below Ef.out).three0; have fy1 := ((RY.out.below BE.out).below Ef.out).three1; have fy2 := ((RY.out.below BE.out).below Ef.out).three2; have fz0 := ((RZ.out.below BZE.out).below Ef.out).three0; have fz1 := ((RZ.out.below BZE.out).below Ef.out).three1; have fz2 := ((RZ.out.below BZE.out).below Ef.out).three2; have fv0 := (RV.out.below Ef.out).three0; have fv1 := (RV.out.below Ef.out).three1; have fv2 := (RV.out.below Ef.out).three2; clear hb))
            go_wp2
            go_ret
            exact ⟨rfl, BY.out.trans ((BE.out.trans (Ef.out.mono BE.out.size)).mono BY.out.size)⟩

set_option maxRecDepth 100000 in
set_option maxHeartbeats 1000000 in
theorem FnSetJoin_walk (A : Option Addr) (len cap : Nat) (zs : List Int) (w : World) (h : IsRow .u8 w A len cap zs) :
    Calls Tryz.prog 3 #[.slice A len cap] w fun e w' => e = .returned (.bool true) ∧ Below w.heap.size w w' := by
  by_cases hl : 1048576 < (len : Int)
  · go_enter Tryz.func3, Tryz.ntmps3
    go_wp2_with (go_at_call 5; (refine (big_yes A len cap _ hl).mono ?_); rintro e w0 ⟨rfl, rfl⟩)
    go_ret
    exact ⟨rfl, Below.refl _ _⟩
  · exact FnSetJoin_core A len cap w (codeAt_of h (by omega))

end Go.Proofs.YthjbekgognfiiaaGreat
