/-
  The walk of laws.FnBlocks: it answers true for every slice of bytes, a nil one too. By an AI agent.
-/
import Derived.Test.YtebddnjccmaimaaGreatDoorBlkF
import Derived.Test.YtebddnjccmaimaaGreatDoorBlkX
import Derived.Test.YtebddnjccmaimaaGreatDoorBlkDraw
import Derived.Test.YtebddnjccmaimaaGreatDoorBpI
import Derived.Test.YtebddnjccmaimaaGreatDoorOsI
import Derived.Test.YtebddnjccmaimaaGreatDoorGDraw
import Derived.Laws.StructEq
import Derived.Deep.QuietTactic
import Derived.Deep.RegionHeld3
import Derived.BigQuiet
namespace Go.Proofs.YtebddnjccmaimaaGreatDoor
open Go.RowKit
set_option linter.unusedVariables false

set_option maxRecDepth 100000 in
set_option maxHeartbeats 8000000 in
theorem FnBlocks_core (A : Option Addr) (len cap : Nat) (w : World) (hcode : CodeAt w w.heap.size A len) (ht : TabAt w) (hT : SpT w) :
    Calls Tryz.prog 3 #[.slice A len cap] w fun e w' => e = .returned (.bool true) ∧ Below w.heap.size w w' := by
  have HCODE := Lib.hid hcode
  have HTAB := Lib.hid ht
  have HSP := Lib.hid hT
  have hlen : (len : Int) ≤ 1048576 := by have := hcode.1; omega
  clear hcode ht hT
  go_enter Tryz.func3, Tryz.ntmps3
  go_wp2_with (go_at_call 10; (refine (big_no A len cap _ hlen).mono ?_); rintro e w0 ⟨rfl, rfl⟩; refine Hid.out ?_)
  refine Lib.hid ?_
  clear hlen
  go_wp2_with (go_at_call 11; ((with_reducible refine (drawBP_any A len cap _ HCODE.out).mono ?_); rintro e wd ⟨a, cp, S, most, rfl, hx, hsl, hm0, hm12, hbd⟩; refine Hid.out ?_))
  have HX := Lib.hid hx
  have BD := Lib.hid hbd
  have HM0 := Lib.hid hm0
  have HSL := Lib.hid hsl
  have HS := Lib.hid (fun (W : World) (hW : Below wd.heap.size wd W) => HSP.out.below (hbd.trans (hW.mono hbd.size)))
  have HA := Lib.hid (fun (W : World) (hW : Below wd.heap.size wd W) => HTAB.out.on (hbd.trans (hW.mono hbd.size)))
  obtain ⟨r, hr⟩ : ∃ r, bpR (kbR S) most = r := ⟨_, rfl⟩
  obtain ⟨rb, hrb⟩ : ∃ r, bpR (kbR S) 12 = r := ⟨_, rfl⟩
  obtain ⟨lb, hlb⟩ : ∃ r : Int, ((lbR (kbR S) : Nat) : Int) = r := ⟨_, rfl⟩
  obtain ⟨os, hos⟩ : ∃ r, osR (kbR S) most = r := ⟨_, rfl⟩
  obtain ⟨bl, hbl⟩ : ∃ r, blkL (kbR S) = r := ⟨_, rfl⟩
  have HRL := Lib.hid (show r.length ≤ 288000 by rw [← hr]; exact bp_len S most)
  have HOL := Lib.hid (show os.length ≤ 4000000 by rw [← hos]; exact os_len S most)
  have HBL := Lib.hid (show SmB bl by rw [← hbl]; exact blk_small S)
  have HPS := Lib.hid (fun q (hq : q ∈ r) => pair_share (S := S) (most := most) (p := q) (by rw [hr]; exact hq))
  have HBA := Lib.hid (fun k b (hq : bl[k]? = some b) => blk_at (S := S) (k := k) (b := b) (by rw [hbl]; exact hq))
  have HTOP := Lib.hid (show ((topB bl bl.length : Nat) : Int) = lb by rw [← hlb, ← topB_all, hbl])
  have HOS := Lib.hid (show 0 < os.length ↔ most < lb by rw [← hos, ← hlb]; exact os_some hm0)
  have KBP := Lib.hid (fun (W : World) (hW : Below wd.heap.size wd W) => bp_impl a cp S most r W hr (HX.out.below hW) (HS.out W hW) (HA.out W hW))
  have KBQ := Lib.hid (fun (W : World) (hW : Below wd.heap.size wd W) => bp_spec a cp S most r W hr (HX.out.below hW) (HS.out W hW))
  have KBR := Lib.hid (fun (W : World) (hW : Below wd.heap.size wd W) => bp_impl a cp S 12 rb W hrb (HX.out.below hW) (HS.out W hW) (HA.out W hW))
  have KLI := Lib.hid (fun (W : World) (hW : Below wd.heap.size wd W) => lb_impl a cp S lb W hlb (HX.out.below hW) (HS.out W hW) (HA.out W hW))
  have KLS := Lib.hid (fun (W : World) (hW : Below wd.heap.size wd W) => lb_spec a cp S lb W hlb (HX.out.below hW) (HS.out W hW))
  have KOI := Lib.hid (fun (W : World) (hW : Below wd.heap.size wd W) => os_impl a cp S most os W hos (HX.out.below hW) (HS.out W hW) (HA.out W hW))
  have KOS := Lib.hid (fun (W : World) (hW : Below wd.heap.size wd W) => os_spec a cp S most os W hos (HX.out.below hW) (HS.out W hW))
  have KBI := Lib.hid (fun (W : World) (hW : Below wd.heap.size wd W) => bb_impl a cp S bl W hbl (HX.out.below hW) (HS.out W hW) (HA.out W hW))
  have KBS := Lib.hid (fun (W : World) (hW : Below wd.heap.size wd W) => bb_spec a cp S bl W hbl (HX.out.below hW) (HS.out W hW))
  have hle : r.length ≤ rb.length := by rw [← hr, ← hrb]; exact bp_le S most
  have d0 : decide (rb.length < r.length) = false := decide_eq_false (by omega)
  have d1 : ((lb : Int) != lb) = false := by simp
  have d2 : ((r.length : Int) != (r.length : Int)) = false := by simp
  clear hx hsl hm0 hm12 hbd hr hrb hlb hos hbl
  refine Lib.hid ?_

  go_wp2_with (go_at_call 12; ((with_reducible refine (KBP.out _ (Below.refl _ _)).mono ?_); rintro e w1 ⟨ap, cq, rfl, ho, hb⟩; refine Hid.out ?_))
  have OP_1 := Lib.hid ho.inP
  have B1 := Lib.hid hb
  clear hb ho
  refine Lib.hid ?_
  go_wp2_with (go_at_call 13; ((with_reducible refine (KBQ.out _ B1.out).mono ?_); rintro e w2 ⟨ar, cr, rfl, ho, hb⟩; refine Hid.out ?_))
  have OP_2 := Lib.hid (OP_1.out.below hb)
  have OQ_2 := Lib.hid ho.inP
  have B2 := Lib.hid (B1.out.trans (hb.mono B1.out.size))
  clear hb ho
  refine Lib.hid ?_
  go_wp2_with (go_at_call 12; ((with_reducible refine (KBR.out _ B2.out).mono ?_); rintro e w3 ⟨az, cz, rfl, ho, hb⟩; refine Hid.out ?_))
  have OP_3 := Lib.hid (OP_2.out.below hb)
  have OQ_3 := Lib.hid (OQ_2.out.below hb)
  have B3 := Lib.hid (B2.out.trans (hb.mono B2.out.size))
  clear hb ho
  refine Lib.hid ?_
  go_wp2_with (go_at_call 14; ((with_reducible refine (KLI.out _ B3.out).mono ?_); rintro e w4 ⟨rfl, hb⟩; refine Hid.out ?_))
  have OP_4 := Lib.hid (OP_3.out.below hb)
  have OQ_4 := Lib.hid (OQ_3.out.below hb)
  have B4 := Lib.hid (B3.out.trans (hb.mono B3.out.size))
  clear hb
  refine Lib.hid ?_
  go_wp2_with (go_at_call 15; ((with_reducible refine (KLS.out _ B4.out).mono ?_); rintro e w5 ⟨rfl, hb⟩; refine Hid.out ?_))
  have OP_5 := Lib.hid (OP_4.out.below hb)
  have OQ_5 := Lib.hid (OQ_4.out.below hb)
  have B5 := Lib.hid (B4.out.trans (hb.mono B4.out.size))
  clear hb
  refine Lib.hid ?_
  go_wp2_with (go_at_call 17; ((with_reducible refine (KOI.out _ B5.out).mono ?_); rintro e w6 ⟨ao, co, rfl, ho, hb⟩; refine Hid.out ?_))
  have OP_6 := Lib.hid (OP_5.out.below hb)
  have OQ_6 := Lib.hid (OQ_5.out.below hb)
  have OO_6 := Lib.hid ho.inS
  have B6 := Lib.hid (B5.out.trans (hb.mono B5.out.size))
  clear hb ho
  refine Lib.hid ?_
  go_wp2_with (go_at_call 18; ((with_reducible refine (KOS.out _ B6.out).mono ?_); rintro e w7 ⟨ax, cx, rfl, ho, hb⟩; refine Hid.out ?_))
  have OP_7 := Lib.hid (OP_6.out.below hb)
  have OQ_7 := Lib.hid (OQ_6.out.below hb)
  have OO_7 := Lib.hid (OO_6.out.below hb)
  have OX_7 := Lib.hid ho.inS
  have B7 := Lib.hid (B6.out.trans (hb.mono B6.out.size))
  clear hb ho
  refine Lib.hid ?_
  go_wp2_with (go_at_call 16; ((with_reducible refine (eqt_same ao ax co cx os _ (by have := HOL.out; unfold maxLen; omega) OO_7.out OX_7.out).mono ?_); rintro e w8 ⟨rfl, hb⟩; refine Hid.out ?_))
  have OP_8 := Lib.hid (OP_7.out.below hb)
  have OQ_8 := Lib.hid (OQ_7.out.below hb)
  have OO_8 := Lib.hid (OO_7.out.below hb)
  have OX_8 := Lib.hid (OX_7.out.below hb)
  have B8 := Lib.hid (B7.out.trans (hb.mono B7.out.size))
  clear hb
  refine Lib.hid ?_
  clear d0 d1 d2
  go_wp2
  go_loopw [8] (fun i wr => ∃ k : Nat, k ≤ r.length ∧ i = .int .i64 k ∧ Below w8.heap.size w8 wr) (fun i _ => r.length - (intOf i).toNat)
  case atStart => exact ⟨0, Nat.zero_le _, rfl, Below.refl _ _⟩
  case round =>
    obtain ⟨k, hk, rfl, hb⟩ := hrel
    have HB := Lib.hid hb
    have BR := Lib.hid (B8.out.trans (hb.mono B8.out.size))
    clear hb
    by_cases hlt : k < r.length
    · have hrl := HRL.out
      have hp := List.getElem?_eq_getElem hlt
      obtain ⟨i, j, x, y, hpe, hxi, hyj, hs1, hs2⟩ := HPS.out _ (List.mem_of_getElem? hp)
      rw [hpe] at hp
      obtain ⟨b1, o1, rfl, hb1, hc1⟩ := OP_8.out (by omega)
      obtain ⟨b2, o2, rfl, hb2, hc2⟩ := OQ_8.out (by omega)
      obtain ⟨p0, p1⟩ := hc1 k _ hp
      obtain ⟨q0, q1⟩ := hc2 k _ hp
      have g0 : wr.cell? ⟨b1, o1 + k * 2, none⟩ = some (.int .i64 (i : Int)) := (HB.out.cell (p := ⟨b1, o1 + k * 2, none⟩) hb1).trans p0
      have g1 : wr.cell? ⟨b1, o1 + k * 2 + 1, none⟩ = some (.int .i64 (j : Int)) := (HB.out.cell (p := ⟨b1, o1 + k * 2 + 1, none⟩) hb1).trans p1
      have g2 : wr.cell? ⟨b2, o2 + k * 2, none⟩ = some (.int .i64 (i : Int)) := (HB.out.cell (p := ⟨b2, o2 + k * 2, none⟩) hb2).trans q0
      have g3 : wr.cell? ⟨b2, o2 + k * 2 + 1, none⟩ = some (.int .i64 (j : Int)) := (HB.out.cell (p := ⟨b2, o2 + k * 2 + 1, none⟩) hb2).trans q1
      have hil := (List.getElem?_eq_some_iff.1 hxi).1
      have hjl := (List.getElem?_eq_some_iff.1 hyj).1
      obtain ⟨bS, oS, s0, k0, v0, l0, a0, c0, rfl, hbS, hx0, x0, x1, x2, x3, hm0⟩ := (HX.out.below BR.out).at_ hil
      obtain ⟨bS', oS', s1, k1, v1, l1, a1, c1, e, _, hy0, y0, y1, y2, y3, hm1⟩ := (HX.out.below BR.out).at_ hjl
      injection e with e
      injection e with e1 e2 e3
      subst e1 e2
      rw [hxi] at hx0
      rw [hyj] at hy0
      injection hx0 with hx0
      injection hy0 with hy0
      subst hx0 hy0
      have M0 := Lib.hid hm0
      have M1 := Lib.hid hm1
      have HS1 := Lib.hid (show shareR s0 k0 v0 s1 k1 v1 l0 l1 = true from hs1)
      have HS2 := Lib.hid (show shareR s1 k1 v1 s0 k0 v0 l1 l0 = true from hs2)
      have HSW := Lib.hid (HS.out wr BR.out)
      have HAW := Lib.hid (HA.out wr BR.out)
      have hn := fun W => neql_ip (i : Int) (j : Int) (i : Int) (j : Int) true (by simp) W
      have hgd := fun x y xs ys W => gneq_ip x y xs ys W
      have hki : (k : Int) < (r.length : Int) := by omega
      have hk0 : (0 : Int) ≤ (k : Int) := by omega
      have hi0 : (0 : Int) ≤ (i : Int) := by omega
      have hj0 : (0 : Int) ≤ (j : Int) := by omega
      have hiS : (i : Int) < (S.length : Int) := by omega
      have hjS : (j : Int) < (S.length : Int) := by omega
      clear p0 p1 q0 q1 hc1 hc2 hp hpe hxi hyj hs1 hs2 hb1 hb2 hbS hm0 hm1 hil hjl e3
      go_wp2_with fail
      have cc := cells12 g0 g1 g2 g3 x0 x1 x2 x3 y0 y1 y2 y3
      first
        | (go_region_held3 (fun w' => w'.cell? ⟨b1, o1 + k * 2, none⟩ = some (.int .i64 (i : Int)) ∧ w'.cell? ⟨b1, o1 + k * 2 + 1, none⟩ = some (.int .i64 (j : Int)) ∧ w'.cell? ⟨b2, o2 + k * 2, none⟩ = some (.int .i64 (i : Int)) ∧ w'.cell? ⟨b2, o2 + k * 2 + 1, none⟩ = some (.int .i64 (j : Int)) ∧ w'.cell? ⟨bS, oS + i * 4, none⟩ = some (.int .i64 s0) ∧ w'.cell? ⟨bS, oS + i * 4 + 1, none⟩ = some (.int .i64 k0) ∧ w'.cell? ⟨bS, oS + i * 4 + 2, none⟩ = some (.int .i64 v0) ∧ w'.cell? ⟨bS, oS + i * 4 + 3, none⟩ = some (.slice a0 l0.length c0) ∧ w'.cell? ⟨bS, oS + j * 4, none⟩ = some (.int .i64 s1) ∧ w'.cell? ⟨bS, oS + j * 4 + 1, none⟩ = some (.int .i64 k1) ∧ w'.cell? ⟨bS, oS + j * 4 + 2, none⟩ = some (.int .i64 v1) ∧ w'.cell? ⟨bS, oS + j * 4 + 3, none⟩ = some (.slice a1 l1.length c1))
          (first | exact zz | exact yy | exact cc)
          (first
          | (go_at_call 19; (with_reducible refine (share_impl s0 k0 v0 s1 k1 v1 a0 a1 c0 c1 l0 l1 true _ HS1.out M0.out.drew M1.out.drew (HA.out _ BR.out.drew) (HS.out _ BR.out.drew)).mono ?_); rintro e wa ⟨rfl, hb⟩; have hq := undrew hb; have BA := Lib.hid hq; have yy := cells12_below cc hq; clear hb hq)
          | (go_at_call 19; (with_reducible refine (share_impl s1 k1 v1 s0 k0 v0 a1 a0 c1 c0 l1 l0 true _ HS2.out (M1.out.below BA.out) (M0.out.below BA.out) (HAW.out.on BA.out) (HSW.out.below BA.out)).mono ?_); rintro e wb ⟨rfl, hb⟩; have BB := Lib.hid (BA.out.trans (hb.mono BA.out.size)); have zz := cells12_below yy hb; clear hb)))
        | fail
      all_goals
        have HBN := Lib.hid (HB.out.trans (BB.out.mono HB.out.size))
        clear cc yy zz hn hgd g0 g1 g2 g3 x0 x1 x2 x3 y0 y1 y2 y3
        go_wp2
        go_roundw
        case rel => exact ⟨k + 1, by omega, by go_num, HBN.out⟩
        case measure => simp [intOf]; omega
    · clear KBP KBQ KBR KLS KOS HB OP_8 OQ_8 HPS HRL
      go_wp2_with (go_at_call 20; ((with_reducible refine (KBI.out _ BR.out).mono ?_); rintro e w9 ⟨ab, cb, qb, rfl, hq, ho, hb⟩; refine Hid.out ?_))
      have IB := Lib.hid (show InBk w9 ab bl by rw [← hq]; exact ho.inBk)
      have B9 := Lib.hid (BR.out.trans (hb.mono BR.out.size))
      have HX9 := Lib.hid (HX.out.below B9.out)
      have HS9 := Lib.hid (HS.out w9 B9.out)
      have HA9 := Lib.hid (HA.out w9 B9.out)
      have hbz := HBL.out.1
      clear hq ho hb
      refine Lib.hid ?_
      go_wp2
      go_loopw [10, 11] (fun nv i wr => ∃ k : Nat, k ≤ bl.length ∧ i = .int .i64 k ∧ nv = .int .i64 ((topB bl k : Nat) : Int) ∧ topB bl k ≤ 12 ∧ Below w9.heap.size w9 wr) (fun _ i _ => bl.length - (intOf i).toNat)
      case atStart => exact ⟨0, Nat.zero_le _, rfl, rfl, Nat.zero_le _, Below.refl _ _⟩
      case round =>
        obtain ⟨k, hk, rfl, rfl, htop, hb⟩ := hrel
        have HB := Lib.hid hb
        clear hb
        by_cases hlt : k < bl.length
        · obtain ⟨bb, ob, rfl, hbb, hcb⟩ := IB.out (by omega)
          have hbk := List.getElem?_eq_getElem hlt
          have hM12 := (HBL.out.2 _ (List.mem_of_getElem? hbk)).1
          have hMem := HBA.out k _ hbk
          have hts := topB_succ hbk
          obtain ⟨aM, cM, p0, p1, pn, pc, pm⟩ := hcb k _ hbk
          generalize bl[k] = B at hbk hM12 hMem hts p0 p1 pc pm
          obtain ⟨xk, M⟩ := B
          replace hM12 : M.length ≤ 12 := hM12
          replace hts : topB bl (k + 1) = max (topB bl k) M.length := hts
          have g0 : wr.cell? ⟨bb, ob + k * 2, none⟩ = some (.string ⟨xk.toArray⟩) := (HB.out.cell (p := ⟨bb, ob + k * 2, none⟩) hbb).trans p0
          have g1 : wr.cell? ⟨bb, ob + k * 2 + 1, none⟩ = some (.slice aM M.length cM) := (HB.out.cell (p := ⟨bb, ob + k * 2 + 1, none⟩) hbb).trans p1
          have HMI := Lib.hid (show InI w9 aM M from pm)
          have HME := Lib.hid (show M = memN (kbR S) xk from hMem)
          have P0 := Lib.hid p0
          have P1 := Lib.hid p1
          clear hbk hMem p0 p1 pn pc pm hcb
          go_wp2
          clear g0 g1
          go_loopw [12] (fun kk wr' => ∃ m : Nat, m ≤ M.length ∧ kk = .int .i64 m ∧ Below w9.heap.size w9 wr') (fun kk _ => M.length - (intOf kk).toNat)
          case atStart => exact ⟨0, Nat.zero_le _, rfl, HB.out⟩
          case round =>
            obtain ⟨m, hm, rfl, hb⟩ := hrel
            have HB3 := Lib.hid hb
            have g0 : wr.cell? ⟨bb, ob + k * 2, none⟩ = some (.string ⟨xk.toArray⟩) := (hb.cell (p := ⟨bb, ob + k * 2, none⟩) hbb).trans P0.out
            have g1 : wr.cell? ⟨bb, ob + k * 2 + 1, none⟩ = some (.slice aM M.length cM) := (hb.cell (p := ⟨bb, ob + k * 2 + 1, none⟩) hbb).trans P1.out
            clear hb
            by_cases hlt2 : m < M.length
            · obtain ⟨bm, om, rfl, hbm, hcm⟩ := HMI.out (by omega)
              have hMm := List.getElem?_eq_getElem hlt2
              obtain ⟨i, y, he, hyi, hky⟩ := mem_at (S := S) (x := xk) (z := M[m]) (by rw [← HME.out]; exact List.getElem_mem hlt2)
              rw [he] at hMm
              have g2 : wr.cell? ⟨bm, om + m, none⟩ = some (.int .i64 (i : Int)) := (HB3.out.cell (p := ⟨bm, om + m, none⟩) hbm).trans (hcm m _ hMm)
              have hil := (List.getElem?_eq_some_iff.1 hyi).1
              obtain ⟨bS, oS, s0, k0, v0, l0, a0, c0, rfl, hbS, hx0, x0, x1, x2, x3, hm0⟩ := (HX9.out.below HB3.out).at_ hil
              rw [hyi] at hx0
              injection hx0 with hx0
              subst hx0
              obtain ⟨Hk, hHk⟩ : ∃ z, bkR ((s0, k0, v0), l0) = z := ⟨_, rfl⟩
              have HKL := Lib.hid (show Hk.length ≤ 163 by rw [← hHk]; exact bk_len _)
              have HKX := Lib.hid (show xk ∈ Hk by rw [← hHk]; exact hky)
              have HKC := Lib.hid (bk_impl s0 k0 v0 a0 c0 l0 Hk wr hHk hm0 (HS9.out.below HB3.out) (HA9.out.on HB3.out))
              have hi0 : (0 : Int) ≤ (i : Int) := by omega
              have hiS : (i : Int) < (S.length : Int) := by omega
              clear he hyi hky hMm hcm hbm hil hbS hm0 hHk
              go_wp2_with (go_at_call 21; ((with_reducible refine HKC.out.mono ?_); rintro e wh ⟨ah, ch, rfl, ho, hb⟩; refine Hid.out ?_))
              have IH := Lib.hid ho.inS
              have HBH := Lib.hid (HB3.out.trans (hb.mono HB3.out.size))
              have hkl := HKL.out
              clear ho hb g0 g1 g2 x0 x1 x2 x3
              refine Lib.hid ?_
              go_wp2
              go_loopw [14, 16] (fun fv jv wq => ∃ t : Nat, t ≤ Hk.length ∧ jv = .int .i64 t ∧ fv = .bool (decide (xk ∈ Hk.take t)) ∧ Below wh.heap.size wh wq) (fun _ jv _ => Hk.length - (intOf jv).toNat)
              case atStart => exact ⟨0, Nat.zero_le _, rfl, by simp, Below.refl _ _⟩
              case round =>
                obtain ⟨t, ht, rfl, rfl, hb⟩ := hrel
                have HBQ := Lib.hid hb
                have HB4 := Lib.hid (HBH.out.trans (hb.mono HBH.out.size))
                clear hb
                obtain ⟨f, hf⟩ : ∃ f, decide (xk ∈ Hk.take t) = f := ⟨_, rfl⟩
                rw [hf]
                by_cases hlt3 : t < Hk.length
                · obtain ⟨bh, oh, rfl, hbh, hch⟩ := IH.out (by omega)
                  obtain ⟨u, su, hu1, hu2, hu3, hu4⟩ := str_at hlt3
                  have hts3 : Hk.take (t + 1) = Hk.take t ++ [u] := take_snoc' hu1
                  have HT3 := Lib.hid (show ∀ b : Bool, (decide (xk ∈ Hk.take (t + 1)) = b) ↔ (decide (xk ∈ Hk.take t ∨ xk = u) = b) from fun b => by rw [hts3]; simp)
                  have g0 : wr.cell? ⟨bb, ob + k * 2, none⟩ = some (.string ⟨xk.toArray⟩) := (HB4.out.cell (p := ⟨bb, ob + k * 2, none⟩) hbb).trans P0.out
                  have g1 : wr.cell? ⟨bh, oh + t, none⟩ = some (.string su) := by rw [HBQ.out.cell (p := ⟨bh, oh + t, none⟩) hbh, ← hu3]; exact hch t u hu1
                  have HF := Lib.hid hf
                  have HU2 := Lib.hid hu2
                  have hkk : (k : Int) < (bl.length : Int) := by omega
                  have htk : (t : Int) < (Hk.length : Int) := by omega
                  clear hf hu1 hu2 hu3 hu4 hts3 hch hbh
                  cases f
                  · by_cases hux : u = xk
                    · have hsu : su = ⟨xk.toArray⟩ := by
                        have h := HU2.out
                        rw [hux] at h
                        cases su
                        simp at h
                        simp [← h]
                      subst hsu
                      have HUX := Lib.hid hux
                      clear hux
                      go_wp2_with fail
                      go_quiet (fail)
                      go_wp2
                      go_roundw
                      case rel => exact ⟨t + 1, by omega, by go_num, by rw [(HT3.out true).2 (decide_eq_true (.inr HUX.out.symm))], HBQ.out.trans (quiet_below _ _ _)⟩
                      case measure => simp [intOf]; omega
                    · have hne : (su.toList == xk) = false := by rw [ByteArray.toList_eq, HU2.out]; simpa using hux
                      have HUX := Lib.hid hux
                      clear hux
                      go_wp2_with fail
                      go_quiet (fail)
                      go_wp2
                      go_roundw
                      case rel => exact ⟨t + 1, by omega, by go_num, by rw [(HT3.out false).2 (decide_eq_false (by rintro (h | h); exact absurd (decide_eq_true h) (by rw [HF.out]; simp); exact HUX.out h.symm))], HBQ.out.trans (quiet_below _ _ _)⟩
                      case measure => simp [intOf]; omega
                  · clear g0 g1
                    go_wp2_with fail
                    go_quiet (fail)
                    go_wp2
                    go_roundw
                    case rel => exact ⟨t + 1, by omega, by go_num, by rw [(HT3.out true).2 (decide_eq_true (.inl (of_decide_eq_true HF.out)))], HBQ.out.trans (quiet_below _ _ _)⟩
                    case measure => simp [intOf]; omega
                · obtain rfl : f = true := by rw [← hf, show t = Hk.length by omega, List.take_length]; exact decide_eq_true HKX.out
                  clear hf
                  go_wp2
                  go_roundw
                  case rel => exact ⟨m + 1, by omega, by go_num, HB4.out⟩
                  case measure => simp [intOf]; omega
            · go_wp2
              go_roundw
              case rel => exact ⟨k + 1, by omega, by go_num, by rw [hts]; congr 1; omega, by rw [hts]; omega, HB3.out⟩
              case measure => simp [intOf]; omega
        · obtain rfl : k = bl.length := by omega
          have HBE := Lib.hid (B9.out.trans (HB.out.mono B9.out.size))
          rw [HTOP.out]
          have d1 : ((lb : Int) == lb) = true := by simp
          have d2 : ((bl.length : Int) == (bl.length : Int)) = true := by simp
          clear HX9 HS9 HA9 IB HB htop
          by_cases hml : most < lb
          case' pos => have hol : 0 < os.length := HOS.out.2 hml
          case' neg => have hol : ¬ 0 < os.length := fun h => hml (HOS.out.1 h)
          all_goals
            go_wp2_with (go_at_call 14; ((with_reducible refine (KLI.out _ HBE.out).mono ?_); rintro e wx ⟨rfl, hb⟩; refine Hid.out ?_))
            have HBX := Lib.hid (HBE.out.trans (hb.mono HBE.out.size))
            clear hb
            refine Lib.hid ?_
            go_wp2_with (go_at_call 22; ((with_reducible refine (KBS.out _ HBX.out).mono ?_); rintro e wy ⟨ay, cy, qy, rfl, hq, ho, hb⟩; refine Hid.out ?_))
            have HBY := Lib.hid (HBX.out.trans (hb.mono HBX.out.size))
            clear hq ho hb
            refine Lib.hid ?_
            go_wp2_with (go_at_call 17; ((with_reducible refine (KOI.out _ HBY.out).mono ?_); rintro e wz ⟨az2, cz2, rfl, ho, hb⟩; refine Hid.out ?_))
            have HBZ := Lib.hid (HBY.out.trans (hb.mono HBY.out.size))
            clear ho hb
            refine Lib.hid ?_
            go_wp2
            go_ret
            refine ⟨?_, BD.out.trans (HBZ.out.mono BD.out.size)⟩
            first
              | rfl
              | (show Ending.returned (.bool (!decide (most < lb))) = _; rw [decide_eq_false (show ¬ most < lb by omega)]; rfl)


set_option maxRecDepth 100000 in
theorem FnBlocks_walk (A : Option Addr) (len cap : Nat) (zs : List Int) (w : World) (h : IsRow .u8 w A len cap zs) (ht : TabAt w) (hT : SpT w) :
    Calls Tryz.prog 3 #[.slice A len cap] w fun e w' => e = .returned (.bool true) ∧ Below w.heap.size w w' := by
  by_cases hl : 1048576 < (len : Int)
  · go_enter Tryz.func3, Tryz.ntmps3
    go_wp2_with (go_at_call 10; (refine (big_yes A len cap _ hl).mono ?_); rintro e w0 ⟨rfl, rfl⟩)
    go_ret
    exact ⟨rfl, Below.refl _ _⟩
  · exact FnBlocks_core A len cap w (codeAt_of h (by omega)) ht hT

end Go.Proofs.YtebddnjccmaimaaGreatDoor
