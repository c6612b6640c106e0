/-
  What impl.MonotoneViolation and impl.IsMonotone answer. By an AI agent.
-/
import Derived.Test.YtpldjihajclblaaLevI
import Derived.Test.YtpldjihajclblaaRaiI
import Derived.Test.YtpldjihajclblaaMvS
import Derived.Test.YtpldjihajclblaaRuE
namespace Go.Proofs.Ytpldjihajclblaa
open Go.RowKit
set_option linter.unusedVariables false
set_option linter.unusedSimpArgs false
set_option linter.unnecessarySimpa false

/-- what a decision answers, at any vector -/
theorem mvdec_all {w : World} {v : Value} {R : List (List TS)} (h : DecR w v R) :
    ∃ g, v = closV 40 g ∧ ∀ (l : List Int), l.length = 6 → ∀ (a : Option Addr) (cap : Nat) (z : Int) (W : World), Below w.heap.size w W → InI W a l → idxR R l = z → Calls Try.prog 40 #[.slice a l.length cap, .pointer (some ⟨g, 0, none⟩)] W fun e w' => e = .returned (.int .i64 z) ∧ Below W.heap.size W w' := by
  obtain ⟨g, lo, a2, c2, hv, hg, hc, hi, hq⟩ := h
  exact ⟨g, hv, fun l h6 a cap z W hW hin hz => ans_any g lo a2 c2 R a cap l z W h6 hin (Nat.lt_of_lt_of_le hg hW.size) ((hW.cell (p := ⟨g, 0, none⟩) hg).trans hc) (hi.below hW) hq hz⟩
theorem rhB_idx {R : List (List TS)} {f : List Int} {z : Int} (hv : vsB R = true) (hf : fvB f = true) (hz : idxR R f = z) : rhB R f = decide (0 ≤ z) := rhB_of (by rw [fr_ok hv hf, hz])
theorem idx_small {R : List (List TS)} {f : List Int} {z : Int} (hR : R.length ≤ 4000000) (hz : idxR R f = z) : -1 ≤ z ∧ z ≤ 4000000 := by
  rw [← hz]
  unfold idxR
  split <;> omega
theorem break_none {R : List (List TS)} {f : List Int} {n : Nat} (h : raiseV f n (levR R n) = none) : breakV R f n = none := by unfold breakV; rw [h]; rfl
theorem break_is {R : List (List TS)} {f u : List Int} {n : Nat} (h : raiseV f n (levR R n) = some u) : breakV R f n = if rhB R u = true then none else some u := by
  unfold breakV
  rw [h]
  cases hr : rhB R u <;> simp [Option.filter, hr]

set_option maxRecDepth 100000 in
set_option maxHeartbeats 8000000 in
theorem mv_impl (a : Option Addr) (c : Nat) (R : List (List TS)) (A B : List Int) (s : Bool) (w : World) (h : SmRu w a R c) (ho : VioOut R A B s) :
    Calls Try.prog 6 #[.agg #[.slice a R.length c]] w (GivesV w A B s) := by
  obtain ⟨w1, hw1⟩ : ∃ w1, w.alloc (.cells #[.slice a R.length c] 26) = w1 := ⟨_, rfl⟩
  have HB1 := Lib.hid (show Below w.heap.size w w1 by rw [← hw1]; exact (Below.refl w.heap.size w).alloc (Nat.le_refl _) _)
  have HBX := Lib.hid (show BlkV w1 w.heap.size 26 #[.slice a R.length c] by rw [← hw1]; exact BlkV.new _ _ _)
  have HS := Lib.hid (h.below HB1.out)
  have HO := Lib.hid ho
  have HRL := Lib.hid h.len
  have q0 := HBX.out.one0
  obtain ⟨bv, hbv⟩ : ∃ b, vsB R = b := ⟨_, rfl⟩
  have HV := Lib.hid hbv
  have HCV := Lib.hid (vs_impl a c R bv w1 hbv HS.out)
  have HWE := Lib.hid hw1
  clear h ho hbv hw1
  cases bv
  · obtain ⟨rfl, rfl, rfl⟩ := vio_bad HO.out HV.out
    go_enter Try.func6, Try.ntmps6
    go_wp2_with (go_at_call 18; rw [HWE.out]; ((with_reducible refine HCV.out.mono ?_); rintro e w2 ⟨rfl, hb2⟩; have HB2 := Lib.hid (HB1.out.trans (hb2.mono HB1.out.size)); clear hb2))
    go_ret3
    exact ⟨none, 0, none, 0, rfl, ⟨OwnI.nil _ _, OwnI.nil _ _, fun k hk => by simp [Value.ownBlock] at hk⟩, HB2.out⟩
  · have HCG := Lib.hid (fun (al : Option Addr) (cl : Nat) (W : World) (hW : InII W al (levs R)) => grd_impl al cl R W hW HV.out)
    have HCL := Lib.hid (fun (W : World) (hW : Below w1.heap.size w1 W) => lev_impl a c R W (HS.out.below hW) HV.out)
    have HCD := Lib.hid (fun (W : World) (hW : Below w1.heap.size w1 W) => dec_impl a c R W (HS.out.below hW))
    obtain ⟨G, hG⟩ : ∃ G, gridV (levs R) = G := ⟨_, rfl⟩
    rw [hG] at HCG
    have HG := Lib.hid hG
    have HGL := Lib.hid (show G.length ≤ 1000000 by rw [← hG, ← gridT_all]; exact gridT_le HV.out (Nat.le_refl _))
    clear hG
    go_enter Try.func6, Try.ntmps6
    go_wp2_with (go_at_call 18; rw [HWE.out]; ((with_reducible refine HCV.out.mono ?_); rintro e w2 ⟨rfl, hb2⟩; have z0 := (HBX.out.below hb2).one0; have HB2 := Lib.hid hb2; clear hb2))
    have HB2d := Lib.hid HB2.out.drew
    have z0d := (HBX.out.below HB2d.out).one0
    go_region_held3 (fun w' => w'.cell? ⟨w.heap.size, 0, none⟩ = some (.slice a R.length c))
      (first | with_reducible exact zE | with_reducible exact zA | with_reducible exact z0d | exact z0d)
      (first
        | (go_at_call 19; (with_reducible refine (HCL.out _ HBA.out).mono ?_); rintro e wE ⟨aL, cL, vsL, rfl, hrl, hb⟩; have HBE := Lib.hid (HBA.out.trans (hb.mono HBA.out.size)); have zE := (HBX.out.below HBE.out).one0; have HIL := Lib.hid hrl.inII; have HDC := Lib.hid (HDA.out.below hb); clear hrl hb)
        | (go_at_call 19; (with_reducible refine (HCL.out _ HB2d.out).mono ?_); rintro e wA ⟨aL, cL, vsL, rfl, hrl, hb⟩; have HBA := Lib.hid (HB2d.out.trans (hb.mono HB2d.out.size)); have zA := (HBX.out.below HBA.out).one0; have HIA := Lib.hid hrl.inII; clear hrl hb)
        | (go_at_call 20; (with_reducible refine (HCD.out _ HBA.out).mono ?_); rintro e wE ⟨v, rfl, hd, hb⟩; have HBE := Lib.hid (HBA.out.trans (hb.mono HBA.out.size)); have zE := (HBX.out.below HBE.out).one0; have HIL := Lib.hid (HIA.out.below hb); have HDC := Lib.hid hd; clear hd hb)
        | (go_at_call 20; (with_reducible refine (HCD.out _ HB2d.out).mono ?_); rintro e wA ⟨v, rfl, hd, hb⟩; have HBA := Lib.hid (HB2d.out.trans (hb.mono HB2d.out.size)); have zA := (HBX.out.below HBA.out).one0; have HDA := Lib.hid hd; clear hd hb))
    all_goals
      simp only [levs_len]
      obtain ⟨gD, rfl, hask⟩ := mvdec_all HDC.out
      have HASK := Lib.hid hask
      clear hask
      go_wp2_with (go_at_call 21; ((with_reducible refine (HCG.out _ _ _ HIL.out).mono ?_); rintro e wG ⟨aG, cG, vsG, rfl, hrows, hb3⟩; have HROWS := Lib.hid hrows; have HBG := Lib.hid hb3; have HSZ := Lib.hid (show w.heap.size ≤ wE.heap.size from Nat.le_trans HB1.out.size HBE.out.size); clear hrows hb3; refine Hid.out ?_))
      refine Lib.hid ?_
      obtain ⟨bL, rfl, hbL, hcL⟩ := HIL.out (by rw [levs_len]; decide)
      have HLC := Lib.hid (fun (n : Nat) (hn : n < 6) (W : World) (hW : Below wE.heap.size wE W) => (show ∃ a' c', W.cell? ⟨bL, n, none⟩ = some (.slice a' (levR R n).length c') ∧ InI W a' (levR R n) by
        obtain ⟨a', c', h1, _, _, h4⟩ := hcL n _ (levs_at R hn)
        exact ⟨a', c', (hW.cell (p := ⟨bL, n, none⟩) hbL).trans h1, h4.below hW⟩))
      clear hbL hcL
      have hgl := HGL.out
      go_wp2
      go_loopw [23] (fun i wr => ∃ k : Nat, k ≤ G.length ∧ i = .int .i64 k ∧ noneV (vioV R) G k ∧ Below wG.heap.size wG wr) (fun i _ => G.length - (intOf i).toNat)
      case atStart => exact ⟨0, Nat.zero_le _, rfl, noneV_zero _ _, Below.refl _ _⟩
      case round =>
        obtain ⟨k, hk, rfl, hno, hb⟩ := hrel
        have HNO := Lib.hid hno
        obtain ⟨wk, rfl⟩ : ∃ wk, wk = wr := ⟨_, rfl⟩
        have HBK := Lib.hid hb
        clear hno hb
        by_cases hkt : k < G.length
        · obtain ⟨f, hf⟩ : ∃ f, G[k]? = some f := ⟨_, List.getElem?_eq_getElem hkt⟩
          obtain ⟨bG, af, cf, rfl, hbG, hcf, hof⟩ := HROWS.out.at_ hf
          have hgm := grid_mem (R := R) (f := f) (by rw [HG.out]; exact List.mem_of_getElem? hf)
          have HFV := Lib.hid (fv_grid (R := R) (f := f) HV.out (by rw [HG.out]; exact List.mem_of_getElem? hf))
          have HF := Lib.hid hf
          have HOF := Lib.hid hof
          have HF6 := Lib.hid hgm.1
          have HFM := Lib.hid hgm.2
          have y0 := (HBK.out.cell (p := ⟨bG, k, none⟩) hbG).trans hcf
          obtain ⟨z, hz⟩ : ∃ z, idxR R f = z := ⟨_, rfl⟩
          have hzr := idx_small HRL.out hz
          have HD := Lib.hid (rhB_idx HV.out HFV.out hz)
          have HC := Lib.hid (HASK.out f HF6.out af cf z wk (HBG.out.trans (HBK.out.mono HBG.out.size)) (HOF.out.inI.below HBK.out) hz)
          clear hf hbG hcf hof hgm hz
          by_cases hz0 : z < 0
          · have HD0 := Lib.hid (show rhB R f = false by rw [HD.out]; simp; omega)
            go_wp2_with (go_at_call 40; ((with_reducible refine HC.out.mono ?_); rintro e w3 ⟨rfl, hb3⟩; have HB3 := Lib.hid (HBK.out.trans (hb3.mono HBK.out.size)); clear hb3))
            go_roundw
            case rel => exact ⟨k + 1, by omega, by go_num, noneV_succ HNO.out HF.out (vioV_no HD0.out), HB3.out⟩
            case measure => simp [intOf]; omega
          · have HD1 := Lib.hid (show rhB R f = true by rw [HD.out]; simp; omega)
            go_wp2_with (go_at_call 40; ((with_reducible refine HC.out.mono ?_); rintro e w3 ⟨rfl, hb3⟩; have HB3 := Lib.hid (HBK.out.trans (hb3.mono HBK.out.size)); clear hb3))
            go_loopw [33] (fun i wr => ∃ n : Nat, n ≤ 6 ∧ i = .int .i64 n ∧ noneV (breakV R f) (List.range 6) n ∧ Below wG.heap.size wG wr) (fun i _ => 6 - (intOf i).toNat)
            case atStart => exact ⟨0, Nat.zero_le _, rfl, noneV_zero _ _, HB3.out⟩
            case round =>
              obtain ⟨n, hn, rfl, hnb, hb⟩ := hrel
              have HNB := Lib.hid hnb
              obtain ⟨wn, rfl⟩ : ∃ wn, wn = wr := ⟨_, rfl⟩
              have HBN := Lib.hid hb
              clear hnb hb
              by_cases hn6 : n < 6
              · have HBEN := Lib.hid (HBG.out.trans (HBN.out.mono HBG.out.size))
                obtain ⟨al, cl, l0, hil⟩ := HLC.out n hn6 wn HBEN.out
                obtain ⟨l, hl⟩ : ∃ l, levR R (n : Int) = l := ⟨_, rfl⟩
                rw [hl] at l0 hil
                have HL := Lib.hid hl
                have HIL2 := Lib.hid hil
                have hll : l.length ≤ 10 := by rw [← hl]; exact levR_len HV.out _
                have HM := Lib.hid (show f.getD n 0 ∈ l by rw [← hl]; exact HFM.out n hn6)
                have HIF := Lib.hid (HOF.out.inI.below HBN.out)
                have hni : (n : Int) < 6 := by omega
                clear hl hil
                cases hr : raiseV f n l with
                | none =>
                  have HR := Lib.hid hr
                  have HCR := Lib.hid (rai_no af cf f n al cl l wn HIF.out HF6.out hn6 HIL2.out HM.out hll hr)
                  clear hr
                  go_wp2_with (go_at_call 22; ((with_reducible refine HCR.out.mono ?_); rintro e w5 ⟨rfl, rfl⟩))
                  go_roundw
                  case rel => exact ⟨n + 1, by omega, by go_num, noneV_succ HNB.out (range_at hn6) (break_none (by rw [HL.out]; exact HR.out)), HBN.out⟩
                  case measure => simp [intOf]; omega
                | some u =>
                  have HR := Lib.hid (show raiseV f n (levR R n) = some u by rw [HL.out]; exact hr)
                  have HCR := Lib.hid (rai_yes af cf f n al cl l u wn HIF.out HF6.out hn6 HIL2.out HM.out hll hr)
                  have hu := raise_some hr
                  have HU6 := Lib.hid (show u.length = f.length by rw [hu.2, List.length_set])
                  have HUV := Lib.hid (show fvB u = true by rw [hu.2]; exact fv_set HV.out HFV.out (m := n) (by rw [HL.out, List.getD_eq_getElem?_getD, List.getElem?_eq_getElem hu.1]; exact List.getElem_mem _))
                  obtain ⟨z2, hz2⟩ : ∃ z, idxR R u = z := ⟨_, rfl⟩
                  have hzr2 := idx_small HRL.out hz2
                  have HD2 := Lib.hid (rhB_idx HV.out HUV.out hz2)
                  have HZ2 := Lib.hid hz2
                  clear hr hu hz2
                  have HASKU := Lib.hid (show ∀ (a : Option Addr) (cap : Nat) (W : World), Below wE.heap.size wE W → InI W a u → Calls Try.prog 40 #[.slice a f.length cap, .pointer (some ⟨gD, 0, none⟩)] W (fun e w' => e = .returned (.int .i64 z2) ∧ Below W.heap.size W w') from fun a cap W hW hin => by
                    have h := HASK.out u (by rw [HU6.out, HF6.out]) a cap z2 W hW hin HZ2.out
                    rwa [HU6.out] at h)
                  by_cases hz3 : z2 < 0
                  · have HBRK := Lib.hid (show breakV R f n = some u by rw [break_is HR.out, HD2.out, if_neg (by simp; omega)])
                    obtain ⟨rfl, rfl, rfl⟩ := vio_yes HO.out (vio_at HV.out HG.out HNO.out HF.out (vioV_yes HD1.out HNB.out hn6 HBRK.out))
                    go_wp2_with (first
                      | (go_at_call 22; ((with_reducible refine HCR.out.mono ?_); rintro e w5 ⟨gU, cU, rfl, hou, hb5⟩; have HOU := Lib.hid hou; have HB5 := Lib.hid hb5; have HC5 := Lib.hid (HASKU.out _ cU w5 (HBEN.out.trans (hb5.mono HBEN.out.size)) hou.inI); clear hou hb5))
                      | (go_at_call 40; ((with_reducible refine HC5.out.mono ?_); rintro e w6 ⟨rfl, hb6⟩; have HB6 := Lib.hid hb6; clear hb6)))
                    go_ret3
                    have hB6 := HBN.out.trans ((HB5.out.trans (HB6.out.mono HB5.out.size)).mono HBN.out.size)
                    refine ⟨af, cf, some ⟨gU, 0, none⟩, cU, by rw [HU6.out]; rfl, ⟨(HOF.out.below hB6).mono HSZ.out, ?_, fun q hq e => ?_⟩, HB1.out.trans ((HBE.out.trans ((HBG.out.trans (hB6.mono HBG.out.size)).mono HBE.out.size)).mono HB1.out.size)⟩
                    · rw [HU6.out]
                      exact (HOU.out.below HB6.out).mono (by have := HSZ.out; have := HBEN.out.size; omega)
                    · have h1 := (World.ownsRow.lt HOF.out q hq).2
                      have h2 := (World.ownsRow.lt HOU.out gU rfl).1
                      have h3 := HBN.out.size
                      simp [Value.ownBlock] at e
                      omega
                  · have HBRK := Lib.hid (show breakV R f n = none by rw [break_is HR.out, HD2.out, if_pos (by simp; omega)])
                    go_wp2_with (first
                      | (go_at_call 22; ((with_reducible refine HCR.out.mono ?_); rintro e w5 ⟨gU, cU, rfl, hou, hb5⟩; have HOU := Lib.hid hou; have HB5 := Lib.hid hb5; have HC5 := Lib.hid (HASKU.out _ cU w5 (HBEN.out.trans (hb5.mono HBEN.out.size)) hou.inI); clear hou hb5))
                      | (go_at_call 40; ((with_reducible refine HC5.out.mono ?_); rintro e w6 ⟨rfl, hb6⟩; have HB6 := Lib.hid hb6; clear hb6)))
                    go_roundw
                    case rel => exact ⟨n + 1, by omega, by go_num, noneV_succ HNB.out (range_at hn6) HBRK.out, HBN.out.trans ((HB5.out.trans (HB6.out.mono HB5.out.size)).mono HBN.out.size)⟩
                    case measure => simp [intOf]; omega
              · obtain rfl : n = 6 := by omega
                go_wp2
                go_roundw
                case rel => exact ⟨k + 1, by omega, by go_num, noneV_succ HNO.out HF.out (vioV_none HNB.out), HBN.out⟩
                case measure => simp [intOf]; omega
        · obtain rfl : k = G.length := by omega
          obtain ⟨rfl, rfl, rfl⟩ := vio_none HO.out (vio_end HV.out HG.out HNO.out)
          go_wp2
          go_ret3
          exact ⟨none, 0, none, 0, rfl, ⟨OwnI.nil _ _, OwnI.nil _ _, fun k hk => by simp [Value.ownBlock] at hk⟩, HB1.out.trans ((HBE.out.trans ((HBG.out.trans (HBK.out.mono HBG.out.size)).mono HBE.out.size)).mono HB1.out.size)⟩

end Go.Proofs.Ytpldjihajclblaa
