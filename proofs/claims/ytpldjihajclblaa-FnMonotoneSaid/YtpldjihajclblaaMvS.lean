/-
  What spec.MonotoneViolation and spec.IsMonotone answer. By an AI agent.
-/
import Derived.Test.YtpldjihajclblaaMonH
import Derived.Test.YtpldjihajclblaaGrdS
import Derived.Test.YtpldjihajclblaaRuG
import Derived.Deep.RegionWith
namespace Go.Proofs.Ytpldjihajclblaa
open Go.RowKit
set_option linter.unusedVariables false

theorem wrap_small {x : Int} (h1 : -9223372036854775808 ≤ x) (h2 : x ≤ 9223372036854775807) : IntKind.i64.wrap x = x := IntWalk.i64_in _ (by omega)
theorem vio_at {R : List (List TS)} {f u : List Int} {k : Nat} {G : List (List Int)} (hv : vsB R = true) (hG : gridV (levs R) = G) (hn : noneV (vioV R) G k) (hf : G[k]? = some f) (hu : vioV R f = some (f, u)) : vioR R = some (f, u) := by
  unfold vioR
  rw [if_pos hv, hG, findSome_at hn hf hu]
theorem vio_end {R : List (List TS)} {G : List (List Int)} (hv : vsB R = true) (hG : gridV (levs R) = G) (hn : noneV (vioV R) G G.length) : vioR R = none := by
  unfold vioR
  rw [if_pos hv, hG, findSome_none hn]

set_option maxRecDepth 100000 in
set_option maxHeartbeats 8000000 in
theorem mv_spec (a : Option Addr) (c : Nat) (R : List (List TS)) (A B : List Int) (s : Bool) (w : World) (h : SmRu w a R c) (ho : VioOut R A B s) :
    Calls Try.prog 7 #[.agg #[.slice a R.length c]] w (GivesV w A B s) := by
  obtain ⟨w1, hw1⟩ : ∃ w1, w.alloc (.cells #[.slice a R.length c] 26) = w1 := ⟨_, rfl⟩
  have HB1 := Lib.hid (show Below w.heap.size w w1 by rw [← hw1]; exact (Below.refl w.heap.size w).alloc (Nat.le_refl _) _)
  have HBX := Lib.hid (show BlkV w1 w.heap.size 26 #[.slice a R.length c] by rw [← hw1]; exact BlkV.new _ _ _)
  have HS := Lib.hid (h.below HB1.out)
  have HO := Lib.hid ho
  have q0 := HBX.out.one0
  obtain ⟨bv, hbv⟩ : ∃ b, vsB R = b := ⟨_, rfl⟩
  have HV := Lib.hid hbv
  have HCV := Lib.hid (vs_spec a c R bv w1 hbv HS.out)
  clear h ho hbv
  cases bv
  · obtain ⟨rfl, rfl, rfl⟩ := vio_bad HO.out HV.out
    go_enter Try.func7, Try.ntmps7
    go_wp2_with (go_at_call 10; ((with_reducible refine HCV.out.mono ?_); rintro e w2 ⟨rfl, hb2⟩; have HB2 := Lib.hid (HB1.out.trans (hb2.mono HB1.out.size)); clear hb2))
    go_ret3
    exact ⟨_, _, _, _, rfl, two_nil w2 w.heap.size HB2.out.size, (HB2.out.alloc HB2.out.size _).alloc (by have := HB2.out.size; simp; omega) _⟩
  · have HCG := Lib.hid (fun (W : World) (hW : Below w1.heap.size w1 W) => grd_spec a c R W (HS.out.below hW) HV.out)
    obtain ⟨G, hG⟩ : ∃ G, gridV (levs R) = G := ⟨_, rfl⟩
    rw [hG] at HCG
    have HG := Lib.hid hG
    have HGL := Lib.hid (show G.length ≤ 1000000 by rw [← hG, ← gridT_all]; exact gridT_le HV.out (Nat.le_refl _))
    clear hG
    go_enter Try.func7, Try.ntmps7
    go_wp2_with (first
      | (go_at_call 10; ((with_reducible refine HCV.out.mono ?_); rintro e w2 ⟨rfl, hb2⟩; have z0 := (HBX.out.below hb2).one0; have HB2 := Lib.hid hb2; clear hb2))
      | (go_at_call 23; ((with_reducible refine (HCG.out _ HB2.out).mono ?_); rintro e wG ⟨aG, cG, vsG, rfl, hrows, hb3⟩; have HROWS := Lib.hid hrows; have HBG := Lib.hid (HB2.out.trans (hb3.mono HB2.out.size)); have HSZ := Lib.hid (show w.heap.size ≤ w2.heap.size from Nat.le_trans HB1.out.size HB2.out.size); clear hrows hb3; refine Hid.out ?_)))
    refine Lib.hid ?_
    clear z0 q0
    have hgl := HGL.out
    go_wp2
    go_loopw [6] (fun i wr => ∃ k : Nat, k ≤ G.length ∧ i = .int .i64 k ∧ noneV (vioV R) G k ∧ Below wG.heap.size wG wr) (fun i _ => G.length - (intOf i).toNat)
    case atStart => exact ⟨0, Nat.zero_le _, rfl, noneV_zero _ _, Below.refl _ _⟩
    case round =>
      obtain ⟨k, hk, rfl, hno, hb⟩ := hrel
      have HNO := Lib.hid hno
      obtain ⟨wk, rfl⟩ : ∃ wk, wk = wr := ⟨_, rfl⟩
      have HBK := Lib.hid hb
      have z0 := (HBX.out.below (HBG.out.trans (hb.mono HBG.out.size))).one0
      clear hno hb
      by_cases hkt : k < G.length
      · obtain ⟨f, hf⟩ : ∃ f, G[k]? = some f := ⟨_, List.getElem?_eq_getElem hkt⟩
        obtain ⟨bG, af, cf, rfl, hbG, hcf, hof⟩ := HROWS.out.at_ hf
        have hgm := grid_mem (R := R) (f := f) (by rw [HG.out]; exact List.mem_of_getElem? hf)
        have HF := Lib.hid hf
        have HCF := Lib.hid (fun (W : World) (hW : Below wG.heap.size wG W) => (hW.cell (p := ⟨bG, k, none⟩) hbG).trans hcf)
        have HOF := Lib.hid hof
        have HF6 := Lib.hid hgm.1
        have HFM := Lib.hid hgm.2
        have y0 := HCF.out wk HBK.out
        obtain ⟨d, hd⟩ : ∃ d, rhB R f = d := ⟨_, rfl⟩
        have HD := Lib.hid hd
        have HC := Lib.hid (fun (W : World) (hW : Below wk.heap.size wk W) => rhs_spec a c R af cf f d W ((HS.out.below HBG.out).below (HBK.out.trans (hW.mono HBK.out.size))) (by have := HF6.out; omega) ((HOF.out.inI.below HBK.out).below hW) hd)
        clear hf hbG hcf hof hgm hd
        go_wp2
        go_region_with (go_at_call 15; (with_reducible refine (HC.out _ (Below.refl _ _).drew).mono ?_); rintro e w3 ⟨rfl, hb3⟩; have HB3 := Lib.hid (HBK.out.trans ((undrew hb3).mono HBK.out.size)); clear hb3)
        all_goals clear z0 y0
        all_goals
          cases d
          · go_wp2
            go_roundw
            case rel => exact ⟨k + 1, by omega, by go_num, noneV_succ HNO.out HF.out (vioV_no HD.out), HB3.out⟩
            case measure => simp [intOf]; omega
          · go_wp2
            go_loopw [7] (fun i wr => ∃ n : Nat, n ≤ 6 ∧ i = .int .i64 n ∧ noneV (breakV R f) (List.range 6) n ∧ Below wG.heap.size wG wr) (fun i _ => 6 - (intOf i).toNat)
            case atStart => exact ⟨0, Nat.zero_le _, rfl, noneV_zero _ _, HB3.out⟩
            case round =>
              obtain ⟨n, hn, rfl, hnb, hb⟩ := hrel
              have HNB := Lib.hid hnb
              obtain ⟨wn, rfl⟩ : ∃ wn, wn = wr := ⟨_, rfl⟩
              have HBN := Lib.hid hb
              have z1 := (HBX.out.below (HBG.out.trans (hb.mono HBG.out.size))).one0
              clear hnb hb
              by_cases hn6 : n < 6
              · obtain ⟨l, hl⟩ : ∃ l, levR R (n : Int) = l := ⟨_, rfl⟩
                have HL := Lib.hid hl
                have hll : l.length ≤ 10 := by rw [← hl]; exact levR_len HV.out _
                have HCL := Lib.hid (lev_spec a c R n l wn ((HS.out.below HBG.out).below HBN.out) (by have := flat_le HV.out; omega) hl)
                clear hl
                go_wp2_with (go_at_call 24; ((with_reducible refine HCL.out.mono ?_); rintro e wL ⟨al, cl, rfl, hol, hbl⟩; have HLI := Lib.hid hol.inI; have HBL := Lib.hid (HBN.out.trans (hbl.mono HBN.out.size)); clear hol hbl; refine Hid.out ?_))
                refine Lib.hid ?_
                clear z1
                have hl1 : 1 ≤ l.length := by rw [← HL.out]; exact levF_pos _ _
                go_wp2
                go_loopw [9] (fun i wr => ∃ j : Nat, j + 1 ≤ l.length ∧ i = .int .i64 j ∧ ((∃ u, breakV R f n = some u) → j ≤ l.idxOf (f.getD n 0)) ∧ Below wG.heap.size wG wr ∧ Below wL.heap.size wL wr) (fun i _ => l.length - (intOf i).toNat)
                case atStart => exact ⟨0, by omega, rfl, fun _ => Nat.zero_le _, HBL.out, Below.refl _ _⟩
                case round =>
                  obtain ⟨j, hj, rfl, hjx, hb, hbL⟩ := hrel
                  have HJX := Lib.hid hjx
                  have HB := Lib.hid hb
                  have HBLr := Lib.hid hbL
                  clear hjx hb hbL
                  by_cases hjt : j + 1 < l.length
                  · obtain ⟨bl, ol, rfl, hblb, hcl⟩ := (HLI.out.below HBLr.out) (by omega)
                    obtain ⟨x, hx⟩ : ∃ x, l[j]? = some x := ⟨_, List.getElem?_eq_getElem (by omega)⟩
                    obtain ⟨x', hx'⟩ : ∃ x', l[j + 1]? = some x' := ⟨_, List.getElem?_eq_getElem hjt⟩
                    have x0 : wr.cell? ⟨bl, ol + j, none⟩ = some (.int .i64 x) := hcl j x hx
                    have HX1 := Lib.hid (fun (W : World) (hW : Below wr.heap.size wr W) => (hW.cell (p := ⟨bl, ol + (j + 1), none⟩) hblb).trans (hcl (j + 1) x' hx'))
                    obtain ⟨bf, of, rfl, hbf, hcc⟩ := HOF.out.inI (by rw [HF6.out]; omega)
                    obtain ⟨y, hy⟩ : ∃ y, f[n]? = some y := ⟨_, List.getElem?_eq_getElem (by rw [HF6.out]; exact hn6)⟩
                    have f0 : wr.cell? ⟨bf, of + n, none⟩ = some (.int .i64 y) := (HB.out.cell (p := ⟨bf, of + n, none⟩) hbf).trans (hcc n y hy)
                    have y0 := HCF.out wr HB.out
                    have hnf : n < f.length := by rw [HF6.out]; exact hn6
                    have HYD := Lib.hid (show f.getD n 0 = y from getD_is hy)
                    have HXX := Lib.hid hx
                    have HXD := Lib.hid (show l.getD (j + 1) 0 = x' from getD_is hx')
                    clear hblb hcl hx hx' hbf hcc hy
                    by_cases hxy : x = y
                    · have HIX := Lib.hid (show l.idxOf (f.getD n 0) = j from idx_asc (by rw [← HL.out]; exact levR_asc R n) (by rw [HYD.out, ← hxy]; exact HXX.out))
                      have hxe : (x == y) = true := by simpa using hxy
                      have HUP := Lib.hid (show f.set n ((levR R n).getD ((levR R n).idxOf (f.getD n 0) + 1) 0) = f.set n x' by rw [HL.out, HIX.out, HXD.out])
                      have HIL := Lib.hid (show (levR R n).idxOf (f.getD n 0) + 1 < (levR R n).length by rw [HL.out, HIX.out]; exact hjt)
                      obtain ⟨d2, hd2⟩ : ∃ d, rhB R (f.set n x') = d := ⟨_, rfl⟩
                      have HD2 := Lib.hid hd2
                      have hr0 : n + 0 = n := rfl
                      clear hxy hd2
                      go_wp2
                      go_quiet (fail)
                      obtain ⟨wq, hwq⟩ : ∃ wq, wr.drewN nq = wq := ⟨_, rfl⟩
                      have HQ := Lib.hid (show Below wr.heap.size wr wq by rw [← hwq]; exact quiet_f _ _ _)
                      rw [hwq]
                      have HBq := Lib.hid (HB.out.trans (HQ.out.mono HB.out.size))
                      have HFI := Lib.hid (HOF.out.inI.below (HBq.out.alloc HBq.out.size (.cells #[] 3)))
                      have HNIL := Lib.hid (own_newI wq wq.heap.size wq.heap.size rfl (Nat.le_refl _))
                      have yA := HCF.out _ (HBq.out.alloc HBq.out.size (.cells #[] 3))
                      have hf0 : 0 < f.length := by omega
                      have hf9 : ([] : List Int).length + f.length ≤ 9000000 := by rw [HF6.out]; decide
                      clear x0 f0 y0 hwq
                      go_wp2_with (at_builtin; refine append_l rfl _ _ rfl wq.heap.size (.slice (some ⟨wq.heap.size, 0, none⟩) 0 0) [] f f ⟨bf, of, none⟩ cf f.length rfl HNIL.out rfl rfl rfl HFI.out hf0 hf9 (by simp) ?_; intro aU cU wU hU hgU; have HU := Lib.hid hU; have HGU := Lib.hid hgU; clear hU hgU; refine Hid.out ?_)
                      obtain ⟨⟨gU, rfl⟩, hcU⟩ := owni_some HU.out hf0
                      have hgb := (World.ownsRow.lt HU.out gU rfl)
                      have HBU := Lib.hid (((Below.refl wq.heap.size wq).alloc (Nat.le_refl _) (.cells #[] 3)).grown HGU.out (by simp) (fun q hq => by simp [Value.ownBlock] at hq; omega))
                      have HRU := Lib.hid (HQ.out.trans (HBU.out.mono HQ.out.size))
                      have HBGU := Lib.hid (HB.out.trans (HRU.out.mono HB.out.size))
                      have x1 := HX1.out _ HRU.out
                      obtain ⟨u0, u1⟩ := HU.out.cellI hnf
                      have HSU := Lib.hid (HU.out.set n x')
                      obtain ⟨w5, hw5⟩ : ∃ w5, wU.setCell ⟨gU, n, none⟩ (.int .i64 x') = w5 := ⟨_, rfl⟩
                      have HB5 := Lib.hid (show Below wG.heap.size wG w5 by rw [← hw5]; exact HBGU.out.setCell (by have := hgb.1; have := HBq.out.size; simp; omega) _)
                      have HR5 := Lib.hid (show Below wr.heap.size wr w5 by rw [← hw5]; exact HRU.out.setCell (by have := hgb.1; have := HQ.out.size; simp; omega) _)
                      have HW5 := Lib.hid hw5
                      have z5 := (HBX.out.below (HBG.out.trans (HB5.out.mono HBG.out.size))).one0
                      have y5 := HCF.out _ HB5.out
                      have HO5 := Lib.hid (show OwnI w5 wq.heap.size (.slice (some ⟨gU, 0, none⟩) f.length cU) (f.set n x') by rw [← hw5]; exact HSU.out.1)
                      have HC5 := Lib.hid (show Calls Try.prog 15 #[.agg #[.slice a R.length c], .slice (some ⟨gU, 0, none⟩) f.length cU] w5 (fun e w' => e = .returned (.bool d2) ∧ Below w5.heap.size w5 w') by
                        have h := rhs_spec a c R (some ⟨gU, 0, none⟩) cU (f.set n x') d2 w5 ((HS.out.below HBG.out).below HB5.out) (by rw [List.length_set, HF6.out]; decide) HO5.out.inI HD2.out
                        rwa [List.length_set] at h)
                      rw [hw5] at HSU
                      have hj1 : IntKind.i64.wrap ((j : Int) + 1) = (j : Int) + 1 := wrap_small (by omega) (by omega)
                      refine Lib.hid ?_
                      clear yA
                      cases d2
                      · obtain ⟨rfl, rfl, rfl⟩ := vio_yes HO.out (vio_at HV.out HG.out HNO.out HF.out (vioV_yes HD.out HNB.out hn6 (by have h := break_yes HIL.out (by rw [HUP.out]; exact HD2.out); rwa [HUP.out] at h)))
                        go_wp2_with (go_at_call 15; (with_reducible refine HC5.out.mono ?_); rintro e w6 ⟨rfl, hb6⟩; have y6 := HCF.out _ (HB5.out.trans (hb6.mono HB5.out.size)); have HB6 := Lib.hid hb6; clear hb6)
                        go_ret3
                        have hB6 := HB5.out.trans (HB6.out.mono HB5.out.size)
                        have hws : w.heap.size ≤ wG.heap.size := Nat.le_trans HB1.out.size HBG.out.size
                        have hwq' : wG.heap.size ≤ wq.heap.size := HBq.out.size
                        refine ⟨some ⟨bf, of, none⟩, cf, some ⟨gU, 0, none⟩, cU, by rw [List.length_set]; rfl, ⟨(HOF.out.below hB6).mono HSZ.out, ?_, fun q hq e => ?_⟩, HB1.out.trans ((HBG.out.trans (hB6.mono HBG.out.size)).mono HB1.out.size)⟩
                        · rw [List.length_set]
                          exact (HO5.out.below HB6.out).mono (by omega)
                        · have h1 := (World.ownsRow.lt HOF.out q hq).2
                          have h2 := hgb.1
                          simp [Value.ownBlock] at e
                          omega
                      · have HBN := Lib.hid (show breakV R f n = none from break_no (by rw [HUP.out]; exact HD2.out))
                        go_wp2_with (go_at_call 15; (with_reducible refine HC5.out.mono ?_); rintro e w6 ⟨rfl, hb6⟩; have HB6 := Lib.hid hb6; clear hb6)
                        go_roundw
                        case rel => exact ⟨j + 1, by omega, by go_num, (fun ⟨u, hu⟩ => by rw [HBN.out] at hu; cases hu), HB5.out.trans (HB6.out.mono HB5.out.size), HBLr.out.trans ((HR5.out.trans (HB6.out.mono HR5.out.size)).mono HBLr.out.size)⟩
                        case measure => simp [intOf]; omega
                    · have hxe : (x == y) = false := by simpa using hxy
                      have HNX := Lib.hid (fun (h : ∃ u, breakV R f n = some u) => show j + 1 ≤ l.idxOf (f.getD n 0) by
                        have h1 := HJX.out h
                        rcases Nat.lt_or_ge j (l.idxOf (f.getD n 0)) with h2 | h2
                        · exact h2
                        · exfalso
                          have e : l.idxOf (f.getD n 0) = j := by omega
                          apply hxy
                          have hmem : f.getD n 0 ∈ l := by rw [← HL.out]; exact HFM.out n hn6
                          have h3 := List.getElem_idxOf (List.idxOf_lt_length_iff.2 hmem)
                          have h4 : l[j]? = some (f.getD n 0) := by
                            rw [← h3, ← e]
                            exact List.getElem?_eq_getElem _
                          rw [HXX.out, HYD.out] at h4
                          injection h4)
                      clear hxy
                      go_wp2
                      go_quiet (fail)
                      go_wp2
                      go_roundw
                      case rel => exact ⟨j + 1, by omega, by go_num, HNX.out, HB.out.trans (quiet_f _ _ _), HBLr.out.trans (quiet_f _ _ _)⟩
                      case measure => simp [intOf]; omega
                  · have HNN := Lib.hid (show breakV R f n = none by
                      cases h : breakV R f n with
                      | none => rfl
                      | some u =>
                        have h1 := HJX.out ⟨u, h⟩
                        have h2 := (break_some h).1
                        rw [HL.out] at h2
                        omega)
                    go_wp2
                    go_roundw
                    case rel => exact ⟨n + 1, by omega, by go_num, noneV_succ HNB.out (range_at hn6) HNN.out, HB.out⟩
                    case measure => simp [intOf]; omega
              · obtain rfl : n = 6 := by omega
                go_wp2
                go_roundw
                case rel => exact ⟨k + 1, by omega, by go_num, noneV_succ HNO.out HF.out (vioV_none HNB.out), HBN.out⟩
                case measure => simp [intOf]; omega
      · obtain rfl : k = G.length := by omega
        obtain ⟨rfl, rfl, rfl⟩ := vio_none HO.out (vio_end HV.out HG.out HNO.out)
        go_wp2
        go_ret3
        have hbw : Below w.heap.size w wk := HB1.out.trans ((HBG.out.trans (HBK.out.mono HBG.out.size)).mono HB1.out.size)
        exact ⟨_, _, _, _, rfl, two_nil wk w.heap.size hbw.size, (hbw.alloc hbw.size _).alloc (by have := hbw.size; simp; omega) _⟩

end Go.Proofs.Ytpldjihajclblaa
