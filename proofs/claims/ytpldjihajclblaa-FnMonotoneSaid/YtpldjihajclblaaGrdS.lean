/-
  What spec.l14Grid answers. By an AI agent.
-/
import Derived.Test.YtpldjihajclblaaRowI
import Derived.Test.YtpldjihajclblaaLevS
import Derived.Test.YtpldjihajclblaaPlainGrd
import Derived.Test.YtpldjihajclblaaGMem
namespace Go.Proofs.Ytpldjihajclblaa
open Go.RowKit
set_option linter.unusedVariables false

theorem own0 (W : World) (base g : Nat) (hg : W.heap.size = g) (hb : base ≤ g) : RowsI (W.alloc (.cells #[] 28)) base (.slice (some ⟨g, 0, none⟩) 0 0) [] [] := by
  subst hg
  exact ⟨rfl, World.ownsRow_made (w := W) (base := base) (e := 28) (size := 1) #[] 0 hb (Nat.zero_le _) (by simp), fun j u l h => by simp at h, fun j u k h => by simp at h⟩
theorem own_first (W : World) (base g : Nat) (hg : W.heap.size = g) (hb : base ≤ g) :
    RowsI ((W.alloc (.cells #[] 3)).alloc (.cells #[.slice (some ⟨g, 0, none⟩) 0 0] 28)) base (.slice (some ⟨g + 1, 0, none⟩) 1 1) [.slice (some ⟨g, 0, none⟩) 0 0] [[]] := by
  subst hg
  have h1 : OwnI (W.alloc (.cells #[] 3)) base (.slice (some ⟨W.heap.size, 0, none⟩) 0 0) [] := OwnI.made W base #[] 0 hb (Nat.zero_le _) rfl
  refine ⟨rfl, ?_, fun j u l hu hl => ?_, fun j u k hu hk e => ?_⟩
  · have h := heap_alloc_new (W.alloc (.cells #[] 3)) (.cells #[.slice (some ⟨W.heap.size, 0, none⟩) 0 0] 28)
    have hs : (W.alloc (.cells #[] 3)).heap.size = W.heap.size + 1 := by simp
    rw [hs] at h
    exact ⟨rfl, .inr ⟨W.heap.size + 1, 1, #[.slice (some ⟨W.heap.size, 0, none⟩) 0 0], rfl, by omega, h, by decide, by unfold maxLen; decide, by simp, by simp⟩⟩
  · match j, hu, hl with
    | 0, hu, hl =>
      simp at hu hl
      subst hu hl
      exact h1.alloc _
  · match j, hu with
    | 0, hu =>
      simp at hu
      subst hu
      simp [Value.ownBlock] at hk e
      omega

set_option maxRecDepth 100000 in
set_option maxHeartbeats 6400000 in
theorem grd_spec (a : Option Addr) (c : Nat) (R : List (List TS)) (w : World) (h : SmRu w a R c) (hv : vsB R = true) :
    Calls Try.prog 23 #[.agg #[.slice a R.length c]] w (GivesII w (gridV (levs R))) := by
  obtain ⟨w1, hw1⟩ : ∃ w1, w.alloc (.cells #[.slice a R.length c] 26) = w1 := ⟨_, rfl⟩
  have HB1 := Lib.hid (show Below w.heap.size w w1 by rw [← hw1]; exact (Below.refl w.heap.size w).alloc (Nat.le_refl _) _)
  have HBX := Lib.hid (show BlkV w1 w.heap.size 26 #[.slice a R.length c] by rw [← hw1]; exact BlkV.new _ _ _)
  have HS := Lib.hid (h.below HB1.out)
  have HV := Lib.hid hv
  have HOWN0 := Lib.hid (own_first w1 w.heap.size w1.heap.size rfl HB1.out.size)
  clear h hv
  go_enter Try.func23, Try.ntmps23
  go_wp2
  go_loopw [3, 4] (fun v i wr => ∃ (n : Nat) (a' : Option Addr) (c' : Nat) (vs : List Value), n ≤ 6 ∧ i = .int .i64 n ∧ v = .slice a' (gridT R n).length c' ∧ RowsI wr w.heap.size (.slice a' (gridT R n).length c') vs (gridT R n) ∧ Below w1.heap.size w1 wr) (fun _ i _ => 6 - (intOf i).toNat)
  case atStart => exact ⟨0, _, _, _, Nat.zero_le _, rfl, rfl, HOWN0.out, ((Below.refl _ _).alloc (Nat.le_refl _) _).alloc (by simp) _⟩
  case round =>
    obtain ⟨n, aG, cG, vsG, hn, rfl, rfl, hown, hb⟩ := hrel
    have q0 := (HBX.out.below hb).one0
    obtain ⟨wo, rfl⟩ : ∃ wo, wo = wr := ⟨_, rfl⟩
    have HBO := Lib.hid hb
    have hgl := gridT_le HV.out hn
    obtain ⟨G, hG⟩ : ∃ G, gridT R n = G := ⟨_, rfl⟩
    have HG := Lib.hid hG
    rw [hG] at hown hgl ⊢
    have HOWN := Lib.hid hown
    clear hb hown hG HOWN0
    by_cases hlt : n < 6
    · obtain ⟨l, hl⟩ : ∃ l, levR R n = l := ⟨_, rfl⟩
      have HL := Lib.hid hl
      have hll : l.length ≤ 10 := by rw [← hl]; exact levR_len HV.out n
      have HC := Lib.hid (lev_spec a c R n l wo (HS.out.below HBO.out) (by have := flat_le HV.out; omega) hl)
      clear hl
      go_wp2_with (go_at_call 24; ((with_reducible refine HC.out.mono ?_); rintro e wL ⟨al, cl, rfl, ho, hb2⟩; have HLI := Lib.hid ho.inI; have HBL := Lib.hid hb2; clear ho hb2; refine Hid.out ?_))
      have HN0 := Lib.hid (own0 wL wL.heap.size wL.heap.size rfl (Nat.le_refl _))
      have HA0 := Lib.hid ((Below.refl wL.heap.size wL).alloc (Nat.le_refl _) (.cells #[] 28))
      have HGI := Lib.hid (HOWN.out.inII.below HBL.out)
      refine Lib.hid ?_
      go_wp2
      go_loopw [6, 7] (fun v i wr => ∃ (k : Nat) (a' : Option Addr) (c' : Nat) (vs : List Value), k ≤ G.length ∧ i = .int .i64 k ∧ v = .slice a' (growV (G.take k) l).length c' ∧ RowsI wr wL.heap.size (.slice a' (growV (G.take k) l).length c') vs (growV (G.take k) l) ∧ Below wL.heap.size wL wr) (fun _ i _ => G.length - (intOf i).toNat)
      case atStart => exact ⟨0, _, _, _, Nat.zero_le _, rfl, rfl, HN0.out, HA0.out⟩
      case round =>
        obtain ⟨k, aN, cN, vsN, hk, rfl, rfl, hown, hb⟩ := hrel
        obtain ⟨wm, rfl⟩ : ∃ wm, wm = wr := ⟨_, rfl⟩
        have HBM := Lib.hid hb
        have HNM := Lib.hid hown
        clear hb hown HN0 HA0
        by_cases hkt : k < G.length
        · obtain ⟨f, hf⟩ : ∃ f, G[k]? = some f := ⟨_, List.getElem?_eq_getElem hkt⟩
          obtain ⟨bG, rfl, hbG, hcG⟩ := (HGI.out) (by omega)
          obtain ⟨af, cf, hcf, hnf, hff, hinf⟩ := hcG k f hf
          have HF := Lib.hid hf
          have HCF := Lib.hid hcf
          have HBG := Lib.hid hbG
          have HIF := Lib.hid hinf
          have HNF := Lib.hid hnf
          have hfl : f.length ≤ 6 := by rw [gridT_rows n hn f (by rw [HG.out]; exact List.mem_of_getElem? hf)]; exact hn
          have hK0 : growV (G.take k) l = growK G l k f 0 := (growK_zero _ _ _ _).symm
          rw [hK0] at HNM
          rw [hK0]
          clear hf hcG hcf hnf hff hinf hbG hK0
          go_wp2
          go_loopw [6, 8] (fun v i wr => ∃ (j : Nat) (a' : Option Addr) (c' : Nat) (vs : List Value), j ≤ l.length ∧ i = .int .i64 j ∧ v = .slice a' (growK G l k f j).length c' ∧ RowsI wr wL.heap.size (.slice a' (growK G l k f j).length c') vs (growK G l k f j) ∧ Below wL.heap.size wL wr) (fun _ i _ => l.length - (intOf i).toNat)
          case atStart => exact ⟨0, _, _, _, Nat.zero_le _, rfl, rfl, HNM.out, HBM.out⟩
          case round =>
            obtain ⟨j, aK, cK, vsK, hj, rfl, rfl, hown, hb⟩ := hrel
            have HB := Lib.hid hb
            have HNX := Lib.hid hown
            have hkl := growK_lt (l := l) (f := f) (k := j) hkt (by rw [← HG.out]; exact gridT_lt HV.out hlt) hll
            obtain ⟨X, hX⟩ : ∃ X, growK G l k f j = X := ⟨_, rfl⟩
            have HX := Lib.hid hX
            rw [hX] at HNX hkl ⊢
            clear hb hown hX
            by_cases hjt : j < l.length
            · obtain ⟨bl, ol, rfl, hbl, hcl⟩ := HLI.out (by omega)
              obtain ⟨x, hx⟩ : ∃ x, l[j]? = some x := ⟨_, List.getElem?_eq_getElem hjt⟩
              have x0 : wr.cell? ⟨bl, ol + j, none⟩ = some (.int .i64 x) := (HB.out.cell (p := ⟨bl, ol + j, none⟩) hbl).trans (hcl j x hx)
              have y0 := (HB.out.cell (p := ⟨bG, k, none⟩) HBG.out).trans HCF.out
              have HBGr := Lib.hid (Nat.lt_of_lt_of_le HBG.out HB.out.size)
              have HBLr := Lib.hid (Nat.lt_of_lt_of_le hbl HB.out.size)
              have HBL0 := Lib.hid hbl
              have HSS := Lib.hid (fun (W : World) (hW : Below wr.heap.size wr W) => (show W.cell? ⟨bG, k, none⟩ = some (.slice af f.length cf) ∧ W.cell? ⟨bl, ol + j, none⟩ = some (.int .i64 x) from ⟨(hW.cell (p := ⟨bG, k, none⟩) HBGr.out).trans y0, (hW.cell (p := ⟨bl, ol + j, none⟩) HBLr.out).trans x0⟩))
              have HXX := Lib.hid hx
              have HIr := Lib.hid (HIF.out.below HB.out)
              obtain ⟨F, hF⟩ : ∃ F, ([] ++ f) ++ [x] = F := ⟨_, rfl⟩
              obtain ⟨nF, hnF⟩ : ∃ n, F.length = n := ⟨_, rfl⟩
              obtain ⟨mX, hmX⟩ : ∃ m, X.length + 1 = m := ⟨_, rfl⟩
              have HFF := Lib.hid hF
              have HNFF := Lib.hid hnF
              have HMX := Lib.hid hmX
              have HNN := Lib.hid (show growK G l k f (j + 1) = X ++ [F] by rw [growK_succ hx, HX.out, ← hF]; simp)
              have HFL := Lib.hid (show f.length ≤ 4000000 by omega)
              have HKL := Lib.hid (show X.length ≤ 4000000 by omega)
              have HLO := Lib.hid HB.out.size
              have HLT := Lib.hid (fun q hq => (World.ownsRow.lt HNX.out.out q hq).1)
              have B1 := Lib.hid ((Below.refl wr.heap.size wr).alloc (Nat.le_refl _) (.cells #[] 3)).drew
              have B2 := Lib.hid ((Below.refl wr.heap.size wr).alloc (Nat.le_refl _) (.cells #[.int .i64 x] 3)).drew
              have B12 := Lib.hid (((Below.refl wr.heap.size wr).alloc (Nat.le_refl _) (.cells #[] 3)).alloc (by simp) (.cells #[.int .i64 x] 3)).drew
              have B21 := Lib.hid (((Below.refl wr.heap.size wr).alloc (Nat.le_refl _) (.cells #[.int .i64 x] 3)).alloc (by simp) (.cells #[] 3)).drew
              have O1 : Hid (OwnI (wr.alloc (.cells #[] 3)).drew wr.heap.size (.slice (some ⟨wr.heap.size, 0, none⟩) 0 0) []) := Lib.hid (own_newI wr wr.heap.size wr.heap.size rfl (Nat.le_refl _))
              have O12 : Hid (OwnI ((wr.alloc (.cells #[] 3)).alloc (.cells #[.int .i64 x] 3)).drew wr.heap.size (.slice (some ⟨wr.heap.size, 0, none⟩) 0 0) []) := Lib.hid ((own_newI wr wr.heap.size wr.heap.size rfl (Nat.le_refl _)).alloc (.cells #[.int .i64 x] 3))
              have O21 : Hid (OwnI ((wr.alloc (.cells #[.int .i64 x] 3)).alloc (.cells #[] 3)).drew wr.heap.size (.slice (some ⟨wr.heap.size + 1, 0, none⟩) 0 0) []) := Lib.hid (own_newI (wr.alloc (.cells #[.int .i64 x] 3)) wr.heap.size (wr.heap.size + 1) (by simp) (by omega))
              have N12 : Hid (InI ((wr.alloc (.cells #[] 3)).alloc (.cells #[.int .i64 x] 3)).drew (some ⟨wr.heap.size + 1, 0, none⟩) [x]) := Lib.hid (in_oneI (wr.alloc (.cells #[] 3)) (wr.heap.size + 1) x (by simp))
              have N21 : Hid (InI ((wr.alloc (.cells #[.int .i64 x] 3)).alloc (.cells #[] 3)).drew (some ⟨wr.heap.size, 0, none⟩) [x]) := Lib.hid ((in_oneI wr wr.heap.size x rfl).alloc (.cells #[] 3))
              have s1 := HSS.out _ B1.out
              have s2 := HSS.out _ B2.out
              have s12 := HSS.out _ B12.out
              have s21 := HSS.out _ B21.out
              clear hcl hx hbl hF hnF hmX
              go_wp2_with (fail)
              go_region_held3 (fun w' => w'.cell? ⟨bG, k, none⟩ = some (.slice af f.length cf) ∧ w'.cell? ⟨bl, ol + j, none⟩ = some (.int .i64 x))
                (first | with_reducible exact r3 | with_reducible exact r2c | with_reducible exact r2 | with_reducible exact r1b | with_reducible exact r1 | with_reducible exact s12 | with_reducible exact s21 | with_reducible exact s1 | with_reducible exact s2 | exact ⟨y0, x0⟩)
                (first
                  | (refine step_appI rfl (.tmp 32) (.tmp 36) rfl wr.heap.size (.slice (some ⟨wr.heap.size, 0, none⟩) 0 0) [] rfl af f.length cf f rfl rfl O1.out (HIr.out.below B1.out) HNF.out (by have := HFL.out; simp; omega) B1.out.size ?_; intro v1 w1 ho1 hg1; have hb1 : Below wr.heap.size wr w1 := grown_oldI B1.out hg1 O1.out; have r1 := HSS.out _ hb1; have r1b := HSS.out _ (hb1.alloc hb1.size (.cells #[.int .i64 x] 3)); have O1b := Lib.hid (ho1.alloc (.cells #[.int .i64 x] 3)); have N1b := Lib.hid (in_oneI w1 w1.heap.size x rfl); have B1b := Lib.hid (hb1.alloc hb1.size (.cells #[.int .i64 x] 3)))
                  | (refine step_appI rfl (.tmp 32) (.tmp 36) rfl wr.heap.size (.slice (some ⟨wr.heap.size, 0, none⟩) 0 0) [] rfl af f.length cf f rfl rfl O12.out (HIr.out.below B12.out) HNF.out (by have := HFL.out; simp; omega) B12.out.size ?_; intro v1 w1 ho1 hg1; have hb1 : Below wr.heap.size wr w1 := grown_oldI B12.out hg1 O12.out; have r1 := HSS.out _ hb1; have O1b := Lib.hid ho1; have N1b := Lib.hid (N12.out.grown hg1 (by intro b off e; cases e; simp [Value.ownBlock])); have B1b := Lib.hid hb1)
                  | (refine step_appI rfl (.tmp 32) (.tmp 36) rfl wr.heap.size (.slice (some ⟨wr.heap.size + 1, 0, none⟩) 0 0) [] rfl af f.length cf f rfl rfl O21.out (HIr.out.below B21.out) HNF.out (by have := HFL.out; simp; omega) B21.out.size ?_; intro v1 w1 ho1 hg1; have hb1 : Below wr.heap.size wr w1 := grown_oldI B21.out hg1 O21.out; have r1 := HSS.out _ hb1; have O1b := Lib.hid ho1; have N1b := Lib.hid (N21.out.grown hg1 (by intro b off e; cases e; simp [Value.ownBlock])); have B1b := Lib.hid hb1)
                  | (refine step_oneI rfl (.tmp 37) (.tmp 42) rfl wr.heap.size v1 ([] ++ f) F nF x rfl _ rfl HFF.out HNFF.out O1b.out N1b.out nofun (by have := HFL.out; simp; omega) B1b.out.size ?_; intro a2 c2 w2 ho2 hg2; have hb2 : Below wr.heap.size wr w2 := grown_oldI B1b.out hg2 O1b.out; have r2 := HSS.out _ hb2; have r2c := HSS.out _ (hb2.alloc hb2.size (.cells #[.slice a2 nF c2] 28)); have HO2 := Lib.hid ho2; have HR2 := Lib.hid ((HNX.out.below hb2).below ((Below.refl w2.heap.size w2).alloc (Nat.le_refl _) (.cells #[.slice a2 nF c2] 28))); have HB2 := Lib.hid hb2; have CC := Lib.hid (show (w2.alloc (.cells #[.slice a2 nF c2] 28)).cell? ⟨w2.heap.size, 0, none⟩ = some (.slice a2 nF c2) from (BlkV.new w2 28 #[.slice a2 nF c2]).cell 0))
                  | (refine step_rowI rfl (.tmp 31) (.tmp 44) rfl wL.heap.size (.slice aK X.length cK) vsK X.length mX (.slice a2 nF c2) HR2.out.out rfl HMX.out w2.heap.size rfl rfl CC.out HKL.out (Nat.le_trans HLO.out (Nat.le_trans HB2.out.size (by simp))) ?_; intro g3 c3 w3 ho3 hg3 hat3; have HO3 := Lib.hid ho3; have HG3 := Lib.hid hg3; have HAT3 := Lib.hid hat3; have HB3 := Lib.hid (show Below wL.heap.size wL w3 from (HB.out.trans ((HB2.out.alloc HB2.out.size (.cells #[.slice a2 nF c2] 28)).mono HB.out.size)).grown hg3 (Nat.le_trans HB.out.size (Nat.le_trans HB2.out.size (by simp))) (fun q hq => HLT.out q hq)); have r3 : w3.cell? ⟨bG, k, none⟩ = some (.slice af f.length cf) ∧ w3.cell? ⟨bl, ol + j, none⟩ = some (.int .i64 x) := ⟨(World.cell?_of_block (hg3.block bG (Nat.lt_of_lt_of_le HBGr.out (Nat.le_trans HB2.out.size (by simp))) (fun e => by have := HLT.out bG e.symm; have := HBG.out; omega))).trans r2c.1, (World.cell?_of_block (hg3.block bl (Nat.lt_of_lt_of_le HBLr.out (Nat.le_trans HB2.out.size (by simp))) (fun e => by have := HLT.out bl e.symm; have := HBL0.out; omega))).trans r2c.2⟩; clear ho3 hg3 hat3))
              all_goals go_wp2
              all_goals go_roundw
              all_goals first
                | (case rel => exact ⟨j + 1, some ⟨g3, 0, none⟩, c3, vsK ++ [.slice a2 nF c2], by omega, by go_num, by rw [HNN.out, List.length_append]; have := HMX.out; simp; omega, by rw [HNN.out, List.length_append, show X.length + [F].length = mX from HMX.out]; exact HNX.out.snoc HLO.out HB2.out HO2.out ((Below.refl _ _).alloc (Nat.le_refl _) _) HG3.out HO3.out rfl HAT3.out, HB3.out⟩)
                | skip
              all_goals (simp [intOf]; omega)
            · obtain rfl : j = l.length := by omega
              have HE := Lib.hid (show growV (G.take (k + 1)) l = X by rw [← HX.out, growK_all HF.out])
              go_wp2
              go_roundw
              case rel => exact ⟨k + 1, aK, cK, vsK, by omega, by go_num, by rw [HE.out], by rw [HE.out]; exact HNX.out, HB.out⟩
              case measure => simp [intOf]; omega
        · obtain rfl : k = G.length := by omega
          have HE := Lib.hid (show growV (G.take G.length) l = gridT R (n + 1) by rw [gridT_succ R hlt, HG.out, HL.out, List.take_length])
          rw [HE.out] at HNM
          rw [HE.out]
          go_wp2
          go_roundw
          case rel => exact ⟨n + 1, aN, cN, vsN, by omega, by go_num, rfl, HNM.out.mono (Nat.le_trans HB1.out.size (Nat.le_trans HBO.out.size HBL.out.size)), HBO.out.trans ((HBL.out.trans (HBM.out.mono HBL.out.size)).mono HBO.out.size)⟩
          case measure => simp [intOf]; omega
    · obtain rfl : n = 6 := by omega
      go_wp2
      go_ret
      have e : gridV (levs R) = G := by rw [← gridT_all, HG.out]
      rw [e]
      exact ⟨_, _, _, rfl, HOWN.out, HB1.out.trans (HBO.out.mono HB1.out.size)⟩

end Go.Proofs.Ytpldjihajclblaa
