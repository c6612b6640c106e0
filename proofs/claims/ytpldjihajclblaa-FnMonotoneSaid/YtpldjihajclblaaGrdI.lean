/-
  What impl.gridVectors answers. By an AI agent.
-/
import Derived.Test.YtpldjihajclblaaRowI
import Derived.Test.YtpldjihajclblaaLevS
import Derived.Test.YtpldjihajclblaaPlainGrd
import Derived.Deep.AppendLies
import Derived.Lib.AppendZeros
import Derived.Test.YtpldjihajclblaaSrtC
namespace Go.Proofs.Ytpldjihajclblaa
open Go.RowKit
set_option linter.unusedVariables false
set_option linter.unusedSimpArgs false
set_option linter.unnecessarySimpa false

theorem own_nil1 (W : World) (base : Nat) (hb : base ≤ W.heap.size) : RowsI (W.alloc (.cells #[.slice none 0 0] 28)) base (.slice (some ⟨W.heap.size, 0, none⟩) 1 1) [.slice none 0 0] [[]] := by
  refine ⟨rfl, ?_, fun j u l hu hl => ?_, fun j u k hu hk e => ?_⟩
  · exact ⟨rfl, .inr ⟨W.heap.size, 1, #[.slice none 0 0], rfl, by omega, heap_alloc_new W _, by decide, by unfold maxLen; decide, by simp, by simp⟩⟩
  · match j, hu, hl with
    | 0, hu, hl =>
      simp at hu hl
      subst hu hl
      exact OwnI.nil _ _
  · match j, hu with
    | 0, hu =>
      simp at hu
      subst hu
      simp [Value.ownBlock] at hk

/-- slices.Clone of any slice that reads as a list of integers -/
theorem clone_any (a : Option Addr) (c : Nat) (l : List Int) (w : World) (hin : InI w a l) (hn : a = none → c = 0) (hl : l.length ≤ 4000000) :
    Calls Try.prog 43 #[.slice a l.length c] w fun e w' => ∃ a' c', e = .returned (.slice a' l.length c') ∧ OwnI w' w.heap.size (.slice a' l.length c') l ∧ Below w.heap.size w w' := by
  by_cases h0 : 0 < l.length
  · obtain ⟨b, off, rfl, -, -⟩ := hin h0
    exact clone_own b off l.length c l w hin rfl (by omega) h0
  · obtain rfl : l = [] := List.eq_nil_of_length_eq_zero (by omega)
    cases a with
    | none =>
      refine (Any.slices_Clone_int_nil Try.laysNm215 0 c w).mono ?_
      rintro e w' ⟨rfl, rfl⟩
      exact ⟨none, 0, rfl, OwnI.nil _ _, Below.refl _ _⟩
    | some ad =>
      refine (Any.slices_Clone_int_zero Try.laysNm215 ad c w).mono ?_
      rintro e w' ⟨v', rfl, ho, -, hb⟩
      have h1 : OwnI w' w.heap.size v' [] := ho
      obtain ⟨a', c', rfl⟩ := h1.shape
      exact ⟨a', c', rfl, h1, hb⟩

set_option maxRecDepth 100000 in
set_option maxHeartbeats 6400000 in
theorem grd_impl (al : Option Addr) (cl : Nat) (R : List (List TS)) (w : World) (hin : InII w al (levs R)) (hv : vsB R = true) :
    Calls Try.prog 21 #[.slice al 6 cl] w (GivesII w (gridV (levs R))) := by
  obtain ⟨i0, hi, hz0, hz1, hz2⟩ := info_parts info_row
  obtain ⟨bL, rfl, hbL, hcL⟩ := hin (by rw [levs_len]; decide)
  have HBL := Lib.hid hbL
  have HCL := Lib.hid hcL
  have HV := Lib.hid hv
  have HOWN0 := Lib.hid (own_nil1 w w.heap.size (Nat.le_refl _))
  clear hin hbL hcL hv
  go_enter Try.func21, Try.ntmps21
  go_wp2
  go_loopw [3, 14] (fun v i wr => ∃ (n : Nat) (a' : Option Addr) (c' : Nat) (vs : List Value), n ≤ 6 ∧ i = .int .i64 n ∧ v = .slice a' (gridT R n).length c' ∧ RowsI wr w.heap.size (.slice a' (gridT R n).length c') vs (gridT R n) ∧ Below w.heap.size w wr) (fun _ i _ => 6 - (intOf i).toNat)
  case atStart => exact ⟨0, _, _, _, Nat.zero_le _, rfl, rfl, HOWN0.out, (Below.refl _ _).alloc (Nat.le_refl _) _⟩
  case round =>
    obtain ⟨n, aG, cG, vsG, hn, rfl, rfl, hown, hb⟩ := hrel
    obtain ⟨wL, rfl⟩ : ∃ wo, wo = wr := ⟨_, rfl⟩
    have HBO := Lib.hid hb
    have hgl := gridT_le HV.out hn
    obtain ⟨G, hG⟩ : ∃ G, gridT R n = G := ⟨_, rfl⟩
    have HG := Lib.hid hG
    rw [hG] at hown hgl ⊢
    have HOWN := Lib.hid hown
    clear hb hown hG HOWN0
    by_cases hlt : n < 6
    · obtain ⟨l, hl⟩ : ∃ l, levR R n = l := ⟨_, rfl⟩
      have HL := Lib.hid hl
      have hll : l.length ≤ 10 := by rw [← hl]; exact levR_len HV.out n
      obtain ⟨a1, c1, hc1, -, -, hi1⟩ := HCL.out n l (by rw [← hl]; exact levs_at R hlt)
      have q1 := (HBO.out.cell (p := ⟨bL, n, none⟩) HBL.out).trans hc1
      have HLI := Lib.hid (hi1.below HBO.out)
      have HGI := Lib.hid HOWN.out.inII
      clear hl hc1 hi1
      have hn6 : (n : Int) < 6 := by omega
      go_wp2
      go_loopw [6, 20] (fun v i wr => ∃ (k : Nat) (a' : Option Addr) (c' : Nat) (vs : List Value), k ≤ G.length ∧ i = .int .i64 k ∧ v = .slice a' (growV (G.take k) l).length c' ∧ RowsI wr wL.heap.size (.slice a' (growV (G.take k) l).length c') vs (growV (G.take k) l) ∧ Below wL.heap.size wL wr) (fun _ i _ => G.length - (intOf i).toNat)
      case atStart => exact ⟨0, none, 0, [], Nat.zero_le _, rfl, rfl, RowsI.nil _ _, Below.refl _ _⟩
      case round =>
        obtain ⟨k, aN, cN, vsN, hk, rfl, rfl, hown, hb⟩ := hrel
        obtain ⟨wm, rfl⟩ : ∃ wm, wm = wr := ⟨_, rfl⟩
        have HBM := Lib.hid hb
        have HNM := Lib.hid hown
        clear hb hown
        by_cases hkt : k < G.length
        · obtain ⟨f, hf⟩ : ∃ f, G[k]? = some f := ⟨_, List.getElem?_eq_getElem hkt⟩
          obtain ⟨bG, rfl, hbG, hcG⟩ := (HGI.out) (by omega)
          obtain ⟨af, cf, hcf, hnf, hff, hinf⟩ := hcG k f hf
          have HF := Lib.hid hf
          have y0 := (HBM.out.cell (p := ⟨bG, k, none⟩) hbG).trans hcf
          have HIF := Lib.hid hinf
          have HNF := Lib.hid hnf
          have hfl : f.length ≤ 6 := by rw [gridT_rows n hn f (by rw [HG.out]; exact List.mem_of_getElem? hf)]; exact hn
          have hK0 : growV (G.take k) l = growK G l k f 0 := (growK_zero _ _ _ _).symm
          rw [hK0] at HNM
          rw [hK0]
          clear hf hcG hcf hnf hff hinf hbG hK0
          go_wp2
          go_loopw [6, 26] (fun v i wr => ∃ (j : Nat) (a' : Option Addr) (c' : Nat) (vs : List Value), j ≤ l.length ∧ i = .int .i64 j ∧ v = .slice a' (growK G l k f j).length c' ∧ RowsI wr wL.heap.size (.slice a' (growK G l k f j).length c') vs (growK G l k f j) ∧ Below wL.heap.size wL wr) (fun _ i _ => l.length - (intOf i).toNat)
          case atStart => exact ⟨0, _, _, _, Nat.zero_le _, rfl, rfl, HNM.out, HBM.out⟩
          case round =>
            obtain ⟨j, aK, cK, vsK, hj, rfl, rfl, hown, hb⟩ := hrel
            have HB := Lib.hid hb
            have HNX := Lib.hid hown
            have hkl := growK_lt (l := l) (f := f) (k := j) hkt (by rw [← HG.out]; exact gridT_lt HV.out hlt) hll
            obtain ⟨X, hX⟩ : ∃ X, growK G l k f j = X := ⟨_, rfl⟩
            have HX := Lib.hid hX
            rw [hX] at HNX hkl ⊢
            clear hb hown hX
            by_cases hjt : j < l.length
            · obtain ⟨bl, ol, rfl, hbl, hcl⟩ := HLI.out (by omega)
              obtain ⟨x, hx⟩ : ∃ x, l[j]? = some x := ⟨_, List.getElem?_eq_getElem hjt⟩
              have x0 : wr.cell? ⟨bl, ol + j, none⟩ = some (.int .i64 x) := (HB.out.cell (p := ⟨bl, ol + j, none⟩) hbl).trans (hcl j x hx)
              have HC := Lib.hid (clone_any af cf f wr (HIF.out.below HB.out) HNF.out (by omega))
              obtain ⟨F, hF⟩ : ∃ F, f ++ [x] = F := ⟨_, rfl⟩
              obtain ⟨nF, hnF⟩ : ∃ n, F.length = n := ⟨_, rfl⟩
              have HNN := Lib.hid (show growK G l k f (j + 1) = X ++ [F] by rw [growK_succ hx, HX.out, ← hF])
              have HFF := Lib.hid hF
              have HNFF := Lib.hid hnF
              have HLO := Lib.hid HB.out.size
              have HLT := Lib.hid (fun q hq => (World.ownsRow.lt HNX.out.out q hq).1)
              clear hcl hx hbl hF hnF
              go_wp2_with (go_at_call 43; ((with_reducible refine HC.out.mono ?_); rintro e w1 ⟨a1, c1, rfl, ho1, hb1⟩; have HO1 := Lib.hid ho1; have HB1 := Lib.hid hb1; clear ho1 hb1; refine Hid.out ?_))
              obtain ⟨v2, w2, hrun, ho2, hg2⟩ := run_appI 28 wr.heap.size (.slice a1 f.length c1) f (w1.alloc (.cells #[.int .i64 x] 3)) (HO1.out.alloc _) (some ⟨w1.heap.size, 0, none⟩) 1 [x] (in_oneI w1 w1.heap.size x rfl) nofun (by simp; omega) (by have := HB1.out.size; simp; omega)
              rw [HFF.out] at ho2
              obtain ⟨a2, c2, rfl⟩ := ho2.shape
              rw [HNFF.out] at ho2 hrun
              have HB2 := Lib.hid (show Below wr.heap.size wr w2 from (HB1.out.alloc HB1.out.size _).grown hg2 (by have := HB1.out.size; simp; omega) (fun q hq => (World.ownsRow.lt HO1.out q hq).1))
              have HRUN := Lib.hid hrun
              have HO2 := Lib.hid ho2
              have HR2 := Lib.hid ((HNX.out.below HB2.out).below ((Below.refl w2.heap.size w2).alloc (Nat.le_refl _) (.cells #[.slice a2 nF c2] 28)))
              have CC := Lib.hid (show (w2.alloc (.cells #[.slice a2 nF c2] 28)).cell? ⟨w2.heap.size, 0, none⟩ = some (.slice a2 nF c2) from (BlkV.new w2 28 #[.slice a2 nF c2]).cell 0)
              clear hrun ho2 hg2
              refine Lib.hid ?_
              go_wp2_with (first
                | (at_builtin; refine Lib.wpList_append_run _ rfl _ _ _ _ rfl _ _ rfl rfl _ _ HRUN.out ?_)
                | (at_builtin; go_loud (refine wpList_append_lies _ rfl (.tmp 30) (.tmp 36) 39 rfl wL.heap.size 28 i0 _ 1 24 Try.underlying39 hi hz0 hz1 hz2 rfl (by decide) (.slice aK X.length cK) X.length vsK rfl HR2.out.out ⟨w2.heap.size, 0, none⟩ 1 1 [.slice a2 nF c2] rfl rfl (fun j u hj => by match j, hj with
                    | 0, hj => simp at hj; subst hj; simpa [Addr.add] using CC.out) (fun u hu => by simp at hu; subst hu; rfl) (by omega) (by unfold maxLen; omega) (by omega) (by have := HLO.out; have := HB2.out.size; simp; omega) _ rfl ?_); intro g3 c3 w3 ho3 hg3 hat3 _; have HO3 := Lib.hid ho3; have HG3 := Lib.hid hg3; have HAT3 := Lib.hid hat3; clear ho3 hg3 hat3))
              have HB3 := Lib.hid (show Below wL.heap.size wL w3 from (HB.out.trans ((HB2.out.alloc HB2.out.size (.cells #[.slice a2 nF c2] 28)).mono HB.out.size)).grown HG3.out (Nat.le_trans HB.out.size (Nat.le_trans HB2.out.size (by simp))) (fun q hq => HLT.out q hq))
              refine Lib.hid ?_
              go_wp2
              go_roundw
              case rel => exact ⟨j + 1, some ⟨g3, 0, none⟩, c3, vsK ++ [.slice a2 nF c2], by omega, by go_num, by rw [HNN.out, List.length_append]; simp, by rw [HNN.out, List.length_append]; exact HNX.out.snoc HLO.out HB2.out HO2.out ((Below.refl _ _).alloc (Nat.le_refl _) _) HG3.out HO3.out rfl HAT3.out, HB3.out⟩
              case measure => simp [intOf]; omega
            · obtain rfl : j = l.length := by omega
              have HE := Lib.hid (show growV (G.take (k + 1)) l = X by rw [← HX.out, growK_all HF.out])
              go_wp2
              go_roundw
              case rel => exact ⟨k + 1, aK, cK, vsK, by omega, by go_num, by rw [HE.out], by rw [HE.out]; exact HNX.out, HB.out⟩
              case measure => simp [intOf]; omega
        · obtain rfl : k = G.length := by omega
          have HE := Lib.hid (show growV (G.take G.length) l = gridT R (n + 1) by rw [gridT_succ R hlt, HG.out, HL.out, List.take_length])
          rw [HE.out] at HNM
          rw [HE.out]
          go_wp2
          go_roundw
          case rel => exact ⟨n + 1, aN, cN, vsN, by omega, by go_num, rfl, HNM.out.mono HBO.out.size, HBO.out.trans (HBM.out.mono HBO.out.size)⟩
          case measure => simp [intOf]; omega
    · obtain rfl : n = 6 := by omega
      go_wp2
      go_ret
      have e : gridV (levs R) = G := by rw [← gridT_all, HG.out]
      rw [e]
      exact ⟨_, _, _, rfl, HOWN.out, HBO.out⟩

end Go.Proofs.Ytpldjihajclblaa
