/-
  What spec.OrderTokens answers. By an AI agent.
-/
import Derived.Test.YthjbekgognfiiaaGreatJ6
import Derived.Test.YthjbekgognfiiaaGreatJ4
import Derived.Test.YthjbekgognfiiaaGreatJ2
import Derived.Deep.CutBlock
import Derived.Deep.DeepCutAuto
namespace Go.Proofs.YthjbekgognfiiaaGreat
open Go.RowKit
set_option linter.unusedVariables false
set_option linter.unusedSimpArgs false

set_option maxRecDepth 100000 in
set_option maxHeartbeats 40000000 in
theorem ord_spec (a0 : Option Addr) (c0 : Nat) (tab : List TC) (a1 : Option Addr) (c1 : Nat) (l : List Str) (r : List Str) (w : World) (hr : ordR tab l = r) (h0 : SmT w a0 tab c0) (h1 : Sm w a1 l c1) :
    Calls Tryz.prog 109 #[.slice a0 tab.length c0, .slice a1 l.length c1] w (GivesS w r) := by
  obtain ⟨hin0, -, -, hl0, -⟩ := h0
  obtain ⟨hin1, -, -, hl1, -⟩ := h1
  have H0 := Lib.hid hin0
  have H1 := Lib.hid hin1
  have HR := Lib.hid hr
  clear hin0 hin1 hr
  go_enter Tryz.func109, Tryz.ntmps109
  go_wp2
  go_loopw [5, 6] (fun v i wr => ∃ (k : Nat) (g : Nat) (c : Nat) (q : List Str), k ≤ l.length ∧ i = .int .i64 k ∧ v = .slice (some ⟨g, 0, none⟩) q.length c ∧ q.length = k ∧ q.Perm (l.take k) ∧ q.Pairwise (KLe tab) ∧ OwnS wr w.heap.size (.slice (some ⟨g, 0, none⟩) q.length c) q ∧ Below w.heap.size w wr) (fun _ i _ => l.length - (intOf i).toNat)
  case atStart => exact ⟨0, _, _, [], Nat.zero_le _, rfl, rfl, rfl, List.Perm.refl _, List.Pairwise.nil, own_new w w.heap.size w.heap.size rfl (Nat.le_refl _), (Below.refl _ _).alloc (Nat.le_refl _) _⟩
  case round =>
    obtain ⟨k, g, c, q, hk, rfl, rfl, hql, hqp, hqs, hown, hb⟩ := hrel
    have HQP := Lib.hid hqp
    have HQS := Lib.hid hqs
    have HOWN := Lib.hid hown
    have HB := Lib.hid hb
    have HQL := Lib.hid hql
    have hq4 : q.length ≤ 4000000 := by omega
    clear hqp hqs hown hb hql
    by_cases hlt : k < l.length
    · obtain ⟨b, off, rfl, hbw, hc⟩ := H1.out (by omega)
      obtain ⟨x, s, hx1, hx2, hx3, hx4⟩ := str_at hlt
      have hcell : wr.cell? ⟨b, off + k, none⟩ = some (.string s) := by
        rw [HB.out.cell (p := ⟨b, off + k, none⟩) hbw, ← hx3]
        exact hc k x hx1
      have HX1 := Lib.hid hx1
      have HX2 := Lib.hid hx2
      have HBW := Lib.hid (Nat.lt_of_lt_of_le hbw HB.out.size)
      obtain ⟨n, hn⟩ : ∃ n, frqL tab x = n := ⟨_, rfl⟩
      have HN := Lib.hid hn
      have HF := Lib.hid (fun (W : World) (hW : Below w.heap.size w W) (u : ByteArray) (r : Int) (hu : frqL tab u.data.toList = r) => freq_spec a0 c0 tab u W hl0 (H0.out.below hW) r hu)
      have HIN := Lib.hid HOWN.out.inS
      obtain ⟨wo, rfl⟩ : ∃ wo, wo = wr := ⟨_, rfl⟩
      clear hc hx1 hx3 hx4 hbw hn
      go_upto_block 2 with (go_at_call 130; (refine (HF.out _ HB.out s n (by rw [HX2.out]; exact HN.out)).mono ?_); rintro e w' ⟨rfl, hw'⟩; obtain rfl := hw'.symm)
      go_cut [8] from 24 to 61 (fun s8 wx => ∃ m : Nat, s8 = .int .i64 m ∧ m ≤ q.length ∧ (∀ y, q[m]? = some y → KLe tab x y) ∧ (∀ y, 0 < m → q[m - 1]? = some y → KLe tab y x) ∧ Below wo.heap.size wo wx)
      case first =>
        go_wp2_with fail
        go_loopw [8] (fun j wr => ∃ m : Nat, j = .int .i64 m ∧ m ≤ q.length ∧ (∀ y, q[m]? = some y → KLe tab x y) ∧ Below wo.heap.size wo wr) (fun j _ => (intOf j).toNat)
        case atStart => exact ⟨q.length, rfl, Nat.le_refl _, fun y hy => absurd (List.getElem?_eq_some_iff.1 hy).1 (Nat.lt_irrefl _), Below.refl _ _⟩
        case round =>
          obtain ⟨m, rfl, hm, hhi, hb2⟩ := hrel
          have HHI := Lib.hid hhi
          have HB2 := Lib.hid hb2
          clear hhi hb2
          by_cases h0 : m = 0
          · subst h0
            clear hcell
            go_wp2
            go_quiet (fail)
            go_wp2
            go_meet
            case rel => exact ⟨0, rfl, Nat.zero_le _, HHI.out, fun y h => absurd h (Nat.lt_irrefl 0), HB2.out.trans (quiet_below _ _ _)⟩
          · obtain ⟨j, rfl⟩ : ∃ j, m = j + 1 := ⟨m - 1, by omega⟩
            have hgl := (World.ownsRow.lt HOWN.out g rfl).2
            obtain ⟨y, t, hy1, hy2, hy3, hy4⟩ := str_at (show j < q.length by omega)
            obtain ⟨g', off', e', _, hcq⟩ := HIN.out (by omega)
            obtain ⟨rfl, rfl⟩ : g = g' ∧ 0 = off' := by simpa using e'
            have hc1 : wr.cell? ⟨g, j, none⟩ = some (.string t) := by
              have h := hcq j y hy1
              rw [Nat.zero_add, hy3] at h
              rw [HB2.out.cell (p := ⟨g, j, none⟩) hgl]
              exact h
            have hc2 : wr.cell? ⟨b, off + k, none⟩ = some (.string s) := by rw [HB2.out.cell (p := ⟨b, off + k, none⟩) HBW.out]; exact hcell
            obtain ⟨f, hf⟩ : ∃ f, frqL tab y = f := ⟨_, rfl⟩
            have HFY := Lib.hid hf
            have HD := Lib.hid (fun n' : Nat => HF.out (wr.drewN n') ((HB.out.trans (HB2.out.mono HB.out.size)).trans (quiet_below _ _ _)) t f (by rw [hy2]; exact hf))
            have HY1 := Lib.hid hy1
            have hx2 := HX2.out
            clear hcell hcq e' hf hgl h0 hy1 hy3 hy4
            rcases Int.lt_trichotomy n f with hfn | hfn | hfn
            · have HFN := Lib.hid hfn
              clear hx2 hy2
              go_wp2
              go_quiet ((go_at_call 130; with_reducible exact Calls.quiet_of_same (HD.out _)))
              go_wp2
              go_roundw
              case rel => exact ⟨j, by go_num, by omega, fun y' hy' => by rw [HY1.out] at hy'; rw [← Option.some.inj hy']; exact (kle_iff.2 (.inl (by rw [HN.out, HFY.out]; exact HFN.out))), HB2.out.trans (quiet_below _ _ _)⟩
              case measure => simp [intOf]
            · subst hfn
              by_cases hxy : x < y
              · have hl1 := less_no hy2 hx2 (fun h => List.lt_irrefl x (str_lt_trans hxy h))
                have hl2 := less_yes hx2 hy2 hxy
                have hn1 := str_ne3 hy2 hx2 (fun e => by rw [e] at hxy; exact List.lt_irrefl x hxy)
                have hn2 := str_ne3 hx2 hy2 (fun e => by rw [e] at hxy; exact List.lt_irrefl y hxy)
                have HXY := Lib.hid (str_le_of hxy)
                clear hx2 hy2 hxy
                go_wp2
                go_quiet ((go_at_call 130; with_reducible exact Calls.quiet_of_same (HD.out _)))
                go_wp2
                go_roundw
                case rel => exact ⟨j, by go_num, by omega, fun y' hy' => by rw [HY1.out] at hy'; rw [← Option.some.inj hy']; exact (kle_iff.2 (.inr ⟨by rw [HN.out, HFY.out], HXY.out⟩)), HB2.out.trans (quiet_below _ _ _)⟩
                case measure => simp [intOf]
              · have HXY := Lib.hid (List.not_lt.1 hxy)
                by_cases he : y = x
                · obtain rfl := str_eq3 hy2 hx2 he
                  have hl1 := less_no hy2 hy2 (List.lt_irrefl y)
                  clear hx2 hy2 hxy he
                  go_wp2
                  go_quiet ((go_at_call 130; with_reducible exact Calls.quiet_of_same (HD.out _)))
                  go_wp2
                  go_meet
                  case rel => exact ⟨j + 1, by go_num, by omega, HHI.out, fun y' _ hy' => by rw [show j + 1 - 1 = j from rfl, HY1.out] at hy'; rw [← Option.some.inj hy']; exact (kle_iff.2 (.inr ⟨by rw [HN.out, HFY.out], HXY.out⟩)), HB2.out.trans (quiet_below _ _ _)⟩
                · have hl1 := less_yes hy2 hx2 (str_lt_of (List.not_lt.1 hxy) he)
                  have hl2 := less_no hx2 hy2 hxy
                  have hn1 := str_ne3 hy2 hx2 he
                  have hn2 := str_ne3 hx2 hy2 (fun e => he e.symm)
                  clear hx2 hy2 hxy he
                  go_wp2
                  go_quiet ((go_at_call 130; with_reducible exact Calls.quiet_of_same (HD.out _)))
                  go_wp2
                  go_meet
                  case rel => exact ⟨j + 1, by go_num, by omega, HHI.out, fun y' _ hy' => by rw [show j + 1 - 1 = j from rfl, HY1.out] at hy'; rw [← Option.some.inj hy']; exact (kle_iff.2 (.inr ⟨by rw [HN.out, HFY.out], HXY.out⟩)), HB2.out.trans (quiet_below _ _ _)⟩
            · have HFN := Lib.hid hfn
              have hb1 : decide (n < f) = false := decide_eq_false (by omega)
              have hb2 : (f == n) = false := by simp; omega
              clear hx2 hy2 hfn
              go_wp2
              go_quiet ((go_at_call 130; with_reducible exact Calls.quiet_of_same (HD.out _)))
              go_wp2
              go_meet
              case rel => exact ⟨j + 1, by go_num, by omega, HHI.out, fun y' _ hy' => by rw [show j + 1 - 1 = j from rfl, HY1.out] at hy'; rw [← Option.some.inj hy']; exact (kle_iff.2 (.inl (by rw [HN.out, HFY.out]; exact HFN.out))), HB2.out.trans (quiet_below _ _ _)⟩
      case rest =>
        obtain ⟨m, rfl, hm, hhi, hlo, hbc⟩ := hcut
        have HBWC := Lib.hid (HB.out.trans (hbc.mono HB.out.size))
        have HINC := Lib.hid (HIN.out.below hbc)
        have HBC := Lib.hid (Nat.lt_of_lt_of_le HBW.out hbc.size)
        have hc2 : wc.cell? ⟨b, off + k, none⟩ = some (.string s) := by rw [hbc.cell (p := ⟨b, off + k, none⟩) HBW.out]; exact hcell
        have B0 := Lib.hid ((Below.refl wc.heap.size wc).alloc (Nat.le_refl _) (.cells #[] 9))
        obtain ⟨hp1, hs1⟩ := ord_step (t := tab) HQP.out HQS.out hm hlo hhi
        have hlc := HOWN.out.cap_ge
        have FIN := Lib.hid (show ∀ (v : Value) (w3 : World), OwnS w3 wc.heap.size v (q.take m ++ x :: q.drop m) → Below wc.heap.size wc w3 → ∃ (k_1 : Nat) (g : Nat) (c : Nat) (q : List Str), k_1 ≤ l.length ∧ Value.int .i64 ((k : Int) + 1) = .int .i64 k_1 ∧ v = .slice (some ⟨g, 0, none⟩) q.length c ∧ q.length = k_1 ∧ q.Perm (l.take k_1) ∧ q.Pairwise (KLe tab) ∧ OwnS w3 w.heap.size (.slice (some ⟨g, 0, none⟩) q.length c) q ∧ Below w.heap.size w w3 from fun v w3 ho hb3 => by
          have hlen : (q.take m ++ x :: q.drop m).length = k + 1 := by
            have := HQL.out
            simp only [List.length_append, List.length_cons, List.length_take, List.length_drop]
            omega
          obtain ⟨a', c', e⟩ := ho.shape
          subst e
          obtain ⟨g', rfl, _⟩ := own_at (show w3.ownsRow wc.heap.size 9 1 _ _ _ from ho) (by omega)
          exact ⟨k + 1, g', c', _, by omega, by go_num, rfl, hlen, by rw [take_snoc' HX1.out]; exact hp1, hs1, ho.mono (Nat.le_trans HB.out.size hbc.size), HBWC.out.trans (hb3.mono HBWC.out.size)⟩)
        have h1 : (0 : Int) ≤ (m : Int) := by omega
        have h2 : (m : Int) ≤ (c : Int) := by omega
        have h3 : (m : Int) ≤ (q.length : Int) := by omega
        clear hhi hlo hbc hp1 hs1 hcell
        by_cases hkc : c = m
        · subst hkc
          have hmin : (q.take c).length = c := by rw [List.length_take]; omega
          have hdr : (q.drop c).length = 0 := by rw [List.length_drop]; omega
          have O1 : Hid (OwnS (wc.alloc (.cells #[] 9)).drew wc.heap.size (.slice (some ⟨wc.heap.size, 0, none⟩) 0 0) []) := Lib.hid (own_new wc wc.heap.size wc.heap.size rfl (Nat.le_refl _))
          have B1 := Lib.hid ((Below.refl wc.heap.size wc).alloc (Nat.le_refl _) (.cells #[] 9)).drew
          have O2 : Hid (OwnS ((wc.alloc (.cells #[] 9)).alloc (.cells #[.string s] 9)).drew wc.heap.size (.slice (some ⟨wc.heap.size, 0, none⟩) 0 0) []) := Lib.hid ((own_new wc wc.heap.size wc.heap.size rfl (Nat.le_refl _)).alloc (.cells #[.string s] 9))
          have B2 := Lib.hid (((Below.refl wc.heap.size wc).alloc (Nat.le_refl _) (.cells #[] 9)).alloc (by simp) (.cells #[.string s] 9)).drew
          have S2 : Hid (InS ((wc.alloc (.cells #[] 9)).alloc (.cells #[.string s] 9)).drew (some ⟨wc.heap.size + 1, 0, none⟩) [x]) := Lib.hid (in_one (wc.alloc (.cells #[] 9)) (wc.heap.size + 1) s x (by simp) HX2.out)
          have O3 : Hid (OwnS ((wc.alloc (.cells #[.string s] 9)).alloc (.cells #[] 9)).drew wc.heap.size (.slice (some ⟨wc.heap.size + 1, 0, none⟩) 0 0) []) := Lib.hid (own_new (wc.alloc (.cells #[.string s] 9)) wc.heap.size (wc.heap.size + 1) (by simp) (by omega))
          have B3 := Lib.hid (((Below.refl wc.heap.size wc).alloc (Nat.le_refl _) (.cells #[.string s] 9)).alloc (by simp) (.cells #[] 9)).drew
          have S3 : Hid (InS ((wc.alloc (.cells #[.string s] 9)).alloc (.cells #[] 9)).drew (some ⟨wc.heap.size, 0, none⟩) [x]) := Lib.hid ((in_one wc wc.heap.size s x rfl HX2.out).alloc (.cells #[] 9))
          have L1 : (wc.alloc (.cells #[] 9)).cell? ⟨b, off + k, none⟩ = some (.string s) := (B0.out.cell (p := ⟨b, off + k, none⟩) HBC.out).trans hc2
          have HM := Lib.hid hmin
          have HD := Lib.hid hdr
          clear hmin hdr
          go_wp2
          go_region_law (first
            | (refine step_app (by rfl) (.tmp 62) (.tmp 65) (by rfl) wc.heap.size (.slice (some ⟨wc.heap.size, 0, none⟩) 0 0) [] (by rfl) (some ⟨g, 0, none⟩) c c (q.take c) (by rfl) HM.out.symm O1.out ((HINC.out.below B1.out).take' c) nofun (by have e1 := HM.out; have e2 := HD.out; simp only [List.length_append, List.length_cons, List.length_nil] at e1 e2 ⊢; omega) B1.out.size ?_; intro v1 w1 ho1 hg1; have hb1 : Below wc.heap.size wc w1 := grown_old B1.out hg1 O1.out; have hl1 := (hb1.cell (p := ⟨b, off + k, none⟩) HBC.out).trans hc2)
            | (refine step_app (by rfl) (.tmp 62) (.tmp 65) (by rfl) wc.heap.size (.slice (some ⟨wc.heap.size, 0, none⟩) 0 0) [] (by rfl) (some ⟨g, 0, none⟩) c c (q.take c) (by rfl) HM.out.symm O2.out ((HINC.out.below B2.out).take' c) nofun (by have e1 := HM.out; have e2 := HD.out; simp only [List.length_append, List.length_cons, List.length_nil] at e1 e2 ⊢; omega) B2.out.size ?_; intro v1 w1 ho1 hg1; have hb1 : Below wc.heap.size wc w1 := grown_old B2.out hg1 O2.out; have hs1 := S2.out.grown hg1 (by intro b off e; cases e; simp [Value.ownBlock]); have hl1 := (hb1.cell (p := ⟨b, off + k, none⟩) HBC.out).trans hc2)
            | (refine step_app (by rfl) (.tmp 62) (.tmp 65) (by rfl) wc.heap.size (.slice (some ⟨wc.heap.size + 1, 0, none⟩) 0 0) [] (by rfl) (some ⟨g, 0, none⟩) c c (q.take c) (by rfl) HM.out.symm O3.out ((HINC.out.below B3.out).take' c) nofun (by have e1 := HM.out; have e2 := HD.out; simp only [List.length_append, List.length_cons, List.length_nil] at e1 e2 ⊢; omega) B3.out.size ?_; intro v1 w1 ho1 hg1; have hb1 : Below wc.heap.size wc w1 := grown_old B3.out hg1 O3.out; have hs1 := S3.out.grown hg1 (by intro b off e; cases e; simp [Value.ownBlock]); have hl1 := (hb1.cell (p := ⟨b, off + k, none⟩) HBC.out).trans hc2)
            | (refine step_app (by rfl) (.tmp 66) (.tmp 71) (by rfl) wc.heap.size v1 ([] ++ (q.take c)) (by rfl) (some ⟨wc.heap.size + 1, 0, none⟩) 1 1 [x] (by rfl) rfl ho1 hs1 nofun (by have e1 := HM.out; have e2 := HD.out; simp only [List.length_append, List.length_cons, List.length_nil] at e1 e2 ⊢; omega) hb1.size ?_; intro v2 w2 ho2 hg2; have hb2 : Below wc.heap.size wc w2 := grown_old hb1 hg2 ho1)
            | (refine step_app (by rfl) (.tmp 66) (.tmp 71) (by rfl) wc.heap.size v1 ([] ++ (q.take c)) (by rfl) (some ⟨wc.heap.size, 0, none⟩) 1 1 [x] (by rfl) rfl ho1 hs1 nofun (by have e1 := HM.out; have e2 := HD.out; simp only [List.length_append, List.length_cons, List.length_nil] at e1 e2 ⊢; omega) hb1.size ?_; intro v2 w2 ho2 hg2; have hb2 : Below wc.heap.size wc w2 := grown_old hb1 hg2 ho1)
            | (refine step_app (by rfl) (.tmp 66) (.tmp 71) (by rfl) wc.heap.size v1 ([] ++ (q.take c)) (by rfl) (some ⟨w1.heap.size, 0, none⟩) 1 1 [x] (by rfl) rfl (ho1.alloc _) (in_one w1 w1.heap.size s x rfl HX2.out) nofun (by have e1 := HM.out; have e2 := HD.out; simp only [List.length_append, List.length_cons, List.length_nil] at e1 e2 ⊢; omega) (hb1.alloc hb1.size _).size ?_; intro v2 w2 ho2 hg2; have hb2 : Below wc.heap.size wc w2 := grown_old (hb1.alloc hb1.size _) hg2 (ho1.alloc _))
            | (refine step_app (by rfl) (.tmp 72) (.tmp 75) (by rfl) wc.heap.size v2 ([] ++ (q.take c) ++ [x]) (by rfl) (some ⟨g, 0, none⟩) 0 0 (q.drop c) (by rfl) HD.out.symm ho2 (InS.empty _ _ (by rw [List.length_drop]; omega)) nofun (by have e1 := HM.out; have e2 := HD.out; simp only [List.length_append, List.length_cons, List.length_nil] at e1 e2 ⊢; omega) hb2.size ?_; intro v3 w3 ho3 hg3; have hb3 : Below wc.heap.size wc w3 := grown_old hb2 hg3 ho2))
          all_goals go_wp2
          all_goals go_roundw
          all_goals first | (case rel => exact FIN.out v3 w3 (by have h := ho3; simpa using h) hb3) | skip
          all_goals (simp [intOf]; omega)
        · have hkc2 : ¬ (c : Int) = (m : Int) := by omega
          have hmin : (q.take m).length = m := by rw [List.length_take]; omega
          have hdr : (q.drop m).length = (q.length - m) := List.length_drop
          have O1 : Hid (OwnS (wc.alloc (.cells #[] 9)).drew wc.heap.size (.slice (some ⟨wc.heap.size, 0, none⟩) 0 0) []) := Lib.hid (own_new wc wc.heap.size wc.heap.size rfl (Nat.le_refl _))
          have B1 := Lib.hid ((Below.refl wc.heap.size wc).alloc (Nat.le_refl _) (.cells #[] 9)).drew
          have O2 : Hid (OwnS ((wc.alloc (.cells #[] 9)).alloc (.cells #[.string s] 9)).drew wc.heap.size (.slice (some ⟨wc.heap.size, 0, none⟩) 0 0) []) := Lib.hid ((own_new wc wc.heap.size wc.heap.size rfl (Nat.le_refl _)).alloc (.cells #[.string s] 9))
          have B2 := Lib.hid (((Below.refl wc.heap.size wc).alloc (Nat.le_refl _) (.cells #[] 9)).alloc (by simp) (.cells #[.string s] 9)).drew
          have S2 : Hid (InS ((wc.alloc (.cells #[] 9)).alloc (.cells #[.string s] 9)).drew (some ⟨wc.heap.size + 1, 0, none⟩) [x]) := Lib.hid (in_one (wc.alloc (.cells #[] 9)) (wc.heap.size + 1) s x (by simp) HX2.out)
          have O3 : Hid (OwnS ((wc.alloc (.cells #[.string s] 9)).alloc (.cells #[] 9)).drew wc.heap.size (.slice (some ⟨wc.heap.size + 1, 0, none⟩) 0 0) []) := Lib.hid (own_new (wc.alloc (.cells #[.string s] 9)) wc.heap.size (wc.heap.size + 1) (by simp) (by omega))
          have B3 := Lib.hid (((Below.refl wc.heap.size wc).alloc (Nat.le_refl _) (.cells #[.string s] 9)).alloc (by simp) (.cells #[] 9)).drew
          have S3 : Hid (InS ((wc.alloc (.cells #[.string s] 9)).alloc (.cells #[] 9)).drew (some ⟨wc.heap.size, 0, none⟩) [x]) := Lib.hid ((in_one wc wc.heap.size s x rfl HX2.out).alloc (.cells #[] 9))
          have L1 : (wc.alloc (.cells #[] 9)).cell? ⟨b, off + k, none⟩ = some (.string s) := (B0.out.cell (p := ⟨b, off + k, none⟩) HBC.out).trans hc2
          have HM := Lib.hid hmin
          have HD := Lib.hid hdr
          clear hmin hdr
          go_wp2
          go_region_law (first
            | (refine step_app (by rfl) (.tmp 62) (.tmp 65) (by rfl) wc.heap.size (.slice (some ⟨wc.heap.size, 0, none⟩) 0 0) [] (by rfl) (some ⟨g, 0, none⟩) m c (q.take m) (by rfl) HM.out.symm O1.out ((HINC.out.below B1.out).take' m) nofun (by have e1 := HM.out; have e2 := HD.out; simp only [List.length_append, List.length_cons, List.length_nil] at e1 e2 ⊢; omega) B1.out.size ?_; intro v1 w1 ho1 hg1; have hb1 : Below wc.heap.size wc w1 := grown_old B1.out hg1 O1.out; have hl1 := (hb1.cell (p := ⟨b, off + k, none⟩) HBC.out).trans hc2)
            | (refine step_app (by rfl) (.tmp 62) (.tmp 65) (by rfl) wc.heap.size (.slice (some ⟨wc.heap.size, 0, none⟩) 0 0) [] (by rfl) (some ⟨g, 0, none⟩) m c (q.take m) (by rfl) HM.out.symm O2.out ((HINC.out.below B2.out).take' m) nofun (by have e1 := HM.out; have e2 := HD.out; simp only [List.length_append, List.length_cons, List.length_nil] at e1 e2 ⊢; omega) B2.out.size ?_; intro v1 w1 ho1 hg1; have hb1 : Below wc.heap.size wc w1 := grown_old B2.out hg1 O2.out; have hs1 := S2.out.grown hg1 (by intro b off e; cases e; simp [Value.ownBlock]); have hl1 := (hb1.cell (p := ⟨b, off + k, none⟩) HBC.out).trans hc2)
            | (refine step_app (by rfl) (.tmp 62) (.tmp 65) (by rfl) wc.heap.size (.slice (some ⟨wc.heap.size + 1, 0, none⟩) 0 0) [] (by rfl) (some ⟨g, 0, none⟩) m c (q.take m) (by rfl) HM.out.symm O3.out ((HINC.out.below B3.out).take' m) nofun (by have e1 := HM.out; have e2 := HD.out; simp only [List.length_append, List.length_cons, List.length_nil] at e1 e2 ⊢; omega) B3.out.size ?_; intro v1 w1 ho1 hg1; have hb1 : Below wc.heap.size wc w1 := grown_old B3.out hg1 O3.out; have hs1 := S3.out.grown hg1 (by intro b off e; cases e; simp [Value.ownBlock]); have hl1 := (hb1.cell (p := ⟨b, off + k, none⟩) HBC.out).trans hc2)
            | (refine step_app (by rfl) (.tmp 66) (.tmp 71) (by rfl) wc.heap.size v1 ([] ++ (q.take m)) (by rfl) (some ⟨wc.heap.size + 1, 0, none⟩) 1 1 [x] (by rfl) rfl ho1 hs1 nofun (by have e1 := HM.out; have e2 := HD.out; simp only [List.length_append, List.length_cons, List.length_nil] at e1 e2 ⊢; omega) hb1.size ?_; intro v2 w2 ho2 hg2; have hb2 : Below wc.heap.size wc w2 := grown_old hb1 hg2 ho1)
            | (refine step_app (by rfl) (.tmp 66) (.tmp 71) (by rfl) wc.heap.size v1 ([] ++ (q.take m)) (by rfl) (some ⟨wc.heap.size, 0, none⟩) 1 1 [x] (by rfl) rfl ho1 hs1 nofun (by have e1 := HM.out; have e2 := HD.out; simp only [List.length_append, List.length_cons, List.length_nil] at e1 e2 ⊢; omega) hb1.size ?_; intro v2 w2 ho2 hg2; have hb2 : Below wc.heap.size wc w2 := grown_old hb1 hg2 ho1)
            | (refine step_app (by rfl) (.tmp 66) (.tmp 71) (by rfl) wc.heap.size v1 ([] ++ (q.take m)) (by rfl) (some ⟨w1.heap.size, 0, none⟩) 1 1 [x] (by rfl) rfl (ho1.alloc _) (in_one w1 w1.heap.size s x rfl HX2.out) nofun (by have e1 := HM.out; have e2 := HD.out; simp only [List.length_append, List.length_cons, List.length_nil] at e1 e2 ⊢; omega) (hb1.alloc hb1.size _).size ?_; intro v2 w2 ho2 hg2; have hb2 : Below wc.heap.size wc w2 := grown_old (hb1.alloc hb1.size _) hg2 (ho1.alloc _))
            | (refine step_app (by rfl) (.tmp 72) (.tmp 75) (by rfl) wc.heap.size v2 ([] ++ (q.take m) ++ [x]) (by rfl) (some ⟨g, m, none⟩) (q.length - m) (c - m) (q.drop m) (by rfl) HD.out.symm ho2 ((HINC.out.below hb2).drop0 m) nofun (by have e1 := HM.out; have e2 := HD.out; simp only [List.length_append, List.length_cons, List.length_nil] at e1 e2 ⊢; omega) hb2.size ?_; intro v3 w3 ho3 hg3; have hb3 : Below wc.heap.size wc w3 := grown_old hb2 hg3 ho2))
          all_goals go_wp2
          all_goals go_roundw
          all_goals first | (case rel => exact FIN.out v3 w3 (by have h := ho3; simpa using h) hb3) | skip
          all_goals (simp [intOf]; omega)
    · obtain rfl : k = l.length := by omega
      go_wp2
      go_ret
      have e : q = r := by
        rw [← HR.out]
        refine ord_unique ?_ HQS.out
        have h := HQP.out
        rwa [List.take_length] at h
      subst e
      exact ⟨_, c, rfl, HOWN.out, HB.out⟩

end Go.Proofs.YthjbekgognfiiaaGreat
