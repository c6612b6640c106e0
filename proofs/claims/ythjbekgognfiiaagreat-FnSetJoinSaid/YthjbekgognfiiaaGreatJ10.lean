/-
  Texts laid together: Cnt, CntS, CntC, TabDraw. By an AI agent.
-/
import Derived.Test.YthjbekgognfiiaaGreatJ6
import Derived.Test.YthjbekgognfiiaaGreatJ8
import Derived.Test.YthjbekgognfiiaaGreatJ4
import Derived.Test.YthjbekgognfiiaaGreatJ7
import Derived.Test.YthjbekgognfiiaaGreatJ5
import Derived.Test.YthjbekgognfiiaaGreatJ9
/-
  What impl.CountTokens answers. By an AI agent.
-/
namespace Go.Proofs.YthjbekgognfiiaaGreat
open Go.RowKit Go.Maps Go.Sort
set_option linter.unusedVariables false

end Go.Proofs.YthjbekgognfiiaaGreat

/-
  What spec.CountTokens answers. By an AI agent.
-/
namespace Go.Proofs.YthjbekgognfiiaaGreat
open Go.RowKit Go.Maps
set_option linter.unusedVariables false

theorem le_last {r : List Str} (hs : r.Pairwise (· ≤ ·)) {j : Nat} {x : Str} (hx : r[j]? = some x) : ∀ y ∈ r.take (j + 1), y ≤ x := by
  intro y hy
  obtain ⟨i, hi⟩ := List.getElem?_of_mem hy
  have hij : i < j + 1 := by
    have := (List.getElem?_eq_some_iff.1 hi).1
    rw [List.length_take] at this
    omega
  rw [List.getElem?_take_of_lt hij] at hi
  by_cases e : i = j
  · subst e
    rw [hx] at hi
    rw [← Option.some.inj hi]
    exact List.le_refl x
  · obtain ⟨h1, h2⟩ := List.getElem?_eq_some_iff.1 hi
    obtain ⟨h3, h4⟩ := List.getElem?_eq_some_iff.1 hx
    have := (List.pairwise_iff_getElem.1 hs) i j h1 h3 (by omega)
    rw [h2, h4] at this
    exact this
theorem mem_last {r : List Str} {j : Nat} {x : Str} (hx : r[j]? = some x) : x ∈ r.take (j + 1) := by
  rw [take_snoc' hx]
  simp
theorem put_count (r : List Str) (x t : Str) : (putL true r x).count t = r.count t + if x = t then 1 else 0 := by
  rw [(putL_perm x r).count_eq, List.count_cons]
  by_cases h : x = t
  · subst h; simp
  · have : (x == t) = false := by simpa using h
    simp [h, this]
theorem mem_step {l : List Str} {j : Nat} {x : Str} (h : l[j]? = some x) (t : Str) : t ∈ l.take (j + 1) ↔ t ∈ l.take j ∨ t = x := by
  rw [take_snoc' h, List.mem_append, List.mem_singleton]
theorem row_made_t (w : World) : (w.alloc (.cells #[] 109)).ownsRow w.heap.size 109 2 (.slice (some ⟨w.heap.size, 0, none⟩) 0 0) 0 [] :=
  World.ownsRow_made w #[] 0 (Nat.le_refl _) (by unfold maxLen; omega) rfl

set_option maxRecDepth 100000 in
set_option maxHeartbeats 2000000 in
theorem cnt_spec (a : Option Addr) (c : Nat) (ls : List (List Str)) (w : World) (h0 : SmSS w a ls) :
    Calls Tryz.prog 97 #[.slice a ls.length c] w (GivesT w (ctR ls)) := by
  obtain ⟨hin, hl, hfl, hx⟩ := h0
  have HIN := Lib.hid hin
  have HX := Lib.hid hx
  have HQ := Lib.hid (show ∀ k, sumL ls k ≤ 4000000 from fun k => by have := sumL_le ls k; omega)
  have HLL := Lib.hid (show ∀ l ∈ ls, l.length ≤ 4000000 from fun l hl => by
    obtain ⟨k, hk⟩ := List.getElem?_of_mem hl
    have h1 := sumL_succ hk
    have h2 := sumL_le ls (k + 1)
    omega)
  clear hin hx hfl
  obtain ⟨i1, hi1, hy0, hy1, hy2⟩ := info_parts info_tc
  go_enter Tryz.func97, Tryz.ntmps97
  go_wp2
  go_loopw [3, 4] (fun v i wr => ∃ (k : Nat) (a : Option Addr) (c : Nat) (r : List Str), k ≤ ls.length ∧ i = .int .i64 k ∧ v = .slice a r.length c ∧ OwnS wr w.heap.size (.slice a r.length c) r ∧ r.Pairwise (· ≤ ·) ∧ (∀ t, r.count t = hasN (ls.take k) t) ∧ r.length ≤ sumL ls k ∧ Below w.heap.size w wr) (fun _ i _ => ls.length - (intOf i).toNat)
  case atStart => exact ⟨0, _, _, [], Nat.zero_le _, rfl, rfl, own_new w w.heap.size w.heap.size rfl (Nat.le_refl _), List.Pairwise.nil, fun t => rfl, Nat.zero_le _, (Below.refl _ _).alloc (Nat.le_refl _) _⟩
  case round =>
    obtain ⟨k, ar, cr, r, hk, rfl, rfl, hown, hso, hcn, hrl, hb⟩ := hrel
    have HOWN := Lib.hid hown
    have HSO := Lib.hid hso
    have HCN := Lib.hid hcn
    have HRL := Lib.hid hrl
    have HB := Lib.hid hb
    clear hown hso hcn hrl hb
    by_cases hlt : k < ls.length
    · have hj := List.getElem?_eq_getElem hlt
      have HJ := Lib.hid hj
      have hm := List.mem_of_getElem? hj
      have HLK := Lib.hid (HLL.out _ hm)
      have HXK := Lib.hid (HX.out _ hm)
      obtain ⟨b, off, rfl, hbw, hc⟩ := HIN.out (by omega)
      obtain ⟨a', c', hcl, -, hlc, hin'⟩ := hc k _ hj
      have hl4 := HLK.out
      generalize hgl : ls[k] = l at hcl hin' hlc HJ HLK HXK hl4
      have HC := Lib.hid hcl
      have HI := Lib.hid hin'
      have HBW := Lib.hid hbw
      clear hj hm hc hcl hin' hbw hgl
      have hcell : wr.cell? ⟨b, off + k, none⟩ = some (.slice a' l.length c') := by rw [HB.out.cell (p := ⟨b, off + k, none⟩) HBW.out]; exact HC.out
      obtain ⟨wo, rfl⟩ : ∃ wo, wo = wr := ⟨_, rfl⟩
      go_wp2
      go_loopw [3, 5] (fun v i wr => ∃ (j : Nat) (a : Option Addr) (c : Nat) (r : List Str), j ≤ l.length ∧ i = .int .i64 j ∧ v = .slice a r.length c ∧ OwnS wr w.heap.size (.slice a r.length c) r ∧ r.Pairwise (· ≤ ·) ∧ (∀ t, r.count t = hasN (ls.take k) t + if t ∈ l.take j then 1 else 0) ∧ r.length ≤ sumL ls k + j ∧ Below w.heap.size w wr) (fun _ i _ => l.length - (intOf i).toNat)
      case atStart => exact ⟨0, ar, cr, r, Nat.zero_le _, rfl, rfl, HOWN.out, HSO.out, fun t => by rw [HCN.out t]; simp, by have := HRL.out; omega, HB.out⟩
      case round =>
        clear hcell HOWN HSO HCN HRL HB
        obtain ⟨j, ar2, cr2, r2, hjl, rfl, rfl, hown, hso, hcn, hrl, hb⟩ := hrel
        have HOWN := Lib.hid hown
        have HSO := Lib.hid hso
        have HCN := Lib.hid hcn
        have HRL := Lib.hid hrl
        have HB := Lib.hid hb
        clear hown hso hcn hrl hb
        have hcell : wr.cell? ⟨b, off + k, none⟩ = some (.slice a' l.length c') := by rw [HB.out.cell (p := ⟨b, off + k, none⟩) HBW.out]; exact HC.out
        have hq := HQ.out k
        have hr8 : r2.length ≤ 8000000 := by have := HRL.out; omega
        by_cases hjt : j < l.length
        · obtain ⟨b', off', rfl, hbw', hc'⟩ := HI.out (by omega)
          obtain ⟨x, s, hx1, hx2, hx3, hx4⟩ := str_at hjt
          have hcell2 : wr.cell? ⟨b', off' + j, none⟩ = some (.string s) := by rw [HB.out.cell (p := ⟨b', off' + j, none⟩) hbw', ← hx3]; exact hc' j x hx1
          have HX1 := Lib.hid hx1
          have HX2 := Lib.hid hx2
          have hjc : j ≤ c' := by omega
          have hlen : (l.take j).length = j := by rw [List.length_take, Nat.min_eq_left (by omega)]
          by_cases hmem : x ∈ l.take j
          · have HD := Lib.hid (fun n : Nat => by
              have h := has_yes (some ⟨b', off', none⟩) c' (l.take j) s x (wr.drewN n) (by omega) (((HI.out.below HB.out).below (quiet_below _ _ n)).take' j) hx2 hmem
              rw [hlen] at h
              exact h)
            have HM := Lib.hid hmem
            clear hx1 hx2 hx3 hx4 hc' hbw' hmem hlen
            go_wp2
            go_quiet ((go_at_call 107; with_reducible exact Calls.quiet_of_same (HD.out _)))
            go_wp2
            go_roundw
            case rel =>
              refine ⟨j + 1, ar2, cr2, r2, by omega, by go_num, rfl, HOWN.out.below (quiet_below _ _ _), HSO.out, fun t => ?_, by have := HRL.out; omega, HB.out.trans (quiet_below _ _ _)⟩
              rw [HCN.out t]
              congr 1
              by_cases h : t ∈ l.take j
              · rw [if_pos h, if_pos ((mem_step HX1.out t).2 (.inl h))]
              · rw [if_neg h, if_neg (fun h2 => ((mem_step HX1.out t).1 h2).elim h (fun e => h (by rw [e]; exact HM.out)))]
            case measure => simp [intOf]; omega
          · have HD := Lib.hid (fun n : Nat => by
              have h := has_no (some ⟨b', off', none⟩) c' (l.take j) s x (wr.drewN n) (by omega) (((HI.out.below HB.out).below (quiet_below _ _ n)).take' j) hx2 hmem
              rw [hlen] at h
              exact h)
            have HM := Lib.hid hmem
            clear hx1 hx2 hx3 hx4 hc' hbw' hmem hlen
            go_wp2
            go_quiet ((go_at_call 107; with_reducible exact Calls.quiet_of_same (HD.out _)))
            go_wp2_with (go_at_call 100; (refine (put_any true w.heap.size ar2 cr2 r2 s x _ (by omega) (HOWN.out.below (quiet_below _ _ _)) HB.out.size HX2.out).mono ?_); rintro e w2 ⟨a2, c2, rfl, ho2, hb2⟩; have HO2 := Lib.hid ho2; have HB2 := Lib.hid hb2; clear ho2 hb2)
            go_roundw
            case rel =>
              refine ⟨j + 1, a2, c2, putL true r2 x, by omega, by go_num, rfl, HO2.out, putL_sorted HSO.out, fun t => ?_, by have := HRL.out; have := putL_length true x r2; omega, (HB.out.trans (quiet_below _ _ _)).trans (HB2.out.mono HB.out.size)⟩
              rw [put_count, HCN.out t]
              by_cases e : x = t
              · subst e
                rw [if_neg HM.out, if_pos rfl, if_pos ((mem_step HX1.out x).2 (.inr rfl))]
              · rw [if_neg e]
                by_cases h : t ∈ l.take j
                · rw [if_pos h, if_pos ((mem_step HX1.out t).2 (.inl h))]
                · rw [if_neg h, if_neg (fun h2 => ((mem_step HX1.out t).1 h2).elim h (fun e2 => e e2.symm))]
            case measure => simp [intOf]; omega
        · obtain rfl : j = l.length := by omega
          go_wp2
          go_roundw
          case rel =>
            refine ⟨k + 1, ar2, cr2, r2, by omega, by go_num, rfl, HOWN.out, HSO.out, fun t => ?_, by rw [sumL_succ HJ.out]; exact HRL.out, HB.out⟩
            rw [HCN.out t, List.take_length, ss_take HJ.out, hasN_snoc]
          case measure => simp [intOf]; omega
    · obtain rfl : k = ls.length := by omega
      have HG := Lib.hid (grp_is (ls := ls) (m := r) (fun t => by have h := HCN.out t; rwa [List.take_length] at h))
      have hr4 : r.length ≤ 4000000 := by have := HRL.out; have := HQ.out ls.length; omega
      clear HCN
      obtain ⟨wo, rfl⟩ : ∃ wo, wo = wr := ⟨_, rfl⟩
      go_wp2
      go_loopw [6, 7] (fun v i wr => ∃ k : Nat, k ≤ r.length ∧ i = .int .i64 k ∧ wr.ownsRow wo.heap.size 109 2 v (grpL (r.take k)).length (flatT (grpL (r.take k))) ∧ v ≠ .slice none 0 0 ∧ Below wo.heap.size wo wr) (fun _ i _ => r.length - (intOf i).toNat)
      case atStart => exact ⟨0, Nat.zero_le _, rfl, row_made_t wo, by simp, (Below.refl _ _).alloc (Nat.le_refl _) _⟩
      case round =>
        obtain ⟨k, hk, rfl, hrow, hnn, hbq⟩ := hrel
        have HROW := Lib.hid hrow
        have HNN := Lib.hid hnn
        have HBQ := Lib.hid hbq
        clear hrow hnn hbq
        by_cases hlt2 : k < r.length
        · obtain ⟨g, rfl, hg, hinA⟩ : ∃ g, ar = some ⟨g, 0, none⟩ ∧ g < wo.heap.size ∧ ∀ j x, r[j]? = some x → wo.cell? ⟨g, 0 + j, none⟩ = some (encStr x) := by
            obtain ⟨b, off, e, h1, h2⟩ := HOWN.out.inS (by omega)
            rcases HOWN.out.2 with ⟨hv, _⟩ | ⟨g, cap', cur, hv, _⟩
            · rw [e] at hv; simp at hv
            · simp only [Value.slice.injEq] at hv
              rw [e] at hv
              obtain ⟨hv1, -, -⟩ := hv
              injection hv1 with hv2
              injection hv2 with hv3 hv4
              subst hv3
              subst hv4
              exact ⟨b, e, h1, h2⟩
          obtain ⟨x, s, hx1, hx2, hx3, hx4⟩ := str_at hlt2
          have hcell : wr.cell? ⟨g, k, none⟩ = some (.string s) := by
            have h := hinA k x hx1
            rw [Nat.zero_add, hx3] at h
            rw [HBQ.out.cell (p := ⟨g, k, none⟩) hg]
            exact h
          have HX1 := Lib.hid hx1
          have HX3 := Lib.hid hx3
          have HGL := Lib.hid (grp_len (r.take k))
          have hglen : (grpL (r.take k)).length ≤ 4000000 := by
            have := grp_len (r.take k)
            have := List.length_take_le k r
            omega
          have hb0 : wo.heap.size ≤ wr.heap.size := HBQ.out.size
          by_cases h0 : k = 0
          · subst h0
            have HD := Lib.hid (show grpL (r.take (0 + 1)) = grpL (r.take 0) ++ [(x, 1)] by rw [take_snoc' HX1.out]; exact grp_new (fun y hy => by simp at hy))
            obtain ⟨G, hG⟩ : ∃ G, grpL (r.take 0) = G := ⟨_, rfl⟩
            have HGG := Lib.hid hG
            rw [hG] at HROW HD hglen
            clear hx1 hx2 hx3 hx4 hinA hG HGL
            go_wp2
            go_quiet (fail)
            go_wp2_with (first
              | (at_builtin; refine wpList_append_own _ rfl _ _ 24 rfl wo.heap.size 109 i1 _ 2 24 Tryz.underlying24 hi1 hy0 hy1 hy2 rfl (by decide) _ G.length _ rfl (World.ownsRow.alloc (show (wr.drewN nq).ownsRow _ _ _ _ _ _ from HROW.out) _) ⟨wr.heap.size, 0, none⟩ 1 1 [.string s, .int .i64 1] rfl rfl (two_new (wr.drewN nq) _ _ _) (by simp [Value.oneCell']) (by unfold maxLen; omega) (by omega) (by simp; omega) ?_; intro v' w3 hown' hg3 hnil3; have HN3 := Lib.hid hnil3; have HO3 := Lib.hid hown'; have HG3 := Lib.hid hg3; clear hnil3 hown' hg3)
              | go_in)
            go_roundw
            case rel =>
              refine ⟨0 + 1, by omega, by go_num, ?_, fun e => by have := (HN3.out.1 e).2; omega, ?_⟩
              · rw [HD.out, flat_append, List.length_append]
                have e : flatT [(x, (1 : Int))] = [.string s, .int .i64 1] := by
                  show [encStr x, .int .i64 1] = _
                  rw [HX3.out]
                rw [e]
                exact HO3.out
              · exact ((HBQ.out.trans (quiet_below _ _ nq)).alloc (by simpa using hb0) _).grown HG3.out (by simp; omega) fun j hj => (HROW.out.lt j hj).1
            case measure => simp [intOf]; omega
          · obtain ⟨j, rfl⟩ : ∃ j, k = j + 1 := ⟨k - 1, by omega⟩
            obtain ⟨y, t, hy1, hy2, hy3, hy4⟩ := str_at (show j < r.length by omega)
            have hcell2 : wr.cell? ⟨g, j, none⟩ = some (.string t) := by
              have h := hinA j y hy1
              rw [Nat.zero_add, hy3] at h
              rw [HBQ.out.cell (p := ⟨g, j, none⟩) hg]
              exact h
            have HY1 := Lib.hid hy1
            have hyx := List.pairwise_iff_getElem.1 HSO.out j (j + 1) (by omega) hlt2 (by omega)
            have ex1 : r[j]'(by omega) = y := (List.getElem?_eq_some_iff.1 hy1).2
            have ex2 : r[j + 1] = x := (List.getElem?_eq_some_iff.1 hx1).2
            rw [ex1, ex2] at hyx
            by_cases he : y = x
            · subst he
              obtain rfl := str_eq3 hy2 hx2 rfl
              obtain ⟨q, cn, e1, e2, e3⟩ := grp_same (mem_last hy1) (le_last HSO.out hy1)
              rw [← take_snoc' hx1] at e2
              have hcn : cn ≤ 4000000 := by
                have := List.length_take_le (j + 1) r
                omega
              have HROW2 := Lib.hid HROW.out
              rw [e1] at HROW2
              obtain ⟨m, hm⟩ : ∃ m, q.length = m := ⟨_, rfl⟩
              have hql : (q ++ [(y, (cn : Int))]).length = m + 1 := by simp [hm]
              rw [hql] at HROW2
              have hmb : m ≤ 4000000 := by rw [e1, hql] at hglen; omega
              obtain ⟨g2, cap2, ev⟩ : ∃ g2 cap2, u6 = Value.slice (some ⟨g2, 0, none⟩) (m + 1) cap2 := by
                rcases HROW2.out.2 with ⟨_, h1⟩ | ⟨g', cap', cur, hv, _⟩
                · omega
                · exact ⟨g', cap', hv⟩
              subst ev
              have hr2 := HROW2.out
              rw [flat_snoc] at hr2
              have q1 := hr2.cellAt (m * 2 + 1) (by omega)
              rw [show encT (y, (cn : Int)) = encStr y :: .int .i64 (cn : Int) :: [] from rfl, (gap_at hm).2] at q1
              have f1 := hr2.frozenAt (m * 2 + 1)
              have HN := Lib.hid (fun n : Nat => (show (wr.drewN n).ownsRow _ _ _ _ _ _ from hr2).stored (m * 2 + 1) (.int .i64 ((cn : Int) + 1)))
              have HM := Lib.hid hm
              have HE2 := Lib.hid e2
              have HGB := Lib.hid (World.ownsRow.lt hr2 g2 rfl)
              clear hx1 hx2 hx3 hx4 hy1 hy2 hy3 hy4 hinA hyx ex1 ex2 h0 e1 e2 e3 hr2 hm hql HROW2 HROW HGL hglen
              go_wp2
              go_quiet (fail)
              go_wp2
              go_roundw
              case rel =>
                refine ⟨j + 1 + 1, by omega, by go_num, ?_, by simp, ?_⟩
                · have h := (HN.out nq).1
                  rw [show encT (y, (cn : Int)) = encStr y :: .int .i64 (cn : Int) :: [] from rfl, gap_set1 HM.out] at h
                  rw [HE2.out, flat_snoc, List.length_append, HM.out]
                  exact h
                · exact ((HBQ.out.trans (quiet_below _ _ nq))).grown (HN.out nq).2 (by simpa using hb0) fun j hj => by cases hj; exact HGB.out.1
              case measure => simp [intOf]; omega
            · have hne := str_ne3 hy2 hx2 he
              have hlt3 := str_lt_of hyx he
              have HNEW := Lib.hid (fun z (hz : z ∈ r.take (j + 1)) => (show z < x from by
                have h1 := le_last HSO.out HY1.out z hz
                by_cases e : z = y
                · rw [e]; exact hlt3
                · exact str_lt_trans (str_lt_of h1 e) hlt3))
              have HD := Lib.hid (show grpL (r.take (j + 1 + 1)) = grpL (r.take (j + 1)) ++ [(x, 1)] by rw [take_snoc' HX1.out]; exact grp_new HNEW.out)
              obtain ⟨G, hG⟩ : ∃ G, grpL (r.take (j + 1)) = G := ⟨_, rfl⟩
              have HGG := Lib.hid hG
              rw [hG] at HROW HD hglen
              clear hx1 hx2 hx3 hx4 hinA hy1 hy2 hy3 hy4 hyx ex1 ex2 h0 he hlt3 hG HGL
              go_wp2
              go_quiet (fail)
              go_wp2_with (first
                | (at_builtin; refine wpList_append_own _ rfl _ _ 24 rfl wo.heap.size 109 i1 _ 2 24 Tryz.underlying24 hi1 hy0 hy1 hy2 rfl (by decide) _ G.length _ rfl (World.ownsRow.alloc (show (wr.drewN nq).ownsRow _ _ _ _ _ _ from HROW.out) _) ⟨wr.heap.size, 0, none⟩ 1 1 [.string s, .int .i64 1] rfl rfl (two_new (wr.drewN nq) _ _ _) (by simp [Value.oneCell']) (by unfold maxLen; omega) (by omega) (by simp; omega) ?_; intro v' w3 hown' hg3 hnil3; have HN3 := Lib.hid hnil3; have HO3 := Lib.hid hown'; have HG3 := Lib.hid hg3; clear hnil3 hown' hg3)
                | go_in)
              go_roundw
              case rel =>
                refine ⟨j + 1 + 1, by omega, by go_num, ?_, fun e => by have := (HN3.out.1 e).2; omega, ?_⟩
                · rw [HD.out, flat_append, List.length_append]
                  have e : flatT [(x, (1 : Int))] = [.string s, .int .i64 1] := by
                    show [encStr x, .int .i64 1] = _
                    rw [HX3.out]
                  rw [e]
                  exact HO3.out
                · exact ((HBQ.out.trans (quiet_below _ _ nq)).alloc (by simpa using hb0) _).grown HG3.out (by simp; omega) fun j hj => (HROW.out.lt j hj).1
              case measure => simp [intOf]; omega
        · obtain rfl : k = r.length := by omega
          go_wp2
          go_ret
          have h := HROW.out
          rw [List.take_length, HG.out] at h
          exact GivesT.mk (OwnT.mono h HB.out.size) (HB.out.trans (HBQ.out.mono HB.out.size))

end Go.Proofs.YthjbekgognfiiaaGreat

/-
  CountTokens with its answer under a name. By an AI agent.
-/
namespace Go.Proofs.YthjbekgognfiiaaGreat
open Go.RowKit
set_option linter.unusedVariables false

end Go.Proofs.YthjbekgognfiiaaGreat

/-
  What the drawing functions of spec's chapter 11 draw. By an AI agent.
-/
namespace Go.Proofs.YthjbekgognfiiaaGreat
open Go.RowKit
set_option linter.unusedVariables false

theorem row_keptc {w w' : World} {base c : Nat} {e : TypeId} {sz n : Nat} {v : Value} {xs : List Value} (h : w.ownsRow base e sz v n xs) (hg : w.grownBy w' (some c)) (hc : c < base) : w'.ownsRow base e sz v n xs := by
  refine World.ownsRow.kept h hg ?_
  cases hv : v.ownBlock with
  | none => exact .inl rfl
  | some k => exact .inr fun e => by have := (World.ownsRow.lt h k hv).1; injection e with e; omega
theorem below_row0 {w0 w w' : World} {e : TypeId} {sz n : Nat} {v : Value} {xs : List Value} (ho : w.ownsRow w0.heap.size e sz v n xs) (hs : w0.heap.size ≤ w.heap.size) (hg : w.grownBy w' v.ownBlock) : Below w0.heap.size w w' :=
  ⟨hg.os, hg.tape, hg.output, hg.size, fun k hk => hg.block k (Nat.lt_of_lt_of_le hk hs) (fun e => by have := (World.ownsRow.lt ho k e.symm).1; omega)⟩

/-- a drawn slice of slices -/
structure RowsO (w : World) (lo : Nat) (v : Value) (vs : List Value) (ls : List (List Str)) : Prop where
  len : vs.length = ls.length
  out : w.ownsRow lo 28 1 v ls.length vs
  row : ∀ (j : Nat) (u : Value) (l : List Str), vs[j]? = some u → ls[j]? = some l → OwnS w lo u l
  apart : ∀ (j : Nat) (u : Value) (k : Nat), vs[j]? = some u → u.ownBlock = some k → v.ownBlock ≠ some k
theorem RowsO.keptc {w w' : World} {lo c : Nat} {v : Value} {vs : List Value} {ls : List (List Str)} (h : RowsO w lo v vs ls) (hg : w.grownBy w' (some c)) (hc : c < lo) : RowsO w' lo v vs ls :=
  ⟨h.len, row_keptc h.out hg hc, fun j u l h1 h2 => row_keptc (h.row j u l h1 h2) hg hc, h.apart⟩
theorem RowsO.below {w w' : World} {lo : Nat} {v : Value} {vs : List Value} {ls : List (List Str)} (h : RowsO w lo v vs ls) (hb : Below w.heap.size w w') : RowsO w' lo v vs ls :=
  ⟨h.len, World.ownsRow.kept h.out (row := none) (grown_below_none hb) (by cases hv : v.ownBlock <;> simp), fun j u l h1 h2 => (h.row j u l h1 h2).below hb, h.apart⟩
theorem RowsO.inSS {w : World} {lo : Nat} {a : Option Addr} {cap : Nat} {vs : List Value} {ls : List (List Str)} (h : RowsO w lo (.slice a ls.length cap) vs ls) : InSS w a ls := by
  intro h0
  obtain ⟨g, rfl, _, hg, hc⟩ := cell_own h.out h0
  refine ⟨g, 0, rfl, hg, fun j l hj => ?_⟩
  have hlt := (List.getElem?_eq_some_iff.1 hj).1
  have hv : vs[j]? = some (vs[j]'(by rw [h.len]; exact hlt)) := List.getElem?_eq_getElem _
  have ho := h.row j _ l hv hj
  obtain ⟨a', c', e⟩ := ho.shape
  have hcell := hc j _ hv
  rw [e] at ho hcell
  exact ⟨a', c', hcell, ho.none_cap, ho.cap_ge, ho.inS⟩
/-- one slice more -/
theorem RowsO.snoc {w w1 w2 w3 : World} {lo c : Nat} {v v' u : Value} {vs : List Value} {ls : List (List Str)} {l : List Str} (h : RowsO w lo v vs ls) (hlo : lo ≤ w.heap.size) (hc : c < lo) (h1 : w.grownBy w1 (some c)) (hu : OwnS w1 w.heap.size u l) (h2 : Below w1.heap.size w1 w2) (hg : w2.grownBy w3 v.ownBlock)
    (ho : w3.ownsRow lo 28 1 v' (ls.length + 1) (vs ++ [u])) (hat : v'.ownBlock = v.ownBlock ∨ v'.ownBlock = some w2.heap.size) : RowsO w3 lo v' (vs ++ [u]) (ls ++ [l]) := by
  have h3 := (h.keptc h1 hc).below h2
  have hvl : ∀ k, v.ownBlock = some k → k < w.heap.size := fun k hk => (World.ownsRow.lt h.out k hk).2
  have hul := fun k hk => World.ownsRow.lt (hu.below h2) k hk
  have hul1 := fun k hk => World.ownsRow.lt hu k hk
  refine ⟨by simp [h.len], by simpa using ho, fun j z m hj hm => ?_, fun j z k hj hk e => ?_⟩
  · rcases snoc_at hj with hj1 | ⟨rfl, rfl⟩
    · have hjl : j < ls.length := by have := (List.getElem?_eq_some_iff.1 hj1).1; have := h.len; omega
      rw [List.getElem?_append_left hjl] at hm
      have h4 := h3.row j z m hj1 hm
      refine World.ownsRow.kept h4 hg ?_
      cases hz : z.ownBlock with
      | none => exact .inl rfl
      | some k => exact .inr fun e => h.apart j z k hj1 hz e.symm
    · rw [h.len, List.getElem?_append_right (Nat.le_refl _), Nat.sub_self] at hm
      simp at hm
      subst hm
      refine World.ownsRow.kept ((hu.below h2).mono hlo) hg ?_
      cases hz : z.ownBlock with
      | none => exact .inl rfl
      | some k => exact .inr fun e => by have := hvl k e.symm; have := (hul k hz).1; omega
  · rcases snoc_at hj with hj1 | ⟨rfl, rfl⟩
    · have hjl : j < ls.length := by have := (List.getElem?_eq_some_iff.1 hj1).1; have := h.len; omega
      have h5 := (World.ownsRow.lt (h3.row j z _ hj1 (List.getElem?_eq_getElem hjl)) k hk).2
      rcases hat with h6 | h6
      · rw [h6] at e; exact h.apart j z k hj1 hk e
      · rw [h6] at e; injection e with e; omega
    · have h5 := hul1 k hk
      rcases hat with h6 | h6
      · rw [h6] at e; have := hvl k e; omega
      · rw [h6] at e; injection e with e; have := h2.size; omega

/-- drawn slices, some -/
def SomeSets (w : World) (B c m : Nat) (e : Ending) (w' : World) : Prop :=
  ∃ (a : Option Addr) (cap : Nat) (vs : List Value) (ls : List (List Str)), e = .returned (.slice a ls.length cap) ∧ RowsO w' w.heap.size (.slice a ls.length cap) vs ls ∧ ls.length ≤ m ∧ (∀ l ∈ ls, l.length ≤ 6 ∧ ∀ x ∈ l, x.length ≤ 10) ∧ Cur w' B c ∧ w.grownBy w' (some c)

set_option maxRecDepth 100000 in
set_option maxHeartbeats 2000000 in
theorem l11Sets_any (B c : Nat) (w : World) (hcur : Cur w B c) : Calls Tryz.prog 98 #[.pointer (some ⟨c, 0, none⟩)] w (SomeSets w B c 5) := by
  obtain ⟨i0, hi, hz0, hz1, hz2⟩ := info_parts info_ss
  have HC := Lib.hid hcur
  have HLT := Lib.hid hcur.lt
  clear hcur
  go_enter Tryz.func98, Tryz.ntmps98
  go_wp2_with (go_at_call 62; (refine (l1Below_any B c _ _ (HC.out.alloc _) (by omega) (by omega)).mono ?_); rintro e w1 ⟨x, rfl, hx0, hx1, hc1, hg1⟩; refine Hid.out ?_)
  refine Lib.hid ?_
  obtain ⟨n, rfl⟩ := Int.eq_ofNat_of_zero_le hx0
  have HC1 := Lib.hid hc1
  have HG1 := Lib.hid (grown_trans (grown_alloc w _ c) hg1)
  have HO1 := Lib.hid (row_keptc (World.ownsRow_made w #[] 0 (Nat.le_refl _) (by unfold maxLen; omega) rfl : (w.alloc (.cells #[] 28)).ownsRow w.heap.size 28 1 (.slice (some ⟨w.heap.size, 0, none⟩) 0 0) 0 []) hg1 HLT.out)
  have hn : n ≤ 5 := by omega
  clear hc1 hg1 hx0 hx1
  go_wp2
  go_loopw [3, 4] (fun v i wr => ∃ (k : Nat) (a : Option Addr) (cap : Nat) (vs : List Value) (ls : List (List Str)), i = .int .i64 k ∧ v = .slice a ls.length cap ∧ k + ls.length ≤ 5 ∧ (∀ l ∈ ls, l.length ≤ 6 ∧ ∀ x ∈ l, x.length ≤ 10) ∧ RowsO wr w.heap.size (.slice a ls.length cap) vs ls ∧ Cur wr B c ∧ w.grownBy wr (some c)) (fun _ i _ => (intOf i).toNat)
  case atStart => exact ⟨n, _, _, [], [], rfl, rfl, hn, by simp, ⟨rfl, HO1.out, fun j u l h => by simp at h, fun j u k h => by simp at h⟩, HC1.out, HG1.out⟩
  case round =>
    clear HC1 HG1 HO1
    obtain ⟨k, a, cap, vs, ls, rfl, rfl, hk, hx, hown, hcur, hg⟩ := hrel
    have HX := Lib.hid hx
    have HOWN := Lib.hid hown
    have HCU := Lib.hid hcur
    have HG := Lib.hid hg
    clear hx hown hcur hg
    by_cases hlt : 0 < k
    · obtain ⟨j, rfl⟩ : ∃ j, k = j + 1 := ⟨k - 1, by omega⟩
      go_wp2_with (go_at_call 63; (refine (l3Set_any B c _ HCU.out).mono ?_); rintro e w2 ⟨a2, cap2, l2, rfl, ho2, hl2, hx2, hc2, hg2⟩; refine Hid.out ?_)
      refine Lib.hid ?_
      have HO2 := Lib.hid ho2
      have HX2 := Lib.hid hx2
      have HC2 := Lib.hid hc2
      have HG2 := Lib.hid hg2
      have HR2 := Lib.hid ((HOWN.out.keptc hg2 HLT.out).out.alloc (.cells #[.slice a2 l2.length cap2] 28))
      have HW2 := Lib.hid (Nat.le_trans HG.out.size hg2.size)
      clear ho2 hx2 hc2 hg2
      go_wp2_with (at_builtin; refine wpList_append_own_at _ rfl _ _ 127 rfl w.heap.size 28 i0 _ 1 24 Tryz.underlying127 hi hz0 hz1 hz2 rfl (by decide) _ ls.length _ rfl HR2.out ⟨w2.heap.size, 0, none⟩ 1 1 [.slice a2 l2.length cap2] rfl rfl (cell_one_new _ _ _) (by simp [Value.oneCell']) (by unfold maxLen; omega) (by omega) (by have := HW2.out; simp; omega) ?_; intro v' w3 hown' hg3 hnil3 hat3; have HO3 := Lib.hid hown'; have HG3 := Lib.hid hg3; have HA3 := Lib.hid (show v'.ownBlock = (Value.slice a ls.length cap).ownBlock ∨ v'.ownBlock = some (w2.alloc (.cells #[.slice a2 l2.length cap2] 28)).heap.size from hat3); clear hnil3 hown' hg3 hat3)
      go_roundw
      case rel =>
        have hB := below_row0 HR2.out (by have := HW2.out; simp; omega) HG3.out
        have hsn := RowsO.snoc HOWN.out HG.out.size HLT.out HG2.out HO2.out ((Below.refl _ _).alloc (Nat.le_refl _) (.cells #[.slice a2 l2.length cap2] 28)) HG3.out HO3.out HA3.out
        obtain ⟨a', cap', ev⟩ : ∃ a' cap', v' = .slice a' (ls ++ [l2]).length cap' := by
          rcases HO3.out.2 with ⟨_, h1⟩ | ⟨g, cap', cur, hv, _⟩
          · omega
          · exact ⟨some ⟨g, 0, none⟩, cap', by rw [hv]; simp⟩
        subst ev
        refine ⟨j, a', cap', _, _, by go_num, rfl, by simp; omega, fun l hl => ?_, hsn, (HC2.out.alloc _).below hB HLT.out, grown_below (grown_trans (grown_trans HG.out HG2.out) (grown_alloc w2 _ c)) hB⟩
        rcases List.mem_append.1 hl with hl | hl
        · exact HX.out l hl
        · rw [List.mem_singleton.1 hl]
          exact ⟨hl2, HX2.out⟩
      case measure => simp [intOf]
    · obtain rfl : k = 0 := by omega
      go_wp2
      go_ret
      exact ⟨a, cap, vs, ls, rfl, HOWN.out, by omega, HX.out, HCU.out, HG.out⟩

theorem sets_small {ls : List (List Str)} {m : Nat} (h : ls.length ≤ m) (hx : ∀ l ∈ ls, l.length ≤ 6 ∧ ∀ x ∈ l, x.length ≤ 10) : ls.flatten.length ≤ 6 * m := by
  induction ls generalizing m with
  | nil => simp
  | cons l ls ih =>
    have h1 := (hx l (by simp)).1
    simp only [List.length_cons] at h
    have h2 := ih (m := m - 1) (by omega) fun l' hl => hx l' (List.mem_cons_of_mem l hl)
    simp only [List.flatten_cons, List.length_append]
    omega
theorem sets_sm {w : World} {lo m : Nat} {a : Option Addr} {cap : Nat} {vs : List Value} {ls : List (List Str)} (h : RowsO w lo (.slice a ls.length cap) vs ls) (hm : ls.length ≤ m) (hm2 : m ≤ 1000) (hx : ∀ l ∈ ls, l.length ≤ 6 ∧ ∀ x ∈ l, x.length ≤ 10) : SmSS w a ls :=
  ⟨h.inSS, by omega, by have := sets_small hm hx; omega, fun l hl x hx2 => by have := (hx l hl).2 x hx2; omega⟩

/-- a drawn table, some -/
def SomeTab (w : World) (B c : Nat) (e : Ending) (w' : World) : Prop :=
  ∃ (a : Option Addr) (cap : Nat) (tab : List TC), e = .returned (.slice a tab.length cap) ∧ OwnT w' w.heap.size (.slice a tab.length cap) tab ∧ tab.length ≤ 31 ∧ (∀ x ∈ tab, x.1.length ≤ 10 ∧ 0 ≤ x.2 ∧ x.2 ≤ 5) ∧ Cur w' B c ∧ w.grownBy w' (some c)
theorem ct_bounds {ls : List (List Str)} (hm : ls.length ≤ 5) (hx : ∀ l ∈ ls, l.length ≤ 6 ∧ ∀ x ∈ l, x.length ≤ 10) : (ctR ls).length ≤ 30 ∧ ∀ x ∈ ctR ls, x.1.length ≤ 10 ∧ 0 ≤ x.2 ∧ x.2 ≤ 5 := by
  have h1 := ct_len ls
  have h2 := sets_small hm hx
  refine ⟨by omega, fun x hx2 => ?_⟩
  have h3 := ct_count hx2
  obtain ⟨t, ht, rfl⟩ := List.mem_map.1 hx2
  rw [setL_mem, List.mem_flatten] at ht
  obtain ⟨l, hl, htl⟩ := ht
  exact ⟨(hx l hl).2 t htl, by omega, by omega⟩

theorem tab_sm {w : World} {base : Nat} {a : Option Addr} {cap : Nat} {tab : List TC} (h : OwnT w base (.slice a tab.length cap) tab) (h1 : tab.length ≤ 31) (h2 : ∀ x ∈ tab, x.1.length ≤ 10 ∧ 0 ≤ x.2 ∧ x.2 ≤ 5) : SmW w a tab cap :=
  ⟨h.smT (by omega) (fun x hx => by have := (h2 x hx).1; omega), fun x hx => WalkArith.wf_i64 (by have := (h2 x hx).2; omega)⟩

end Go.Proofs.YthjbekgognfiiaaGreat

