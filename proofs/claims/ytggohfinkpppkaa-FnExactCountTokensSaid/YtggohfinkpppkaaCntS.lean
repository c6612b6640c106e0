/-
  What spec.CountTokens answers. By an AI agent.
-/
import Derived.Test.YtggohfinkpppkaaCommon
import Derived.Test.YtggohfinkpppkaaSsT
import Derived.Test.YtggohfinkpppkaaTcM
namespace Go.Proofs.Ytggohfinkpppkaa
open Go.RowKit Go.Maps
set_option linter.unusedVariables false

theorem le_last {r : List Str} (hs : r.Pairwise (· ≤ ·)) {j : Nat} {x : Str} (hx : r[j]? = some x) : ∀ y ∈ r.take (j + 1), y ≤ x := by
  intro y hy
  obtain ⟨i, hi⟩ := List.getElem?_of_mem hy
  have hij : i < j + 1 := by
    have := (List.getElem?_eq_some_iff.1 hi).1
    rw [List.length_take] at this
    omega
  rw [List.getElem?_take_of_lt hij] at hi
  by_cases e : i = j
  · subst e
    rw [hx] at hi
    rw [← Option.some.inj hi]
    exact List.le_refl x
  · obtain ⟨h1, h2⟩ := List.getElem?_eq_some_iff.1 hi
    obtain ⟨h3, h4⟩ := List.getElem?_eq_some_iff.1 hx
    have := (List.pairwise_iff_getElem.1 hs) i j h1 h3 (by omega)
    rw [h2, h4] at this
    exact this
theorem mem_last {r : List Str} {j : Nat} {x : Str} (hx : r[j]? = some x) : x ∈ r.take (j + 1) := by
  rw [take_snoc' hx]
  simp
theorem put_count (r : List Str) (x t : Str) : (putL true r x).count t = r.count t + if x = t then 1 else 0 := by
  rw [(putL_perm x r).count_eq, List.count_cons]
  by_cases h : x = t
  · subst h; simp
  · have : (x == t) = false := by simpa using h
    simp [h, this]
theorem mem_step {l : List Str} {j : Nat} {x : Str} (h : l[j]? = some x) (t : Str) : t ∈ l.take (j + 1) ↔ t ∈ l.take j ∨ t = x := by
  rw [take_snoc' h, List.mem_append, List.mem_singleton]
theorem row_made_t (w : World) : (w.alloc (.cells #[] 66)).ownsRow w.heap.size 66 2 (.slice (some ⟨w.heap.size, 0, none⟩) 0 0) 0 [] :=
  World.ownsRow_made w #[] 0 (Nat.le_refl _) (by unfold maxLen; omega) rfl

set_option maxRecDepth 100000 in
set_option maxHeartbeats 2000000 in
theorem cnt_spec (a : Option Addr) (c : Nat) (ls : List (List Str)) (w : World) (h0 : SmSS w a ls) :
    Calls Try.prog 33 #[.slice a ls.length c] w (GivesT w (ctR ls)) := by
  obtain ⟨hin, hl, hfl, hx⟩ := h0
  have HIN := Lib.hid hin
  have HX := Lib.hid hx
  have HQ := Lib.hid (show ∀ k, sumL ls k ≤ 4000000 from fun k => by have := sumL_le ls k; omega)
  have HLL := Lib.hid (show ∀ l ∈ ls, l.length ≤ 4000000 from fun l hl => by
    obtain ⟨k, hk⟩ := List.getElem?_of_mem hl
    have h1 := sumL_succ hk
    have h2 := sumL_le ls (k + 1)
    omega)
  clear hin hx hfl
  obtain ⟨i1, hi1, hy0, hy1, hy2⟩ := info_parts info_tc
  go_enter Try.func33, Try.ntmps33
  go_wp2
  go_loopw [3, 4] (fun v i wr => ∃ (k : Nat) (a : Option Addr) (c : Nat) (r : List Str), k ≤ ls.length ∧ i = .int .i64 k ∧ v = .slice a r.length c ∧ OwnS wr w.heap.size (.slice a r.length c) r ∧ r.Pairwise (· ≤ ·) ∧ (∀ t, r.count t = hasN (ls.take k) t) ∧ r.length ≤ sumL ls k ∧ Below w.heap.size w wr) (fun _ i _ => ls.length - (intOf i).toNat)
  case atStart => exact ⟨0, _, _, [], Nat.zero_le _, rfl, rfl, own_new w w.heap.size w.heap.size rfl (Nat.le_refl _), List.Pairwise.nil, fun t => rfl, Nat.zero_le _, (Below.refl _ _).alloc (Nat.le_refl _) _⟩
  case round =>
    obtain ⟨k, ar, cr, r, hk, rfl, rfl, hown, hso, hcn, hrl, hb⟩ := hrel
    have HOWN := Lib.hid hown
    have HSO := Lib.hid hso
    have HCN := Lib.hid hcn
    have HRL := Lib.hid hrl
    have HB := Lib.hid hb
    clear hown hso hcn hrl hb
    by_cases hlt : k < ls.length
    · have hj := List.getElem?_eq_getElem hlt
      have HJ := Lib.hid hj
      have hm := List.mem_of_getElem? hj
      have HLK := Lib.hid (HLL.out _ hm)
      have HXK := Lib.hid (HX.out _ hm)
      obtain ⟨b, off, rfl, hbw, hc⟩ := HIN.out (by omega)
      obtain ⟨a', c', hcl, -, hlc, hin'⟩ := hc k _ hj
      have hl4 := HLK.out
      generalize hgl : ls[k] = l at hcl hin' hlc HJ HLK HXK hl4
      have HC := Lib.hid hcl
      have HI := Lib.hid hin'
      have HBW := Lib.hid hbw
      clear hj hm hc hcl hin' hbw hgl
      have hcell : wr.cell? ⟨b, off + k, none⟩ = some (.slice a' l.length c') := by rw [HB.out.cell (p := ⟨b, off + k, none⟩) HBW.out]; exact HC.out
      obtain ⟨wo, rfl⟩ : ∃ wo, wo = wr := ⟨_, rfl⟩
      go_wp2
      go_loopw [3, 5] (fun v i wr => ∃ (j : Nat) (a : Option Addr) (c : Nat) (r : List Str), j ≤ l.length ∧ i = .int .i64 j ∧ v = .slice a r.length c ∧ OwnS wr w.heap.size (.slice a r.length c) r ∧ r.Pairwise (· ≤ ·) ∧ (∀ t, r.count t = hasN (ls.take k) t + if t ∈ l.take j then 1 else 0) ∧ r.length ≤ sumL ls k + j ∧ Below w.heap.size w wr) (fun _ i _ => l.length - (intOf i).toNat)
      case atStart => exact ⟨0, ar, cr, r, Nat.zero_le _, rfl, rfl, HOWN.out, HSO.out, fun t => by rw [HCN.out t]; simp, by have := HRL.out; omega, HB.out⟩
      case round =>
        clear hcell HOWN HSO HCN HRL HB
        obtain ⟨j, ar2, cr2, r2, hjl, rfl, rfl, hown, hso, hcn, hrl, hb⟩ := hrel
        have HOWN := Lib.hid hown
        have HSO := Lib.hid hso
        have HCN := Lib.hid hcn
        have HRL := Lib.hid hrl
        have HB := Lib.hid hb
        clear hown hso hcn hrl hb
        have hcell : wr.cell? ⟨b, off + k, none⟩ = some (.slice a' l.length c') := by rw [HB.out.cell (p := ⟨b, off + k, none⟩) HBW.out]; exact HC.out
        have hq := HQ.out k
        have hr8 : r2.length ≤ 8000000 := by have := HRL.out; omega
        by_cases hjt : j < l.length
        · obtain ⟨b', off', rfl, hbw', hc'⟩ := HI.out (by omega)
          obtain ⟨x, s, hx1, hx2, hx3, hx4⟩ := str_at hjt
          have hcell2 : wr.cell? ⟨b', off' + j, none⟩ = some (.string s) := by rw [HB.out.cell (p := ⟨b', off' + j, none⟩) hbw', ← hx3]; exact hc' j x hx1
          have HX1 := Lib.hid hx1
          have HX2 := Lib.hid hx2
          have hjc : j ≤ c' := by omega
          have hlen : (l.take j).length = j := by rw [List.length_take, Nat.min_eq_left (by omega)]
          by_cases hmem : x ∈ l.take j
          · have HD := Lib.hid (fun n : Nat => by
              have h := has_yes (some ⟨b', off', none⟩) c' (l.take j) s x (wr.drewN n) (by omega) (((HI.out.below HB.out).below (quiet_below _ _ n)).take' j) hx2 hmem
              rw [hlen] at h
              exact h)
            have HM := Lib.hid hmem
            clear hx1 hx2 hx3 hx4 hc' hbw' hmem hlen
            go_wp2
            go_quiet ((go_at_call 83; with_reducible exact Calls.quiet_of_same (HD.out _)))
            go_wp2
            go_roundw
            case rel =>
              refine ⟨j + 1, ar2, cr2, r2, by omega, by go_num, rfl, HOWN.out.below (quiet_below _ _ _), HSO.out, fun t => ?_, by have := HRL.out; omega, HB.out.trans (quiet_below _ _ _)⟩
              rw [HCN.out t]
              congr 1
              by_cases h : t ∈ l.take j
              · rw [if_pos h, if_pos ((mem_step HX1.out t).2 (.inl h))]
              · rw [if_neg h, if_neg (fun h2 => ((mem_step HX1.out t).1 h2).elim h (fun e => h (by rw [e]; exact HM.out)))]
            case measure => simp [intOf]; omega
          · have HD := Lib.hid (fun n : Nat => by
              have h := has_no (some ⟨b', off', none⟩) c' (l.take j) s x (wr.drewN n) (by omega) (((HI.out.below HB.out).below (quiet_below _ _ n)).take' j) hx2 hmem
              rw [hlen] at h
              exact h)
            have HM := Lib.hid hmem
            clear hx1 hx2 hx3 hx4 hc' hbw' hmem hlen
            go_wp2
            go_quiet ((go_at_call 83; with_reducible exact Calls.quiet_of_same (HD.out _)))
            go_wp2_with (go_at_call 84; (refine (put_any true w.heap.size ar2 cr2 r2 s x _ (by omega) (HOWN.out.below (quiet_below _ _ _)) HB.out.size HX2.out).mono ?_); rintro e w2 ⟨a2, c2, rfl, ho2, hb2⟩; have HO2 := Lib.hid ho2; have HB2 := Lib.hid hb2; clear ho2 hb2)
            go_roundw
            case rel =>
              refine ⟨j + 1, a2, c2, putL true r2 x, by omega, by go_num, rfl, HO2.out, putL_sorted HSO.out, fun t => ?_, by have := HRL.out; have := putL_length true x r2; omega, (HB.out.trans (quiet_below _ _ _)).trans (HB2.out.mono HB.out.size)⟩
              rw [put_count, HCN.out t]
              by_cases e : x = t
              · subst e
                rw [if_neg HM.out, if_pos rfl, if_pos ((mem_step HX1.out x).2 (.inr rfl))]
              · rw [if_neg e]
                by_cases h : t ∈ l.take j
                · rw [if_pos h, if_pos ((mem_step HX1.out t).2 (.inl h))]
                · rw [if_neg h, if_neg (fun h2 => ((mem_step HX1.out t).1 h2).elim h (fun e2 => e e2.symm))]
            case measure => simp [intOf]; omega
        · obtain rfl : j = l.length := by omega
          go_wp2
          go_roundw
          case rel =>
            refine ⟨k + 1, ar2, cr2, r2, by omega, by go_num, rfl, HOWN.out, HSO.out, fun t => ?_, by rw [sumL_succ HJ.out]; exact HRL.out, HB.out⟩
            rw [HCN.out t, List.take_length, ss_take HJ.out, hasN_snoc]
          case measure => simp [intOf]; omega
    · obtain rfl : k = ls.length := by omega
      have HG := Lib.hid (grp_is (ls := ls) (m := r) (fun t => by have h := HCN.out t; rwa [List.take_length] at h))
      have hr4 : r.length ≤ 4000000 := by have := HRL.out; have := HQ.out ls.length; omega
      clear HCN
      obtain ⟨wo, rfl⟩ : ∃ wo, wo = wr := ⟨_, rfl⟩
      go_wp2
      go_loopw [6, 7] (fun v i wr => ∃ k : Nat, k ≤ r.length ∧ i = .int .i64 k ∧ wr.ownsRow wo.heap.size 66 2 v (grpL (r.take k)).length (flatT (grpL (r.take k))) ∧ v ≠ .slice none 0 0 ∧ Below wo.heap.size wo wr) (fun _ i _ => r.length - (intOf i).toNat)
      case atStart => exact ⟨0, Nat.zero_le _, rfl, row_made_t wo, by simp, (Below.refl _ _).alloc (Nat.le_refl _) _⟩
      case round =>
        obtain ⟨k, hk, rfl, hrow, hnn, hbq⟩ := hrel
        have HROW := Lib.hid hrow
        have HNN := Lib.hid hnn
        have HBQ := Lib.hid hbq
        clear hrow hnn hbq
        by_cases hlt2 : k < r.length
        · obtain ⟨g, rfl, hg, hinA⟩ : ∃ g, ar = some ⟨g, 0, none⟩ ∧ g < wo.heap.size ∧ ∀ j x, r[j]? = some x → wo.cell? ⟨g, 0 + j, none⟩ = some (encStr x) := by
            obtain ⟨b, off, e, h1, h2⟩ := HOWN.out.inS (by omega)
            rcases HOWN.out.2 with ⟨hv, _⟩ | ⟨g, cap', cur, hv, _⟩
            · rw [e] at hv; simp at hv
            · simp only [Value.slice.injEq] at hv
              rw [e] at hv
              obtain ⟨hv1, -, -⟩ := hv
              injection hv1 with hv2
              injection hv2 with hv3 hv4
              subst hv3
              subst hv4
              exact ⟨b, e, h1, h2⟩
          obtain ⟨x, s, hx1, hx2, hx3, hx4⟩ := str_at hlt2
          have hcell : wr.cell? ⟨g, k, none⟩ = some (.string s) := by
            have h := hinA k x hx1
            rw [Nat.zero_add, hx3] at h
            rw [HBQ.out.cell (p := ⟨g, k, none⟩) hg]
            exact h
          have HX1 := Lib.hid hx1
          have HX3 := Lib.hid hx3
          have HGL := Lib.hid (grp_len (r.take k))
          have hglen : (grpL (r.take k)).length ≤ 4000000 := by
            have := grp_len (r.take k)
            have := List.length_take_le k r
            omega
          have hb0 : wo.heap.size ≤ wr.heap.size := HBQ.out.size
          by_cases h0 : k = 0
          · subst h0
            have HD := Lib.hid (show grpL (r.take (0 + 1)) = grpL (r.take 0) ++ [(x, 1)] by rw [take_snoc' HX1.out]; exact grp_new (fun y hy => by simp at hy))
            obtain ⟨G, hG⟩ : ∃ G, grpL (r.take 0) = G := ⟨_, rfl⟩
            have HGG := Lib.hid hG
            rw [hG] at HROW HD hglen
            clear hx1 hx2 hx3 hx4 hinA hG HGL
            go_wp2
            go_quiet (fail)
            go_wp2_with (first
              | (at_builtin; refine wpList_append_own _ rfl _ _ 24 rfl wo.heap.size 66 i1 _ 2 24 Try.underlying24 hi1 hy0 hy1 hy2 rfl (by decide) _ G.length _ rfl (World.ownsRow.alloc (show (wr.drewN nq).ownsRow _ _ _ _ _ _ from HROW.out) _) ⟨wr.heap.size, 0, none⟩ 1 1 [.string s, .int .i64 1] rfl rfl (two_new (wr.drewN nq) _ _ _) (by simp [Value.oneCell']) (by unfold maxLen; omega) (by omega) (by simp; omega) ?_; intro v' w3 hown' hg3 hnil3; have HN3 := Lib.hid hnil3; have HO3 := Lib.hid hown'; have HG3 := Lib.hid hg3; clear hnil3 hown' hg3)
              | go_in)
            go_roundw
            case rel =>
              refine ⟨0 + 1, by omega, by go_num, ?_, fun e => by have := (HN3.out.1 e).2; omega, ?_⟩
              · rw [HD.out, flat_append, List.length_append]
                have e : flatT [(x, (1 : Int))] = [.string s, .int .i64 1] := by
                  show [encStr x, .int .i64 1] = _
                  rw [HX3.out]
                rw [e]
                exact HO3.out
              · exact ((HBQ.out.trans (quiet_below _ _ nq)).alloc (by simpa using hb0) _).grown HG3.out (by simp; omega) fun j hj => (HROW.out.lt j hj).1
            case measure => simp [intOf]; omega
          · obtain ⟨j, rfl⟩ : ∃ j, k = j + 1 := ⟨k - 1, by omega⟩
            obtain ⟨y, t, hy1, hy2, hy3, hy4⟩ := str_at (show j < r.length by omega)
            have hcell2 : wr.cell? ⟨g, j, none⟩ = some (.string t) := by
              have h := hinA j y hy1
              rw [Nat.zero_add, hy3] at h
              rw [HBQ.out.cell (p := ⟨g, j, none⟩) hg]
              exact h
            have HY1 := Lib.hid hy1
            have hyx := List.pairwise_iff_getElem.1 HSO.out j (j + 1) (by omega) hlt2 (by omega)
            have ex1 : r[j]'(by omega) = y := (List.getElem?_eq_some_iff.1 hy1).2
            have ex2 : r[j + 1] = x := (List.getElem?_eq_some_iff.1 hx1).2
            rw [ex1, ex2] at hyx
            by_cases he : y = x
            · subst he
              obtain rfl := str_eq3 hy2 hx2 rfl
              obtain ⟨q, cn, e1, e2, e3⟩ := grp_same (mem_last hy1) (le_last HSO.out hy1)
              rw [← take_snoc' hx1] at e2
              have hcn : cn ≤ 4000000 := by
                have := List.length_take_le (j + 1) r
                omega
              have HROW2 := Lib.hid HROW.out
              rw [e1] at HROW2
              obtain ⟨m, hm⟩ : ∃ m, q.length = m := ⟨_, rfl⟩
              have hql : (q ++ [(y, (cn : Int))]).length = m + 1 := by simp [hm]
              rw [hql] at HROW2
              have hmb : m ≤ 4000000 := by rw [e1, hql] at hglen; omega
              obtain ⟨g2, cap2, ev⟩ : ∃ g2 cap2, u6 = Value.slice (some ⟨g2, 0, none⟩) (m + 1) cap2 := by
                rcases HROW2.out.2 with ⟨_, h1⟩ | ⟨g', cap', cur, hv, _⟩
                · omega
                · exact ⟨g', cap', hv⟩
              subst ev
              have hr2 := HROW2.out
              rw [flat_snoc] at hr2
              have q1 := hr2.cellAt (m * 2 + 1) (by omega)
              rw [show encT (y, (cn : Int)) = encStr y :: .int .i64 (cn : Int) :: [] from rfl, (gap_at hm).2] at q1
              have f1 := hr2.frozenAt (m * 2 + 1)
              have HN := Lib.hid (fun n : Nat => (show (wr.drewN n).ownsRow _ _ _ _ _ _ from hr2).stored (m * 2 + 1) (.int .i64 ((cn : Int) + 1)))
              have HM := Lib.hid hm
              have HE2 := Lib.hid e2
              have HGB := Lib.hid (World.ownsRow.lt hr2 g2 rfl)
              clear hx1 hx2 hx3 hx4 hy1 hy2 hy3 hy4 hinA hyx ex1 ex2 h0 e1 e2 e3 hr2 hm hql HROW2 HROW HGL hglen
              go_wp2
              go_quiet (fail)
              go_wp2
              go_roundw
              case rel =>
                refine ⟨j + 1 + 1, by omega, by go_num, ?_, by simp, ?_⟩
                · have h := (HN.out nq).1
                  rw [show encT (y, (cn : Int)) = encStr y :: .int .i64 (cn : Int) :: [] from rfl, gap_set1 HM.out] at h
                  rw [HE2.out, flat_snoc, List.length_append, HM.out]
                  exact h
                · exact ((HBQ.out.trans (quiet_below _ _ nq))).grown (HN.out nq).2 (by simpa using hb0) fun j hj => by cases hj; exact HGB.out.1
              case measure => simp [intOf]; omega
            · have hne := str_ne3 hy2 hx2 he
              have hlt3 := str_lt_of hyx he
              have HNEW := Lib.hid (fun z (hz : z ∈ r.take (j + 1)) => (show z < x from by
                have h1 := le_last HSO.out HY1.out z hz
                by_cases e : z = y
                · rw [e]; exact hlt3
                · exact str_lt_trans (str_lt_of h1 e) hlt3))
              have HD := Lib.hid (show grpL (r.take (j + 1 + 1)) = grpL (r.take (j + 1)) ++ [(x, 1)] by rw [take_snoc' HX1.out]; exact grp_new HNEW.out)
              obtain ⟨G, hG⟩ : ∃ G, grpL (r.take (j + 1)) = G := ⟨_, rfl⟩
              have HGG := Lib.hid hG
              rw [hG] at HROW HD hglen
              clear hx1 hx2 hx3 hx4 hinA hy1 hy2 hy3 hy4 hyx ex1 ex2 h0 he hlt3 hG HGL
              go_wp2
              go_quiet (fail)
              go_wp2_with (first
                | (at_builtin; refine wpList_append_own _ rfl _ _ 24 rfl wo.heap.size 66 i1 _ 2 24 Try.underlying24 hi1 hy0 hy1 hy2 rfl (by decide) _ G.length _ rfl (World.ownsRow.alloc (show (wr.drewN nq).ownsRow _ _ _ _ _ _ from HROW.out) _) ⟨wr.heap.size, 0, none⟩ 1 1 [.string s, .int .i64 1] rfl rfl (two_new (wr.drewN nq) _ _ _) (by simp [Value.oneCell']) (by unfold maxLen; omega) (by omega) (by simp; omega) ?_; intro v' w3 hown' hg3 hnil3; have HN3 := Lib.hid hnil3; have HO3 := Lib.hid hown'; have HG3 := Lib.hid hg3; clear hnil3 hown' hg3)
                | go_in)
              go_roundw
              case rel =>
                refine ⟨j + 1 + 1, by omega, by go_num, ?_, fun e => by have := (HN3.out.1 e).2; omega, ?_⟩
                · rw [HD.out, flat_append, List.length_append]
                  have e : flatT [(x, (1 : Int))] = [.string s, .int .i64 1] := by
                    show [encStr x, .int .i64 1] = _
                    rw [HX3.out]
                  rw [e]
                  exact HO3.out
                · exact ((HBQ.out.trans (quiet_below _ _ nq)).alloc (by simpa using hb0) _).grown HG3.out (by simp; omega) fun j hj => (HROW.out.lt j hj).1
              case measure => simp [intOf]; omega
        · obtain rfl : k = r.length := by omega
          go_wp2
          go_ret
          have h := HROW.out
          rw [List.take_length, HG.out] at h
          exact GivesT.mk (OwnT.mono h HB.out.size) (HB.out.trans (HBQ.out.mono HB.out.size))

end Go.Proofs.Ytggohfinkpppkaa
