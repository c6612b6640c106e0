/-
  What the laws' own szStringSS, toStringSS, eqStringSS and markStringSS do. By an AI agent.
-/
import Derived.Test.YtggohfinkpppkaaSsS
namespace Go.Proofs.Ytggohfinkpppkaa
open Go.RowKit
set_option linter.unusedVariables false

set_option maxRecDepth 100000 in
theorem yz_any (a : Option Addr) (cap : Nat) (ls : List (List Str)) (left : Nat) (w : World) (h : ArgSS w a ls) (hleft : left ≤ 1048576) :
    Calls Try.prog 32 #[.slice a ls.length cap, .int .i64 left] w fun e w' => e = .returned (.int .i64 (yzR ls left)) ∧ w' = w := by
  obtain ⟨hin, hl, hx⟩ := h
  unfold maxLen at hl
  have HX := Lib.hid hx
  have HIN := Lib.hid hin
  clear hx hin
  by_cases h1 : ls.length ≤ left
  · go_enter Try.func32, Try.ntmps32
    go_wp2
    go_loop [1, 5] (fun r i => ∃ k m : Nat, k ≤ ls.length ∧ i = .int .i64 k ∧ r = .int .i64 m ∧ m ≤ left ∧ m + yzT ls k = left) (fun _ i => ls.length - (intOf i).toNat)
    case atStart => exact ⟨0, left - ls.length, Nat.zero_le _, rfl, by rw [Int.ofNat_sub h1], by omega, by simp [yzT]; omega⟩
    case round =>
      obtain ⟨k, m, hk, rfl, rfl, hm, hs⟩ := hrel
      have HS := Lib.hid hs
      clear hs
      by_cases hlt : k < ls.length
      · obtain ⟨b, off, rfl, hb, hc⟩ := HIN.out (by omega)
        have hj := List.getElem?_eq_getElem hlt
        obtain ⟨a', c', hcell, _, _, hin'⟩ := hc k _ hj
        have HT := Lib.hid (yzT_succ hj)
        have HT2 := Lib.hid (yzT_le (ls := ls) (show k + 1 ≤ ls.length from hlt))
        obtain ⟨q1, q2⟩ := HX.out _ (List.mem_of_getElem? hj)
        have HC := Lib.hid (fun (W : World) (hW : W = w) => sz_any a' c' ls[k] m W q1 (by rw [hW]; exact hin') q2 (by omega))
        generalize ls[k] = l at hcell HT HC
        clear hc hj hin' q1 q2
        by_cases hn : szL l ≤ m
        · have HN := Lib.hid (szR_yes hn)
          go_wp2_with (go_at_call 24; (refine (HC.out _ rfl).mono ?_); rw [HN.out]; rintro e w1 ⟨rfl, rfl⟩)
          go_round
          case rel => exact ⟨k + 1, m - szL l, by omega, by go_num, rfl, by omega, by have := HS.out; have := HT.out; omega⟩
          case measure => simp [intOf]; omega
        · have HN := Lib.hid (szR_no hn)
          go_wp2_with (go_at_call 24; (refine (HC.out _ rfl).mono ?_); rw [HN.out]; rintro e w1 ⟨rfl, rfl⟩)
          go_ret
          exact ⟨ret_int (by rw [yzR_no (by have := HS.out; have := HT.out; have := HT2.out; unfold yzL; omega)]), rfl⟩
      · obtain rfl : k = ls.length := by omega
        go_wp2
        go_ret
        exact ⟨ret_int (by rw [yzR_yes (by have := HS.out; unfold yzL; omega)]; have := HS.out; unfold yzL; omega), rfl⟩
  · go_enter Try.func32, Try.ntmps32
    go_wp2
    go_ret
    exact ⟨ret_int (by rw [yzR_no (by have := yzL_len ls; omega)]), rfl⟩

theorem ArgSS.below {w0 w : World} {a : Option Addr} {ls : List (List Str)} (h : ArgSS w0 a ls) (hb : Below w0.heap.size w0 w) : ArgSS w a ls := ⟨h.1.below hb, h.2⟩
theorem yz_no {w0 : World} (a : Option Addr) (cap : Nat) (ls : List (List Str)) (left : Nat) (w : World) (h : ArgSS w0 a ls) (hb : Below w0.heap.size w0 w) (hleft : left ≤ 1048576) (hn : ¬ yzL ls ≤ left) :
    Calls Try.prog 32 #[.slice a ls.length cap, .int .i64 left] w fun e w' => e = .returned (.int .i64 (-1)) ∧ w' = w :=
  (yz_any a cap ls left w (h.below hb) hleft).mono fun e w' ⟨he, hw⟩ => ⟨by rw [he, yzR_no hn], hw⟩
theorem yz_yes {w0 : World} (a : Option Addr) (cap : Nat) (ls : List (List Str)) (left r : Nat) (w : World) (h : ArgSS w0 a ls) (hb : Below w0.heap.size w0 w) (hleft : left ≤ 1048576) (hr : r + yzL ls = left) :
    Calls Try.prog 32 #[.slice a ls.length cap, .int .i64 left] w fun e w' => e = .returned (.int .i64 r) ∧ w' = w :=
  (yz_any a cap ls left w (h.below hb) hleft).mono fun e w' ⟨he, hw⟩ => ⟨by rw [he, yzR_yes (by omega)]; congr 3; omega, hw⟩

theorem info_ss : (Try.prog.info? 43).map (fun i => (i.zero, i.size, i.bytes)) = some (some (.slice none 0 0), 1, 24) := by kernel_rfl

theorem ss_row_at {vs rest : List Value} {k n : Nat} (h : (vs ++ rest).length = n) (hv : vs.length = k) (hk : k < n) : ∃ y r, rest = y :: r ∧ (vs ++ y :: r)[k]? = some y ∧ ∀ u, (vs ++ y :: r).set k u = (vs ++ [u]) ++ r := by
  match rest, h with
  | [], h => simp at h; omega
  | y :: r, _ =>
    refine ⟨y, r, rfl, ?_, fun u => ?_⟩
    · rw [List.getElem?_append_right (by omega), hv, Nat.sub_self]; rfl
    · rw [List.set_append_right _ _ (by omega), hv, Nat.sub_self, List.set_cons_zero]; simp
theorem snoc_at {α : Type} {vs : List α} {u x : α} {j : Nat} (h : (vs ++ [u])[j]? = some x) : vs[j]? = some x ∨ (j = vs.length ∧ x = u) := by
  rcases Nat.lt_or_ge j vs.length with hlt | hge
  · rw [List.getElem?_append_left hlt] at h; exact .inl h
  · rw [List.getElem?_append_right hge] at h
    have : j - vs.length = 0 := by have := (List.getElem?_eq_some_iff.1 h).1; simp at this; omega
    rw [this] at h
    simp at h
    exact .inr ⟨by omega, h.symm⟩
theorem row_kept {w w' : World} {base : Nat} {v : Value} {l : List Str} {g : Nat} (h : OwnS w base v l) (hg : w.grownBy w' (some g)) (hn : ∀ k, v.ownBlock = some k → k ≠ g) : OwnS w' base v l := by
  refine World.ownsRow.kept h hg ?_
  cases hv : v.ownBlock with
  | none => exact .inl rfl
  | some k => exact .inr fun e => hn k hv (by injection e)

set_option maxRecDepth 100000 in
set_option maxHeartbeats 1000000 in
theorem sto_any (a : Option Addr) (cap : Nat) (ls : List (List Str)) (w : World) (hz : yzL ls ≤ 1048576) (hin : InSS w a ls) :
    Calls Try.prog 34 #[.slice a ls.length cap] w (GivesSS w ls) := by
  obtain ⟨i0, hi, hz0, hz1, hz2⟩ := info_parts info_ss
  have HIN := Lib.hid hin
  have HZ := Lib.hid (fun l (hl : l ∈ ls) => (show l.length ≤ 4000000 by have := yzL_mem hl; have := szL_len l; omega))
  have hl := yz_len hz
  clear hin hz
  go_enter Try.func34, Try.ntmps34
  go_wp2_with (at_make; refine wpList_make_full _ rfl _ _ 51 rfl w.heap.size 43 i0 _ 1 Try.underlying51 hi hz0 hz1 .i64 .i64 _ _ ls.length rfl rfl rfl rfl (by rw [hz2]; omega) (by unfold maxLen; omega) (Nat.le_refl _) ?_; intro w1 hrow hg)
  have HROW := Lib.hid hrow
  have HB1 := Lib.hid ((Below.refl w.heap.size w).grown hg (Nat.le_refl _) (fun k hk => by cases hk))
  have HLT := Lib.hid (World.ownsRow.lt hrow w.heap.size rfl).2
  clear hrow hg
  go_loopw [4] (fun i wr => ∃ (k : Nat) (vs rest : List Value), k ≤ ls.length ∧ i = .int .i64 k ∧ vs.length = k ∧ wr.ownsRow w.heap.size 43 1 (.slice (some ⟨w.heap.size, 0, none⟩) ls.length ls.length) ls.length (vs ++ rest) ∧
    (∀ (j : Nat) (u : Value) (l : List Str), vs[j]? = some u → ls[j]? = some l → OwnS wr (w.heap.size + 1) u l) ∧ (∀ (i j : Nat) (u z : Value) (k : Nat), i ≠ j → vs[i]? = some u → vs[j]? = some z → u.ownBlock = some k → z.ownBlock ≠ some k) ∧ Below w.heap.size w wr ∧ w.heap.size < wr.heap.size) (fun i _ => ls.length - (intOf i).toNat)
  case atStart => exact ⟨0, [], _, Nat.zero_le _, rfl, rfl, HROW.out, fun j u l h => by simp at h, fun i j u z k _ h => by simp at h, HB1.out, HLT.out⟩
  case round =>
    obtain ⟨k, vs, rest, hk, rfl, hvl, hrow, hrows, hdis, hb, hws⟩ := hrel
    by_cases hlt : k < ls.length
    · obtain ⟨b, off, rfl, hbw, hc⟩ := HIN.out (by omega)
      have hj := List.getElem?_eq_getElem hlt
      obtain ⟨a', c', hcl, _, _, hin'⟩ := hc k _ hj
      have hcell : wr.cell? ⟨b, off + k, none⟩ = some (.slice a' ls[k].length c') := by rw [hb.cell (p := ⟨b, off + k, none⟩) hbw]; exact hcl
      have HC := Lib.hid (to_any a' c' ls[k] wr (HZ.out _ (List.mem_of_getElem? hj)) (hin'.below hb))
      have HJ := Lib.hid hj
      generalize ls[k] = l at hcell HC HJ
      have HROW2 := Lib.hid hrow
      have HROWS := Lib.hid hrows
      have HDIS := Lib.hid hdis
      have HB := Lib.hid hb
      have HVL := Lib.hid hvl
      have HWS := Lib.hid hws
      clear hc hcl hj hin' hrow hrows hdis hb hvl hws hbw
      go_wp2_with (go_at_call 26; (refine HC.out.mono ?_); rintro e w2 ⟨a2, c2, rfl, ho2, hb2⟩; refine Hid.out ?_)
      refine Lib.hid ?_
      have hrow2 := World.ownsRow.kept HROW2.out (row := none) ⟨hb2.os, hb2.tape, hb2.output, hb2.size, fun i hi _ => hb2.block i hi⟩ (by simp [Value.ownBlock])
      obtain ⟨y, r2, rfl, hq, hset⟩ := ss_row_at hrow2.1 HVL.out (by omega)
      have q0 := hrow2.cellAt k (by omega)
      rw [hq] at q0
      have f0 := hrow2.frozenAt k
      have HN := Lib.hid (hrow2.stored k (.slice a2 l.length c2))
      rw [hset] at HN
      have HO2 := Lib.hid ho2
      have HB2 := Lib.hid hb2
      clear hb2 hrow2 hq hset ho2
      go_wp2
      go_roundw
      case rel =>
        have hlow : ∀ (j : Nat) (u : Value) (k' : Nat), vs[j]? = some u → u.ownBlock = some k' → w.heap.size + 1 ≤ k' ∧ k' < wr.heap.size := by
          intro j u k' hj hk'
          have hjl : j < ls.length := by have := (List.getElem?_eq_some_iff.1 hj).1; have := HVL.out; omega
          exact World.ownsRow.lt (HROWS.out j u _ hj (List.getElem?_eq_getElem hjl)) k' hk'
        have hnew : ∀ k', (Value.slice a2 l.length c2).ownBlock = some k' → wr.heap.size ≤ k' := fun k' hk' => (World.ownsRow.lt HO2.out k' hk').1
        have hws := HWS.out
        refine ⟨k + 1, vs ++ [.slice a2 l.length c2], r2, by omega, by go_num, by have := HVL.out; simp; omega, HN.out.1, ?_, ?_, ?_, ?_⟩
        · intro j u m hj hm
          rcases snoc_at hj with h | ⟨rfl, rfl⟩
          · exact row_kept ((HROWS.out j u m h hm).below HB2.out) HN.out.2 fun k' hk' => by have := hlow j u k' h hk'; omega
          · rw [HVL.out] at hm
            rw [HJ.out] at hm
            obtain rfl := Option.some.inj hm
            exact row_kept (HO2.out.mono (by omega)) HN.out.2 fun k' hk' => by have := hnew k' hk'; omega
        · intro i j u z k' hij hi hj hk'
          rcases snoc_at hi with h | ⟨rfl, rfl⟩
          · rcases snoc_at hj with h2 | ⟨rfl, rfl⟩
            · exact HDIS.out i j u z k' hij h h2 hk'
            · intro e
              have := hnew k' e
              have := hlow i u k' h hk'
              omega
          · rcases snoc_at hj with h2 | ⟨rfl, rfl⟩
            · intro e
              have := hnew k' hk'
              have := hlow j z k' h2 e
              omega
            · exact absurd rfl hij
        · exact (HB.out.trans (HB2.out.mono HB.out.size)).grown HN.out.2 (Nat.le_trans HB.out.size HB2.out.size) (fun j hj => by cases hj; exact Nat.le_refl _)
        · exact Nat.lt_of_lt_of_le hws (Nat.le_trans HB2.out.size HN.out.2.size)
      case measure => simp [intOf]; omega
    · obtain rfl : k = ls.length := by omega
      have HROW2 := Lib.hid hrow
      have HROWS := Lib.hid hrows
      have HDIS := Lib.hid hdis
      clear hrow hrows hdis
      go_wp2
      go_ret
      have h := HROW2.out
      have h1 := h.1
      rw [List.length_append] at h1
      obtain rfl : rest = [] := List.eq_nil_of_length_eq_zero (by omega)
      rw [List.append_nil] at h
      refine ⟨_, _, vs, rfl, ⟨hvl, h, fun j u l h2 h3 => (HROWS.out j u l h2 h3).mono (by omega), fun j u k' hj hk' e => ?_, HDIS.out⟩, hb⟩
      have hjl : j < ls.length := by have := (List.getElem?_eq_some_iff.1 hj).1; omega
      have h4 := (World.ownsRow.lt (HROWS.out j u _ hj (List.getElem?_eq_getElem hjl)) k' hk').1
      simp [Value.ownBlock] at e
      omega

set_option maxRecDepth 100000 in
theorem seq_same (a1 a2 : Option Addr) (c1 c2 : Nat) (ls : List (List Str)) (w : World) (hz : yzL ls ≤ 1048576) (h1 : InSS w a1 ls) (h2 : InSS w a2 ls) :
    Calls Try.prog 36 #[.slice a1 ls.length c1, .slice a2 ls.length c2] w fun e w' => e = .returned (.bool true) ∧ Below w.heap.size w w' := by
  have H1 := Lib.hid h1
  have H2 := Lib.hid h2
  have HZ := Lib.hid (fun l (hl : l ∈ ls) => (show l.length ≤ maxLen by have := yzL_mem hl; have := szL_len l; unfold maxLen; omega))
  have hl := yz_len hz
  clear h1 h2 hz
  go_enter Try.func36, Try.ntmps36
  go_wp2
  go_loopw [5] (fun i wr => ∃ k : Nat, k ≤ ls.length ∧ i = .int .i64 k ∧ Below w.heap.size w wr) (fun i _ => ls.length - (intOf i).toNat)
  case atStart => exact ⟨0, Nat.zero_le _, rfl, Below.refl _ _⟩
  case round =>
    obtain ⟨k, hk, rfl, hb⟩ := hrel
    have HB := Lib.hid hb
    clear hb
    by_cases hlt : k < ls.length
    · obtain ⟨b1, o1, rfl, hb1, hc1⟩ := H1.out (by omega)
      obtain ⟨b2, o2, rfl, hb2, hc2⟩ := H2.out (by omega)
      have hj := List.getElem?_eq_getElem hlt
      obtain ⟨a', c', p0, _, _, p1⟩ := hc1 k _ hj
      obtain ⟨a'', c'', q0, _, _, q1⟩ := hc2 k _ hj
      have g0 : wr.cell? ⟨b1, o1 + k, none⟩ = some (.slice a' ls[k].length c') := by rw [HB.out.cell (p := ⟨b1, o1 + k, none⟩) hb1]; exact p0
      have g1 : wr.cell? ⟨b2, o2 + k, none⟩ = some (.slice a'' ls[k].length c'') := by rw [HB.out.cell (p := ⟨b2, o2 + k, none⟩) hb2]; exact q0
      have HM := Lib.hid (fun (W : World) (hW : Below w.heap.size w W) => eq_same a' a'' c' c'' ls[k] W (HZ.out _ (List.mem_of_getElem? hj)) (p1.below hW) (q1.below hW))
      generalize ls[k] = l at g0 g1 HM
      clear hc1 hc2 hj p0 p1 q0 q1 hb1 hb2
      go_wp2
      go_region_with (go_at_call 28; refine (HM.out _ (HB.out.drew)).mono ?_; rintro e w1 ⟨rfl, hb1⟩; have HB1 := Lib.hid hb1; clear hb1)
      all_goals go_wp2
      all_goals go_roundw
      all_goals first
        | (case rel => exact ⟨k + 1, by omega, by go_num, (HB.out.drew).trans (HB1.out.mono HB.out.size)⟩)
        | skip
      all_goals (simp [intOf]; omega)
    · obtain rfl : k = ls.length := by omega
      go_wp2
      go_ret
      exact ⟨rfl, HB.out⟩

/-- lists of the same lengths -/
def SameLen (ls ls' : List (List Str)) : Prop := ls'.length = ls.length ∧ ∀ (j : Nat) (l l' : List Str), ls[j]? = some l → ls'[j]? = some l' → l'.length = l.length
theorem SameLen.refl (ls : List (List Str)) : SameLen ls ls := ⟨rfl, fun j l l' h h' => by rw [h] at h'; rw [Option.some.inj h']⟩
def sumL (ls : List (List Str)) (k : Nat) : Nat := (ls.take k).flatten.length
theorem sumL_succ {ls : List (List Str)} {k : Nat} {l : List Str} (h : ls[k]? = some l) : sumL ls (k + 1) = sumL ls k + l.length := by
  unfold sumL
  rw [ss_take h]
  simp
theorem sumL_all (ls : List (List Str)) : sumL ls ls.length = ls.flatten.length := by unfold sumL; rw [List.take_length]
theorem sumL_le (ls : List (List Str)) (k : Nat) : sumL ls k ≤ ls.flatten.length := by
  unfold sumL
  conv => rhs; rw [← List.take_append_drop k ls]
  rw [List.flatten_append, List.length_append]
  omega

set_option maxRecDepth 100000 in
set_option maxHeartbeats 1000000 in
theorem smark_any (lo hi : Nat) (a : Option Addr) (cap : Nat) (vs : List Value) (ls : List (List Str)) (k0 : Nat) (w : World) (hz : yzL ls ≤ 1048576) (hk0 : 0 < k0) (hk1 : k0 ≤ 1000000) (hown : OwnHS w lo hi (.slice a ls.length cap) vs ls) :
    Calls Try.prog 37 #[.slice a ls.length cap, .int .i64 k0] w fun e w' => e = .returned (.int .i64 ((k0 + ls.flatten.length : Nat) : Int)) ∧ Chg w w' lo hi := by
  have HOWN := Lib.hid hown
  have hl := yz_len hz
  have hf := yzL_flat ls
  have HZ := Lib.hid (fun l (hl : l ∈ ls) => (show l.length ≤ 4000000 by have := yzL_mem hl; have := szL_len l; omega))
  have hq : ∀ k, sumL ls k ≤ 1048576 := fun k => by have := sumL_le ls k; omega
  have HQ := Lib.hid hq
  clear hown hz hf hq
  go_enter Try.func37, Try.ntmps37
  go_wp2
  go_loopw [1, 5] (fun kk i wr => ∃ (k m : Nat) (ls' : List (List Str)), k ≤ ls.length ∧ i = .int .i64 k ∧ kk = .int .i64 (m : Int) ∧ m ≤ 3000000 ∧ 0 < m ∧ Hid (m = k0 + sumL ls k) ∧ SameLen ls ls' ∧ OwnSS wr lo (.slice a ls.length cap) vs ls' ∧ Chg w wr lo hi) (fun _ i _ => ls.length - (intOf i).toNat)
  case atStart => exact ⟨0, k0, ls, Nat.zero_le _, rfl, rfl, by omega, hk0, Lib.hid (by simp [sumL]), SameLen.refl ls, HOWN.out.1, Chg.refl _ _ _⟩
  case round =>
    obtain ⟨k, m, ls', hk, rfl, rfl, hm1, hm2, HMM, hsl, hss, hch⟩ := hrel
    have HSL := Lib.hid hsl
    have HSS := Lib.hid hss
    have HCH := Lib.hid hch
    clear hsl hss hch
    by_cases hlt : k < ls.length
    · have hj := List.getElem?_eq_getElem hlt
      have hlt' : k < ls'.length := by rw [HSL.out.1]; exact hlt
      have hj' := List.getElem?_eq_getElem hlt'
      have hvl : k < vs.length := by rw [HSS.out.len]; exact hlt'
      have hv := List.getElem?_eq_getElem hvl
      have hrow := HSS.out.row k _ _ hv hj'
      obtain ⟨a', c', ev⟩ := hrow.shape
      have hout := HSS.out.out
      rw [HSL.out.1] at hout
      obtain ⟨g, rfl, hbg, hgl, hcl⟩ := cell_own hout (by omega)
      clear hout
      have hcell : wr.cell? ⟨g, k, none⟩ = some (.slice a' ls'[k].length c') := by
        have h := hcl k _ hv
        rw [Nat.zero_add, ev] at h
        exact h
      have hll := HSL.out.2 k _ _ hj hj'
      have HJ := Lib.hid hj
      have HJ' := Lib.hid hj'
      have HV := Lib.hid hv
      have HSUM := Lib.hid (sumL_succ hj)
      have hlen := HZ.out _ (List.mem_of_getElem? hj)
      have HM := Lib.hid (mark_any lo a' c' ls'[k] m wr (by rw [hll]; exact hlen) hm2 (by omega) (by rw [← ev]; exact hrow))
      have HEV := Lib.hid ev
      generalize hl1 : ls'[k] = l1 at hcell HM HJ' HEV hll
      generalize hl2 : ls[k] = l2 at HJ HSUM hll
      have HLL := Lib.hid hll
      clear hrow hcl hj hj' hv hbg hgl ev hl1 hl2 hlen hll
      go_wp2_with (go_at_call 29; (refine HM.out.mono ?_); rintro e w2 ⟨rfl, ho, hg⟩; refine Hid.out ?_)
      refine Lib.hid ?_
      have HO := Lib.hid ho
      have HG := Lib.hid hg
      clear ho hg
      go_wp2
      go_roundw
      case rel =>
        have hss := HSS.out
        have hsl := HSL.out
        have hnew : ∀ k', (Value.slice a' l1.length c').ownBlock = some k' → lo ≤ k' ∧ k' < hi := fun k' hk' => HOWN.out.2.2 k _ k' HV.out (by rw [HEV.out]; exact hk')
        refine ⟨k + 1, m + l1.length, ls'.set k (marksL m l1.length), by omega, by go_num, rfl, by have := HQ.out (k + 1); have := HSUM.out; have := HMM.out; have := HLL.out; omega, by omega, Lib.hid (by have := HSUM.out; have := HMM.out; have := HLL.out; omega), ⟨by simp; exact hsl.1, fun j l l' h1 h2 => ?_⟩, ?_, HCH.out.grown HG.out hnew⟩
        · by_cases e : j = k
          · subst e
            rw [List.getElem?_set_self (by have := (List.getElem?_eq_some_iff.1 HJ'.out).1; exact this)] at h2
            rw [HJ.out] at h1
            rw [← Option.some.inj h2, ← Option.some.inj h1, marks_length]
            exact HLL.out
          · rw [List.getElem?_set_ne (fun h => e h.symm)] at h2
            exact hsl.2 j l l' h1 h2
        · have hne : ∀ k', (Value.slice a' l1.length c').ownBlock = some k' → (Value.slice (some ⟨g, 0, none⟩) ls.length cap).ownBlock ≠ some k' := fun k' hk' => hss.apart k _ k' HV.out (by rw [HEV.out]; exact hk')
          refine ⟨by rw [List.length_set]; exact hss.len, ?_, fun j u l h1 h2 => ?_, hss.apart, hss.dis⟩
          · rw [List.length_set]
            refine World.ownsRow.kept hss.out HG.out (.inr fun e => ?_)
            exact hne g (e.symm.trans rfl) rfl
          · by_cases e : j = k
            · subst e
              rw [List.getElem?_set_self (by have := (List.getElem?_eq_some_iff.1 HJ'.out).1; exact this)] at h2
              rw [HV.out] at h1
              rw [← Option.some.inj h2, ← Option.some.inj h1, HEV.out]
              exact HO.out
            · rw [List.getElem?_set_ne (fun h => e h.symm)] at h2
              have ho := hss.row j u l h1 h2
              refine World.ownsRow.kept ho HG.out ?_
              cases hu : u.ownBlock with
              | none => exact .inl rfl
              | some q => exact .inr fun e2 => hss.dis j k u _ q e h1 HV.out hu (by rw [HEV.out]; exact e2.symm)
      case measure => simp [intOf]; omega
    · obtain rfl : k = ls.length := by omega
      go_wp2
      go_ret
      refine ⟨?_, HCH.out⟩
      rw [HMM.out, sumL_all]
      rfl

end Go.Proofs.Ytggohfinkpppkaa
