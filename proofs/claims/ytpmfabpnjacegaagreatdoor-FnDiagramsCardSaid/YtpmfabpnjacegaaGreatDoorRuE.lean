/-
  The decision of a rule set is made and asked: impl's decision, slices.IndexFunc at conditions, FirstRule, RulesHold. By an AI agent.
-/
import Derived.Test.YtpmfabpnjacegaaGreatDoorGQ11
namespace Go.Proofs.YtpmfabpnjacegaaGreatDoor
open Go.RowKit
set_option linter.unusedVariables false

/-- a slice of conditions of the call's own -/
structure OwnD (w : World) (b : Nat) (n : Nat) (l : List (List TS)) (vs rest : List Value) : Prop where
  row : w.ownsRow b 105 1 (.slice (some ⟨b, 0, none⟩) n n) n (vs ++ rest)
  len : vs.length = l.length
  cond : ∀ (j : Nat) (v : Value) (t : List TS), vs[j]? = some v → l[j]? = some t → CondR w (b + 1) v t
theorem OwnD.inCR {w : World} {b n : Nat} {l : List (List TS)} {vs : List Value} (h : OwnD w b n l vs []) (hn : n = l.length) : InCR w b (some ⟨b, 0, none⟩) l := by
  intro h0
  obtain ⟨g, e, _, hg, hc⟩ := cell_own h.row (by omega)
  injection e with e
  injection e with e
  subst e
  refine ⟨b, 0, rfl, Nat.le_refl _, hg, fun j t hj => ?_⟩
  have hlt := (List.getElem?_eq_some_iff.1 hj).1
  have hv : vs[j]? = some (vs[j]'(by rw [h.len]; exact hlt)) := List.getElem?_eq_getElem _
  exact ⟨_, hc j _ (by rw [List.append_nil]; exact hv), (h.cond j _ t hv hj).mono (by omega)⟩
theorem OwnD.step {w w2 w3 : World} {b n k : Nat} {l : List (List TS)} {vs r2 : List Value} {v y : Value} {t : List TS} (h : OwnD w b n (l.take k) vs (y :: r2)) (hk : k ≤ l.length) (hb : Below w.heap.size w w2) (hbw : b < w.heap.size) (ht : l[k]? = some t) (hc : CondR w2 w.heap.size v t)
    (hrow : w3.ownsRow b 105 1 (.slice (some ⟨b, 0, none⟩) n n) n ((vs ++ [v]) ++ r2)) (hg : w2.grownBy w3 (some b)) : OwnD w3 b n (l.take (k + 1)) (vs ++ [v]) r2 := by
  have hkeep : ∀ g, b + 1 ≤ g → g < w2.heap.size → w3.heap[g]? = w2.heap[g]? := fun g h1 h2 => hg.block g h2 (fun e => by injection e with e; omega)
  refine ⟨hrow, by rw [take_one ht]; simp [h.len], fun j x s hx hs => ?_⟩
  rw [take_one ht] at hs
  rcases snoc_at hx with hx | ⟨rfl, rfl⟩
  · have hlt := (List.getElem?_eq_some_iff.1 hx).1
    rw [List.getElem?_append_left (by rw [← h.len]; exact hlt)] at hs
    exact ((h.cond j x s hx hs).below hb).keep hg.size hkeep
  · rw [List.getElem?_append_right (by rw [h.len]; exact Nat.le_refl _), h.len, Nat.sub_self] at hs
    simp at hs
    subst hs
    exact (hc.mono (by omega)).keep hg.size hkeep

set_option maxRecDepth 100000 in
set_option maxHeartbeats 2000000 in
theorem cvr_any (a : Option Addr) (c : Nat) (R : List (List TS)) (w : World) (h : SmRu w a R c) :
    Calls Tryz.prog 62 #[.slice a R.length c, .func (.func 63) #[] #[]] w fun e w' => ∃ a' c', e = .returned (.slice a' R.length c') ∧ InCR w' w.heap.size a' R ∧ Below w.heap.size w w' := by
  obtain ⟨i0, hi, hz0, hz1, hz2⟩ := info_get info_cond
  have HS := Lib.hid h
  have hl := h.len
  clear h
  go_enter Tryz.func62, Tryz.ntmps62
  go_wp2_with (at_make; refine wpList_make_full _ rfl _ _ 103 rfl w.heap.size 105 i0 _ 1 Tryz.underlying103 hi hz0 hz1 .i64 .i64 _ _ R.length rfl rfl rfl rfl (by rw [hz2]; omega) (by unfold maxLen; omega) (Nat.le_refl _) ?_; intro w1 hrow hg)
  have HROW := Lib.hid hrow
  have HB1 := Lib.hid ((Below.refl w.heap.size w).grown hg (Nat.le_refl _) (fun k hk => by cases hk))
  have HLT := Lib.hid (World.ownsRow.lt hrow w.heap.size rfl).2
  clear hrow hg
  go_loopw [13] (fun i wr => ∃ (k : Nat) (vs rest : List Value), k ≤ R.length ∧ i = .int .i64 k ∧ OwnD wr w.heap.size R.length (R.take k) vs rest ∧ Below w.heap.size w wr ∧ w.heap.size < wr.heap.size) (fun i _ => R.length - (intOf i).toNat)
  case atStart => exact ⟨0, [], _, Nat.zero_le _, rfl, ⟨HROW.out, rfl, fun j v t h => by simp at h⟩, HB1.out, HLT.out⟩
  case round =>
    obtain ⟨k, vs, rest, hk, rfl, hown, hb, hws⟩ := hrel
    by_cases hlt : k < R.length
    · obtain ⟨b, off, l, a', c', rfl, hbw, hx, c0, hsm⟩ := (HS.out.below hb).at_ hlt
      have HX := Lib.hid hx
      have HSM := Lib.hid hsm
      have HOWN := Lib.hid hown
      have HB := Lib.hid hb
      have HWS := Lib.hid hws
      have HVL := Lib.hid (show vs.length = k by rw [hown.len, List.length_take]; omega)
      have HA1 := Lib.hid ((Below.refl wr.heap.size wr).alloc (Nat.le_refl _) (.cells #[.slice a' l.length c'] 66))
      clear hx hown hb hws hbw hsm
      go_wp2_with (go_at_call 63; ((with_reducible refine (rc_impl a' c' l _ (HSM.out.below HA1.out)).mono ?_); rintro e w2 ⟨v, rfl, hc, hb2⟩; refine Hid.out ?_))
      refine Lib.hid ?_
      have hbb : Below wr.heap.size wr w2 := HA1.out.trans (hb2.mono HA1.out.size)
      have hrow2 := World.ownsRow.kept HOWN.out.row (row := none) ⟨hbb.os, hbb.tape, hbb.output, hbb.size, fun i hi _ => hbb.block i hi⟩ (by simp [Value.ownBlock])
      obtain ⟨y, r2, rfl, hy, hset⟩ := ss_row_at hrow2.1 HVL.out (by omega)
      have q0 := hrow2.cellAt k (by omega)
      rw [hy] at q0
      have f0 := hrow2.frozenAt k
      have HN := Lib.hid (hrow2.stored k v)
      rw [hset] at HN
      have HC := Lib.hid (hc.mono HA1.out.size)
      have HBB := Lib.hid hbb
      obtain ⟨g, _, _, hv, _⟩ := hc
      subst hv
      clear hb2 hrow2 hy hset hbb
      go_wp2
      go_roundw
      case rel =>
        exact ⟨k + 1, _, r2, by omega, by go_num, HOWN.out.step hk HBB.out HWS.out HX.out HC.out HN.out.1 HN.out.2, (HB.out.trans (HBB.out.mono HB.out.size)).grown HN.out.2 (Nat.le_trans HB.out.size HBB.out.size) (fun j hj => by cases hj; exact Nat.le_refl _), Nat.lt_of_lt_of_le HWS.out (Nat.le_trans HBB.out.size HN.out.2.size)⟩
      case measure => simp [intOf]; omega
    · obtain rfl : k = R.length := by omega
      have HOWN := Lib.hid hown
      clear hown
      go_wp2
      go_ret
      have h := HOWN.out
      rw [List.take_length] at h
      have h1 := h.row.1
      rw [List.length_append, h.len] at h1
      obtain rfl : rest = [] := List.eq_nil_of_length_eq_zero (by omega)
      exact ⟨_, _, rfl, h.inCR rfl, hb⟩

/-- a rule set's decision is made -/
def MadeD (w : World) (R : List (List TS)) (e : Ending) (w' : World) : Prop := ∃ v, e = .returned v ∧ DecR w' v R ∧ Below w.heap.size w w'

set_option maxRecDepth 100000 in
theorem dec_impl (a : Option Addr) (c : Nat) (R : List (List TS)) (w : World) (h : SmRu w a R c) :
    Calls Tryz.prog 31 #[.agg #[.slice a R.length c]] w (MadeD w R) := by
  have hmf := hmf2
  have HA1 := Lib.hid ((Below.refl w.heap.size w).alloc (Nat.le_refl _) (.cells #[.slice a R.length c] 26))
  have HC := Lib.hid (fun (W : World) (hW : Below w.heap.size w W) => cvr_any a c R W (h.below hW))
  have HL := Lib.hid h.len
  clear h
  go_enter Tryz.func31, Tryz.ntmps31
  go_wp2_with (go_at_call 62; ((with_reducible refine (HC.out _ HA1.out).mono ?_); rintro e w2 ⟨a', c', rfl, hc, hb2⟩; have HIC := Lib.hid hc; have HB2 := Lib.hid (HA1.out.trans (hb2.mono HA1.out.size)); clear hc hb2))
  go_ret
  obtain ⟨w3, hw3⟩ : ∃ w3, w3 = w2.alloc (.cells #[.slice a' R.length c'] 103) := ⟨_, rfl⟩
  rw [← hw3]
  have hb3 : Below w2.heap.size w2 w3 := by rw [hw3]; exact (Below.refl _ _).alloc (Nat.le_refl _) _
  have hblk : BlkV w3 w2.heap.size 103 #[.slice a' R.length c'] := by rw [hw3]; exact BlkV.new _ _ _
  exact ⟨_, rfl, ⟨_, _, a', c', rfl, by rw [hw3]; simp, hblk.one0, HIC.out.below hb3, HL.out⟩, HB2.out.trans (hb3.mono HB2.out.size)⟩

/-- the answer of a decision -/
def idxR (R : List (List TS)) (l : List Int) : Int := if firstU R l < R.length then (firstU R l : Int) else -1
theorem first_at {R : List (List TS)} {l : List Int} {k : Nat} {r : List TS} (h : k ≤ firstU R l) (hk : R[k]? = some r) (hr : (r.all fun t => condT t l) = true) : idxR R l = k := by
  obtain ⟨hlt, he⟩ := List.getElem?_eq_some_iff.1 hk
  have h1 : ¬ k < firstU R l := fun e => by
    have := List.not_of_lt_findIdx e
    simp only [he] at this
    rw [hr] at this
    cases this
  have h2 : firstU R l = k := by omega
  unfold idxR
  rw [h2, if_pos hlt]
theorem first_next {R : List (List TS)} {l : List Int} {k : Nat} {r : List TS} (h : k ≤ firstU R l) (hk : R[k]? = some r) (hr : (r.all fun t => condT t l) = false) : k + 1 ≤ firstU R l := by
  obtain ⟨hlt, he⟩ := List.getElem?_eq_some_iff.1 hk
  rcases Nat.lt_or_ge k (firstU R l) with h1 | h1
  · exact h1
  · have h2 : firstU R l = k := by omega
    have h3 := List.findIdx_getElem (xs := R) (p := fun r => r.all fun t => condT t l) (w := by show firstU R l < _; omega)
    have h4 : R[firstU R l]? = some r := by rw [h2]; exact hk
    obtain ⟨h5, h6⟩ := List.getElem?_eq_some_iff.1 h4
    have h7 : ((R[firstU R l]'h5).all fun t => condT t l) = true := h3
    rw [h6, hr] at h7
    cases h7
theorem first_end {R : List (List TS)} {l : List Int} (h : R.length ≤ firstU R l) : idxR R l = -1 := by
  unfold idxR
  rw [if_neg (by omega)]

set_option maxRecDepth 100000 in
theorem ask_any (gf : Nat) (v : Value) (lo : Nat) (q : List TS) (a : Option Addr) (cap : Nat) (l : List Int) (r : Bool) (w : World) (h6 : l.length = 6) (hin : InI w a l) (hf : w.cell? ⟨gf, 0, none⟩ = some (.slice a l.length cap)) (hc : CondR w lo v q) (hr : (q.all fun t => condT t l) = r) :
    Calls Tryz.prog 66 #[v, .pointer (some ⟨gf, 0, none⟩)] w fun e w' => e = .returned (.bool r) ∧ Below w.heap.size w w' := by
  obtain ⟨g, a2, c2, rfl, hlo, hg, hcell, hic, hql⟩ := hc
  have HCL := Lib.hid (all_any g _ a2 c2 q a cap l r w h6 hin hg hcell hic hql hr)
  clear hic hlo hg hql hr hin hcell h6
  go_enter Tryz.func66, Tryz.ntmps66
  go_wp2_with (go_at_call 108; ((with_reducible refine HCL.out.mono ?_); rintro e w3 ⟨rfl, hb3⟩; have HB3 := Lib.hid hb3; clear hb3))
  go_ret
  exact ⟨rfl, HB3.out⟩

set_option maxRecDepth 100000 in
set_option maxHeartbeats 1000000 in
theorem idx_any (gf lo : Nat) (a2 : Option Addr) (c2 : Nat) (R : List (List TS)) (a : Option Addr) (cap : Nat) (l : List Int) (z : Int) (w : World) (h6 : l.length = 6) (hin : InI w a l) (hg : gf < w.heap.size) (hf : w.cell? ⟨gf, 0, none⟩ = some (.slice a l.length cap)) (hi : InCR w lo a2 R) (hq : R.length ≤ 4000000) (hz : idxR R l = z) :
    Calls Tryz.prog 65 #[.slice a2 R.length c2, .func (.func 66) #[] #[.pointer (some ⟨gf, 0, none⟩)]] w fun e w' => e = .returned (.int .i64 z) ∧ Below w.heap.size w w' := by
  have HZ := Lib.hid hz
  have HI := Lib.hid hi
  have HIN := Lib.hid hin
  have H6 := Lib.hid h6
  have HF := Lib.hid hf
  have HG := Lib.hid hg
  clear hz hi hin h6 hf hg
  go_enter Tryz.func65, Tryz.ntmps65
  go_wp2
  go_loopw [8] (fun i wr => ∃ k : Nat, k ≤ R.length ∧ i = .int .i64 k ∧ k ≤ firstU R l ∧ Below w.heap.size w wr) (fun i _ => R.length - (intOf i).toNat)
  case atStart => exact ⟨0, Nat.zero_le _, rfl, Nat.zero_le _, Below.refl _ _⟩
  case round =>
    obtain ⟨k, hk, rfl, hfi, hb⟩ := hrel
    have HFI := Lib.hid hfi
    have HB := Lib.hid hb
    clear hfi hb
    by_cases hlt : k < R.length
    · obtain ⟨b, off, rfl, hlo, hbw, hcs⟩ := (HI.out.below HB.out) (by omega)
      have hx := List.getElem?_eq_getElem hlt
      obtain ⟨v, hcell, hct⟩ := hcs k _ hx
      have HX := Lib.hid hx
      obtain ⟨d, hd⟩ : ∃ d, (R[k].all fun t => condT t l) = d := ⟨_, rfl⟩
      have HD := Lib.hid hd
      have HCL := Lib.hid (ask_any gf v lo _ a cap l d wr H6.out (HIN.out.below HB.out) ((HB.out.cell (p := ⟨gf, 0, none⟩) HG.out).trans HF.out) hct hd)
      obtain ⟨g, _, _, hv, _⟩ := hct
      subst hv
      clear hx hcs hd hlo hbw
      cases d
      · go_wp2_with (go_at_call 66; ((with_reducible refine HCL.out.mono ?_); rintro e w2 ⟨rfl, hb2⟩; have HB2 := Lib.hid hb2; clear hb2))
        go_roundw
        case rel => exact ⟨k + 1, by omega, by go_num, first_next HFI.out HX.out HD.out, HB.out.trans (HB2.out.mono HB.out.size)⟩
        case measure => simp [intOf]; omega
      · obtain rfl : (k : Int) = z := by rw [← HZ.out, first_at HFI.out HX.out HD.out]
        go_wp2_with (go_at_call 66; ((with_reducible refine HCL.out.mono ?_); rintro e w2 ⟨rfl, hb2⟩; have HB2 := Lib.hid hb2; clear hb2))
        go_ret
        exact ⟨rfl, HB.out.trans (HB2.out.mono HB.out.size)⟩
    · obtain rfl : k = R.length := by omega
      obtain rfl : -1 = z := by rw [← HZ.out, first_end HFI.out]
      go_wp2
      go_ret
      exact ⟨rfl, HB.out⟩

set_option maxRecDepth 100000 in
theorem ans_any (g lo : Nat) (a2 : Option Addr) (c2 : Nat) (R : List (List TS)) (a : Option Addr) (cap : Nat) (l : List Int) (z : Int) (w : World) (h6 : l.length = 6) (hin : InI w a l) (hg : g < w.heap.size) (hc : w.cell? ⟨g, 0, none⟩ = some (.slice a2 R.length c2)) (hi : InCR w lo a2 R) (hq : R.length ≤ 4000000) (hz : idxR R l = z) :
    Calls Tryz.prog 64 #[.slice a l.length cap, .pointer (some ⟨g, 0, none⟩)] w fun e w' => e = .returned (.int .i64 z) ∧ Below w.heap.size w w' := by
  have hmf := hmf2
  obtain ⟨w1, hw1⟩ : ∃ w1, w1 = w.alloc (.cells #[.slice a l.length cap] 27) := ⟨_, rfl⟩
  have HW := Lib.hid hw1
  have HB1 := Lib.hid (show Below w.heap.size w w1 by rw [hw1]; exact (Below.refl w.heap.size w).alloc (Nat.le_refl _) _)
  have hbk : BlkV w1 w.heap.size 27 #[.slice a l.length cap] := by rw [hw1]; exact BlkV.new _ _ _
  have HC := Lib.hid (idx_any w.heap.size lo a2 c2 R a cap l z w1 h6 (hin.below HB1.out) (by rw [hw1]; simp) hbk.one0 (hi.below HB1.out) hq hz)
  have q0 := (HB1.out.cell (p := ⟨g, 0, none⟩) hg).trans hc
  rw [hw1] at q0
  clear hz hi hin hc hbk hw1 h6
  go_enter Tryz.func64, Tryz.ntmps64
  go_wp2_with (go_at_call 65; rw [← HW.out]; ((with_reducible refine HC.out.mono ?_); rintro e w3 ⟨rfl, hb3⟩; have HB3 := Lib.hid hb3; clear hb3))
  go_ret
  exact ⟨rfl, HB1.out.trans (HB3.out.mono HB1.out.size)⟩
/-- what a decision answers: of a function value that is one -/
theorem dec_cases {w : World} {v : Value} {R : List (List TS)} (h : DecR w v R) (l : List Int) (h6 : l.length = 6) :
    ∃ g, v = closV 64 g ∧ ∀ (a : Option Addr) (cap : Nat) (z : Int) (W : World), Below w.heap.size w W → InI W a l → idxR R l = z → Calls Tryz.prog 64 #[.slice a l.length cap, .pointer (some ⟨g, 0, none⟩)] W fun e w' => e = .returned (.int .i64 z) ∧ Below W.heap.size W w' := by
  obtain ⟨g, lo, a2, c2, hv, hg, hc, hi, hq⟩ := h
  exact ⟨g, hv, fun a cap z W hW hin hz => ans_any g lo a2 c2 R a cap l z W h6 hin (Nat.lt_of_lt_of_le hg hW.size) ((hW.cell (p := ⟨g, 0, none⟩) hg).trans hc) (hi.below hW) hq hz⟩

theorem fr_bad1 {R : List (List TS)} {l : List Int} (h : vsB R = false) : frR R l = -1 := by unfold frR; rw [h]; rfl
theorem fr_bad2 {R : List (List TS)} {l : List Int} (h : fvB l = false) : frR R l = -1 := by unfold frR; rw [h, Bool.and_false]; rfl
theorem fr_ok {R : List (List TS)} {l : List Int} (h1 : vsB R = true) (h2 : fvB l = true) : frR R l = idxR R l := by unfold frR idxR; rw [h1, h2]; simp
theorem fr_range {R : List (List TS)} {l : List Int} (hR : R.length ≤ 4000000) : -1 ≤ frR R l ∧ frR R l ≤ 4000000 := by
  unfold frR
  split
  · rename_i h
    simp at h
    omega
  · omega

set_option maxRecDepth 100000 in
set_option maxHeartbeats 1000000 in
theorem fr_impl (ra : Option Addr) (rc : Nat) (R : List (List TS)) (a : Option Addr) (c : Nat) (l : List Int) (z : Int) (w : World) (h : SmRu w ra R rc) (hl : l.length ≤ 4000000) (hin : InI w a l) (hz : frR R l = z) :
    Calls Tryz.prog 9 #[.agg #[.slice ra R.length rc], .slice a l.length c] w fun e w' => e = .returned (.int .i64 z) ∧ Below w.heap.size w w' := by
  obtain ⟨b1, hb1⟩ : ∃ b, vsB R = b := ⟨_, rfl⟩
  obtain ⟨b2, hb2⟩ : ∃ b, fvB l = b := ⟨_, rfl⟩
  have HV := Lib.hid hb1
  have HF := Lib.hid hb2
  have HZ := Lib.hid hz
  obtain ⟨w1, hw1⟩ : ∃ w1, w1 = w.alloc (.cells #[.slice ra R.length rc] 26) := ⟨_, rfl⟩
  have HW := Lib.hid hw1
  have HB1 := Lib.hid (show Below w.heap.size w w1 by rw [hw1]; exact (Below.refl w.heap.size w).alloc (Nat.le_refl _) _)
  have HT4 := Lib.hid (show BlkV w1 w.heap.size 26 #[.slice ra R.length rc] by rw [hw1]; exact BlkV.new _ _ _)
  have x0 := HT4.out.one0
  have HIN := Lib.hid (hin.below HB1.out)
  have HSM := Lib.hid (h.below HB1.out)
  have HVC := Lib.hid (vs_impl ra rc R b1 w1 hb1 HSM.out)
  clear hb1 hb2 hz hw1 hin h
  cases b1
  · obtain rfl : -1 = z := by rw [← HZ.out, fr_bad1 HV.out]
    go_enter Tryz.func9, Tryz.ntmps9
    go_wp2_with (go_at_call 25; rw [← HW.out]; ((with_reducible refine HVC.out.mono ?_); rintro e w2 ⟨rfl, hb2⟩; have HB2 := Lib.hid (HB1.out.trans (hb2.mono HB1.out.size)); clear hb2))
    go_ret
    exact ⟨rfl, HB2.out⟩
  · cases b2
    · obtain rfl : -1 = z := by rw [← HZ.out, fr_bad2 HF.out]
      go_enter Tryz.func9, Tryz.ntmps9
      go_wp2_with (first
        | (go_at_call 25; rw [← HW.out]; ((with_reducible refine HVC.out.mono ?_); rintro e w2 ⟨rfl, hb2⟩; have HIN2 := Lib.hid (HIN.out.below hb2); have HB2 := Lib.hid (HB1.out.trans (hb2.mono HB1.out.size)); clear hb2))
        | (go_at_call 30; ((with_reducible refine (fv_impl a c l _ _ hl HIN2.out HF.out).mono ?_); rintro e w3 ⟨rfl, rfl⟩)))
      go_ret
      exact ⟨rfl, HB2.out⟩
    · have HZ2 := Lib.hid (show idxR R l = z by rw [← fr_ok HV.out HF.out]; exact HZ.out)
      have H6 := Lib.hid (fv_of HF.out).1
      go_enter Tryz.func9, Tryz.ntmps9
      go_wp2_with (first
        | (go_at_call 25; rw [← HW.out]; ((with_reducible refine HVC.out.mono ?_); rintro e w2 ⟨rfl, hb2⟩; have z0 := (HT4.out.below hb2).one0; have HIN2 := Lib.hid (HIN.out.below hb2); have HSM2 := Lib.hid (HSM.out.below hb2); have HB2 := Lib.hid (HB1.out.trans (hb2.mono HB1.out.size)); clear hb2))
        | (go_at_call 30; ((with_reducible refine (fv_impl a c l _ _ hl HIN2.out HF.out).mono ?_); rintro e w3 ⟨rfl, rfl⟩))
        | (go_at_call 31; ((with_reducible refine (dec_impl ra rc R _ HSM2.out).mono ?_); rintro e w3 ⟨v, rfl, hd, hb3⟩; refine Hid.out ?_)))
      refine Lib.hid ?_
      obtain ⟨g, rfl, hcl⟩ := dec_cases hd l H6.out
      have HCL := Lib.hid (hcl a c z _ (Below.refl _ _) (HIN2.out.below hb3) HZ2.out)
      have HB3 := Lib.hid (HB2.out.trans (hb3.mono HB2.out.size))
      clear hd hcl hb3
      go_wp2_with (go_at_call 64; ((with_reducible refine HCL.out.mono ?_); rintro e w4 ⟨rfl, hb4⟩; have HB4 := Lib.hid hb4; clear hb4))
      go_ret
      exact ⟨rfl, HB3.out.trans (HB4.out.mono HB3.out.size)⟩

theorem rhB_of {R : List (List TS)} {l : List Int} {z : Int} (hz : frR R l = z) : rhB R l = decide (0 ≤ z) := by rw [← hz]; rfl

end Go.Proofs.YtpmfabpnjacegaaGreatDoor
