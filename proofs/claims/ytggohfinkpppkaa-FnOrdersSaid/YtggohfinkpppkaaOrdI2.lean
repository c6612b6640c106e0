/-
  What impl.OrderTokens answers: the walk. By an AI agent.
-/
import Derived.Test.YtggohfinkpppkaaOrdI
import Derived.Test.YtggohfinkpppkaaPut
namespace Go.Proofs.Ytggohfinkpppkaa
open Go.RowKit Go.Maps
set_option linter.unusedVariables false

theorem take_prs {tab : List TC} {l : List Str} {k : Nat} {x : Str} (h : l[k]? = some x) : (prsL tab l).take (k + 1) = (prsL tab l).take k ++ [(x, frqL tab x)] := tc_take (prs_at h)
theorem prs_take_len {tab : List TC} {l : List Str} {k : Nat} (h : k ≤ l.length) : ((prsL tab l).take k).length = k := by rw [List.length_take, prs_len]; omega
theorem ord_gap_at {p : List TC} {k : Nat} {y0 y1 : Value} {r : List Value} (hp : p.length = k) : (flatT p ++ y0 :: y1 :: r)[k * 2]? = some y0 ∧ (flatT p ++ y0 :: y1 :: r)[k * 2 + 1]? = some y1 := by
  have h : (flatT p).length = k * 2 := by rw [flat_len, hp]
  constructor
  · rw [List.getElem?_append_right (by omega), h, Nat.sub_self]; rfl
  · rw [List.getElem?_append_right (by omega), h, show k * 2 + 1 - k * 2 = 1 by omega]; rfl
theorem ord_gap_set {p : List TC} {k : Nat} {y0 y1 u0 u1 : Value} {r : List Value} (hp : p.length = k) : ((flatT p ++ y0 :: y1 :: r).set (k * 2) u0).set (k * 2 + 1) u1 = flatT p ++ u0 :: u1 :: r := by
  have h : (flatT p).length = k * 2 := by rw [flat_len, hp]
  rw [List.set_append_right _ _ (by omega), h, Nat.sub_self, List.set_append_right _ _ (by omega), h, show k * 2 + 1 - k * 2 = 1 by omega]
  rfl
theorem ord_rest_two {p : List TC} {k n : Nat} {rest : List Value} (h : (flatT p ++ rest).length = n * 2) (hp : p.length = k) (hk : k < n) : ∃ y0 y1 r, rest = y0 :: y1 :: r := by
  rw [List.length_append, flat_len, hp] at h
  match rest, h with
  | [], h => simp at h; omega
  | [_], h => simp at h; omega
  | y0 :: y1 :: r, _ => exact ⟨y0, y1, r, rfl⟩

theorem method_tab (F : Nat) (a : Option Addr) (n c : Nat) (W : World) : (method (F + 1) 135 (.slice a n c) "loop.example/g01923/impl.frequency").run Try.prog W = .ok (182, .slice a n c) W := by kernel_rfl
theorem method_map (F : Nat) (b : Nat) (W : World) : (method (F + 1) 136 (.map (some b)) "loop.example/g01923/impl.frequency").run Try.prog W = .ok (185, .map (some b)) W := by kernel_rfl

set_option maxRecDepth 100000 in
set_option maxHeartbeats 4000000 in
theorem ord_impl (a0 : Option Addr) (c0 : Nat) (tab : List TC) (a1 : Option Addr) (c1 : Nat) (l : List Str) (r : List Str) (w : World) (hr : ordR tab l = r) (h0 : SmW w a0 tab c0) (h1 : Sm w a1 l c1) :
    Calls Try.prog 41 #[.slice a0 tab.length c0, .slice a1 l.length c1] w (GivesS w r) := by
  obtain ⟨i1, hi1, hy0, hy1, hy2⟩ := info_parts info_tc
  obtain ⟨i0, hi, hz0, hz1, hz2⟩ := info_parts info_str
  have H0 := Lib.hid h0
  obtain ⟨hin1, -, -, hl1, hx1⟩ := h1
  have H1 := Lib.hid hin1
  have HX := Lib.hid hx1
  have HR := Lib.hid hr
  have htl := h0.1.2.2.2.1
  clear h0 hin1 hx1 hr
  go_enter Try.func41, Try.ntmps41
  go_wp2_with (go_at_call 90; (refine (src_of a0 c0 tab _ H0.out).mono ?_); rintro e w1 ⟨v, rfl, hs1, hb1⟩; have HS1 := Lib.hid hs1; have HB1 := Lib.hid hb1; clear hs1 hb1; refine Hid.out ?_)
  refine Lib.hid ?_
  go_wp2_with (at_make; refine wpList_make_full _ rfl _ _ 24 rfl w1.heap.size 66 i1 _ 2 Try.underlying24 hi1 hy0 hy1 .i64 .i64 _ _ l.length rfl rfl rfl rfl (by rw [hy2]; omega) (by unfold maxLen; omega) (Nat.le_refl _) ?_; intro w2 hrow hg)
  have HROW := Lib.hid hrow
  have HB2 := Lib.hid ((Below.refl w1.heap.size w1).grown hg (Nat.le_refl _) (fun k hk => by cases hk))
  have HLT2 := Lib.hid (World.ownsRow.lt hrow w1.heap.size rfl).2
  clear hrow hg
  go_loopw [19] (fun i wr => ∃ (k : Nat) (rest : List Value), k ≤ l.length ∧ i = .int .i64 k ∧ wr.ownsRow w1.heap.size 66 2 (.slice (some ⟨w1.heap.size, 0, none⟩) l.length l.length) l.length (flatT ((prsL tab l).take k) ++ rest) ∧ Below w1.heap.size w1 wr ∧ w1.heap.size < wr.heap.size) (fun i _ => l.length - (intOf i).toNat)
  case atStart => exact ⟨0, _, Nat.zero_le _, rfl, HROW.out, HB2.out, HLT2.out⟩
  case round =>
    obtain ⟨k, rest, hk, rfl, hrow, hb, hws⟩ := hrel
    by_cases hlt : k < l.length
    · obtain ⟨b, off, rfl, hbw, hc⟩ := H1.out (by omega)
      obtain ⟨x, s, hx1, hx2, hx3, hx4⟩ := str_at hlt
      have hcell : wr.cell? ⟨b, off + k, none⟩ = some (.string s) := by
        rw [hb.cell (p := ⟨b, off + k, none⟩) (Nat.lt_of_lt_of_le hbw HB1.out.size), HB1.out.cell (p := ⟨b, off + k, none⟩) hbw, ← hx3]
        exact hc k x hx1
      have HX1 := Lib.hid hx1
      have HX2 := Lib.hid hx2
      have HX3 := Lib.hid hx3
      have HSL := Lib.hid (show s.size ≤ maxLen by rw [hx4]; have := HX.out x (List.mem_of_getElem? hx1); unfold maxLen; omega)
      obtain ⟨f, hf⟩ : ∃ f, frqL tab x = f := ⟨_, rfl⟩
      have HF := Lib.hid hf
      have HROW2 := Lib.hid hrow
      have HB := Lib.hid hb
      have HWS := Lib.hid hws
      clear hc hx1 hx2 hx3 hx4 hbw hrow hb hws hf
      rcases HS1.out with ⟨aT, cT, rfl, hT, hinT⟩ | ⟨bM, nM, rfl, hM⟩
      · have hme := fun (F : Nat) (W : World) => method_tab F aT tab.length cT W
        have HQ := Lib.hid (fun (W : World) (hW : Below w1.heap.size w1 W) => (frq_tab aT cT tab s W hT (hinT.below hW) htl).mono fun e w' h => (show e = .returned (.int .i64 f) ∧ Below W.heap.size W w' from ⟨by rw [← HF.out, ← HX2.out]; exact h.1, h.2⟩))
        clear hT hinT
        go_wp2_with (go_at_call 182; (refine (HQ.out _ HB.out).mono ?_); rintro e w2 ⟨rfl, hbf⟩; have HBF := Lib.hid hbf; clear hbf; refine Hid.out ?_)
        refine Lib.hid ?_
        have HB3 := Lib.hid (HB.out.trans (HBF.out.mono (Nat.le_of_lt HWS.out)))
        have hrow2 := World.ownsRow.kept HROW2.out (row := none) (grown_below_none HBF.out) (by simp [Value.ownBlock])
        obtain ⟨y0, y1, r2, hrest⟩ := ord_rest_two hrow2.1 (prs_take_len (tab := tab) (show k ≤ l.length by omega)) hlt
        subst hrest
        have q0 := hrow2.cellAt (k * 2) (by omega)
        have q1 := hrow2.cellAt (k * 2 + 1) (by omega)
        rw [(ord_gap_at (prs_take_len (tab := tab) (show k ≤ l.length by omega))).1] at q0
        rw [(ord_gap_at (prs_take_len (tab := tab) (show k ≤ l.length by omega))).2] at q1
        have f0 := hrow2.frozenAt (k * 2)
        have f1 := hrow2.frozenAt (k * 2 + 1)
        have HN := Lib.hid (hrow2.stored (k * 2) (.string s))
        have HN2 := Lib.hid (HN.out.1.stored (k * 2 + 1) (.int .i64 f))
        have HWS2 := Lib.hid (Nat.lt_of_lt_of_le HWS.out HBF.out.size)
        clear hrow2
        go_wp2
        go_roundw
        case rel =>
          refine ⟨k + 1, r2, by omega, by go_num, ?_, (HB3.out.grown HN.out.2 HB3.out.size (fun j hj => by cases hj; exact Nat.le_refl _)).grown HN2.out.2 (Nat.le_trans HB3.out.size HN.out.2.size) (fun j hj => by cases hj; exact Nat.le_refl _), Nat.lt_of_lt_of_le HWS2.out (Nat.le_trans HN.out.2.size HN2.out.2.size)⟩
          have h := HN2.out.1
          rw [ord_gap_set (prs_take_len (tab := tab) (show k ≤ l.length by omega))] at h
          rw [take_prs HX1.out, flat_snoc, List.append_assoc]
          rw [show encT (x, frqL tab x) = [.string s, .int .i64 f] by rw [← HX3.out, ← HF.out]; rfl]
          exact h
        case measure => simp [intOf]; omega
      · have hme := fun (F : Nat) (W : World) => method_map F bM W
        have HQ := Lib.hid (fun (W : World) (hW : Below w1.heap.size w1 W) => (frq_map bM nM _ _ s W (hM.below hW) HSL.out).mono fun e w' h => (show e = .returned (.int .i64 f) ∧ Below W.heap.size W w' from ⟨by rw [← HF.out, ← HX2.out]; exact h.1, by rw [h.2]; exact Below.refl _ _⟩))
        clear hM
        go_wp2_with (go_at_call 185; (refine (HQ.out _ HB.out).mono ?_); rintro e w2 ⟨rfl, hbf⟩; have HBF := Lib.hid hbf; clear hbf; refine Hid.out ?_)
        refine Lib.hid ?_
        have HB3 := Lib.hid (HB.out.trans (HBF.out.mono (Nat.le_of_lt HWS.out)))
        have hrow2 := World.ownsRow.kept HROW2.out (row := none) (grown_below_none HBF.out) (by simp [Value.ownBlock])
        obtain ⟨y0, y1, r2, hrest⟩ := ord_rest_two hrow2.1 (prs_take_len (tab := tab) (show k ≤ l.length by omega)) hlt
        subst hrest
        have q0 := hrow2.cellAt (k * 2) (by omega)
        have q1 := hrow2.cellAt (k * 2 + 1) (by omega)
        rw [(ord_gap_at (prs_take_len (tab := tab) (show k ≤ l.length by omega))).1] at q0
        rw [(ord_gap_at (prs_take_len (tab := tab) (show k ≤ l.length by omega))).2] at q1
        have f0 := hrow2.frozenAt (k * 2)
        have f1 := hrow2.frozenAt (k * 2 + 1)
        have HN := Lib.hid (hrow2.stored (k * 2) (.string s))
        have HN2 := Lib.hid (HN.out.1.stored (k * 2 + 1) (.int .i64 f))
        have HWS2 := Lib.hid (Nat.lt_of_lt_of_le HWS.out HBF.out.size)
        clear hrow2
        go_wp2
        go_roundw
        case rel =>
          refine ⟨k + 1, r2, by omega, by go_num, ?_, (HB3.out.grown HN.out.2 HB3.out.size (fun j hj => by cases hj; exact Nat.le_refl _)).grown HN2.out.2 (Nat.le_trans HB3.out.size HN.out.2.size) (fun j hj => by cases hj; exact Nat.le_refl _), Nat.lt_of_lt_of_le HWS2.out (Nat.le_trans HN.out.2.size HN2.out.2.size)⟩
          have h := HN2.out.1
          rw [ord_gap_set (prs_take_len (tab := tab) (show k ≤ l.length by omega))] at h
          rw [take_prs HX1.out, flat_snoc, List.append_assoc]
          rw [show encT (x, frqL tab x) = [.string s, .int .i64 f] by rw [← HX3.out, ← HF.out]; rfl]
          exact h
        case measure => simp [intOf]; omega
    · obtain rfl : k = l.length := by omega
      have HFULL := Lib.hid (show wr.ownsRow w1.heap.size 66 2 (.slice (some ⟨w1.heap.size, 0, none⟩) l.length l.length) l.length (flatT (prsL tab l)) by
        have h := hrow
        have e : (prsL tab l).take l.length = prsL tab l := by rw [← prs_len tab l, List.take_length]
        rw [e] at h
        have h2 := h.1
        rw [List.length_append, flat_len, prs_len] at h2
        obtain rfl : rest = [] := List.eq_nil_of_length_eq_zero (by omega)
        rwa [List.append_nil] at h)
      have HB := Lib.hid hb
      clear hrow hb
      obtain ⟨wa, rfl⟩ : ∃ wa, wa = wr := ⟨_, rfl⟩
      go_wp2_with (go_at_call 91; (refine (sort_prs w1.heap.size tab l w1.heap.size l.length _ hl1 HFULL.out).mono ?_); rintro e w3 ⟨rfl, hg3, d, hdl, hdm, hind⟩; have HG3 := Lib.hid hg3; have HDL := Lib.hid hdl; have HDM := Lib.hid hdm; have HIND := Lib.hid hind; clear hg3 hdl hdm hind; refine Hid.out ?_)
      refine Lib.hid ?_
      have HB3 := Lib.hid ((HB1.out.trans (HB.out.mono HB1.out.size)).grown HG3.out (Nat.le_trans HB1.out.size HB.out.size) (fun j hj => by cases hj; exact HB1.out.size))
      go_wp2_with (at_make; refine wpList_make_full _ rfl _ _ 43 rfl w3.heap.size 9 i0 (.string ⟨#[]⟩) 1 Try.underlying43 hi hz0 hz1 .i64 .i64 _ _ l.length rfl rfl rfl rfl (by rw [hz2]; omega) (by unfold maxLen; omega) (Nat.le_refl _) ?_; intro w4 hrow hg)
      have HRL := Lib.hid (show r.length = l.length by rw [← HR.out, ord_len])
      have HROW4 := Lib.hid hrow
      have HB4 := Lib.hid ((Below.refl w3.heap.size w3).grown hg (Nat.le_refl _) (fun k hk => by cases hk))
      clear hrow hg
      go_loopw [40] (fun i wr => ∃ k : Nat, k ≤ l.length ∧ i = .int .i64 k ∧ wr.ownsRow w3.heap.size 9 1 (.slice (some ⟨w3.heap.size, 0, none⟩) l.length l.length) l.length (fillV r k) ∧ Below w3.heap.size w3 wr) (fun i _ => l.length - (intOf i).toNat)
      case atStart =>
        refine ⟨0, Nat.zero_le _, rfl, ?_, HB4.out⟩
        have h := HROW4.out
        rw [Nat.mul_one, show (Value.string ⟨#[]⟩).cells = #[.string ⟨#[]⟩] from rfl, toList_madeCells_one] at h
        rw [fill_zero, HRL.out]
        exact h
      case round =>
        obtain ⟨k, hk, rfl, hrow, hb⟩ := hrel
        by_cases hlt : k < l.length
        · have hdk : k < d.length := by rw [HDL.out]; exact hlt
          obtain ⟨x, s, hx1, hx2, hx3, hx4⟩ := tc_at hdk
          obtain ⟨e0, e1⟩ := HIND.out.at hb hx1 hx3
          rw [Nat.zero_add] at e0 e1
          have hxr : r[k]? = some x.1 := by rw [← HR.out, ← HDM.out, List.getElem?_map, hx1]; rfl
          have hold : (wr.alloc (.cells #[.string s, .int .i64 x.2] 66)).cell? ⟨w3.heap.size, k, none⟩ = some (.string ⟨#[]⟩) := by
            have h := (hrow.alloc (.cells #[.string s, .int .i64 x.2] 66)).cellAt k (by omega)
            rw [h]
            exact fill_at (by rw [HRL.out]; exact hlt)
          have hfz : (wr.alloc (.cells #[.string s, .int .i64 x.2] 66)).frozen? ⟨w3.heap.size, k, none⟩ = false := (hrow.alloc _).frozenAt k
          have HN := Lib.hid ((hrow.alloc (.cells #[.string s, .int .i64 x.2] 66)).stored k (.string s))
          have HE := Lib.hid (fill_set hxr)
          have HX3 := Lib.hid hx3
          have HB5 := Lib.hid hb
          generalize x.2 = z at e1 hold hfz HN
          clear hx1 hx2 hx3 hx4 hxr hrow hb hdk
          go_wp2
          go_roundw
          case rel =>
            refine ⟨k + 1, by omega, by go_num, ?_, (HB5.out.alloc HB5.out.size _).grown HN.out.2 (by have := HB5.out.size; simp; omega) (fun j hj => by cases hj; exact Nat.le_refl _)⟩
            rw [← HE.out, HX3.out]
            exact HN.out.1
          case measure => simp [intOf]; omega
        · obtain rfl : k = l.length := by omega
          have HROW5 := Lib.hid hrow
          clear hrow
          go_wp2
          go_ret
          have h := HROW5.out
          rw [← HRL.out, fill_all] at h
          have h2 : OwnS wr w3.heap.size (.slice (some ⟨w3.heap.size, 0, none⟩) r.length r.length) r := h
          rw [← HRL.out]
          exact GivesS.mk (h2.mono HB3.out.size) (HB3.out.trans (hb.mono HB3.out.size))

end Go.Proofs.Ytggohfinkpppkaa
