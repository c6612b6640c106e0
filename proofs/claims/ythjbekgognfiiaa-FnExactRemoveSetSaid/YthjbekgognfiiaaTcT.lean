/-
  What the laws' own szTokenCountS, toTokenCountS and eqTokenCountS do. By an AI agent.
-/
import Derived.Test.YthjbekgognfiiaaTcS
import Derived.Test.YthjbekgognfiiaaJ1
namespace Go.Proofs.Ythjbekgognfiiaa
open Go.RowKit
set_option linter.unusedVariables false

set_option maxRecDepth 100000 in
theorem tz_one (s : ByteArray) (z : Int) (left : Nat) (w : World) (hs : s.size ≤ maxLen) (hl : left ≤ 1048576) (r : Int) (hr : (if s.size ≤ left then (left : Int) - s.size else -1) = r) :
    Calls Try.prog 41 #[.agg #[.string s, .int .i64 z], .int .i64 left] w fun e w' => e = .returned (.int .i64 r) ∧ Below w.heap.size w w' := by
  unfold maxLen at hs
  by_cases h : s.size ≤ left
  · rw [if_pos h] at hr
    subst hr
    go_enter Try.func41, Try.ntmps41
    go_wp2
    go_ret
    exact ⟨rfl, (Below.refl _ _).alloc (Nat.le_refl _) _⟩
  · rw [if_neg h] at hr
    subst hr
    go_enter Try.func41, Try.ntmps41
    go_wp2
    go_ret
    exact ⟨rfl, (Below.refl _ _).alloc (Nat.le_refl _) _⟩

set_option maxRecDepth 100000 in
theorem tz_any (a : Option Addr) (cap : Nat) (l : List TC) (left : Nat) (w : World) (hl : l.length ≤ maxLen) (hin : InT w a l) (hx : ∀ x ∈ l, x.1.length ≤ maxLen) (hleft : left ≤ 1048576) :
    Calls Try.prog 18 #[.slice a l.length cap, .int .i64 left] w fun e w' => e = .returned (.int .i64 (tzR l left)) ∧ Below w.heap.size w w' := by
  unfold maxLen at hl
  have HX := Lib.hid hx
  have HIN := Lib.hid hin
  clear hx hin
  by_cases h1 : l.length ≤ left
  · go_enter Try.func18, Try.ntmps18
    go_wp2
    go_loopw [1, 5] (fun r i wr => ∃ k m : Nat, k ≤ l.length ∧ i = .int .i64 k ∧ r = .int .i64 m ∧ m ≤ left ∧ m + tzT l k = left ∧ Below w.heap.size w wr) (fun _ i _ => l.length - (intOf i).toNat)
    case atStart => exact ⟨0, left - l.length, Nat.zero_le _, rfl, by rw [Int.ofNat_sub h1], by omega, by simp [tzT]; omega, Below.refl _ _⟩
    case round =>
      obtain ⟨k, m, hk, rfl, rfl, hm, hs, hb⟩ := hrel
      have HS := Lib.hid hs
      have HB := Lib.hid hb
      clear hs hb
      by_cases hlt : k < l.length
      · obtain ⟨b, off, rfl, hbw, hc⟩ := HIN.out (by omega)
        obtain ⟨x, s, hx1, hx2, hx3, hx4⟩ := tc_at hlt
        obtain ⟨hc0, hc1⟩ := hc k x hx1
        have hcell0 : wr.cell? ⟨b, off + k * 2, none⟩ = some (.string s) := by rw [HB.out.cell (p := ⟨b, off + k * 2, none⟩) hbw, ← hx3]; exact hc0
        have hcell1 : wr.cell? ⟨b, off + k * 2 + 1, none⟩ = some (.int .i64 x.2) := by rw [HB.out.cell (p := ⟨b, off + k * 2 + 1, none⟩) hbw]; exact hc1
        have HSZ := Lib.hid (show s.size ≤ maxLen by rw [hx4]; exact HX.out x (List.mem_of_getElem? hx1))
        have HT := Lib.hid (tzT_succ hx1)
        have HT2 := Lib.hid (tzT_le (l := l) (show k + 1 ≤ l.length from hlt))
        have HZ := Lib.hid hx4
        generalize x.2 = z at hcell1
        clear hc hc0 hc1 hx1 hx2 hx3 hx4
        by_cases hn : s.size ≤ m
        · go_wp2_with (go_at_call 41; (refine (tz_one s _ m _ HSZ.out (by omega) ((m - s.size : Nat) : Int) (by rw [if_pos hn]; omega)).mono ?_); rintro e w1 ⟨rfl, hb1⟩; have HB1 := Lib.hid hb1; clear hb1)
          go_roundw
          case rel => exact ⟨k + 1, m - s.size, by omega, by go_num, rfl, by omega, by have := HS.out; have := HT.out; have := HZ.out; omega, HB.out.trans (HB1.out.mono HB.out.size)⟩
          case measure => simp [intOf]; omega
        · go_wp2_with (go_at_call 41; (refine (tz_one s _ m _ HSZ.out (by omega) (-1) (by rw [if_neg hn])).mono ?_); rintro e w1 ⟨rfl, hb1⟩; have HB1 := Lib.hid hb1; clear hb1)
          go_ret
          exact ⟨ret_int (by rw [tzR_no (by have := HS.out; have := HT.out; have := HT2.out; have := HZ.out; unfold tzL; omega)]), HB.out.trans (HB1.out.mono HB.out.size)⟩
      · obtain rfl : k = l.length := by omega
        go_wp2
        go_ret
        exact ⟨ret_int (by rw [tzR_yes (by have := HS.out; unfold tzL; omega)]; have := HS.out; unfold tzL; omega), HB.out⟩
  · go_enter Try.func18, Try.ntmps18
    go_wp2
    go_ret
    exact ⟨ret_int (by rw [tzR_no (by have := tzL_len l; omega)]), Below.refl _ _⟩

theorem tz_no {w0 : World} (a : Option Addr) (cap : Nat) (l : List TC) (left : Nat) (w : World) (h : ArgT w0 a l) (hb : Below w0.heap.size w0 w) (hleft : left ≤ 1048576) (hn : ¬ tzL l ≤ left) :
    Calls Try.prog 18 #[.slice a l.length cap, .int .i64 left] w fun e w' => e = .returned (.int .i64 (-1)) ∧ Below w.heap.size w w' :=
  (tz_any a cap l left w h.2.1 (h.1.below hb) h.2.2 hleft).mono fun e w' ⟨he, hw⟩ => ⟨by rw [he, tzR_no hn], hw⟩
theorem tz_yes {w0 : World} (a : Option Addr) (cap : Nat) (l : List TC) (left r : Nat) (w : World) (h : ArgT w0 a l) (hb : Below w0.heap.size w0 w) (hleft : left ≤ 1048576) (hr : r + tzL l = left) :
    Calls Try.prog 18 #[.slice a l.length cap, .int .i64 left] w fun e w' => e = .returned (.int .i64 r) ∧ Below w.heap.size w w' :=
  (tz_any a cap l left w h.2.1 (h.1.below hb) h.2.2 hleft).mono fun e w' ⟨he, hw⟩ => ⟨by rw [he, tzR_yes (by omega)]; congr 3; omega, hw⟩

theorem two_new (w : World) (x y : Value) (T : TypeId) : ∀ j u, [x, y][j]? = some u → (w.alloc (.cells #[x, y] T)).cell? ((⟨w.heap.size, 0, none⟩ : Addr).add j) = some u := by
  intro j u hj
  match j, hj with
  | 0, hj => simp at hj; subst hj; simp [go_sem, Addr.add]
  | 1, hj => simp at hj; subst hj; simp [go_sem, Addr.add]

theorem grown_below_none {w w' : World} (h : Below w.heap.size w w') : w.grownBy w' none := ⟨h.os, h.tape, h.output, h.size, fun k hk _ => h.block k hk⟩
theorem rest_two {l : List TC} {k : Nat} {rest : List Value} (h : (flatT (l.take k) ++ rest).length = l.length * 2) (hk : k < l.length) : ∃ y0 y1 r, rest = y0 :: y1 :: r := by
  rw [List.length_append, flat_len, List.length_take] at h
  match rest, h with
  | [], h => simp at h; omega
  | [_], h => simp at h; omega
  | y0 :: y1 :: r, _ => exact ⟨y0, y1, r, rfl⟩
theorem flat_take_len {l : List TC} {k : Nat} (hk : k ≤ l.length) : (flatT (l.take k)).length = k * 2 := by rw [flat_len, List.length_take, Nat.min_eq_left hk]
theorem flat_gap {l : List TC} {k : Nat} {y0 y1 : Value} {r : List Value} (hk : k ≤ l.length) : (flatT (l.take k) ++ y0 :: y1 :: r)[k * 2]? = some y0 ∧ (flatT (l.take k) ++ y0 :: y1 :: r)[k * 2 + 1]? = some y1 := by
  have h := flat_take_len hk
  constructor
  · rw [List.getElem?_append_right (by omega), h, Nat.sub_self]; rfl
  · rw [List.getElem?_append_right (by omega), h, show k * 2 + 1 - k * 2 = 1 by omega]; rfl
theorem flat_fill {l : List TC} {k : Nat} {x : TC} {y0 y1 : Value} {r : List Value} (hx : l[k]? = some x) : ((flatT (l.take k) ++ y0 :: y1 :: r).set (k * 2) (encStr x.1)).set (k * 2 + 1) (.int .i64 x.2) = flatT (l.take (k + 1)) ++ r := by
  have hlt := (List.getElem?_eq_some_iff.1 hx).1
  have h := flat_take_len (l := l) (k := k) (by omega)
  rw [List.set_append_right _ _ (by omega), h, Nat.sub_self, List.set_append_right _ _ (by omega), h, show k * 2 + 1 - k * 2 = 1 by omega, tc_take hx, flat_snoc]
  simp [encT]

set_option maxRecDepth 100000 in
theorem tto_one (s : ByteArray) (z : Int) (w : World) :
    Calls Try.prog 46 #[.agg #[.string s, .int .i64 z]] w fun e w' => e = .returned (.agg #[.string s, .int .i64 z]) ∧ Below w.heap.size w w' := by
  go_enter Try.func46, Try.ntmps46
  go_wp2
  generalize hw : ((w.alloc (Obj.cells #[Value.string s, Value.int IntKind.i64 z] 65)).alloc (Obj.cells #[Value.string s, Value.int IntKind.i64 z] 71)) = w1
  have hB : Below w.heap.size w w1 := by rw [← hw]; exact ((Below.refl _ _).alloc (Nat.le_refl _) _).alloc (by simp) _
  have e0 : (w1.alloc (Obj.cells #[Value.string s, Value.int IntKind.i64 z] 71)).cell? ⟨w.heap.size + 1, 0, none⟩ = some (.string s) := by rw [← hw]; simp [go_sem]
  have e1 : (w1.alloc (Obj.cells #[Value.string s, Value.int IntKind.i64 z] 71)).cell? ⟨w.heap.size + 1, 1, none⟩ = some (.int .i64 z) := by rw [← hw]; simp [go_sem]
  refine bodyPost_ret (v := .agg #[.string s, .int .i64 z]) (by simp [results, Try.results46, go_sem, e0, e1]) rfl ⟨rfl, hB.alloc hB.size _⟩

set_option maxRecDepth 100000 in
theorem teq_one (s : ByteArray) (z : Int) (w : World) :
    Calls Try.prog 59 #[.agg #[.string s, .int .i64 z], .agg #[.string s, .int .i64 z]] w fun e w' => e = .returned (.bool true) ∧ Below w.heap.size w w' := by
  go_enter Try.func59, Try.ntmps59
  go_wp2
  go_ret
  exact ⟨rfl, ((Below.refl _ _).alloc (Nat.le_refl _) _).alloc (by simp) _⟩

set_option maxRecDepth 100000 in
theorem tto_any (a : Option Addr) (cap : Nat) (l : List TC) (w : World) (hl : l.length ≤ 4000000) (hin : InT w a l) :
    Calls Try.prog 25 #[.slice a l.length cap] w (GivesT w l) := by
  obtain ⟨i0, hi, hz0, hz1, hz2⟩ := info_parts info_tc
  have HIN := Lib.hid hin
  clear hin
  go_enter Try.func25, Try.ntmps25
  go_wp2_with (at_make; refine wpList_make_full _ rfl _ _ 29 rfl w.heap.size 71 i0 _ 2 Try.underlying29 hi hz0 hz1 .i64 .i64 _ _ l.length rfl rfl rfl rfl (by rw [hz2]; omega) (by unfold maxLen; omega) (Nat.le_refl _) ?_; intro w1 hrow hg)
  have HROW := Lib.hid hrow
  have HB1 := Lib.hid ((Below.refl w.heap.size w).grown hg (Nat.le_refl _) (fun k hk => by cases hk))
  clear hrow hg
  go_loopw [4] (fun i wr => ∃ (k : Nat) (rest : List Value), k ≤ l.length ∧ i = .int .i64 k ∧ wr.ownsRow w.heap.size 71 2 (.slice (some ⟨w.heap.size, 0, none⟩) l.length l.length) l.length (flatT (l.take k) ++ rest) ∧ Below w.heap.size w wr) (fun i _ => l.length - (intOf i).toNat)
  case atStart => exact ⟨0, _, Nat.zero_le _, rfl, HROW.out, HB1.out⟩
  case round =>
    obtain ⟨k, rest, hk, rfl, hrow, hb⟩ := hrel
    by_cases hlt : k < l.length
    · obtain ⟨b, off, rfl, hbw, hc⟩ := HIN.out (by omega)
      obtain ⟨x, s, hx1, hx2, hx3, hx4⟩ := tc_at hlt
      obtain ⟨hc0, hc1⟩ := hc k x hx1
      have hcell0 : wr.cell? ⟨b, off + k * 2, none⟩ = some (.string s) := by rw [hb.cell (p := ⟨b, off + k * 2, none⟩) hbw, ← hx3]; exact hc0
      have hcell1 : wr.cell? ⟨b, off + k * 2 + 1, none⟩ = some (.int .i64 x.2) := by rw [hb.cell (p := ⟨b, off + k * 2 + 1, none⟩) hbw]; exact hc1
      have HROW2 := Lib.hid hrow
      have HB := Lib.hid hb
      have H1 := Lib.hid hx1
      have H3 := Lib.hid hx3
      clear hc hc0 hc1 hx1 hx2 hx3 hx4 hrow hb
      go_wp2_with (go_at_call 46; (refine (tto_one s x.2 _).mono ?_); rintro e w2 ⟨rfl, hb2⟩; refine Hid.out ?_)
      refine Lib.hid ?_
      have hrow2 := World.ownsRow.kept HROW2.out (row := none) (grown_below_none hb2) (by simp [Value.ownBlock])
      obtain ⟨y0, y1, r2, hrest⟩ := rest_two hrow2.1 hlt
      subst hrest
      have q0 := hrow2.cellAt (k * 2) (by omega)
      have q1 := hrow2.cellAt (k * 2 + 1) (by omega)
      rw [(flat_gap (l := l) (k := k) (r := r2) (y0 := y0) (y1 := y1) (by omega)).1] at q0
      rw [(flat_gap (l := l) (k := k) (r := r2) (y0 := y0) (y1 := y1) (by omega)).2] at q1
      have f0 := hrow2.frozenAt (k * 2)
      have f1 := hrow2.frozenAt (k * 2 + 1)
      have HN := Lib.hid (hrow2.stored (k * 2) (.string s))
      have HN2 := Lib.hid (HN.out.1.stored (k * 2 + 1) (.int .i64 x.2))
      have HB2 := Lib.hid (HB.out.trans (hb2.mono HB.out.size))
      clear hb2 hrow2
      go_wp2
      go_roundw
      case rel =>
        refine ⟨k + 1, r2, by omega, by go_num, ?_, HB2.out.grown HN.out.2 HB2.out.size (fun j hj => by cases hj; exact Nat.le_refl _) |>.grown HN2.out.2 (Nat.le_trans HB2.out.size HN.out.2.size) (fun j hj => by cases hj; exact Nat.le_refl _)⟩
        rw [← flat_fill (y0 := y0) (y1 := y1) H1.out, H3.out]
        exact HN2.out.1
      case measure => simp [intOf]; omega
    · obtain rfl : k = l.length := by omega
      have HROW2 := Lib.hid hrow
      clear hrow
      go_wp2
      go_ret
      refine ⟨_, _, rfl, ?_, hb⟩
      have h := HROW2.out
      rw [List.take_length] at h
      have h1 := h.1
      rw [List.length_append, flat_len] at h1
      obtain rfl : rest = [] := List.eq_nil_of_length_eq_zero (by omega)
      rw [List.append_nil] at h
      exact h

set_option maxRecDepth 100000 in
theorem teq_same (a1 a2 : Option Addr) (c1 c2 : Nat) (l : List TC) (w : World) (hl : l.length ≤ maxLen) (h1 : InT w a1 l) (h2 : InT w a2 l) :
    Calls Try.prog 33 #[.slice a1 l.length c1, .slice a2 l.length c2] w fun e w' => e = .returned (.bool true) ∧ Below w.heap.size w w' := by
  unfold maxLen at hl
  have H1 := Lib.hid h1
  have H2 := Lib.hid h2
  clear h1 h2
  go_enter Try.func33, Try.ntmps33
  go_wp2
  go_loopw [5] (fun i wr => ∃ k : Nat, k ≤ l.length ∧ i = .int .i64 k ∧ Below w.heap.size w wr) (fun i _ => l.length - (intOf i).toNat)
  case atStart => exact ⟨0, Nat.zero_le _, rfl, Below.refl _ _⟩
  case round =>
    obtain ⟨k, hk, rfl, hb⟩ := hrel
    have HB := Lib.hid hb
    clear hb
    by_cases hlt : k < l.length
    · obtain ⟨b1, o1, rfl, hb1, hc1⟩ := H1.out (by omega)
      obtain ⟨b2, o2, rfl, hb2, hc2⟩ := H2.out (by omega)
      obtain ⟨x, s, hx1, hx2, hx3, hx4⟩ := tc_at hlt
      obtain ⟨p0, p1⟩ := hc1 k x hx1
      obtain ⟨q0, q1⟩ := hc2 k x hx1
      have g0 : wr.cell? ⟨b1, o1 + k * 2, none⟩ = some (.string s) := by rw [HB.out.cell (p := ⟨b1, o1 + k * 2, none⟩) hb1, ← hx3]; exact p0
      have g1 : wr.cell? ⟨b1, o1 + k * 2 + 1, none⟩ = some (.int .i64 x.2) := by rw [HB.out.cell (p := ⟨b1, o1 + k * 2 + 1, none⟩) hb1]; exact p1
      have g2 : wr.cell? ⟨b2, o2 + k * 2, none⟩ = some (.string s) := by rw [HB.out.cell (p := ⟨b2, o2 + k * 2, none⟩) hb2, ← hx3]; exact q0
      have g3 : wr.cell? ⟨b2, o2 + k * 2 + 1, none⟩ = some (.int .i64 x.2) := by rw [HB.out.cell (p := ⟨b2, o2 + k * 2 + 1, none⟩) hb2]; exact q1
      have HM := Lib.hid (fun W : World => teq_one s x.2 W)
      generalize x.2 = z at g1 g3 HM
      clear hc1 hc2 hx1 hx2 hx3 hx4 p0 p1 q0 q1 hb1 hb2
      go_wp2
      go_region_with (go_at_call 59; refine (HM.out _).mono ?_; rintro e w1 ⟨rfl, hb1⟩; have HB1 := Lib.hid hb1; clear hb1)
      all_goals go_wp2
      all_goals go_roundw
      all_goals first
        | (case rel => exact ⟨k + 1, by omega, by go_num, (HB.out.drew).trans (HB1.out.mono HB.out.size)⟩)
        | skip
      all_goals (simp [intOf]; omega)
    · obtain rfl : k = l.length := by omega
      go_wp2
      go_ret
      exact ⟨rfl, HB.out⟩

end Go.Proofs.Ythjbekgognfiiaa
