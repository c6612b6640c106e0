/-
  Indexes of sets as values: what the laws' own szSetIndex, toSetIndex, eqSetIndex do. By an AI agent.
-/
import Derived.Test.YthjbekgognfiiaaIxS
import Derived.Test.YthjbekgognfiiaaTcT
import Derived.Test.YthjbekgognfiiaaSsT
import Derived.Test.YthjbekgognfiiaaUndrew
namespace Go.Proofs.Ythjbekgognfiiaa
open Go.RowKit
set_option linter.unusedVariables false

/-! ### blocks of two and of three cells -/
theorem BlkV.two0 {w : World} {g : Nat} {t : TypeId} {a b : Value} (h : BlkV w g t #[a, b]) : w.cell? ⟨g, 0, none⟩ = some a := h.cell 0
theorem BlkV.two1 {w : World} {g : Nat} {t : TypeId} {a b : Value} (h : BlkV w g t #[a, b]) : w.cell? ⟨g, 1, none⟩ = some b := h.cell 1
theorem BlkV.three0 {w : World} {g : Nat} {t : TypeId} {a b c : Value} (h : BlkV w g t #[a, b, c]) : w.cell? ⟨g, 0, none⟩ = some a := h.cell 0
theorem BlkV.three1 {w : World} {g : Nat} {t : TypeId} {a b c : Value} (h : BlkV w g t #[a, b, c]) : w.cell? ⟨g, 1, none⟩ = some b := h.cell 1
theorem BlkV.three2 {w : World} {g : Nat} {t : TypeId} {a b c : Value} (h : BlkV w g t #[a, b, c]) : w.cell? ⟨g, 2, none⟩ = some c := h.cell 2
theorem BlkV.other {w : World} {g : Nat} {t : TypeId} {cs : Array Value} (h : BlkV w g t cs) (p : Addr) (u : Value) (hne : g ≠ p.block) : BlkV (w.setCell p u) g t cs := (Below.heap_setCell w p u g hne).trans h
theorem BlkV.new_ (w : World) (t : TypeId) (cs : Array Value) (g : Nat) (hg : w.heap.size = g) : BlkV (w.alloc (.cells cs t)) g t cs := by subst hg; exact BlkV.new w t cs
theorem row_setCell {w : World} {base : Nat} {e : TypeId} {size n : Nat} {v : Value} {xs : List Value} (h : w.ownsRow base e size v n xs) (p : Addr) (u : Value) (hp : p.block < base) : (w.setCell p u).ownsRow base e size v n xs := by
  refine World.ownsRow.kept (w' := w.setCell p u) h (row := some p.block) ⟨rfl, rfl, rfl, by simp [World.setCell], fun i hi hne => Below.heap_setCell w p u i (fun e => hne (by rw [e]))⟩ ?_
  cases hv : v.ownBlock with
  | none => exact .inl rfl
  | some k =>
    refine .inr fun e => ?_
    have h1 := (World.ownsRow.lt h k hv).1
    simp only [Option.some.injEq] at e
    omega
theorem OwnX.setCell {w : World} {lo : Nat} {v : Value} {q : List XS} (h : OwnX w lo v q) (p : Addr) (u : Value) (hp : p.block < lo) : OwnX (w.setCell p u) lo v q :=
  ⟨row_setCell h.out p u hp, fun r hr => row_setCell (h.row r hr) p u hp, h.apart, h.dis⟩

/-! ### sizes -/
theorem szR_cases (l : List Str) (left : Nat) : (szR l left = -1 ∧ ¬ szL l ≤ left) ∨ (szR l left = ((left - szL l : Nat) : Int) ∧ szL l ≤ left) := by
  by_cases h : szL l ≤ left
  · exact .inr ⟨szR_yes h, h⟩
  · exact .inl ⟨szR_no h, h⟩

set_option maxRecDepth 100000 in
theorem xsz_one (id : Int) (a : Option Addr) (cap : Nat) (l : List Str) (left : Nat) (r : Int) (w : World) (hr : szR l left = r) (h : ArgS w a l) (hleft : left ≤ 1048576) :
    Calls Try.prog 42 #[.agg #[.int .i64 id, .slice a l.length cap], .int .i64 left] w fun e w' => e = .returned (.int .i64 r) ∧ Below w.heap.size w w' := by
  have hc : r = -1 ∨ (0 ≤ r ∧ r ≤ 1048576) := by
    rcases szR_cases l left with ⟨h1, h2⟩ | ⟨h1, h2⟩
    · exact .inl (by rw [← hr, h1])
    · exact .inr (by rw [← hr, h1]; omega)
  have HC := Lib.hid (fun (W : World) (hW : Below w.heap.size w W) => (sz_any a cap l left W h.2.1 (h.1.below hW) h.2.2 hleft).mono fun e w' h => (show e = .returned (.int .i64 r) ∧ w' = W from by rw [← hr]; exact h))
  clear hr h
  rcases hc with rfl | ⟨hc1, hc2⟩
  all_goals
    go_enter Try.func42, Try.ntmps42
    go_wp2_with (go_at_call 6; (refine (HC.out _ ((Below.refl _ _).alloc (Nat.le_refl _) _)).mono ?_); rintro e w' ⟨rfl, rfl⟩)
    go_ret
    exact ⟨rfl, (Below.refl _ _).alloc (Nat.le_refl _) _⟩

set_option maxRecDepth 100000 in
theorem xsz_any (a : Option Addr) (cap : Nat) (S : List IS) (left : Nat) (w : World) (h : ArgX w a S) (hleft : left ≤ 1048576) :
    Calls Try.prog 19 #[.slice a S.length cap, .int .i64 left] w fun e w' => e = .returned (.int .i64 (yzR (toksX S) left)) ∧ Below w.heap.size w w' := by
  obtain ⟨hin, hl, hx⟩ := h
  unfold maxLen at hl
  have HX := Lib.hid hx
  have HIN := Lib.hid hin
  have HTL := Lib.hid (toksX_len S)
  clear hx hin
  by_cases h1 : S.length ≤ left
  · go_enter Try.func19, Try.ntmps19
    go_wp2
    go_loopw [1, 5] (fun r i wr => ∃ k m : Nat, k ≤ S.length ∧ i = .int .i64 k ∧ r = .int .i64 m ∧ m ≤ left ∧ m + yzT (toksX S) k = left ∧ Below w.heap.size w wr) (fun _ i _ => S.length - (intOf i).toNat)
    case atStart => exact ⟨0, left - S.length, Nat.zero_le _, rfl, by rw [Int.ofNat_sub h1], by omega, by have := HTL.out; simp [yzT]; omega, Below.refl _ _⟩
    case round =>
      obtain ⟨k, m, hk, rfl, rfl, hm, hs, hbl⟩ := hrel
      have HS := Lib.hid hs
      have HBL := Lib.hid hbl
      clear hs hbl
      by_cases hlt : k < S.length
      · obtain ⟨b, off, rfl, hb, hc⟩ := HIN.out (by omega)
        have hj := List.getElem?_eq_getElem hlt
        obtain ⟨a', c', p0, p1, _, _, hin'⟩ := hc k _ hj
        have hcell0 : wr.cell? ⟨b, off + k * 2, none⟩ = some (.int .i64 S[k].1) := by rw [HBL.out.cell (p := ⟨b, off + k * 2, none⟩) hb]; exact p0
        have hcell1 : wr.cell? ⟨b, off + k * 2 + 1, none⟩ = some (.slice a' S[k].2.length c') := by rw [HBL.out.cell (p := ⟨b, off + k * 2 + 1, none⟩) hb]; exact p1
        have HT := Lib.hid (yzT_succ (toksX_at hj))
        have HT2 := Lib.hid (yzT_le (ls := toksX S) (show k + 1 ≤ (toksX S).length by have := HTL.out; omega))
        obtain ⟨q1, q2⟩ := HX.out _ (List.mem_of_getElem? hj)
        obtain ⟨r, hr⟩ : ∃ r, szR S[k].2 m = r := ⟨_, rfl⟩
        have HC := Lib.hid (fun (W : World) (hW : Below w.heap.size w W) => xsz_one S[k].1 a' c' S[k].2 m r W hr ⟨hin'.below hW, q1, q2⟩ (by omega))
        have hcs := szR_cases S[k].2 m
        rw [hr] at hcs
        generalize S[k].1 = id at hcell0 HC
        generalize S[k].2 = l at hcell1 HT HC hcs
        clear hc hj hin' q1 q2 p0 p1 hr
        rcases hcs with ⟨rfl, hn⟩ | ⟨rfl, hn⟩
        · have HN := Lib.hid hn
          go_wp2_with (go_at_call 42; (refine (HC.out _ HBL.out).mono ?_); rintro e w1 ⟨rfl, hb1⟩; have HB1 := Lib.hid hb1; clear hb1)
          go_ret
          exact ⟨ret_int (by rw [yzR_no (by have := HS.out; have := HT.out; have := HT2.out; have := HTL.out; have := HN.out; unfold yzL; omega)]), HBL.out.trans (HB1.out.mono HBL.out.size)⟩
        · have HN := Lib.hid hn
          have hml : ((m - szL l : Nat) : Int) ≤ 1048576 := by omega
          obtain ⟨d, hd⟩ : ∃ d, m - szL l = d := ⟨_, rfl⟩
          have HD := Lib.hid hd
          rw [hd] at HC hml
          clear hn hd
          go_wp2_with (go_at_call 42; (refine (HC.out _ HBL.out).mono ?_); rintro e w1 ⟨rfl, hb1⟩; have HB1 := Lib.hid hb1; clear hb1)
          go_roundw
          case rel => exact ⟨k + 1, d, by omega, by go_num, rfl, by have := HD.out; omega, by have := HS.out; have := HT.out; have := HN.out; have := HD.out; omega, HBL.out.trans (HB1.out.mono HBL.out.size)⟩
          case measure => simp [intOf]; omega
      · obtain rfl : k = S.length := by omega
        go_wp2
        go_ret
        have e : yzT (toksX S) S.length = yzL (toksX S) := by unfold yzL; rw [HTL.out]
        exact ⟨ret_int (by rw [yzR_yes (by have := HS.out; omega)]; have := HS.out; omega), HBL.out⟩
  · go_enter Try.func19, Try.ntmps19
    go_wp2
    go_ret
    exact ⟨ret_int (by rw [yzR_no (by have := yzL_len (toksX S); have := HTL.out; omega)]), Below.refl _ _⟩

set_option maxRecDepth 100000 in
theorem szix_yes {w0 : World} (t : Int) (ta : Option Addr) (tc : Nat) (T : List TC) (xa : Option Addr) (xc : Nat) (S : List IS) (left r : Nat) (w : World) (h : ArgIx w0 ta T xa S) (hb : Below w0.heap.size w0 w) (hleft : left ≤ 1048576) (hr : r + ixz T S = left) :
    Calls Try.prog 5 #[.agg #[.int .i64 t, .slice ta T.length tc, .slice xa S.length xc], .int .i64 left] w fun e w' => e = .returned (.int .i64 r) ∧ Below w.heap.size w w' := by
  obtain ⟨m, hm⟩ : ∃ m : Nat, m + tzL T = left := ⟨left - tzL T, by unfold ixz at hr; omega⟩
  have HY := Lib.hid (show yzR (toksX S) m = (r : Int) by rw [yzR_yes (by unfold ixz at hr; omega)]; unfold ixz at hr; omega)
  have HM := Lib.hid hm
  have HA := Lib.hid (h.below hb)
  have hml : (m : Int) ≤ 1048576 := by omega
  have hrl : (r : Int) ≤ 1048576 := by unfold ixz at hr; omega
  clear h hb hm hr
  go_enter Try.func5, Try.ntmps5
  go_wp2_with (go_at_call 18; (refine (tz_yes ta tc T left m _ HA.out.1.1 ((Below.refl _ _).alloc (Nat.le_refl _) _) hleft HM.out).mono ?_); rintro e w1 ⟨rfl, hb1⟩; refine Hid.out ?_)
  have r1 := (BlkV.new w 25 #[.int .i64 t, .slice ta T.length tc, .slice xa S.length xc]).below hb1
  have q2 := r1.three2
  have HB1 := Lib.hid (below_new hb1)
  clear hb1 r1
  refine Lib.hid ?_
  go_wp2_with (go_at_call 19; (refine (xsz_any xa xc S m _ (HA.out.2.below HB1.out) (by omega)).mono ?_); rw [HY.out]; rintro e w2 ⟨rfl, hb2⟩; have HB2 := Lib.hid (HB1.out.trans (hb2.mono HB1.out.size)); clear hb2)
  go_ret
  exact ⟨rfl, HB2.out⟩
set_option maxRecDepth 100000 in
theorem szix_no {w0 : World} (t : Int) (ta : Option Addr) (tc : Nat) (T : List TC) (xa : Option Addr) (xc : Nat) (S : List IS) (left : Nat) (w : World) (h : ArgIx w0 ta T xa S) (hb : Below w0.heap.size w0 w) (hleft : left ≤ 1048576) (hr : ¬ ixz T S ≤ left) :
    Calls Try.prog 5 #[.agg #[.int .i64 t, .slice ta T.length tc, .slice xa S.length xc], .int .i64 left] w fun e w' => e = .returned (.int .i64 (-1)) ∧ Below w.heap.size w w' := by
  have HA := Lib.hid (h.below hb)
  clear h hb
  by_cases ht : tzL T ≤ left
  · obtain ⟨m, hm⟩ : ∃ m : Nat, m + tzL T = left := ⟨left - tzL T, by omega⟩
    have HY := Lib.hid (show yzR (toksX S) m = -1 by rw [yzR_no (by unfold ixz at hr; omega)])
    have HM := Lib.hid hm
    have hml : (m : Int) ≤ 1048576 := by omega
    clear hm hr
    go_enter Try.func5, Try.ntmps5
    go_wp2_with (go_at_call 18; (refine (tz_yes ta tc T left m _ HA.out.1.1 ((Below.refl _ _).alloc (Nat.le_refl _) _) hleft HM.out).mono ?_); rintro e w1 ⟨rfl, hb1⟩; refine Hid.out ?_)
    have r1 := (BlkV.new w 25 #[.int .i64 t, .slice ta T.length tc, .slice xa S.length xc]).below hb1
    have q2 := r1.three2
    have HB1 := Lib.hid (below_new hb1)
    clear hb1 r1
    refine Lib.hid ?_
    go_wp2_with (go_at_call 19; (refine (xsz_any xa xc S m _ (HA.out.2.below HB1.out) (by omega)).mono ?_); rw [HY.out]; rintro e w2 ⟨rfl, hb2⟩; have HB2 := Lib.hid (HB1.out.trans (hb2.mono HB1.out.size)); clear hb2)
    go_ret
    exact ⟨rfl, HB2.out⟩
  · have HT := Lib.hid ht
    clear ht hr
    go_enter Try.func5, Try.ntmps5
    go_wp2_with (go_at_call 18; (refine (tz_no ta tc T left _ HA.out.1.1 ((Below.refl _ _).alloc (Nat.le_refl _) _) hleft HT.out).mono ?_); rintro e w1 ⟨rfl, hb1⟩; have HB1 := Lib.hid (below_new hb1); clear hb1)
    go_ret
    exact ⟨rfl, HB1.out⟩

/-! ### copies -/
def GivesX1 (w : World) (id : Int) (l : List Str) (e : Ending) (w' : World) : Prop :=
  ∃ a cap, e = .returned (.agg #[.int .i64 id, .slice a l.length cap]) ∧ OwnS w' w.heap.size (.slice a l.length cap) l ∧ Below w.heap.size w w'

set_option maxRecDepth 100000 in
theorem xto_one (id : Int) (a : Option Addr) (cap : Nat) (l : List Str) (w : World) (hl : l.length ≤ 4000000) (hin : InS w a l) :
    Calls Try.prog 47 #[.agg #[.int .i64 id, .slice a l.length cap]] w (GivesX1 w id l) := by
  have HIN := Lib.hid hin
  clear hin
  obtain ⟨w3, hw3⟩ : ∃ w3, w3 = ((w.alloc (.cells #[.int .i64 id, .slice a l.length cap] 67)).alloc (.cells #[.int .i64 0, .slice none 0 0] 50)).alloc (.cells #[.int .i64 id, .slice none 0 0] 50) := ⟨_, rfl⟩
  have HW := Lib.hid hw3
  have HB3 := Lib.hid (show Below w.heap.size w w3 by rw [hw3]; exact (((Below.refl _ _).alloc (Nat.le_refl _) _).alloc (by simp) _).alloc (by simp; omega) _)
  have HR1 := Lib.hid (show BlkV w3 (w.heap.size + 1) 50 #[.int .i64 0, .slice none 0 0] by rw [hw3]; exact (BlkV.new_ _ _ _ _ (by simp)).alloc _)
  have HR2 := Lib.hid (show BlkV w3 (w.heap.size + 1 + 1) 50 #[.int .i64 id, .slice none 0 0] by rw [hw3]; exact BlkV.new_ _ _ _ _ (by simp))
  clear hw3
  go_enter Try.func47, Try.ntmps47
  go_wp2_with (go_at_call 9; rw [← HW.out]; (refine (to_any a cap l w3 hl (HIN.out.below HB3.out)).mono ?_); rintro e w' ⟨a1, c1, rfl, ho, hb⟩; refine Hid.out ?_)
  have r1 := HR1.out.below hb
  have r2 := HR2.out.below hb
  have HO := Lib.hid ho
  have HB := Lib.hid (HB3.out.trans (hb.mono HB3.out.size))
  have HS3 := Lib.hid (show w3.heap.size = w.heap.size + 3 by rw [HW.out]; simp)
  clear ho hb
  have R1 := Lib.hid r1
  have c10 := r1.two0
  have c11 := r1.two1
  have f10 := r1.frozen 0
  have f11 := r1.frozen 1
  have c20 := r2.two0
  have c21 := r2.two1
  have f21 := r2.frozen 1
  clear r1 r2
  refine Lib.hid ?_
  go_wp2
  have z := ((R1.out.other ⟨w.heap.size + 1 + 1, 1, none⟩ (.slice a1 l.length c1) (by simp)).set_ 0 (.int .i64 id)).set_ 1 (.slice a1 l.length c1)
  have e0 : _ = some (Value.int .i64 id) := z.cell 0
  have e1 : _ = some (Value.slice a1 l.length c1) := z.cell 1
  have hs3 := HS3.out
  refine bodyPost_ret (v := .agg #[.int .i64 id, .slice a1 l.length c1]) (by simp [results, Try.results47, go_sem, e0, e1]) rfl ⟨_, _, rfl, ?_, ?_⟩
  · exact OwnS.mono (row_setCell (row_setCell (row_setCell HO.out _ _ (by simp; omega)) _ _ (by simp; omega)) _ _ (by simp; omega)) HB3.out.size
  · exact ((HB.out.setCell (by simp; omega) _).setCell (by simp) _).setCell (by simp) _

theorem gap2_at {p : List Value} {k : Nat} {y0 y1 : Value} {r : List Value} (h : p.length = k * 2) : (p ++ y0 :: y1 :: r)[k * 2]? = some y0 ∧ (p ++ y0 :: y1 :: r)[k * 2 + 1]? = some y1 := by
  constructor
  · rw [List.getElem?_append_right (by omega), h, Nat.sub_self]; rfl
  · rw [List.getElem?_append_right (by omega), h, show k * 2 + 1 - k * 2 = 1 by omega]; rfl
theorem gap2_set {p : List Value} {k : Nat} {y0 y1 u0 u1 : Value} {r : List Value} (h : p.length = k * 2) : ((p ++ y0 :: y1 :: r).set (k * 2) u0).set (k * 2 + 1) u1 = (p ++ [u0, u1]) ++ r := by
  rw [List.set_append_right _ _ (by omega), h, Nat.sub_self, List.set_append_right _ _ (by omega), h, show k * 2 + 1 - k * 2 = 1 by omega]
  simp
theorem gap2_rest {p rest : List Value} {k n : Nat} (h : (p ++ rest).length = n * 2) (hp : p.length = k * 2) (hk : k < n) : ∃ y0 y1 r, rest = y0 :: y1 :: r := by
  rw [List.length_append, hp] at h
  match rest, h with
  | [], h => simp at h; omega
  | [_], h => simp at h; omega
  | y0 :: y1 :: r, _ => exact ⟨y0, y1, r, rfl⟩

/-- a slice of indexed sets of the call's own is handed back -/
def GivesX (w : World) (S : List IS) (e : Ending) (w' : World) : Prop :=
  ∃ a cap q, e = .returned (.slice a S.length cap) ∧ setsX q = S ∧ OwnX w' w.heap.size (.slice a S.length cap) q ∧ Below w.heap.size w w'
theorem row_keptX {w w' : World} {base : Nat} {v : Value} {l : List Str} {g : Nat} (h : OwnS w base v l) (hg : w.grownBy w' (some g)) (hn : ∀ k, v.ownBlock = some k → k ≠ g) : OwnS w' base v l := row_kept h hg hn

set_option maxRecDepth 100000 in
set_option maxHeartbeats 2000000 in
theorem xto_any (a : Option Addr) (cap : Nat) (S : List IS) (w : World) (hz : yzL (toksX S) ≤ 1048576) (hin : InX w a S) :
    Calls Try.prog 26 #[.slice a S.length cap] w (GivesX w S) := by
  obtain ⟨i0, hi, hz0, hz1, hz2⟩ := info_parts info_ixs
  have HIN := Lib.hid hin
  have HZ := Lib.hid (sx_mem hz)
  have hl := sx_len hz
  clear hin hz
  go_enter Try.func26, Try.ntmps26
  go_wp2_with (at_make; refine wpList_make_full _ rfl _ _ 30 rfl w.heap.size 50 i0 _ 2 Try.underlying30 hi hz0 hz1 .i64 .i64 _ _ S.length rfl rfl rfl rfl (by rw [hz2]; omega) (by unfold maxLen; omega) (Nat.le_refl _) ?_; intro w1 hrow hg)
  have HROW := Lib.hid hrow
  have HB1 := Lib.hid ((Below.refl w.heap.size w).grown hg (Nat.le_refl _) (fun k hk => by cases hk))
  have HLT := Lib.hid (World.ownsRow.lt hrow w.heap.size rfl).2
  clear hrow hg
  go_loopw [4] (fun i wr => ∃ (k : Nat) (q : List XS) (rest : List Value), k ≤ S.length ∧ i = .int .i64 k ∧ setsX q = S.take k ∧ wr.ownsRow w.heap.size 50 2 (.slice (some ⟨w.heap.size, 0, none⟩) S.length S.length) S.length (flatX q ++ rest) ∧
    (∀ p ∈ q, OwnS wr (w.heap.size + 1) p.2 p.1.2) ∧ (q.Pairwise fun p r => ∀ k, p.2.ownBlock = some k → r.2.ownBlock ≠ some k) ∧ Below w.heap.size w wr ∧ w.heap.size < wr.heap.size) (fun i _ => S.length - (intOf i).toNat)
  case atStart => exact ⟨0, [], _, Nat.zero_le _, rfl, rfl, HROW.out, (fun p h => by cases h), List.Pairwise.nil, HB1.out, HLT.out⟩
  case round =>
    obtain ⟨k, q, rest, hk, rfl, hq, hrow, hrows, hdis, hb, hws⟩ := hrel
    by_cases hlt : k < S.length
    · obtain ⟨b, off, rfl, hbw, hc⟩ := HIN.out (by omega)
      have hj := List.getElem?_eq_getElem hlt
      obtain ⟨a', c', p0, p1, _, _, hin'⟩ := hc k _ hj
      have hcell0 : wr.cell? ⟨b, off + k * 2, none⟩ = some (.int .i64 S[k].1) := by rw [hb.cell (p := ⟨b, off + k * 2, none⟩) hbw]; exact p0
      have hcell1 : wr.cell? ⟨b, off + k * 2 + 1, none⟩ = some (.slice a' S[k].2.length c') := by rw [hb.cell (p := ⟨b, off + k * 2 + 1, none⟩) hbw]; exact p1
      have HC := Lib.hid (xto_one S[k].1 a' c' S[k].2 wr (HZ.out _ (List.mem_of_getElem? hj)).1 (hin'.below hb))
      have HJ := Lib.hid (show S[k]? = some (S[k].1, S[k].2) from hj)
      generalize S[k].1 = id at hcell0 HC HJ
      generalize S[k].2 = l at hcell1 HC HJ
      have HROW2 := Lib.hid hrow
      have HROWS := Lib.hid hrows
      have HDIS := Lib.hid hdis
      have HB := Lib.hid hb
      have HQ := Lib.hid hq
      have HWS := Lib.hid hws
      have hql : q.length = k := by rw [← setsX_len, hq, List.length_take]; omega
      have HQL := Lib.hid (show (flatX q).length = k * 2 by rw [flatX_len, hql])
      clear hc hj hin' p0 p1 hrow hrows hdis hb hq hws hbw hql
      go_wp2_with (go_at_call 47; (refine HC.out.mono ?_); rintro e w2 ⟨a2, c2, rfl, ho2, hb2⟩; refine Hid.out ?_)
      refine Lib.hid ?_
      have hrow2 := World.ownsRow.kept HROW2.out (row := none) ⟨hb2.os, hb2.tape, hb2.output, hb2.size, fun i hi _ => hb2.block i hi⟩ (by simp [Value.ownBlock])
      obtain ⟨y0, y1, r2, rfl⟩ := gap2_rest hrow2.1 HQL.out hlt
      have q0 := hrow2.cellAt (k * 2) (by omega)
      have q1 := hrow2.cellAt (k * 2 + 1) (by omega)
      rw [(gap2_at HQL.out).1] at q0
      rw [(gap2_at HQL.out).2] at q1
      have f0 := hrow2.frozenAt (k * 2)
      have f1 := hrow2.frozenAt (k * 2 + 1)
      have HN := Lib.hid (hrow2.stored (k * 2) (.int .i64 id))
      have HN2 := Lib.hid (HN.out.1.stored (k * 2 + 1) (.slice a2 l.length c2))
      have HO2 := Lib.hid ho2
      have HB2 := Lib.hid hb2
      clear hb2 hrow2 ho2
      go_wp2
      go_roundw
      case rel =>
        have hlow : ∀ p ∈ q, ∀ k', p.2.ownBlock = some k' → w.heap.size + 1 ≤ k' ∧ k' < wr.heap.size := fun p hp k' hk' => World.ownsRow.lt (HROWS.out p hp) k' hk'
        have hnew : ∀ k', (Value.slice a2 l.length c2).ownBlock = some k' → wr.heap.size ≤ k' := fun k' hk' => (World.ownsRow.lt HO2.out k' hk').1
        have hws := HWS.out
        have hgg := grown_trans' HN.out.2 HN2.out.2
        refine ⟨k + 1, q ++ [((id, l), .slice a2 l.length c2)], r2, by omega, by go_num, ?_, ?_, ?_, ?_, ?_, ?_⟩
        · rw [ixs_take HJ.out, ← HQ.out]; simp [setsX]
        · have h := HN2.out.1
          rw [gap2_set HQL.out] at h
          rw [flatX_snoc]
          exact h
        · intro p hp
          rcases List.mem_append.1 hp with h | h
          · exact row_kept ((HROWS.out p h).below HB2.out) hgg fun k' hk' => by have := hlow p h k' hk'; omega
          · simp at h
            subst h
            exact row_kept (HO2.out.mono (by omega)) hgg fun k' hk' => by have := hnew k' hk'; omega
        · rw [List.pairwise_append]
          refine ⟨HDIS.out, by simp, fun p hp r hr k' hk' e => ?_⟩
          simp at hr
          subst hr
          have := hnew k' e
          have := hlow p hp k' hk'
          omega
        · exact (HB.out.trans (HB2.out.mono HB.out.size)).grown hgg (Nat.le_trans HB.out.size HB2.out.size) (fun j hj => by cases hj; exact Nat.le_refl _)
        · exact Nat.lt_of_lt_of_le hws (Nat.le_trans HB2.out.size hgg.size)
      case measure => simp [intOf]; omega
    · obtain rfl : k = S.length := by omega
      have HROW2 := Lib.hid hrow
      have HROWS := Lib.hid hrows
      have HDIS := Lib.hid hdis
      clear hrow hrows hdis
      go_wp2
      go_ret
      have h := HROW2.out
      rw [List.take_length] at hq
      have hql : q.length = S.length := by rw [← setsX_len, hq]
      have h1 := h.1
      rw [List.length_append, flatX_len, hql] at h1
      obtain rfl : rest = [] := List.eq_nil_of_length_eq_zero (by omega)
      rw [List.append_nil, ← hql] at h
      refine ⟨_, _, q, rfl, hq, ⟨by rw [← hql]; exact h, fun p hp => (HROWS.out p hp).mono (by omega), fun p hp k' hk' e => ?_, HDIS.out⟩, hb⟩
      have h4 := (World.ownsRow.lt (HROWS.out p hp) k' hk').1
      simp [Value.ownBlock] at e
      omega

end Go.Proofs.Ythjbekgognfiiaa
