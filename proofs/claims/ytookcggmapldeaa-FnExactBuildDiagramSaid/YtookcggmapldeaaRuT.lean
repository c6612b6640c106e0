/-
  Rule sets: what the laws' own szRuleSet, toRuleSet and eqRuleSet (and those of rules and tests) do. By an AI agent.
-/
import Derived.Test.YtookcggmapldeaaRuS
import Derived.Deep.RegionWith
import Derived.Deep.RegionHeld3
namespace Go.Proofs.Ytookcggmapldeaa
open Go.RowKit
set_option linter.unusedVariables false

theorem OwnTs.setCell {w : World} {lo : Nat} {v : Value} {l : List TS} (h : OwnTs w lo v l) (p : Addr) (u : Value) (hp : p.block < lo) : OwnTs (w.setCell p u) lo v l := row_setCell h p u hp
theorem rint {k : IntKind} {a b : Int} (h : a = b) : Ending.returned (.int k a) = .returned (.int k b) := by rw [h]
theorem grown_3 {a b d : World} {r : Option Nat} (h1 : a.grownBy b r) (h2 : b.grownBy d r) : a.grownBy d r :=
  ⟨h2.os.trans h1.os, h2.tape.trans h1.tape, h2.output.trans h1.output, Nat.le_trans h1.size h2.size, fun k hk hne => (h2.block k (Nat.lt_of_lt_of_le hk h1.size) hne).trans (h1.block k hk hne)⟩
theorem info_get {i : Option TypeInfo} {z : Value} {n b : Nat} (h : i.map (fun i => (i.zero, i.size, i.bytes)) = some (some z, n, b)) : ∃ i0, i = some i0 ∧ i0.zero = some z ∧ i0.size = n ∧ i0.bytes = b := by
  cases i with
  | none => cases h
  | some i0 => simp at h; exact ⟨i0, rfl, h.1, h.2.1, h.2.2⟩

/-! ### sizes -/
set_option maxRecDepth 100000 in
theorem tsz_any (a : Option Addr) (cap : Nat) (l : List TS) (left : Nat) (w : World) (hl : l.length ≤ maxLen) (hleft : left ≤ 1048576) (r : Int) (hr : (if l.length ≤ left then (left : Int) - l.length else -1) = r) :
    Calls Try.prog 82 #[.slice a l.length cap, .int .i64 left] w fun e w' => e = .returned (.int .i64 r) ∧ w' = w := by
  unfold maxLen at hl
  by_cases h : l.length ≤ left
  · rw [if_pos h] at hr
    subst hr
    go_enter Try.func82, Try.ntmps82
    go_wp2
    go_ret
    exact ⟨rfl, rfl⟩
  · rw [if_neg h] at hr
    subst hr
    go_enter Try.func82, Try.ntmps82
    go_wp2
    go_ret
    exact ⟨rfl, rfl⟩
theorem szi_cases (l : List TS) (left : Nat) (hleft : left ≤ 1048576) : ∃ r : Int, (if l.length ≤ left then (left : Int) - l.length else -1) = r ∧ (r = -1 ∨ (0 ≤ r ∧ r ≤ 1048576)) := by
  by_cases h : l.length ≤ left
  · exact ⟨_, rfl, .inr (by rw [if_pos h]; omega)⟩
  · exact ⟨_, rfl, .inl (if_neg h)⟩

set_option maxRecDepth 100000 in
theorem usz_one (a : Option Addr) (cap : Nat) (l : List TS) (left : Nat) (w : World) (hl : l.length ≤ maxLen) (hleft : left ≤ 1048576) (r : Int) (hr : (if l.length ≤ left then (left : Int) - l.length else -1) = r) :
    Calls Try.prog 62 #[.agg #[.slice a l.length cap], .int .i64 left] w fun e w' => e = .returned (.int .i64 r) ∧ Below w.heap.size w w' := by
  obtain ⟨r', hr', hc⟩ := szi_cases l left hleft
  obtain rfl : r' = r := hr'.symm.trans hr
  have HC := Lib.hid (fun (W : World) => tsz_any a cap l left W hl hleft r' hr)
  clear hr hr' hl
  rcases hc with rfl | ⟨hc1, hc2⟩
  all_goals
    go_enter Try.func62, Try.ntmps62
    go_wp2_with (go_at_call 82; (refine (HC.out _).mono ?_); rintro e w' ⟨rfl, rfl⟩)
    go_ret
    exact ⟨rfl, (Below.refl _ _).alloc (Nat.le_refl _) _⟩

set_option maxRecDepth 100000 in
theorem usz_any (a : Option Addr) (cap : Nat) (R : List (List TS)) (left : Nat) (w : World) (h : ArgRu w a R) (hleft : left ≤ 1048576) :
    Calls Try.prog 35 #[.slice a R.length cap, .int .i64 left] w fun e w' => e = .returned (.int .i64 (ruzR R left)) ∧ Below w.heap.size w w' := by
  obtain ⟨hin, hl, hx⟩ := h
  unfold maxLen at hl
  have HX := Lib.hid hx
  have HIN := Lib.hid hin
  clear hx hin
  by_cases h1 : R.length ≤ left
  · go_enter Try.func35, Try.ntmps35
    go_wp2
    go_loopw [1, 5] (fun r i wr => ∃ k m : Nat, k ≤ R.length ∧ i = .int .i64 k ∧ r = .int .i64 m ∧ m ≤ left ∧ m + ruzT R k = left ∧ Below w.heap.size w wr) (fun _ i _ => R.length - (intOf i).toNat)
    case atStart => exact ⟨0, left - R.length, Nat.zero_le _, rfl, by rw [Int.ofNat_sub h1], by omega, by simp [ruzT]; omega, Below.refl _ _⟩
    case round =>
      obtain ⟨k, m, hk, rfl, rfl, hm, hs, hbl⟩ := hrel
      have HS := Lib.hid hs
      have HBL := Lib.hid hbl
      clear hs hbl
      by_cases hlt : k < R.length
      · obtain ⟨b, off, rfl, hb, hc⟩ := HIN.out (by omega)
        have hj := List.getElem?_eq_getElem hlt
        obtain ⟨a', c', p0, _, _, hin'⟩ := hc k _ hj
        have hcell0 : wr.cell? ⟨b, off + k, none⟩ = some (.slice a' R[k].length c') := by rw [HBL.out.cell (p := ⟨b, off + k, none⟩) hb]; exact p0
        have HT := Lib.hid (ruzT_succ hj)
        have HT2 := Lib.hid (ruzT_le (R := R) (show k + 1 ≤ R.length from hlt))
        have q1 := HX.out _ (List.mem_of_getElem? hj)
        obtain ⟨r, hr, hcs⟩ := szi_cases R[k] m (by omega)
        have HC := Lib.hid (fun (W : World) => usz_one a' c' R[k] m W q1 (by omega) r hr)
        have HR := Lib.hid hr
        generalize R[k] = l at hcell0 HT HC HR
        clear hc hj hin' q1 p0 hr
        rcases hcs with rfl | ⟨hn1, hn2⟩
        · have HN := Lib.hid (show ¬ l.length ≤ m by intro e; have := HR.out; rw [if_pos e] at this; omega)
          go_wp2_with (go_at_call 62; (refine (HC.out _).mono ?_); rintro e w1 ⟨rfl, hb1⟩; have HB1 := Lib.hid hb1; clear hb1)
          go_ret
          exact ⟨rint (by rw [ruzR_no (by have := HS.out; have := HT.out; have := HT2.out; have := HN.out; unfold ruz; omega)]), HBL.out.trans (HB1.out.mono HBL.out.size)⟩
        · have HN := Lib.hid (show l.length ≤ m by refine Decidable.byContradiction fun e => ?_; have := HR.out; rw [if_neg e] at this; omega)
          obtain ⟨d, rfl⟩ : ∃ d : Nat, (d : Int) = r := ⟨r.toNat, by omega⟩
          have HD := Lib.hid (show d + l.length = m by have := HR.out; rw [if_pos HN.out] at this; have := HN.out; omega)
          go_wp2_with (go_at_call 62; (refine (HC.out _).mono ?_); rintro e w1 ⟨rfl, hb1⟩; have HB1 := Lib.hid hb1; clear hb1)
          go_roundw
          case rel => exact ⟨k + 1, d, by omega, by go_num, rfl, by have := HD.out; omega, by have := HS.out; have := HT.out; have := HD.out; omega, HBL.out.trans (HB1.out.mono HBL.out.size)⟩
          case measure => simp [intOf]; omega
      · obtain rfl : k = R.length := by omega
        go_wp2
        go_ret
        exact ⟨rint (by rw [ruzR_yes (by have := HS.out; unfold ruz; omega)]; have := HS.out; unfold ruz; omega), HBL.out⟩
  · go_enter Try.func35, Try.ntmps35
    go_wp2
    go_ret
    exact ⟨rint (by rw [ruzR_no (by have := ruz_len R; omega)]), Below.refl _ _⟩

set_option maxRecDepth 100000 in
theorem uss_any (a : Option Addr) (cap : Nat) (R : List (List TS)) (left : Nat) (w : World) (h : ArgRu w a R) (hleft : left ≤ 1048576) (r : Int) (hr : ruzR R left = r) :
    Calls Try.prog 9 #[.agg #[.slice a R.length cap], .int .i64 left] w fun e w' => e = .returned (.int .i64 r) ∧ Below w.heap.size w w' := by
  have hc : r = -1 ∨ (0 ≤ r ∧ r ≤ 1048576) := by
    rw [← hr]; unfold ruzR; split
    · exact .inr (by omega)
    · exact .inl rfl
  have HC := Lib.hid (fun (W : World) (hW : Below w.heap.size w W) => (usz_any a cap R left W (h.below hW) hleft).mono fun e w' h => (show e = .returned (.int .i64 r) ∧ Below W.heap.size W w' from by rw [← hr]; exact h))
  clear hr h
  rcases hc with rfl | ⟨hc1, hc2⟩
  all_goals
    go_enter Try.func9, Try.ntmps9
    go_wp2_with (go_at_call 35; (refine (HC.out _ ((Below.refl _ _).alloc (Nat.le_refl _) _)).mono ?_); rintro e w' ⟨rfl, hb⟩; have HB := Lib.hid hb; clear hb)
    go_ret
    exact ⟨rfl, ((Below.refl _ _).alloc (Nat.le_refl _) _).trans (HB.out.mono (by simp))⟩
theorem uss_no {w0 : World} (a : Option Addr) (cap : Nat) (R : List (List TS)) (left : Nat) (w : World) (h : ArgRu w0 a R) (hb : Below w0.heap.size w0 w) (hleft : left ≤ 1048576) (hn : ¬ ruz R ≤ left) :
    Calls Try.prog 9 #[.agg #[.slice a R.length cap], .int .i64 left] w fun e w' => e = .returned (.int .i64 (-1)) ∧ Below w.heap.size w w' :=
  uss_any a cap R left w (h.below hb) hleft _ (ruzR_no hn)
theorem uss_yes {w0 : World} (a : Option Addr) (cap : Nat) (R : List (List TS)) (left r : Nat) (w : World) (h : ArgRu w0 a R) (hb : Below w0.heap.size w0 w) (hleft : left ≤ 1048576) (hr : r + ruz R = left) :
    Calls Try.prog 9 #[.agg #[.slice a R.length cap], .int .i64 left] w fun e w' => e = .returned (.int .i64 r) ∧ Below w.heap.size w w' :=
  uss_any a cap R left w (h.below hb) hleft _ (by rw [ruzR_yes (by omega)]; congr 1; omega)
theorem usr_no {w0 : World} (a : Option Addr) (cap : Nat) (l : List TS) (left : Nat) (w : World) (h : ArgTs w0 a l) (hleft : left ≤ 1048576) (hn : ¬ l.length ≤ left) :
    Calls Try.prog 62 #[.agg #[.slice a l.length cap], .int .i64 left] w fun e w' => e = .returned (.int .i64 (-1)) ∧ Below w.heap.size w w' :=
  usz_one a cap l left w h.2 hleft _ (by rw [if_neg hn])
theorem usr_yes {w0 : World} (a : Option Addr) (cap : Nat) (l : List TS) (left r : Nat) (w : World) (h : ArgTs w0 a l) (hleft : left ≤ 1048576) (hr : r + l.length = left) :
    Calls Try.prog 62 #[.agg #[.slice a l.length cap], .int .i64 left] w fun e w' => e = .returned (.int .i64 r) ∧ Below w.heap.size w w' :=
  usz_one a cap l left w h.2 hleft _ (by rw [if_pos (by omega)]; omega)

/-! ### copies -/
set_option maxRecDepth 100000 in
theorem tto1 (f t : Int) (u : Bool) (w : World) :
    Calls Try.prog 99 #[.agg #[.int .i64 f, .int .i64 t, .bool u]] w fun e w' => e = .returned (.agg #[.int .i64 f, .int .i64 t, .bool u]) ∧ Below w.heap.size w w' := by
  go_enter Try.func99, Try.ntmps99
  go_wp2
  generalize hw : ((w.alloc (Obj.cells #[Value.int IntKind.i64 f, Value.int IntKind.i64 t, Value.bool u] 137)).alloc (Obj.cells #[Value.int IntKind.i64 f, Value.int IntKind.i64 t, Value.bool u] 62)) = w1
  have hB : Below w.heap.size w w1 := by rw [← hw]; exact ((Below.refl _ _).alloc (Nat.le_refl _) _).alloc (by simp) _
  have e0 : (w1.alloc (Obj.cells #[Value.int IntKind.i64 f, Value.int IntKind.i64 t, Value.bool u] 62)).cell? ⟨w.heap.size + 1, 0, none⟩ = some (.int .i64 f) := by rw [← hw]; simp [go_sem]
  have e1 : (w1.alloc (Obj.cells #[Value.int IntKind.i64 f, Value.int IntKind.i64 t, Value.bool u] 62)).cell? ⟨w.heap.size + 1, 1, none⟩ = some (.int .i64 t) := by rw [← hw]; simp [go_sem]
  have e2 : (w1.alloc (Obj.cells #[Value.int IntKind.i64 f, Value.int IntKind.i64 t, Value.bool u] 62)).cell? ⟨w.heap.size + 1, 2, none⟩ = some (.bool u) := by rw [← hw]; simp [go_sem]
  refine bodyPost_ret (v := .agg #[.int .i64 f, .int .i64 t, .bool u]) (by simp [results, Try.results99, go_sem, e0, e1, e2]) rfl ⟨rfl, hB.alloc hB.size _⟩

set_option maxRecDepth 100000 in
set_option maxHeartbeats 1000000 in
theorem tto_l (a : Option Addr) (cap : Nat) (l : List TS) (w : World) (hl : l.length ≤ 4000000) (hin : InTs w a l) :
    Calls Try.prog 83 #[.slice a l.length cap] w (GivesTs w l) := by
  obtain ⟨i0, hi, hz0, hz1, hz2⟩ := info_get info_ts
  have HIN := Lib.hid hin
  clear hin
  go_enter Try.func83, Try.ntmps83
  go_wp2_with (at_make; refine wpList_make_full _ rfl _ _ 26 rfl w.heap.size 62 i0 _ 3 Try.underlying26 hi hz0 hz1 .i64 .i64 _ _ l.length rfl rfl rfl rfl (by rw [hz2]; omega) (by unfold maxLen; omega) (Nat.le_refl _) ?_; intro w1 hrow hg)
  have HROW := Lib.hid hrow
  have HB1 := Lib.hid ((Below.refl w.heap.size w).grown hg (Nat.le_refl _) (fun k hk => by cases hk))
  clear hrow hg
  go_loopw [4] (fun i wr => ∃ (k : Nat) (rest : List Value), k ≤ l.length ∧ i = .int .i64 k ∧ wr.ownsRow w.heap.size 62 3 (.slice (some ⟨w.heap.size, 0, none⟩) l.length l.length) l.length (flatTs (l.take k) ++ rest) ∧ Below w.heap.size w wr) (fun i _ => l.length - (intOf i).toNat)
  case atStart => exact ⟨0, _, Nat.zero_le _, rfl, HROW.out, HB1.out⟩
  case round =>
    obtain ⟨k, rest, hk, rfl, hrow, hb⟩ := hrel
    by_cases hlt : k < l.length
    · obtain ⟨b, off, f, t, u, rfl, hbw, hx, hc0, hc1, hc2⟩ := HIN.out.at_ hlt
      have hcell0 : wr.cell? ⟨b, off + k * 3, none⟩ = some (.int .i64 f) := by rw [hb.cell (p := ⟨b, off + k * 3, none⟩) hbw]; exact hc0
      have hcell1 : wr.cell? ⟨b, off + k * 3 + 1, none⟩ = some (.int .i64 t) := by rw [hb.cell (p := ⟨b, off + k * 3 + 1, none⟩) hbw]; exact hc1
      have hcell2 : wr.cell? ⟨b, off + k * 3 + 2, none⟩ = some (.bool u) := by rw [hb.cell (p := ⟨b, off + k * 3 + 2, none⟩) hbw]; exact hc2
      have HROW2 := Lib.hid hrow
      have HB := Lib.hid hb
      have HX := Lib.hid hx
      have HFL := Lib.hid (show (flatTs (l.take k)).length = k * 3 by rw [flatTs_len, List.length_take]; omega)
      clear hc0 hc1 hc2 hx hrow hb hbw
      go_wp2_with (go_at_call 99; (refine (tto1 f t u _).mono ?_); rintro e w2 ⟨rfl, hb2⟩; refine Hid.out ?_)
      refine Lib.hid ?_
      have hrow2 := World.ownsRow.kept HROW2.out (row := none) ⟨hb2.os, hb2.tape, hb2.output, hb2.size, fun i hi _ => hb2.block i hi⟩ (by simp [Value.ownBlock])
      obtain ⟨y0, y1, y2, r2, rfl⟩ := gap3_rest hrow2.1 HFL.out hlt
      have q0 := hrow2.cellAt (k * 3) (by omega)
      have q1 := hrow2.cellAt (k * 3 + 1) (by omega)
      have q2 := hrow2.cellAt (k * 3 + 2) (by omega)
      rw [(gap3_at HFL.out).1] at q0
      rw [(gap3_at HFL.out).2.1] at q1
      rw [(gap3_at HFL.out).2.2] at q2
      have f0 := hrow2.frozenAt (k * 3)
      have f1 := hrow2.frozenAt (k * 3 + 1)
      have f2 := hrow2.frozenAt (k * 3 + 2)
      have HN := Lib.hid (hrow2.stored (k * 3) (.int .i64 f))
      have HN2 := Lib.hid (HN.out.1.stored (k * 3 + 1) (.int .i64 t))
      have HN3 := Lib.hid (HN2.out.1.stored (k * 3 + 2) (.bool u))
      have HB2 := Lib.hid (HB.out.trans (hb2.mono HB.out.size))
      clear hb2 hrow2
      go_wp2
      go_roundw
      case rel =>
        have hgg := grown_3 (grown_3 HN.out.2 HN2.out.2) HN3.out.2
        refine ⟨k + 1, r2, by omega, by go_num, ?_, HB2.out.grown hgg HB2.out.size (fun j hj => by cases hj; exact Nat.le_refl _)⟩
        have h := HN3.out.1
        rw [gap3_set HFL.out] at h
        rw [ts_take HX.out, flatTs_snoc]
        exact h
      case measure => simp [intOf]; omega
    · obtain rfl : k = l.length := by omega
      have HROW2 := Lib.hid hrow
      clear hrow
      go_wp2
      go_ret
      refine ⟨_, _, rfl, ?_, hb⟩
      have h := HROW2.out
      rw [List.take_length] at h
      have h1 := h.1
      rw [List.length_append, flatTs_len] at h1
      obtain rfl : rest = [] := List.eq_nil_of_length_eq_zero (by omega)
      rw [List.append_nil] at h
      exact h

set_option maxRecDepth 100000 in
set_option maxHeartbeats 800000 in
theorem uto1 (a : Option Addr) (cap : Nat) (l : List TS) (w : World) (hl : l.length ≤ 4000000) (hin : InTs w a l) :
    Calls Try.prog 64 #[.agg #[.slice a l.length cap]] w fun e w' => ∃ a' cap', e = .returned (.agg #[.slice a' l.length cap']) ∧ OwnTs w' w.heap.size (.slice a' l.length cap') l ∧ Below w.heap.size w w' := by
  obtain ⟨wa, hwa⟩ : ∃ wa, wa = ((w.alloc (.cells #[.slice a l.length cap] 99)).alloc (.cells #[.slice none 0 0] 65)).alloc (.cells #[.slice none 0 0] 65) := ⟨_, rfl⟩
  have hba : Below w.heap.size w wa := by rw [hwa]; exact (((Below.refl _ _).alloc (Nat.le_refl _) _).alloc (by simp) _).alloc (by simp; omega) _
  have HC := Lib.hid (tto_l a cap l wa hl (hin.below hba))
  have hsz : wa.heap.size = w.heap.size + 1 + 1 + 1 := by rw [hwa]; simp
  have hbr : BlkV wa (w.heap.size + 1) 65 #[.slice none 0 0] := by rw [hwa]; exact (BlkV.new_ _ _ _ _ (by simp)).alloc _
  have hbo : BlkV wa (w.heap.size + 1 + 1) 65 #[.slice none 0 0] := by rw [hwa]; exact BlkV.new_ _ _ _ _ (by simp)
  have HBR := Lib.hid hbr
  have HBO := Lib.hid hbo
  have HSZ := Lib.hid hsz
  have HBA := Lib.hid hba
  have HWA := Lib.hid hwa
  clear hin hsz hbr hbo hba hwa
  go_enter Try.func64, Try.ntmps64
  go_wp2_with (go_at_call 83; rw [← HWA.out]; (refine HC.out.mono ?_); rintro e w1 ⟨a1, c1, rfl, ho, hb⟩; refine Hid.out ?_)
  refine Lib.hid ?_
  have HO := Lib.hid ho
  have HBB := Lib.hid hb
  have q0 := (HBO.out.below hb).cell 0
  have f0 := (HBO.out.below hb).frozen 0
  have r0 := (HBR.out.below hb).cell 0
  have g0 := (HBR.out.below hb).frozen 0
  simp only [List.getElem?_toArray, List.getElem?_cons_zero] at q0 r0
  clear ho hb
  go_wp2
  generalize hwz : (w1.setCell ⟨w.heap.size + 1 + 1, 0, none⟩ (.slice a1 l.length c1)).setCell ⟨w.heap.size + 1, 0, none⟩ (.slice a1 l.length c1) = wz
  have e0 : wz.cell? ⟨w.heap.size + 1, 0, none⟩ = some (.slice a1 l.length c1) := by rw [← hwz]; exact (((HBR.out.below HBB.out).other _ _ (by simp)).set_ 0 (.slice a1 l.length c1)).cell 0
  have hO : OwnTs wz w.heap.size (.slice a1 l.length c1) l := by rw [← hwz]; exact ((HO.out.setCell ⟨w.heap.size + 1 + 1, 0, none⟩ _ (by rw [HSZ.out]; simp)).setCell ⟨w.heap.size + 1, 0, none⟩ _ (by rw [HSZ.out]; simp)).mono (by have := HBA.out.size; omega)
  have hB : Below w.heap.size w wz := by rw [← hwz]; exact ((HBA.out.trans (HBB.out.mono HBA.out.size)).setCell (by simp; omega) _).setCell (by simp) _
  refine bodyPost_ret (v := .agg #[.slice a1 l.length c1]) (by simp [results, Try.results64, go_sem, e0]) rfl ⟨_, _, rfl, hO, hB⟩

theorem OwnRu.setCell {w : World} {lo : Nat} {v : Value} {q : List XU} (h : OwnRu w lo v q) (p : Addr) (u : Value) (hp : p.block < lo) : OwnRu (w.setCell p u) lo v q :=
  ⟨row_setCell h.out p u hp, fun r hr => row_setCell (h.row r hr) p u hp, h.apart, h.dis⟩
theorem valsU_snoc (q : List XU) (x : XU) : valsU (q ++ [x]) = valsU q ++ [x.2] := by simp [valsU]

set_option maxRecDepth 100000 in
set_option maxHeartbeats 1000000 in
theorem rto_l (a : Option Addr) (cap : Nat) (R : List (List TS)) (w : World) (hz : ruz R ≤ 1048576) (hin : InRu w a R) :
    Calls Try.prog 38 #[.slice a R.length cap] w (GivesRu w R) := by
  obtain ⟨i0, hi, hz0, hz1, hz2⟩ := info_get info_ru
  have HIN := Lib.hid hin
  have HZ := Lib.hid (ru_mem hz)
  have hl := ru_len hz
  clear hin hz
  go_enter Try.func38, Try.ntmps38
  go_wp2_with (at_make; refine wpList_make_full _ rfl _ _ 28 rfl w.heap.size 65 i0 _ 1 Try.underlying28 hi hz0 hz1 .i64 .i64 _ _ R.length rfl rfl rfl rfl (by rw [hz2]; omega) (by unfold maxLen; omega) (Nat.le_refl _) ?_; intro w1 hrow hg)
  have HROW := Lib.hid hrow
  have HB1 := Lib.hid ((Below.refl w.heap.size w).grown hg (Nat.le_refl _) (fun k hk => by cases hk))
  have HLT := Lib.hid (World.ownsRow.lt hrow w.heap.size rfl).2
  clear hrow hg
  go_loopw [4] (fun i wr => ∃ (k : Nat) (q : List XU) (rest : List Value), k ≤ R.length ∧ i = .int .i64 k ∧ rulesU q = R.take k ∧ wr.ownsRow w.heap.size 65 1 (.slice (some ⟨w.heap.size, 0, none⟩) R.length R.length) R.length (valsU q ++ rest) ∧
    (∀ p ∈ q, OwnTs wr (w.heap.size + 1) p.2 p.1) ∧ (q.Pairwise fun p r => ∀ k, p.2.ownBlock = some k → r.2.ownBlock ≠ some k) ∧ Below w.heap.size w wr ∧ w.heap.size < wr.heap.size) (fun i _ => R.length - (intOf i).toNat)
  case atStart => exact ⟨0, [], _, Nat.zero_le _, rfl, rfl, HROW.out, (fun p h => by cases h), List.Pairwise.nil, HB1.out, HLT.out⟩
  case round =>
    obtain ⟨k, q, rest, hk, rfl, hq, hrow, hrows, hdis, hb, hws⟩ := hrel
    by_cases hlt : k < R.length
    · obtain ⟨b, off, rfl, hbw, hc⟩ := HIN.out (by omega)
      have hj := List.getElem?_eq_getElem hlt
      obtain ⟨a', c', p0, _, _, hin'⟩ := hc k _ hj
      have hcell0 : wr.cell? ⟨b, off + k, none⟩ = some (.slice a' R[k].length c') := by rw [hb.cell (p := ⟨b, off + k, none⟩) hbw]; exact p0
      have HC := Lib.hid (uto1 a' c' R[k] wr (HZ.out _ (List.mem_of_getElem? hj)) (hin'.below hb))
      have HJ := Lib.hid (show R[k]? = some R[k] from hj)
      generalize R[k] = l at hcell0 HC HJ
      have HROW2 := Lib.hid hrow
      have HROWS := Lib.hid hrows
      have HDIS := Lib.hid hdis
      have HB := Lib.hid hb
      have HQ := Lib.hid hq
      have HWS := Lib.hid hws
      have hql : q.length = k := by rw [← rulesU_len, hq, List.length_take]; omega
      have HQL := Lib.hid (show (valsU q).length = k by rw [valsU_len, hql])
      clear hc hj hin' p0 hrow hrows hdis hb hq hws hbw hql
      go_wp2_with (go_at_call 64; (refine HC.out.mono ?_); rintro e w2 ⟨a2, c2, rfl, ho2, hb2⟩; refine Hid.out ?_)
      refine Lib.hid ?_
      have hrow2 := World.ownsRow.kept HROW2.out (row := none) ⟨hb2.os, hb2.tape, hb2.output, hb2.size, fun i hi _ => hb2.block i hi⟩ (by simp [Value.ownBlock])
      obtain ⟨y, r2, rfl, hy, hset⟩ := ss_row_at hrow2.1 HQL.out (by omega)
      have q0 := hrow2.cellAt k (by omega)
      rw [hy] at q0
      have f0 := hrow2.frozenAt k
      have HN := Lib.hid (hrow2.stored k (.slice a2 l.length c2))
      rw [hset] at HN
      have HO2 := Lib.hid ho2
      have HB2 := Lib.hid hb2
      clear hb2 hrow2 hy hset ho2
      go_wp2
      go_roundw
      case rel =>
        have hlow : ∀ p ∈ q, ∀ k', p.2.ownBlock = some k' → w.heap.size + 1 ≤ k' ∧ k' < wr.heap.size := fun p hp k' hk' => World.ownsRow.lt (HROWS.out p hp) k' hk'
        have hnew : ∀ k', (Value.slice a2 l.length c2).ownBlock = some k' → wr.heap.size ≤ k' := fun k' hk' => (World.ownsRow.lt HO2.out k' hk').1
        have hws := HWS.out
        have hgg := HN.out.2
        refine ⟨k + 1, q ++ [(l, .slice a2 l.length c2)], r2, by omega, by go_num, ?_, ?_, ?_, ?_, ?_, ?_⟩
        · rw [take_one HJ.out, ← HQ.out]; simp [rulesU]
        · rw [valsU_snoc]
          exact HN.out.1
        · intro p hp
          rcases List.mem_append.1 hp with h | h
          · exact row_keptO ((HROWS.out p h).below HB2.out) hgg fun k' hk' e => by have := hlow p h k' e; cases hk'; omega
          · simp at h
            subst h
            exact row_keptO (HO2.out.mono (by omega)) hgg fun k' hk' e => by have := hnew k' e; cases hk'; omega
        · rw [List.pairwise_append]
          refine ⟨HDIS.out, by simp, fun p hp r hr k' hk' e => ?_⟩
          simp at hr
          subst hr
          have := hnew k' e
          have := hlow p hp k' hk'
          omega
        · exact (HB.out.trans (HB2.out.mono HB.out.size)).grown hgg (Nat.le_trans HB.out.size HB2.out.size) (fun j hj => by cases hj; exact Nat.le_refl _)
        · exact Nat.lt_of_lt_of_le hws (Nat.le_trans HB2.out.size hgg.size)
      case measure => simp [intOf]; omega
    · obtain rfl : k = R.length := by omega
      have HROW2 := Lib.hid hrow
      have HROWS := Lib.hid hrows
      have HDIS := Lib.hid hdis
      clear hrow hrows hdis
      go_wp2
      go_ret
      have h := HROW2.out
      rw [List.take_length] at hq
      have hql : q.length = R.length := by rw [← rulesU_len, hq]
      have h1 := h.1
      rw [List.length_append, valsU_len, hql] at h1
      obtain rfl : rest = [] := List.eq_nil_of_length_eq_zero (by omega)
      rw [List.append_nil, ← hql] at h
      refine ⟨_, _, q, rfl, hq, ⟨by rw [← hql]; exact h, fun p hp => (HROWS.out p hp).mono (by omega), fun p hp k' hk' e => ?_, HDIS.out⟩, hb⟩
      have h4 := (World.ownsRow.lt (HROWS.out p hp) k' hk').1
      simp [Value.ownBlock] at e
      omega

set_option maxRecDepth 100000 in
set_option maxHeartbeats 800000 in
theorem rsto (a : Option Addr) (cap : Nat) (R : List (List TS)) (w : World) (hz : ruz R ≤ 1048576) (hin : InRu w a R) :
    Calls Try.prog 11 #[.agg #[.slice a R.length cap]] w (GivesRs w R) := by
  obtain ⟨wa, hwa⟩ : ∃ wa, wa = ((w.alloc (.cells #[.slice a R.length cap] 24)).alloc (.cells #[.slice none 0 0] 30)).alloc (.cells #[.slice none 0 0] 30) := ⟨_, rfl⟩
  have hba : Below w.heap.size w wa := by rw [hwa]; exact (((Below.refl _ _).alloc (Nat.le_refl _) _).alloc (by simp) _).alloc (by simp; omega) _
  have HC := Lib.hid (rto_l a cap R wa hz (hin.below hba))
  have hsz : wa.heap.size = w.heap.size + 1 + 1 + 1 := by rw [hwa]; simp
  have hbr : BlkV wa (w.heap.size + 1) 30 #[.slice none 0 0] := by rw [hwa]; exact (BlkV.new_ _ _ _ _ (by simp)).alloc _
  have hbo : BlkV wa (w.heap.size + 1 + 1) 30 #[.slice none 0 0] := by rw [hwa]; exact BlkV.new_ _ _ _ _ (by simp)
  have HBR := Lib.hid hbr
  have HBO := Lib.hid hbo
  have HSZ := Lib.hid hsz
  have HBA := Lib.hid hba
  have HWA := Lib.hid hwa
  clear hin hsz hbr hbo hba hwa
  go_enter Try.func11, Try.ntmps11
  go_wp2_with (go_at_call 38; rw [← HWA.out]; (refine HC.out.mono ?_); rintro e w1 ⟨a1, c1, q1, rfl, hq, ho, hb⟩; refine Hid.out ?_)
  refine Lib.hid ?_
  have HO := Lib.hid ho
  have HBB := Lib.hid hb
  have q0 := (HBO.out.below hb).cell 0
  have f0 := (HBO.out.below hb).frozen 0
  have r0 := (HBR.out.below hb).cell 0
  have g0 := (HBR.out.below hb).frozen 0
  simp only [List.getElem?_toArray, List.getElem?_cons_zero] at q0 r0
  clear ho hb
  go_wp2
  generalize hwz : (w1.setCell ⟨w.heap.size + 1 + 1, 0, none⟩ (.slice a1 R.length c1)).setCell ⟨w.heap.size + 1, 0, none⟩ (.slice a1 R.length c1) = wz
  have e0 : wz.cell? ⟨w.heap.size + 1, 0, none⟩ = some (.slice a1 R.length c1) := by rw [← hwz]; exact (((HBR.out.below HBB.out).other _ _ (by simp)).set_ 0 (.slice a1 R.length c1)).cell 0
  have hO : OwnRu wz w.heap.size (.slice a1 R.length c1) q1 := by rw [← hwz]; exact ((HO.out.setCell ⟨w.heap.size + 1 + 1, 0, none⟩ _ (by rw [HSZ.out]; simp)).setCell ⟨w.heap.size + 1, 0, none⟩ _ (by rw [HSZ.out]; simp)).mono (by have := HBA.out.size; omega)
  have hB : Below w.heap.size w wz := by rw [← hwz]; exact ((HBA.out.trans (HBB.out.mono HBA.out.size)).setCell (by simp; omega) _).setCell (by simp) _
  refine bodyPost_ret (v := .agg #[.slice a1 R.length c1]) (by simp [results, Try.results11, go_sem, e0]) rfl ⟨_, _, q1, rfl, hq, hO, hB⟩

/-! ### two that are the same -/
set_option maxRecDepth 100000 in
theorem teq1 (f t : Int) (u : Bool) (w : World) :
    Calls Try.prog 45 #[.agg #[.int .i64 f, .int .i64 t, .bool u], .agg #[.int .i64 f, .int .i64 t, .bool u]] w fun e w' => e = .returned (.bool true) ∧ Below w.heap.size w w' := by
  go_enter Try.func45, Try.ntmps45
  go_wp2
  go_ret
  exact ⟨rfl, ((Below.refl _ _).alloc (Nat.le_refl _) _).alloc (by simp) _⟩

set_option maxRecDepth 100000 in
theorem teq_l (a1 a2 : Option Addr) (c1 c2 : Nat) (l : List TS) (w : World) (hl : l.length ≤ 4000000) (h1 : InTs w a1 l) (h2 : InTs w a2 l) :
    Calls Try.prog 13 #[.slice a1 l.length c1, .slice a2 l.length c2] w fun e w' => e = .returned (.bool true) ∧ Below w.heap.size w w' := by
  have H1 := Lib.hid h1
  have H2 := Lib.hid h2
  clear h1 h2
  go_enter Try.func13, Try.ntmps13
  go_wp2
  go_loopw [5] (fun i wr => ∃ k : Nat, k ≤ l.length ∧ i = .int .i64 k ∧ Below w.heap.size w wr) (fun i _ => l.length - (intOf i).toNat)
  case atStart => exact ⟨0, Nat.zero_le _, rfl, Below.refl _ _⟩
  case round =>
    obtain ⟨k, hk, rfl, hb⟩ := hrel
    have HB := Lib.hid hb
    clear hb
    by_cases hlt : k < l.length
    · obtain ⟨b1, o1, f, t, u, rfl, hb1, hx, p0, p1, p2⟩ := H1.out.at_ hlt
      obtain ⟨b2, o2, f', t', u', rfl, hb2, hx', q0, q1, q2⟩ := H2.out.at_ hlt
      rw [hx] at hx'
      injection hx' with hx'
      injection hx' with e1 e3
      injection e1 with e1 e2
      subst e1 e2 e3
      have g0 : wr.cell? ⟨b1, o1 + k * 3, none⟩ = some (.int .i64 f) := by rw [HB.out.cell (p := ⟨b1, o1 + k * 3, none⟩) hb1]; exact p0
      have g1 : wr.cell? ⟨b1, o1 + k * 3 + 1, none⟩ = some (.int .i64 t) := by rw [HB.out.cell (p := ⟨b1, o1 + k * 3 + 1, none⟩) hb1]; exact p1
      have g2 : wr.cell? ⟨b1, o1 + k * 3 + 2, none⟩ = some (.bool u) := by rw [HB.out.cell (p := ⟨b1, o1 + k * 3 + 2, none⟩) hb1]; exact p2
      have g3 : wr.cell? ⟨b2, o2 + k * 3, none⟩ = some (.int .i64 f) := by rw [HB.out.cell (p := ⟨b2, o2 + k * 3, none⟩) hb2]; exact q0
      have g4 : wr.cell? ⟨b2, o2 + k * 3 + 1, none⟩ = some (.int .i64 t) := by rw [HB.out.cell (p := ⟨b2, o2 + k * 3 + 1, none⟩) hb2]; exact q1
      have g5 : wr.cell? ⟨b2, o2 + k * 3 + 2, none⟩ = some (.bool u) := by rw [HB.out.cell (p := ⟨b2, o2 + k * 3 + 2, none⟩) hb2]; exact q2
      have HM := Lib.hid (fun W : World => teq1 f t u W)
      clear hx p0 p1 p2 q0 q1 q2 hb1 hb2
      go_wp2
      go_region_with (go_at_call 45; refine (HM.out _).mono ?_; rintro e w1 ⟨rfl, hb1⟩; have HB1 := Lib.hid hb1; clear hb1)
      all_goals go_wp2
      all_goals go_roundw
      all_goals first
        | (case rel => exact ⟨k + 1, by omega, by go_num, (HB.out.drew).trans (HB1.out.mono HB.out.size)⟩)
        | skip
      all_goals (simp [intOf]; omega)
    · obtain rfl : k = l.length := by omega
      go_wp2
      go_ret
      exact ⟨rfl, HB.out⟩

set_option maxRecDepth 100000 in
theorem req1 (a1 a2 : Option Addr) (c1 c2 : Nat) (l : List TS) (w : World) (hl : l.length ≤ 4000000) (h1 : InTs w a1 l) (h2 : InTs w a2 l) :
    Calls Try.prog 71 #[.agg #[.slice a1 l.length c1], .agg #[.slice a2 l.length c2]] w fun e w' => e = .returned (.bool true) ∧ Below w.heap.size w w' := by
  have HC := Lib.hid (fun (W : World) (hW : Below w.heap.size w W) => teq_l a1 a2 c1 c2 l W hl (h1.below hW) (h2.below hW))
  clear h1 h2
  go_enter Try.func71, Try.ntmps71
  go_wp2_with (go_at_call 13; refine (HC.out _ (((Below.refl _ _).alloc (Nat.le_refl _) _).alloc (by simp) _)).mono ?_; rintro e w1 ⟨rfl, hb1⟩; have HB1 := Lib.hid hb1; clear hb1)
  go_ret
  exact ⟨rfl, (((Below.refl _ _).alloc (Nat.le_refl _) _).alloc (by simp) _).trans (HB1.out.mono (by simp; omega))⟩

set_option maxRecDepth 100000 in
theorem ueq_l (a1 a2 : Option Addr) (c1 c2 : Nat) (R : List (List TS)) (w : World) (hl : R.length ≤ 4000000) (hx : ∀ x ∈ R, x.length ≤ 4000000) (h1 : InRu w a1 R) (h2 : InRu w a2 R) :
    Calls Try.prog 46 #[.slice a1 R.length c1, .slice a2 R.length c2] w fun e w' => e = .returned (.bool true) ∧ Below w.heap.size w w' := by
  have H1 := Lib.hid h1
  have H2 := Lib.hid h2
  have HX := Lib.hid hx
  clear h1 h2 hx
  go_enter Try.func46, Try.ntmps46
  go_wp2
  go_loopw [5] (fun i wr => ∃ k : Nat, k ≤ R.length ∧ i = .int .i64 k ∧ Below w.heap.size w wr) (fun i _ => R.length - (intOf i).toNat)
  case atStart => exact ⟨0, Nat.zero_le _, rfl, Below.refl _ _⟩
  case round =>
    obtain ⟨k, hk, rfl, hb⟩ := hrel
    have HB := Lib.hid hb
    clear hb
    by_cases hlt : k < R.length
    · obtain ⟨b1, o1, rfl, hb1, hc1⟩ := H1.out (by omega)
      obtain ⟨b2, o2, rfl, hb2, hc2⟩ := H2.out (by omega)
      have hj := List.getElem?_eq_getElem hlt
      obtain ⟨a', c', p0, _, _, p4⟩ := hc1 k _ hj
      obtain ⟨a'', c'', q0, _, _, q4⟩ := hc2 k _ hj
      have g0 : wr.cell? ⟨b1, o1 + k, none⟩ = some (.slice a' R[k].length c') := by rw [HB.out.cell (p := ⟨b1, o1 + k, none⟩) hb1]; exact p0
      have g1 : wr.cell? ⟨b2, o2 + k, none⟩ = some (.slice a'' R[k].length c'') := by rw [HB.out.cell (p := ⟨b2, o2 + k, none⟩) hb2]; exact q0
      have HM := Lib.hid (fun (W : World) (hW : Below w.heap.size w W) => req1 a' a'' c' c'' R[k] W (HX.out _ (List.mem_of_getElem? hj)) (p4.below hW) (q4.below hW))
      generalize R[k] = l at g0 g1 HM
      clear hc1 hc2 hj p0 p4 q0 q4 hb1 hb2
      go_wp2
      go_region_with (go_at_call 71; refine (HM.out _ (HB.out.drew)).mono ?_; rintro e w1 ⟨rfl, hb1⟩; have HB1 := Lib.hid hb1; clear hb1)
      all_goals go_wp2
      all_goals go_roundw
      all_goals first
        | (case rel => exact ⟨k + 1, by omega, by go_num, (HB.out.drew).trans (HB1.out.mono HB.out.size)⟩)
        | skip
      all_goals (simp [intOf]; omega)
    · obtain rfl : k = R.length := by omega
      go_wp2
      go_ret
      exact ⟨rfl, HB.out⟩

set_option maxRecDepth 100000 in
theorem seq1 (a1 a2 : Option Addr) (c1 c2 : Nat) (R : List (List TS)) (w : World) (hl : R.length ≤ 4000000) (hx : ∀ x ∈ R, x.length ≤ 4000000) (h1 : InRu w a1 R) (h2 : InRu w a2 R) :
    Calls Try.prog 14 #[.agg #[.slice a1 R.length c1], .agg #[.slice a2 R.length c2]] w fun e w' => e = .returned (.bool true) ∧ Below w.heap.size w w' := by
  have HC := Lib.hid (fun (W : World) (hW : Below w.heap.size w W) => ueq_l a1 a2 c1 c2 R W hl hx (h1.below hW) (h2.below hW))
  clear h1 h2
  go_enter Try.func14, Try.ntmps14
  go_wp2_with (go_at_call 46; refine (HC.out _ (((Below.refl _ _).alloc (Nat.le_refl _) _).alloc (by simp) _)).mono ?_; rintro e w1 ⟨rfl, hb1⟩; have HB1 := Lib.hid hb1; clear hb1)
  go_ret
  exact ⟨rfl, (((Below.refl _ _).alloc (Nat.le_refl _) _).alloc (by simp) _).trans (HB1.out.mono (by simp; omega))⟩

end Go.Proofs.Ytookcggmapldeaa
