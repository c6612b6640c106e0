/-
  Diagrams: what the laws' own szDiagram, toDiagram and eqDiagram do. By an AI agent.
-/
import Derived.Test.YtookcggmapldeaaDnS
import Derived.Deep.RegionWith
import Derived.Deep.RegionHeld3
namespace Go.Proofs.Ytookcggmapldeaa
open Go.RowKit
set_option linter.unusedVariables false
set_option linter.unusedSimpArgs false
set_option linter.unnecessarySimpa false

theorem dgrown_3 {a b d : World} {r : Option Nat} (h1 : a.grownBy b r) (h2 : b.grownBy d r) : a.grownBy d r :=
  ⟨h2.os.trans h1.os, h2.tape.trans h1.tape, h2.output.trans h1.output, Nat.le_trans h1.size h2.size, fun k hk hne => (h2.block k (Nat.lt_of_lt_of_le hk h1.size) hne).trans (h1.block k hk hne)⟩
theorem dinfo_get {i : Option TypeInfo} {z : Value} {n b : Nat} (h : i.map (fun i => (i.zero, i.size, i.bytes)) = some (some z, n, b)) : ∃ i0, i = some i0 ∧ i0.zero = some z ∧ i0.size = n ∧ i0.bytes = b := by
  cases i with
  | none => cases h
  | some i0 => simp at h; exact ⟨i0, rfl, h.1, h.2.1, h.2.2⟩
theorem dn_len {l : List DN} (h : l.length ≤ 1048576) : l.length ≤ 4000000 := by omega
theorem ArgDn.inDn {w : World} {a : Option Addr} {l : List DN} (h : ArgDn w a l) : InDn w a l := h.1

/-! ### sizes -/
set_option maxRecDepth 100000 in
theorem dsz_any (a : Option Addr) (cap : Nat) (l : List DN) (left : Nat) (w : World) (hl : l.length ≤ maxLen) (hleft : left ≤ 1048576) (r : Int) (hr : (if l.length ≤ left then (left : Int) - l.length else -1) = r) :
    Calls Try.prog 53 #[.slice a l.length cap, .int .i64 left] w fun e w' => e = .returned (.int .i64 r) ∧ w' = w := by
  unfold maxLen at hl
  by_cases h : l.length ≤ left
  · rw [if_pos h] at hr
    subst hr
    go_enter Try.func53, Try.ntmps53
    go_wp2
    go_ret
    exact ⟨rfl, rfl⟩
  · rw [if_neg h] at hr
    subst hr
    go_enter Try.func53, Try.ntmps53
    go_wp2
    go_ret
    exact ⟨rfl, rfl⟩
theorem dszi_cases (l : List DN) (left : Nat) (hleft : left ≤ 1048576) : ∃ r : Int, (if l.length ≤ left then (left : Int) - l.length else -1) = r ∧ (r = -1 ∨ (0 ≤ r ∧ r ≤ 1048576)) := by
  by_cases h : l.length ≤ left
  · exact ⟨_, rfl, .inr (by rw [if_pos h]; omega)⟩
  · exact ⟨_, rfl, .inl (if_neg h)⟩

set_option maxRecDepth 100000 in
theorem dss_any (z : Int) (a : Option Addr) (cap : Nat) (l : List DN) (left : Nat) (w : World) (hl : l.length ≤ maxLen) (hleft : left ≤ 1048576) (r : Int) (hr : (if l.length ≤ left then (left : Int) - l.length else -1) = r) :
    Calls Try.prog 23 #[.agg #[.int .i64 z, .slice a l.length cap], .int .i64 left] w fun e w' => e = .returned (.int .i64 r) ∧ Below w.heap.size w w' := by
  obtain ⟨r', hr', hc⟩ := dszi_cases l left hleft
  obtain rfl : r' = r := hr'.symm.trans hr
  have HC := Lib.hid (fun (W : World) => dsz_any a cap l left W hl hleft r' hr)
  clear hr hr' hl
  rcases hc with rfl | ⟨hc1, hc2⟩
  all_goals
    go_enter Try.func23, Try.ntmps23
    go_wp2_with (go_at_call 53; (refine (HC.out _).mono ?_); rintro e w' ⟨rfl, rfl⟩)
    go_ret
    exact ⟨rfl, (Below.refl _ _).alloc (Nat.le_refl _) _⟩
theorem dss_no {w0 : World} (z : Int) (a : Option Addr) (cap : Nat) (l : List DN) (left : Nat) (w : World) (h : ArgDn w0 a l) (hleft : left ≤ 1048576) (hn : ¬ l.length ≤ left) :
    Calls Try.prog 23 #[.agg #[.int .i64 z, .slice a l.length cap], .int .i64 left] w fun e w' => e = .returned (.int .i64 (-1)) ∧ Below w.heap.size w w' :=
  dss_any z a cap l left w h.2 hleft _ (by rw [if_neg hn])
theorem dss_yes {w0 : World} (z : Int) (a : Option Addr) (cap : Nat) (l : List DN) (left r : Nat) (w : World) (h : ArgDn w0 a l) (hleft : left ≤ 1048576) (hr : r + l.length = left) :
    Calls Try.prog 23 #[.agg #[.int .i64 z, .slice a l.length cap], .int .i64 left] w fun e w' => e = .returned (.int .i64 r) ∧ Below w.heap.size w w' :=
  dss_any z a cap l left w h.2 hleft _ (by rw [if_pos (by omega)]; omega)

/-! ### copies -/
set_option maxRecDepth 100000 in
set_option maxHeartbeats 800000 in
theorem dto1 (f t u z : Int) (w : World) :
    Calls Try.prog 76 #[.agg #[.int .i64 f, .int .i64 t, .int .i64 u, .int .i64 z]] w fun e w' => e = .returned (.agg #[.int .i64 f, .int .i64 t, .int .i64 u, .int .i64 z]) ∧ Below w.heap.size w w' := by
  go_enter Try.func76, Try.ntmps76
  go_wp2
  generalize hw : ((w.alloc (Obj.cells #[Value.int IntKind.i64 f, Value.int IntKind.i64 t, Value.int IntKind.i64 u, Value.int IntKind.i64 z] 115)).alloc (Obj.cells #[Value.int IntKind.i64 f, Value.int IntKind.i64 t, Value.int IntKind.i64 u, Value.int IntKind.i64 z] 86)) = w1
  have hB : Below w.heap.size w w1 := by rw [← hw]; exact ((Below.refl _ _).alloc (Nat.le_refl _) _).alloc (by simp) _
  have e0 : (w1.alloc (Obj.cells #[Value.int IntKind.i64 f, Value.int IntKind.i64 t, Value.int IntKind.i64 u, Value.int IntKind.i64 z] 86)).cell? ⟨w.heap.size + 1, 0, none⟩ = some (.int .i64 f) := by rw [← hw]; simp [go_sem]
  have e1 : (w1.alloc (Obj.cells #[Value.int IntKind.i64 f, Value.int IntKind.i64 t, Value.int IntKind.i64 u, Value.int IntKind.i64 z] 86)).cell? ⟨w.heap.size + 1, 1, none⟩ = some (.int .i64 t) := by rw [← hw]; simp [go_sem]
  have e2 : (w1.alloc (Obj.cells #[Value.int IntKind.i64 f, Value.int IntKind.i64 t, Value.int IntKind.i64 u, Value.int IntKind.i64 z] 86)).cell? ⟨w.heap.size + 1, 2, none⟩ = some (.int .i64 u) := by rw [← hw]; simp [go_sem]
  have e3 : (w1.alloc (Obj.cells #[Value.int IntKind.i64 f, Value.int IntKind.i64 t, Value.int IntKind.i64 u, Value.int IntKind.i64 z] 86)).cell? ⟨w.heap.size + 1, 3, none⟩ = some (.int .i64 z) := by rw [← hw]; simp [go_sem]
  refine bodyPost_ret (v := .agg #[.int .i64 f, .int .i64 t, .int .i64 u, .int .i64 z]) (by simp [results, Try.results76, go_sem, e0, e1, e2, e3]) rfl ⟨rfl, hB.alloc hB.size _⟩

/-- a slice of nodes of the call's own is handed back -/
def GivesDn (w : World) (l : List DN) (e : Ending) (w' : World) : Prop :=
  ∃ a cap, e = .returned (.slice a l.length cap) ∧ OwnDn w' w.heap.size (.slice a l.length cap) l ∧ Below w.heap.size w w'
theorem dn_take {S : List DN} {k : Nat} {x : DN} (h : S[k]? = some x) : S.take (k + 1) = S.take k ++ [x] := by
  obtain ⟨hlt, he⟩ := List.getElem?_eq_some_iff.1 h
  rw [List.take_succ_eq_append_getElem hlt, he]

set_option maxRecDepth 100000 in
set_option maxHeartbeats 1600000 in
theorem dto_l (a : Option Addr) (cap : Nat) (l : List DN) (w : World) (hl : l.length ≤ 4000000) (hin : InDn w a l) :
    Calls Try.prog 56 #[.slice a l.length cap] w (GivesDn w l) := by
  obtain ⟨i0, hi, hz0, hz1, hz2⟩ := dinfo_get info_dn
  have HIN := Lib.hid hin
  clear hin
  go_enter Try.func56, Try.ntmps56
  go_wp2_with (at_make; refine wpList_make_full _ rfl _ _ 37 rfl w.heap.size 86 i0 _ 4 Try.underlying37 hi hz0 hz1 .i64 .i64 _ _ l.length rfl rfl rfl rfl (by rw [hz2]; omega) (by unfold maxLen; omega) (Nat.le_refl _) ?_; intro w1 hrow hg)
  have HROW := Lib.hid hrow
  have HB1 := Lib.hid ((Below.refl w.heap.size w).grown hg (Nat.le_refl _) (fun k hk => by cases hk))
  clear hrow hg
  go_loopw [4] (fun i wr => ∃ (k : Nat) (rest : List Value), k ≤ l.length ∧ i = .int .i64 k ∧ wr.ownsRow w.heap.size 86 4 (.slice (some ⟨w.heap.size, 0, none⟩) l.length l.length) l.length (flatDn (l.take k) ++ rest) ∧ Below w.heap.size w wr) (fun i _ => l.length - (intOf i).toNat)
  case atStart => exact ⟨0, _, Nat.zero_le _, rfl, HROW.out, HB1.out⟩
  case round =>
    obtain ⟨k, rest, hk, rfl, hrow, hb⟩ := hrel
    by_cases hlt : k < l.length
    · obtain ⟨b, off, f, t, u, z, rfl, hbw, hx, hc0, hc1, hc2, hc3⟩ := HIN.out.at_ hlt
      have hcell0 : wr.cell? ⟨b, off + k * 4, none⟩ = some (.int .i64 f) := by rw [hb.cell (p := ⟨b, off + k * 4, none⟩) hbw]; exact hc0
      have hcell1 : wr.cell? ⟨b, off + k * 4 + 1, none⟩ = some (.int .i64 t) := by rw [hb.cell (p := ⟨b, off + k * 4 + 1, none⟩) hbw]; exact hc1
      have hcell2 : wr.cell? ⟨b, off + k * 4 + 2, none⟩ = some (.int .i64 u) := by rw [hb.cell (p := ⟨b, off + k * 4 + 2, none⟩) hbw]; exact hc2
      have hcell3 : wr.cell? ⟨b, off + k * 4 + 3, none⟩ = some (.int .i64 z) := by rw [hb.cell (p := ⟨b, off + k * 4 + 3, none⟩) hbw]; exact hc3
      have HROW2 := Lib.hid hrow
      have HB := Lib.hid hb
      have HX := Lib.hid hx
      have HFL := Lib.hid (show (flatDn (l.take k)).length = k * 4 by rw [flatDn_len, List.length_take]; omega)
      clear hc0 hc1 hc2 hc3 hx hrow hb hbw
      go_wp2_with (go_at_call 76; (refine (dto1 f t u z _).mono ?_); rintro e w2 ⟨rfl, hb2⟩; refine Hid.out ?_)
      refine Lib.hid ?_
      have hrow2 := World.ownsRow.kept HROW2.out (row := none) ⟨hb2.os, hb2.tape, hb2.output, hb2.size, fun i hi _ => hb2.block i hi⟩ (by simp [Value.ownBlock])
      obtain ⟨y0, y1, y2, y3, r2, rfl⟩ := gap4_rest hrow2.1 HFL.out hlt
      have q0 := hrow2.cellAt (k * 4) (by omega)
      have q1 := hrow2.cellAt (k * 4 + 1) (by omega)
      have q2 := hrow2.cellAt (k * 4 + 2) (by omega)
      have q3 := hrow2.cellAt (k * 4 + 3) (by omega)
      rw [(gap4_at HFL.out).1] at q0
      rw [(gap4_at HFL.out).2.1] at q1
      rw [(gap4_at HFL.out).2.2.1] at q2
      rw [(gap4_at HFL.out).2.2.2] at q3
      have f0 := hrow2.frozenAt (k * 4)
      have f1 := hrow2.frozenAt (k * 4 + 1)
      have f2 := hrow2.frozenAt (k * 4 + 2)
      have f3 := hrow2.frozenAt (k * 4 + 3)
      have HN := Lib.hid (hrow2.stored (k * 4) (.int .i64 f))
      have HN2 := Lib.hid (HN.out.1.stored (k * 4 + 1) (.int .i64 t))
      have HN3 := Lib.hid (HN2.out.1.stored (k * 4 + 2) (.int .i64 u))
      have HN4 := Lib.hid (HN3.out.1.stored (k * 4 + 3) (.int .i64 z))
      have HB2 := Lib.hid (HB.out.trans (hb2.mono HB.out.size))
      clear hb2 hrow2
      go_wp2
      go_roundw
      case rel =>
        have hgg := dgrown_3 (dgrown_3 (dgrown_3 HN.out.2 HN2.out.2) HN3.out.2) HN4.out.2
        refine ⟨k + 1, r2, by omega, by go_num, ?_, HB2.out.grown hgg HB2.out.size (fun j hj => by cases hj; exact Nat.le_refl _)⟩
        have h := HN4.out.1
        rw [gap4_set HFL.out] at h
        rw [dn_take HX.out, flatDn_snoc]
        exact h
      case measure => simp [intOf]; omega
    · obtain rfl : k = l.length := by omega
      have HROW2 := Lib.hid hrow
      clear hrow
      go_wp2
      go_ret
      refine ⟨_, _, rfl, ?_, hb⟩
      have h := HROW2.out
      rw [List.take_length] at h
      have h1 := h.1
      rw [List.length_append, flatDn_len] at h1
      obtain rfl : rest = [] := List.eq_nil_of_length_eq_zero (by omega)
      rw [List.append_nil] at h
      exact h

set_option maxRecDepth 100000 in
set_option maxHeartbeats 1600000 in
theorem dgto (z : Int) (a : Option Addr) (cap : Nat) (l : List DN) (w : World) (hl : l.length ≤ 4000000) (hin : InDn w a l) :
    Calls Try.prog 25 #[.agg #[.int .i64 z, .slice a l.length cap]] w fun e w' => ∃ a' cap', e = .returned (.agg #[.int .i64 z, .slice a' l.length cap']) ∧ OwnDn w' w.heap.size (.slice a' l.length cap') l ∧ Below w.heap.size w w' := by
  obtain ⟨wb, hwb⟩ : ∃ wb, wb = ((w.alloc (.cells #[.int .i64 z, .slice a l.length cap] 46)).alloc (.cells #[.int .i64 0, .slice none 0 0] 39)).alloc (.cells #[.int .i64 z, .slice none 0 0] 39) := ⟨_, rfl⟩
  have hbb : Below w.heap.size w wb := by rw [hwb]; exact (((Below.refl _ _).alloc (Nat.le_refl _) _).alloc (by simp) _).alloc (by simp; omega) _
  have hszb : wb.heap.size = w.heap.size + 1 + 1 + 1 := by rw [hwb]; simp
  have hor : BlkV wb (w.heap.size + 1) 39 #[.int .i64 0, .slice none 0 0] := by rw [hwb]; exact (BlkV.new_ _ _ _ _ (by simp)).alloc _
  have hoo : BlkV wb (w.heap.size + 1 + 1) 39 #[.int .i64 z, .slice none 0 0] := by rw [hwb]; exact BlkV.new_ _ _ _ _ (by simp)
  have HC := Lib.hid (dto_l a cap l wb hl (hin.below hbb))
  have HBR := Lib.hid hor
  have HBO := Lib.hid hoo
  have HSZ := Lib.hid hszb
  have HBA := Lib.hid hbb
  have HWB := Lib.hid hwb
  clear hin hwb hbb hszb hor hoo
  go_enter Try.func25, Try.ntmps25
  go_wp2_with (go_at_call 56; rw [← HWB.out]; (refine HC.out.mono ?_); rintro e w1 ⟨a1, c1, rfl, ho, hb⟩; refine Hid.out ?_)
  refine Lib.hid ?_
  have HO := Lib.hid ho
  have HBB := Lib.hid hb
  have q0 := (HBO.out.below hb).two0
  have q1 := (HBO.out.below hb).two1
  have f0 := (HBO.out.below hb).frozen 0
  have f1 := (HBO.out.below hb).frozen 1
  have r0 := (HBR.out.below hb).two0
  have r1 := (HBR.out.below hb).two1
  have g0 := (HBR.out.below hb).frozen 0
  have g1 := (HBR.out.below hb).frozen 1
  clear ho hb
  go_wp2
  generalize hwz : ((w1.setCell ⟨w.heap.size + 1 + 1, 1, none⟩ (.slice a1 l.length c1)).setCell ⟨w.heap.size + 1, 0, none⟩ (.int .i64 z)).setCell ⟨w.heap.size + 1, 1, none⟩ (.slice a1 l.length c1) = wz
  have hbz : BlkV wz (w.heap.size + 1) 39 #[.int .i64 z, .slice a1 l.length c1] := by rw [← hwz]; exact (((HBR.out.below HBB.out).other _ _ (by simp)).set_ 0 (.int .i64 z)).set_ 1 (.slice a1 l.length c1)
  have e0 := hbz.two0
  have e1 := hbz.two1
  have hO : OwnDn wz w.heap.size (.slice a1 l.length c1) l := by rw [← hwz]; exact (((HO.out.setCell ⟨w.heap.size + 1 + 1, 1, none⟩ _ (by rw [HSZ.out]; simp)).setCell ⟨w.heap.size + 1, 0, none⟩ _ (by rw [HSZ.out]; simp)).setCell ⟨w.heap.size + 1, 1, none⟩ _ (by rw [HSZ.out]; simp)).mono (by have := HBA.out.size; omega)
  have hB : Below w.heap.size w wz := by rw [← hwz]; exact (((HBA.out.trans (HBB.out.mono HBA.out.size)).setCell (by simp; omega) _).setCell (by simp) _).setCell (by simp) _
  refine bodyPost_ret (v := .agg #[.int .i64 z, .slice a1 l.length c1]) (by simp [results, Try.results25, go_sem, e0, e1]) rfl ⟨_, _, rfl, hO, hB⟩

/-! ### two that are the same -/
set_option maxRecDepth 100000 in
theorem deq1 (f t u z : Int) (w : World) :
    Calls Try.prog 75 #[.agg #[.int .i64 f, .int .i64 t, .int .i64 u, .int .i64 z], .agg #[.int .i64 f, .int .i64 t, .int .i64 u, .int .i64 z]] w fun e w' => e = .returned (.bool true) ∧ Below w.heap.size w w' := by
  go_enter Try.func75, Try.ntmps75
  go_wp2
  go_ret
  exact ⟨rfl, ((Below.refl _ _).alloc (Nat.le_refl _) _).alloc (by simp) _⟩

set_option maxRecDepth 100000 in
set_option maxHeartbeats 1600000 in
theorem deq_l (a1 a2 : Option Addr) (c1 c2 : Nat) (l : List DN) (w : World) (hl : l.length ≤ 4000000) (h1 : InDn w a1 l) (h2 : InDn w a2 l) :
    Calls Try.prog 50 #[.slice a1 l.length c1, .slice a2 l.length c2] w fun e w' => e = .returned (.bool true) ∧ Below w.heap.size w w' := by
  have H1 := Lib.hid h1
  have H2 := Lib.hid h2
  clear h1 h2
  go_enter Try.func50, Try.ntmps50
  go_wp2
  go_loopw [5] (fun i wr => ∃ k : Nat, k ≤ l.length ∧ i = .int .i64 k ∧ Below w.heap.size w wr) (fun i _ => l.length - (intOf i).toNat)
  case atStart => exact ⟨0, Nat.zero_le _, rfl, Below.refl _ _⟩
  case round =>
    obtain ⟨k, hk, rfl, hb⟩ := hrel
    have HB := Lib.hid hb
    clear hb
    by_cases hlt : k < l.length
    · obtain ⟨b1, o1, f, t, u, z, rfl, hb1, hx, p0, p1, p2, p3⟩ := H1.out.at_ hlt
      obtain ⟨b2, o2, f', t', u', z', rfl, hb2, hx', q0, q1, q2, q3⟩ := H2.out.at_ hlt
      rw [hx] at hx'
      injection hx' with hx'
      injection hx' with e1 e3
      injection e1 with e1 e2
      injection e3 with e3 e4
      subst e1 e2 e3 e4
      have g0 : wr.cell? ⟨b1, o1 + k * 4, none⟩ = some (.int .i64 f) := by rw [HB.out.cell (p := ⟨b1, o1 + k * 4, none⟩) hb1]; exact p0
      have g1 : wr.cell? ⟨b1, o1 + k * 4 + 1, none⟩ = some (.int .i64 t) := by rw [HB.out.cell (p := ⟨b1, o1 + k * 4 + 1, none⟩) hb1]; exact p1
      have g2 : wr.cell? ⟨b1, o1 + k * 4 + 2, none⟩ = some (.int .i64 u) := by rw [HB.out.cell (p := ⟨b1, o1 + k * 4 + 2, none⟩) hb1]; exact p2
      have g3 : wr.cell? ⟨b1, o1 + k * 4 + 3, none⟩ = some (.int .i64 z) := by rw [HB.out.cell (p := ⟨b1, o1 + k * 4 + 3, none⟩) hb1]; exact p3
      have g4 : wr.cell? ⟨b2, o2 + k * 4, none⟩ = some (.int .i64 f) := by rw [HB.out.cell (p := ⟨b2, o2 + k * 4, none⟩) hb2]; exact q0
      have g5 : wr.cell? ⟨b2, o2 + k * 4 + 1, none⟩ = some (.int .i64 t) := by rw [HB.out.cell (p := ⟨b2, o2 + k * 4 + 1, none⟩) hb2]; exact q1
      have g6 : wr.cell? ⟨b2, o2 + k * 4 + 2, none⟩ = some (.int .i64 u) := by rw [HB.out.cell (p := ⟨b2, o2 + k * 4 + 2, none⟩) hb2]; exact q2
      have g7 : wr.cell? ⟨b2, o2 + k * 4 + 3, none⟩ = some (.int .i64 z) := by rw [HB.out.cell (p := ⟨b2, o2 + k * 4 + 3, none⟩) hb2]; exact q3
      have HM := Lib.hid (fun W : World => deq1 f t u z W)
      clear hx p0 p1 p2 p3 q0 q1 q2 q3 hb1 hb2
      go_wp2
      go_region_with (go_at_call 75; refine (HM.out _).mono ?_; rintro e w1 ⟨rfl, hb1⟩; have HB1 := Lib.hid hb1; clear hb1)
      all_goals go_wp2
      all_goals go_roundw
      all_goals first
        | (case rel => exact ⟨k + 1, by omega, by go_num, (HB.out.drew).trans (HB1.out.mono HB.out.size)⟩)
        | skip
      all_goals (simp [intOf]; omega)
    · obtain rfl : k = l.length := by omega
      go_wp2
      go_ret
      exact ⟨rfl, HB.out⟩

set_option maxRecDepth 100000 in
theorem dgeq (z : Int) (a1 a2 : Option Addr) (c1 c2 : Nat) (l : List DN) (w : World) (hl : l.length ≤ 4000000) (h1 : InDn w a1 l) (h2 : InDn w a2 l) :
    Calls Try.prog 20 #[.agg #[.int .i64 z, .slice a1 l.length c1], .agg #[.int .i64 z, .slice a2 l.length c2]] w fun e w' => e = .returned (.bool true) ∧ Below w.heap.size w w' := by
  have HC := Lib.hid (fun (W : World) (hW : Below w.heap.size w W) => deq_l a1 a2 c1 c2 l W hl (h1.below hW) (h2.below hW))
  clear h1 h2
  go_enter Try.func20, Try.ntmps20
  go_wp2_with (go_at_call 50; refine (HC.out _ (((Below.refl _ _).alloc (Nat.le_refl _) _).alloc (by simp) _)).mono ?_; rintro e w1 ⟨rfl, hb1⟩; have HB1 := Lib.hid hb1; clear hb1)
  go_ret
  exact ⟨rfl, (((Below.refl _ _).alloc (Nat.le_refl _) _).alloc (by simp) _).trans (HB1.out.mono (by simp; omega))⟩

end Go.Proofs.Ytookcggmapldeaa
