/-
  Texts laid together: PrS, PrA. By an AI agent.
-/
import Derived.Test.YtebddnjccmaimaaGreatDoorGMem
import Derived.Deep.RegionWith
import Derived.Test.YtebddnjccmaimaaGreatDoorGPlain
import Derived.Laws.StructEq
import Derived.WalkLawsBesides
import Derived.Deep.RegionLaw
/-
  Slices of pairs of identifiers: one that reads as a list, one of the call's own; what the laws' own eqIDPairS, markIDPairS and heldIDPairS do. By an AI agent.
-/
namespace Go.Proofs.YtebddnjccmaimaaGreatDoor
open Go.RowKit
set_option linter.unusedVariables false

abbrev IP := Int × Int
def encP (x : IP) : List Value := [.int .i64 x.1, .int .i64 x.2]
def flatP (l : List IP) : List Value := l.flatMap encP
theorem flatP_len (l : List IP) : (flatP l).length = l.length * 2 := by
  induction l with
  | nil => rfl
  | cons x l ih =>
    have e : flatP (x :: l) = encP x ++ flatP l := by simp [flatP]
    rw [e, List.length_append, ih, List.length_cons]
    show 2 + l.length * 2 = _
    omega
theorem flatP_snoc (l : List IP) (x : IP) : flatP (l ++ [x]) = flatP l ++ encP x := by simp [flatP]
theorem flatP_at : ∀ {l : List IP} {j : Nat} {x : IP}, l[j]? = some x → (flatP l)[j * 2]? = some (.int .i64 x.1) ∧ (flatP l)[j * 2 + 1]? = some (.int .i64 x.2)
  | [], j, x, h => by simp at h
  | y :: l, j, x, h => by
    have e : flatP (y :: l) = .int .i64 y.1 :: .int .i64 y.2 :: flatP l := by simp [flatP, encP]
    rw [e]
    cases j with
    | zero =>
      simp at h
      subst h
      exact ⟨rfl, rfl⟩
    | succ j =>
      have h1 : l[j]? = some x := by simpa using h
      have h2 := flatP_at h1
      rw [show (j + 1) * 2 = j * 2 + 1 + 1 by omega]
      exact h2

/-- a slice whose elements are the pairs of a list -/
def InP (w : World) (a : Option Addr) (l : List IP) : Prop :=
  0 < l.length → ∃ b off, a = some ⟨b, off, none⟩ ∧ b < w.heap.size ∧ ∀ j x, l[j]? = some x → w.cell? ⟨b, off + j * 2, none⟩ = some (.int .i64 x.1) ∧ w.cell? ⟨b, off + j * 2 + 1, none⟩ = some (.int .i64 x.2)
theorem InP.below {w w' : World} {a : Option Addr} {l : List IP} (h : InP w a l) (hb : Below w.heap.size w w') : InP w' a l := by
  intro h0
  obtain ⟨b, off, ha, hlt, hc⟩ := h h0
  have hk := hb.block b hlt
  exact ⟨b, off, ha, Nat.lt_of_lt_of_le hlt hb.size, fun j x hj => ⟨(World.cell?_of_block hk).trans (hc j x hj).1, (World.cell?_of_block hk).trans (hc j x hj).2⟩⟩

/-- a slice of the call's own -/
def OwnP (w : World) (base : Nat) (v : Value) (l : List IP) : Prop := w.ownsRow base 34 2 v l.length (flatP l)
theorem info_ip : (Tryz.prog.info? 34).map (fun i => (i.zero, i.size, i.bytes)) = some (some (.agg #[.int .i64 0, .int .i64 0]), 2, 16) := by kernel_rfl
theorem OwnP.shape {w : World} {base : Nat} {v : Value} {l : List IP} (h : OwnP w base v l) : ∃ a cap, v = .slice a l.length cap := by
  rcases h.2 with ⟨rfl, h0⟩ | ⟨g, cap, cur, rfl, _⟩
  · exact ⟨none, 0, by rw [h0]⟩
  · exact ⟨_, _, rfl⟩
theorem OwnP.inP {w : World} {base : Nat} {a : Option Addr} {n cap : Nat} {l : List IP} (h : OwnP w base (.slice a n cap) l) : InP w a l := by
  intro h0
  obtain ⟨a', cap', e⟩ := h.shape
  injection e with e1 e2 e3
  subst e2
  obtain ⟨g, rfl, _, hg, hc⟩ := rowX_at h h0
  refine ⟨g, 0, rfl, hg, fun j x hj => ?_⟩
  obtain ⟨h1, h2⟩ := flatP_at hj
  exact ⟨hc _ _ h1, by rw [Nat.add_assoc]; exact hc _ _ h2⟩
theorem OwnP.below {w w' : World} {base : Nat} {v : Value} {l : List IP} (h : OwnP w base v l) (hb : Below w.heap.size w w') : OwnP w' base v l :=
  World.ownsRow.kept h (row := none) ⟨hb.os, hb.tape, hb.output, hb.size, fun i hi _ => hb.block i hi⟩ (by cases hv : v.ownBlock <;> simp)
theorem OwnP.mono {w : World} {base base' : Nat} {v : Value} {l : List IP} (h : OwnP w base v l) (hb : base' ≤ base) : OwnP w base' v l := row_mono h hb
theorem OwnP.nil (w : World) (base : Nat) : OwnP w base (.slice none 0 0) [] := World.ownsRow_nil _ _ _ _
theorem OwnP.len_le {w : World} {base : Nat} {v : Value} {l : List IP} (h : OwnP w base v l) : l.length ≤ maxLen := by
  rcases h.2 with ⟨_, h1⟩ | ⟨g, cap', cur, hv, hb, hg, h2, h3, _, ht⟩
  · omega
  · omega

/-- a slice of the call's own is handed back -/
def GivesP (w : World) (l : List IP) (e : Ending) (w' : World) : Prop :=
  ∃ a cap, e = .returned (.slice a l.length cap) ∧ OwnP w' w.heap.size (.slice a l.length cap) l ∧ Below w.heap.size w w'
theorem GivesP.mk {w w' : World} {v : Value} {l : List IP} (h : OwnP w' w.heap.size v l) (hb : Below w.heap.size w w') : GivesP w l (.returned v) w' := by
  obtain ⟨a, cap, rfl⟩ := h.shape
  exact ⟨a, cap, rfl, h, hb⟩
/-- .. in blocks from lo on and below hi -/
def OwnHP (w : World) (lo hi : Nat) (v : Value) (l : List IP) : Prop := OwnP w lo v l ∧ ∀ k, v.ownBlock = some k → k < hi
theorem OwnHP.of {w w' : World} {a : Option Addr} {n cap : Nat} {l : List IP} (h : OwnP w' w.heap.size (.slice a n cap) l) : OwnHP w' w.heap.size w'.heap.size (.slice a n cap) l :=
  ⟨h, fun k hk => (World.ownsRow.lt h k hk).2⟩
theorem OwnHP.below {w w' : World} {lo hi : Nat} {v : Value} {l : List IP} (h : OwnHP w lo hi v l) (hb : Below w.heap.size w w') : OwnHP w' lo hi v l := ⟨h.1.below hb, h.2⟩
theorem OwnHP.inP {w : World} {lo hi : Nat} {a : Option Addr} {n cap : Nat} {l : List IP} (h : OwnHP w lo hi (.slice a n cap) l) : InP w a l := h.1.inP
theorem OwnHP.chg {w w' : World} {lo hi lo' hi' : Nat} {v : Value} {l : List IP} (h : OwnHP w lo hi v l) (hc : Chg w w' lo' hi') (hd : hi ≤ lo' ∨ hi' ≤ lo) : OwnHP w' lo hi v l :=
  ⟨row_chg h.1 hc fun k hk => by have := (World.ownsRow.lt h.1 k hk).1; have := h.2 k hk; omega, h.2⟩

set_option maxRecDepth 100000 in
theorem peq_one (x y : Int) (w : World) :
    Calls Tryz.prog 76 #[.agg #[.int .i64 x, .int .i64 y], .agg #[.int .i64 x, .int .i64 y]] w fun e w' => e = .returned (.bool true) ∧ Below w.heap.size w w' := by
  go_enter Tryz.func76, Tryz.ntmps76
  go_wp2
  go_ret
  exact ⟨rfl, ((Below.refl _ _).alloc (Nat.le_refl _) _).alloc (by simp) _⟩

set_option maxRecDepth 100000 in
theorem peq_same (a1 a2 : Option Addr) (c1 c2 : Nat) (l : List IP) (w : World) (hl : l.length ≤ maxLen) (h1 : InP w a1 l) (h2 : InP w a2 l) :
    Calls Tryz.prog 38 #[.slice a1 l.length c1, .slice a2 l.length c2] w fun e w' => e = .returned (.bool true) ∧ Below w.heap.size w w' := by
  unfold maxLen at hl
  have H1 := Lib.hid h1
  have H2 := Lib.hid h2
  clear h1 h2
  go_enter Tryz.func38, Tryz.ntmps38
  go_wp2
  go_loopw [5] (fun i wr => ∃ k : Nat, k ≤ l.length ∧ i = .int .i64 k ∧ Below w.heap.size w wr) (fun i _ => l.length - (intOf i).toNat)
  case atStart => exact ⟨0, Nat.zero_le _, rfl, Below.refl _ _⟩
  case round =>
    obtain ⟨k, hk, rfl, hb⟩ := hrel
    have HB := Lib.hid hb
    clear hb
    by_cases hlt : k < l.length
    · obtain ⟨b1, o1, rfl, hb1, hc1⟩ := H1.out (by omega)
      obtain ⟨b2, o2, rfl, hb2, hc2⟩ := H2.out (by omega)
      have hx := List.getElem?_eq_getElem hlt
      obtain ⟨p0, p1⟩ := hc1 k _ hx
      obtain ⟨q0, q1⟩ := hc2 k _ hx
      have g0 : wr.cell? ⟨b1, o1 + k * 2, none⟩ = some (.int .i64 l[k].1) := by rw [HB.out.cell (p := ⟨b1, o1 + k * 2, none⟩) hb1]; exact p0
      have g1 : wr.cell? ⟨b1, o1 + k * 2 + 1, none⟩ = some (.int .i64 l[k].2) := by rw [HB.out.cell (p := ⟨b1, o1 + k * 2 + 1, none⟩) hb1]; exact p1
      have g2 : wr.cell? ⟨b2, o2 + k * 2, none⟩ = some (.int .i64 l[k].1) := by rw [HB.out.cell (p := ⟨b2, o2 + k * 2, none⟩) hb2]; exact q0
      have g3 : wr.cell? ⟨b2, o2 + k * 2 + 1, none⟩ = some (.int .i64 l[k].2) := by rw [HB.out.cell (p := ⟨b2, o2 + k * 2 + 1, none⟩) hb2]; exact q1
      have HM := Lib.hid (fun W : World => peq_one l[k].1 l[k].2 W)
      generalize l[k].1 = y at g0 g2 HM
      generalize l[k].2 = z at g1 g3 HM
      clear hc1 hc2 hx p0 p1 q0 q1 hb1 hb2
      go_wp2
      go_region_with (go_at_call 76; refine (HM.out _).mono ?_; rintro e w1 ⟨rfl, hb1⟩; have HB1 := Lib.hid hb1; clear hb1)
      all_goals go_wp2
      all_goals go_roundw
      all_goals first
        | (case rel => exact ⟨k + 1, by omega, by go_num, (HB.out.drew).trans (HB1.out.mono HB.out.size)⟩)
        | skip
      all_goals (simp [intOf]; omega)
    · obtain rfl : k = l.length := by omega
      go_wp2
      go_ret
      exact ⟨rfl, HB.out⟩

def pmarks (k0 n : Nat) : List IP := (List.range n).map fun j => (((k0 + 2 * j : Nat) : Int), ((k0 + 2 * j + 1 : Nat) : Int))
theorem pmarks_len (k0 n : Nat) : (pmarks k0 n).length = n := by simp [pmarks]
theorem pmarks_succ (k0 n : Nat) : pmarks k0 (n + 1) = pmarks k0 n ++ [(((k0 + 2 * n : Nat) : Int), ((k0 + 2 * n + 1 : Nat) : Int))] := by simp [pmarks, List.range_succ]
theorem pmarks_at {k0 n j : Nat} (h : j < n) : (pmarks k0 n)[j]? = some (((k0 + 2 * j : Nat) : Int), ((k0 + 2 * j + 1 : Nat) : Int)) := by simp [pmarks, h]
theorem gapP_at {p : List IP} {k : Nat} {y0 y1 : Value} {r : List Value} (hp : p.length = k) : (flatP p ++ y0 :: y1 :: r)[k * 2]? = some y0 ∧ (flatP p ++ y0 :: y1 :: r)[k * 2 + 1]? = some y1 := by
  have h : (flatP p).length = k * 2 := by rw [flatP_len, hp]
  constructor
  · rw [List.getElem?_append_right (by omega), h, Nat.sub_self]; rfl
  · rw [List.getElem?_append_right (by omega), h, show k * 2 + 1 - k * 2 = 1 by omega]; rfl
theorem gapP_set0 {p : List IP} {k : Nat} {y0 y1 u : Value} {r : List Value} (hp : p.length = k) : (flatP p ++ y0 :: y1 :: r).set (k * 2) u = flatP p ++ u :: y1 :: r := by
  have h : (flatP p).length = k * 2 := by rw [flatP_len, hp]
  rw [List.set_append_right _ _ (by omega), h, Nat.sub_self]; rfl
theorem gapP_set1 {p : List IP} {k : Nat} {y0 y1 u : Value} {r : List Value} (hp : p.length = k) : (flatP p ++ y0 :: y1 :: r).set (k * 2 + 1) u = flatP p ++ y0 :: u :: r := by
  have h : (flatP p).length = k * 2 := by rw [flatP_len, hp]
  rw [List.set_append_right _ _ (by omega), h, show k * 2 + 1 - k * 2 = 1 by omega]; rfl
theorem flatP_drop {l : List IP} {k : Nat} (h : k < l.length) : flatP (l.drop k) = .int .i64 l[k].1 :: .int .i64 l[k].2 :: flatP (l.drop (k + 1)) := by
  unfold flatP
  rw [List.drop_eq_getElem_cons h, List.flatMap_cons]
  rfl

set_option maxRecDepth 100000 in
theorem pmark_any (base : Nat) (a : Option Addr) (cap : Nat) (l : List IP) (k0 : Nat) (w : World) (hl : l.length ≤ 4000000) (hk0 : 0 < k0) (hk1 : k0 ≤ 4000000) (hown : OwnP w base (.slice a l.length cap) l) :
    Calls Tryz.prog 39 #[.slice a l.length cap, .int .i64 k0] w fun e w' => e = .returned (.int .i64 ((k0 + 2 * l.length : Nat) : Int)) ∧ OwnP w' base (.slice a l.length cap) (pmarks k0 l.length) ∧ w.grownBy w' (Value.slice a l.length cap).ownBlock := by
  have HOWN := Lib.hid hown
  clear hown
  go_enter Tryz.func39, Tryz.ntmps39
  go_wp2
  go_loopw [1, 5] (fun kk i wr => ∃ k : Nat, k ≤ l.length ∧ i = .int .i64 k ∧ kk = .int .i64 ((k0 + 2 * k : Nat) : Int) ∧ wr.ownsRow base 34 2 (.slice a l.length cap) l.length (flatP (pmarks k0 k) ++ flatP (l.drop k)) ∧ w.grownBy wr (Value.slice a l.length cap).ownBlock) (fun _ i _ => l.length - (intOf i).toNat)
  case atStart => exact ⟨0, Nat.zero_le _, rfl, by go_num, HOWN.out, World.grownBy.refl _ _⟩
  case round =>
    obtain ⟨k, hk, rfl, rfl, hrow, hg⟩ := hrel
    have HG := Lib.hid hg
    clear hg
    by_cases hlt : k < l.length
    · obtain ⟨g, rfl, hbg, hgl, -⟩ := rowX_at hrow (by omega)
      have HGL := Lib.hid hgl
      clear hgl hbg
      rw [flatP_drop hlt] at hrow
      have q0 := hrow.cellAt (k * 2) (by omega)
      have q1 := hrow.cellAt (k * 2 + 1) (by omega)
      rw [(gapP_at (pmarks_len k0 k)).1] at q0
      rw [(gapP_at (pmarks_len k0 k)).2] at q1
      have f0 := hrow.frozenAt (k * 2)
      have f1 := hrow.frozenAt (k * 2 + 1)
      have HN := Lib.hid (hrow.stored (k * 2) (.int .i64 ((k0 + 2 * k : Nat) : Int)))
      have HN2 := Lib.hid (HN.out.1.stored (k * 2 + 1) (.int .i64 ((k0 + 2 * k + 1 : Nat) : Int)))
      clear hrow
      generalize l[k].1 = y at q0 HN HN2
      generalize l[k].2 = z at q1 HN HN2
      go_wp2
      go_roundw
      case rel =>
        refine ⟨k + 1, by omega, by go_num, by go_num, ?_, ?_⟩
        · have h := HN2.out.1
          rw [gapP_set0 (pmarks_len k0 k), gapP_set1 (pmarks_len k0 k)] at h
          rw [pmarks_succ, flatP_snoc, List.append_assoc]
          exact h
        · exact grown_trans' (grown_trans' HG.out HN.out.2) HN2.out.2
      case measure => simp [intOf]; omega
    · obtain rfl : k = l.length := by omega
      have HROW := Lib.hid hrow
      clear hrow
      go_wp2
      go_ret
      refine ⟨rfl, ?_, HG.out⟩
      have h := HROW.out
      rw [List.drop_length, show flatP [] = [] from rfl, List.append_nil] at h
      unfold OwnP
      rw [pmarks_len]
      exact h

set_option maxRecDepth 100000 in
theorem pheld_any (a : Option Addr) (cap n k0 : Nat) (w : World) (hl : n ≤ 4000000) (hk0 : 0 < k0) (hk1 : k0 ≤ 4000000) (hin : InP w a (pmarks k0 n)) :
    Calls Tryz.prog 40 #[.slice a n cap, .int .i64 k0] w fun e w' => e = .returned (.int .i64 ((k0 + 2 * n : Nat) : Int)) ∧ Below w.heap.size w w' := by
  have HIN := Lib.hid hin
  clear hin
  go_enter Tryz.func40, Tryz.ntmps40
  go_wp2
  go_loopw [1, 5] (fun kk i wr => ∃ k : Nat, k ≤ n ∧ i = .int .i64 k ∧ kk = .int .i64 ((k0 + 2 * k : Nat) : Int) ∧ Below w.heap.size w wr) (fun _ i _ => n - (intOf i).toNat)
  case atStart => exact ⟨0, Nat.zero_le _, rfl, by go_num, Below.refl _ _⟩
  case round =>
    obtain ⟨k, hk, rfl, rfl, hb⟩ := hrel
    have HB := Lib.hid hb
    clear hb
    by_cases hlt : k < n
    · obtain ⟨b, off, rfl, hbw, hc⟩ := HIN.out (by rw [pmarks_len]; omega)
      obtain ⟨p0, p1⟩ := hc k _ (pmarks_at hlt)
      have g0 : wr.cell? ⟨b, off + k * 2, none⟩ = some (.int .i64 ((k0 + 2 * k : Nat) : Int)) := by rw [HB.out.cell (p := ⟨b, off + k * 2, none⟩) hbw]; exact p0
      have g1 : wr.cell? ⟨b, off + k * 2 + 1, none⟩ = some (.int .i64 ((k0 + 2 * k + 1 : Nat) : Int)) := by rw [HB.out.cell (p := ⟨b, off + k * 2 + 1, none⟩) hbw]; exact p1
      clear hc p0 p1 hbw
      go_wp2
      go_roundw
      case rel => exact ⟨k + 1, by omega, by go_num, by go_num, HB.out⟩
      case measure => simp [intOf]; omega
    · obtain rfl : k = n := by omega
      go_wp2
      go_ret
      exact ⟨rfl, HB.out⟩

end Go.Proofs.YtebddnjccmaimaaGreatDoor

/-
  Slices of pairs of identifiers: append, parts, comparison of two pairs. By an AI agent.
-/
namespace Go.Proofs.YtebddnjccmaimaaGreatDoor
open Go.RowKit
set_option linter.unusedVariables false

theorem flatP_app (l m : List IP) : flatP (l ++ m) = flatP l ++ flatP m := by simp [flatP]
theorem addr_add (b off j : Nat) : (⟨b, off, none⟩ : Addr).add j = ⟨b, off + j, none⟩ := by unfold Addr.add; split <;> simp_all
theorem inP_cells {w : World} {b off : Nat} {l : List IP} (h : InP w (some ⟨b, off, none⟩) l) : ∀ (j : Nat) (u : Value), (flatP l)[j]? = some u → w.cell? ((⟨b, off, none⟩ : Addr).add j) = some u := by
  intro j u hj
  have hlt := (List.getElem?_eq_some_iff.1 hj).1
  rw [flatP_len] at hlt
  obtain ⟨b', off', e, _, hc⟩ := h (by omega)
  injection e with e
  injection e with e1 e2
  subst e1 e2
  have hx := List.getElem?_eq_getElem (show j / 2 < l.length by omega)
  obtain ⟨h0, h1⟩ := flatP_at hx
  obtain ⟨c0, c1⟩ := hc _ _ hx
  rw [addr_add]
  rcases Nat.mod_two_eq_zero_or_one j with h2 | h2
  · have ej : j / 2 * 2 = j := by omega
    rw [ej] at h0 c0
    rw [h0] at hj
    rw [c0, hj]
  · have ej : j / 2 * 2 + 1 = j := by omega
    rw [ej] at h1
    rw [Nat.add_assoc, ej] at c1
    rw [h1] at hj
    rw [c1, hj]
theorem flatP_one (l : List IP) : ∀ u ∈ flatP l, u.oneCell' = true := by
  intro u hu
  unfold flatP at hu
  rw [List.mem_flatMap] at hu
  obtain ⟨x, _, h⟩ := hu
  unfold encP at h
  rcases List.mem_cons.1 h with rfl | h
  · rfl
  · rcases List.mem_cons.1 h with rfl | h
    · rfl
    · cases h
theorem OwnP.none_cap {w : World} {base : Nat} {a : Option Addr} {n cap : Nat} {l : List IP} (h : OwnP w base (.slice a n cap) l) : a = none → cap = 0 := by
  obtain ⟨a', cap', e⟩ := h.shape
  injection e with e1 e2 e3
  subst e2
  exact rowX_none h
theorem OwnP.cap_ge {w : World} {base : Nat} {a : Option Addr} {n cap : Nat} {l : List IP} (h : OwnP w base (.slice a n cap) l) : l.length ≤ cap := by
  obtain ⟨a', cap', e⟩ := h.shape
  injection e with e1 e2 e3
  subst e2
  exact rowX_cap h
theorem OwnP.alloc {w : World} {base : Nat} {v : Value} {l : List IP} (h : OwnP w base v l) (o : Obj) : OwnP (w.alloc o) base v l := h.below ((Below.refl _ _).alloc (Nat.le_refl _) o)
theorem OwnP.new (w : World) (base g : Nat) (hg : w.heap.size = g) (hb : base ≤ g) : OwnP (w.alloc (.cells #[] 34)) base (.slice (some ⟨g, 0, none⟩) 0 0) [] := by
  subst hg
  exact World.ownsRow_made w #[] 0 hb (Nat.zero_le _) (by simp)
theorem InP.grown {w w' : World} {a : Option Addr} {l : List IP} {r : Option Nat} (h : InP w a l) (hg : w.grownBy w' r) (hne : ∀ b off, a = some ⟨b, off, none⟩ → some b ≠ r) : InP w' a l := by
  intro h0
  obtain ⟨b, off, ha, hlt, hc⟩ := h h0
  have hk := hg.block b hlt (hne b off ha)
  exact ⟨b, off, ha, Nat.lt_of_lt_of_le hlt hg.size, fun j x hj => ⟨(World.cell?_of_block hk).trans (hc j x hj).1, (World.cell?_of_block hk).trans (hc j x hj).2⟩⟩
theorem InP.empty (w : World) (a : Option Addr) {l : List IP} (h : l.length = 0) : InP w a l := fun h0 => absurd h0 (by omega)
theorem InP.take' {w : World} {a : Option Addr} {l : List IP} (h : InP w a l) (k : Nat) : InP w a (l.take k) := by
  intro h0
  obtain ⟨b', off', e, hb, hc⟩ := h (by rw [List.length_take] at h0; omega)
  refine ⟨b', off', e, hb, fun j x hj => hc j x ?_⟩
  rw [List.getElem?_take] at hj
  split at hj
  · exact hj
  · cases hj
theorem InP.drop0 {w : World} {b : Nat} {l : List IP} (h : InP w (some ⟨b, 0, none⟩) l) (k : Nat) : InP w (some ⟨b, k * 2, none⟩) (l.drop k) := by
  intro h0
  obtain ⟨b', off', e, hb, hc⟩ := h (by rw [List.length_drop] at h0; omega)
  injection e with e
  injection e with e1 e2
  subst e1 e2
  refine ⟨b, k * 2, rfl, hb, fun j x hj => ?_⟩
  rw [List.getElem?_drop] at hj
  have h1 := hc (k + j) x hj
  rw [Nat.zero_add, Nat.add_mul] at h1
  exact h1
theorem in_oneP (w : World) (g : Nat) (x y : Int) (hg : w.heap.size = g) : InP (w.alloc (.cells #[.int .i64 x, .int .i64 y] 34)) (some ⟨g, 0, none⟩) [(x, y)] := by
  subst hg
  intro _
  refine ⟨w.heap.size, 0, rfl, by simp, fun j p hj => ?_⟩
  cases j with
  | zero =>
    simp at hj
    subst hj
    rw [World.cell?_alloc_at _ _ _ _ rfl, World.cell?_alloc_at _ _ _ _ rfl]
    exact ⟨rfl, rfl⟩
  | succ j => simp at hj

/-- append of a slice that reads as a list of pairs to one of the call's own -/
theorem run_appP (ty : TypeId) (base : Nat) (v : Value) (l : List IP) (w : World) (hown : OwnP w base v l) (a : Option Addr) (c : Nat) (ms : List IP) (hin : InP w a ms) (hn : a = none → c = 0) (hsz : l.length + ms.length ≤ 4000000) (hbase : base ≤ w.heap.size) :
    ∃ v' w', (Builtin.append_ #[27, 27] ty #[v, .slice a ms.length c]).run Tryz.prog w = .ok v' w' ∧ OwnP w' base v' (l ++ ms) ∧ w.grownBy w' v.ownBlock := by
  obtain ⟨i0, hi, hz0, hz1, hz2⟩ := info_parts info_ip
  cases a with
  | none =>
    obtain rfl : ms = [] := by
      rcases Nat.eq_zero_or_pos ms.length with h | h
      · exact List.eq_nil_of_length_eq_zero h
      · obtain ⟨_, _, h2, _⟩ := hin h
        cases h2
    rw [hn rfl]
    refine ⟨v, w, run_append_owned_none (P := Tryz.prog) (w := w) base 27 ty 34 i0 2 Tryz.underlying27 hi v l.length (flatP l) hown, ?_, World.grownBy.refl _ _⟩
    rw [List.append_nil]
    exact hown
  | some ad =>
    have hsp : 0 < ms.length → ∃ b off, ad = ⟨b, off, none⟩ := fun h0 => by
      obtain ⟨b, off, e, _⟩ := hin h0
      exact ⟨b, off, Option.some.inj e⟩
    obtain ⟨v', w', h1, h2, h3, -⟩ := run_append_own (P := Tryz.prog) w base 27 ty 34 i0 _ 2 16 Tryz.underlying27 hi hz0 hz1 hz2 rfl (by decide) v l.length (flatP l) hown
      ad ms.length c (flatP ms) (flatP_len ms) (fun j u hj => by
        have hlt := (List.getElem?_eq_some_iff.1 hj).1
        rw [flatP_len] at hlt
        obtain ⟨b, off, rfl⟩ := hsp (by omega)
        exact inP_cells hin j u hj) (flatP_one ms) (by unfold maxLen; omega) (by omega) hbase
    refine ⟨v', w', h1, ?_, h3⟩
    unfold OwnP
    rw [List.length_append, flatP_app]
    exact h2
theorem step_appP {ops : Array Oper} {o : Oper} {a : Act} {w : World} {K : Act → World → Prop} {Q : Exit → Act → World → Prop} {E : Prop}
    (hg : o.guard = none) (s x : Operand) (hop : o.op = Op.call { callee := Callee.builtin Builtin.append, args := #[s, x], argTypes := #[27, 27] })
    (base : Nat) (v : Value) (l : List IP) (hs : a.eval s = v) (ad : Option Addr) (m c : Nat) (ms : List IP) (hx : a.eval x = .slice ad m c) (hm : m = ms.length)
    (hown : OwnP w base v l) (hin : InP w ad ms) (hn : ad = none → c = 0) (hsz : l.length + ms.length ≤ 4000000) (hbase : base ≤ w.heap.size)
    (hK : ∀ v' w', OwnP w' base v' (l ++ ms) → w.grownBy w' v.ownBlock → K (a.put o.dst v') w') :
    if Region.wanted o (yielded ops a.tmps) = true then Oper.wp Tryz.prog o a w K Q else E := by
  subst hm
  rw [if_pos (by simp [Region.wanted, hg])]
  obtain ⟨v', w', hrun, h1, h2⟩ := run_appP o.type base v l w hown ad c ms hin hn hsz hbase
  unfold Oper.wp
  simp [execOp, hop, resolve, invoke, builtin, hs, hx, hrun, Result.andThen]
  exact hK v' w' h1 h2
theorem grownP_old {w0 w w' : World} {base : Nat} {v : Value} {l : List IP} (hb : Below w0.heap.size w0 w) (hg : w.grownBy w' v.ownBlock) (ho : OwnP w base v l) (hbase : w0.heap.size ≤ base) : Below w0.heap.size w0 w' :=
  hb.grown hg hb.size fun k hk => Nat.le_trans hbase (World.ownsRow.lt ho k hk).1

/-- what is handed back: a slice of the caller's own -/
def PutsP (w : World) (base : Nat) (l : List IP) (e : Ending) (w' : World) : Prop :=
  ∃ a cap, e = .returned (.slice a l.length cap) ∧ OwnP w' base (.slice a l.length cap) l ∧ Below w.heap.size w w'
theorem PutsP.mk {w w' : World} {base : Nat} {v : Value} {l : List IP} (h : OwnP w' base v l) (hb : Below w.heap.size w w') : PutsP w base l (.returned v) w' := by
  obtain ⟨a, cap, rfl⟩ := h.shape
  exact ⟨a, cap, rfl, h, hb⟩

/-! ### two pairs held against each other -/
theorem same_ip (x y z u : Int) (r : Bool) (hr : (x == z && y == u) = r) (w : World) : (Op.equalIn 10000 34 (.agg #[.int .i64 x, .int .i64 y]) (.agg #[.int .i64 z, .int .i64 u])).run Tryz.prog w = .ok r w := by
  rw [run_equalIn_agg w 9999 _ _ _ (by kernel_rfl) (by kernel_rfl)]
  subst hr
  by_cases h1 : x = z
  · by_cases h2 : y = u
    · simp [go_sem, Program.fieldsOf, Tryz.underlying34, Tryz.underlying3, h1, h2]
    · simp [go_sem, Program.fieldsOf, Tryz.underlying34, Tryz.underlying3, h1, h2]
  · simp [go_sem, Program.fieldsOf, Tryz.underlying34, Tryz.underlying3, h1]
theorem eql_ip (x y z u : Int) (r : Bool) (hr : (x == z && y == u) = r) (w : World) : (binOp .eql 34 (.agg #[.int .i64 x, .int .i64 y]) (.agg #[.int .i64 z, .int .i64 u])).run Tryz.prog w = .ok (.bool r) w := by
  rw [run_eql_struct, same_ip x y z u r hr]
  rfl
theorem neql_ip (x y z u : Int) (r : Bool) (hr : (x == z && y == u) = r) (w : World) : (binOp .neq 34 (.agg #[.int .i64 x, .int .i64 y]) (.agg #[.int .i64 z, .int .i64 u])).run Tryz.prog w = .ok (.bool (!r)) w := by
  rw [run_neq_struct, same_ip x y z u r hr]
  rfl
theorem geql_ip (x y : Operand) (xs ys : Array Value) (w : World) : (eqGuard .eql 34 x y (.agg xs) (.agg ys)).run Tryz.prog w = .ok () w :=
  run_eqGuard_agg w _ _ _ _ _ _ (by kernel_rfl)
theorem gneq_ip (x y : Operand) (xs ys : Array Value) (w : World) : (eqGuard .neq 34 x y (.agg xs) (.agg ys)).run Tryz.prog w = .ok () w :=
  run_eqGuard_agg w _ _ _ _ _ _ (by kernel_rfl)
theorem same_bool {p q : IQ} {r : Bool} (hr : (p.1 == q.1 && p.2 == q.2) = r) : r = decide (p = q) := by
  subst hr
  by_cases h : p = q
  · subst h; simp
  · have h2 : ¬ (p.1 = q.1 ∧ p.2 = q.2) := fun e => h (Prod.ext e.1 e.2)
    rw [decide_eq_false h]
    cases h3 : (p.1 == q.1 && p.2 == q.2) with
    | false => rfl
    | true => simp at h3; exact absurd h3 h2

end Go.Proofs.YtebddnjccmaimaaGreatDoor

