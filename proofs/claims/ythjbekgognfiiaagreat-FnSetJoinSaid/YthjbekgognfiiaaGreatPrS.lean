/-
  Slices of pairs of identifiers: one that reads as a list, one of the call's own; what the laws' own eqIDPairS, markIDPairS and heldIDPairS do. By an AI agent.
-/
import Derived.Test.YthjbekgognfiiaaGreatJ4
namespace Go.Proofs.YthjbekgognfiiaaGreat
open Go.RowKit
set_option linter.unusedVariables false

abbrev IP := Int × Int
def encP (x : IP) : List Value := [.int .i64 x.1, .int .i64 x.2]
def flatP (l : List IP) : List Value := l.flatMap encP
theorem flatP_len (l : List IP) : (flatP l).length = l.length * 2 := by
  induction l with
  | nil => rfl
  | cons x l ih =>
    have e : flatP (x :: l) = encP x ++ flatP l := by simp [flatP]
    rw [e, List.length_append, ih, List.length_cons]
    show 2 + l.length * 2 = _
    omega
theorem flatP_snoc (l : List IP) (x : IP) : flatP (l ++ [x]) = flatP l ++ encP x := by simp [flatP]
theorem flatP_at : ∀ {l : List IP} {j : Nat} {x : IP}, l[j]? = some x → (flatP l)[j * 2]? = some (.int .i64 x.1) ∧ (flatP l)[j * 2 + 1]? = some (.int .i64 x.2)
  | [], j, x, h => by simp at h
  | y :: l, j, x, h => by
    have e : flatP (y :: l) = .int .i64 y.1 :: .int .i64 y.2 :: flatP l := by simp [flatP, encP]
    rw [e]
    cases j with
    | zero =>
      simp at h
      subst h
      exact ⟨rfl, rfl⟩
    | succ j =>
      have h1 : l[j]? = some x := by simpa using h
      have h2 := flatP_at h1
      rw [show (j + 1) * 2 = j * 2 + 1 + 1 by omega]
      exact h2

/-- a slice whose elements are the pairs of a list -/
def InP (w : World) (a : Option Addr) (l : List IP) : Prop :=
  0 < l.length → ∃ b off, a = some ⟨b, off, none⟩ ∧ b < w.heap.size ∧ ∀ j x, l[j]? = some x → w.cell? ⟨b, off + j * 2, none⟩ = some (.int .i64 x.1) ∧ w.cell? ⟨b, off + j * 2 + 1, none⟩ = some (.int .i64 x.2)
theorem InP.below {w w' : World} {a : Option Addr} {l : List IP} (h : InP w a l) (hb : Below w.heap.size w w') : InP w' a l := by
  intro h0
  obtain ⟨b, off, ha, hlt, hc⟩ := h h0
  have hk := hb.block b hlt
  exact ⟨b, off, ha, Nat.lt_of_lt_of_le hlt hb.size, fun j x hj => ⟨(World.cell?_of_block hk).trans (hc j x hj).1, (World.cell?_of_block hk).trans (hc j x hj).2⟩⟩

/-- a slice of the call's own -/
def OwnP (w : World) (base : Nat) (v : Value) (l : List IP) : Prop := w.ownsRow base 38 2 v l.length (flatP l)
theorem info_ip : (Tryz.prog.info? 38).map (fun i => (i.zero, i.size, i.bytes)) = some (some (.agg #[.int .i64 0, .int .i64 0]), 2, 16) := by kernel_rfl
theorem OwnP.shape {w : World} {base : Nat} {v : Value} {l : List IP} (h : OwnP w base v l) : ∃ a cap, v = .slice a l.length cap := by
  rcases h.2 with ⟨rfl, h0⟩ | ⟨g, cap, cur, rfl, _⟩
  · exact ⟨none, 0, by rw [h0]⟩
  · exact ⟨_, _, rfl⟩
theorem OwnP.inP {w : World} {base : Nat} {a : Option Addr} {n cap : Nat} {l : List IP} (h : OwnP w base (.slice a n cap) l) : InP w a l := by
  intro h0
  obtain ⟨a', cap', e⟩ := h.shape
  injection e with e1 e2 e3
  subst e2
  obtain ⟨g, rfl, _, hg, hc⟩ := rowX_at h h0
  refine ⟨g, 0, rfl, hg, fun j x hj => ?_⟩
  obtain ⟨h1, h2⟩ := flatP_at hj
  exact ⟨hc _ _ h1, by rw [Nat.add_assoc]; exact hc _ _ h2⟩
theorem OwnP.below {w w' : World} {base : Nat} {v : Value} {l : List IP} (h : OwnP w base v l) (hb : Below w.heap.size w w') : OwnP w' base v l :=
  World.ownsRow.kept h (row := none) ⟨hb.os, hb.tape, hb.output, hb.size, fun i hi _ => hb.block i hi⟩ (by cases hv : v.ownBlock <;> simp)
theorem OwnP.mono {w : World} {base base' : Nat} {v : Value} {l : List IP} (h : OwnP w base v l) (hb : base' ≤ base) : OwnP w base' v l := row_mono h hb
theorem OwnP.nil (w : World) (base : Nat) : OwnP w base (.slice none 0 0) [] := World.ownsRow_nil _ _ _ _
theorem OwnP.len_le {w : World} {base : Nat} {v : Value} {l : List IP} (h : OwnP w base v l) : l.length ≤ maxLen := by
  rcases h.2 with ⟨_, h1⟩ | ⟨g, cap', cur, hv, hb, hg, h2, h3, _, ht⟩
  · omega
  · omega

/-- a slice of the call's own is handed back -/
def GivesP (w : World) (l : List IP) (e : Ending) (w' : World) : Prop :=
  ∃ a cap, e = .returned (.slice a l.length cap) ∧ OwnP w' w.heap.size (.slice a l.length cap) l ∧ Below w.heap.size w w'
theorem GivesP.mk {w w' : World} {v : Value} {l : List IP} (h : OwnP w' w.heap.size v l) (hb : Below w.heap.size w w') : GivesP w l (.returned v) w' := by
  obtain ⟨a, cap, rfl⟩ := h.shape
  exact ⟨a, cap, rfl, h, hb⟩
/-- .. in blocks from lo on and below hi -/
def OwnHP (w : World) (lo hi : Nat) (v : Value) (l : List IP) : Prop := OwnP w lo v l ∧ ∀ k, v.ownBlock = some k → k < hi
theorem OwnHP.of {w w' : World} {a : Option Addr} {n cap : Nat} {l : List IP} (h : OwnP w' w.heap.size (.slice a n cap) l) : OwnHP w' w.heap.size w'.heap.size (.slice a n cap) l :=
  ⟨h, fun k hk => (World.ownsRow.lt h k hk).2⟩
theorem OwnHP.below {w w' : World} {lo hi : Nat} {v : Value} {l : List IP} (h : OwnHP w lo hi v l) (hb : Below w.heap.size w w') : OwnHP w' lo hi v l := ⟨h.1.below hb, h.2⟩
theorem OwnHP.inP {w : World} {lo hi : Nat} {a : Option Addr} {n cap : Nat} {l : List IP} (h : OwnHP w lo hi (.slice a n cap) l) : InP w a l := h.1.inP
theorem OwnHP.chg {w w' : World} {lo hi lo' hi' : Nat} {v : Value} {l : List IP} (h : OwnHP w lo hi v l) (hc : Chg w w' lo' hi') (hd : hi ≤ lo' ∨ hi' ≤ lo) : OwnHP w' lo hi v l :=
  ⟨row_chg h.1 hc fun k hk => by have := (World.ownsRow.lt h.1 k hk).1; have := h.2 k hk; omega, h.2⟩

set_option maxRecDepth 100000 in
theorem peq_one (x y : Int) (w : World) :
    Calls Tryz.prog 56 #[.agg #[.int .i64 x, .int .i64 y], .agg #[.int .i64 x, .int .i64 y]] w fun e w' => e = .returned (.bool true) ∧ Below w.heap.size w w' := by
  go_enter Tryz.func56, Tryz.ntmps56
  go_wp2
  go_ret
  exact ⟨rfl, ((Below.refl _ _).alloc (Nat.le_refl _) _).alloc (by simp) _⟩

set_option maxRecDepth 100000 in
theorem peq_same (a1 a2 : Option Addr) (c1 c2 : Nat) (l : List IP) (w : World) (hl : l.length ≤ maxLen) (h1 : InP w a1 l) (h2 : InP w a2 l) :
    Calls Tryz.prog 22 #[.slice a1 l.length c1, .slice a2 l.length c2] w fun e w' => e = .returned (.bool true) ∧ Below w.heap.size w w' := by
  unfold maxLen at hl
  have H1 := Lib.hid h1
  have H2 := Lib.hid h2
  clear h1 h2
  go_enter Tryz.func22, Tryz.ntmps22
  go_wp2
  go_loopw [5] (fun i wr => ∃ k : Nat, k ≤ l.length ∧ i = .int .i64 k ∧ Below w.heap.size w wr) (fun i _ => l.length - (intOf i).toNat)
  case atStart => exact ⟨0, Nat.zero_le _, rfl, Below.refl _ _⟩
  case round =>
    obtain ⟨k, hk, rfl, hb⟩ := hrel
    have HB := Lib.hid hb
    clear hb
    by_cases hlt : k < l.length
    · obtain ⟨b1, o1, rfl, hb1, hc1⟩ := H1.out (by omega)
      obtain ⟨b2, o2, rfl, hb2, hc2⟩ := H2.out (by omega)
      have hx := List.getElem?_eq_getElem hlt
      obtain ⟨p0, p1⟩ := hc1 k _ hx
      obtain ⟨q0, q1⟩ := hc2 k _ hx
      have g0 : wr.cell? ⟨b1, o1 + k * 2, none⟩ = some (.int .i64 l[k].1) := by rw [HB.out.cell (p := ⟨b1, o1 + k * 2, none⟩) hb1]; exact p0
      have g1 : wr.cell? ⟨b1, o1 + k * 2 + 1, none⟩ = some (.int .i64 l[k].2) := by rw [HB.out.cell (p := ⟨b1, o1 + k * 2 + 1, none⟩) hb1]; exact p1
      have g2 : wr.cell? ⟨b2, o2 + k * 2, none⟩ = some (.int .i64 l[k].1) := by rw [HB.out.cell (p := ⟨b2, o2 + k * 2, none⟩) hb2]; exact q0
      have g3 : wr.cell? ⟨b2, o2 + k * 2 + 1, none⟩ = some (.int .i64 l[k].2) := by rw [HB.out.cell (p := ⟨b2, o2 + k * 2 + 1, none⟩) hb2]; exact q1
      have HM := Lib.hid (fun W : World => peq_one l[k].1 l[k].2 W)
      generalize l[k].1 = y at g0 g2 HM
      generalize l[k].2 = z at g1 g3 HM
      clear hc1 hc2 hx p0 p1 q0 q1 hb1 hb2
      go_wp2
      go_region_with (go_at_call 56; refine (HM.out _).mono ?_; rintro e w1 ⟨rfl, hb1⟩; have HB1 := Lib.hid hb1; clear hb1)
      all_goals go_wp2
      all_goals go_roundw
      all_goals first
        | (case rel => exact ⟨k + 1, by omega, by go_num, (HB.out.drew).trans (HB1.out.mono HB.out.size)⟩)
        | skip
      all_goals (simp [intOf]; omega)
    · obtain rfl : k = l.length := by omega
      go_wp2
      go_ret
      exact ⟨rfl, HB.out⟩

def pmarks (k0 n : Nat) : List IP := (List.range n).map fun j => (((k0 + 2 * j : Nat) : Int), ((k0 + 2 * j + 1 : Nat) : Int))
theorem pmarks_len (k0 n : Nat) : (pmarks k0 n).length = n := by simp [pmarks]
theorem pmarks_succ (k0 n : Nat) : pmarks k0 (n + 1) = pmarks k0 n ++ [(((k0 + 2 * n : Nat) : Int), ((k0 + 2 * n + 1 : Nat) : Int))] := by simp [pmarks, List.range_succ]
theorem pmarks_at {k0 n j : Nat} (h : j < n) : (pmarks k0 n)[j]? = some (((k0 + 2 * j : Nat) : Int), ((k0 + 2 * j + 1 : Nat) : Int)) := by simp [pmarks, h]
theorem gapP_at {p : List IP} {k : Nat} {y0 y1 : Value} {r : List Value} (hp : p.length = k) : (flatP p ++ y0 :: y1 :: r)[k * 2]? = some y0 ∧ (flatP p ++ y0 :: y1 :: r)[k * 2 + 1]? = some y1 := by
  have h : (flatP p).length = k * 2 := by rw [flatP_len, hp]
  constructor
  · rw [List.getElem?_append_right (by omega), h, Nat.sub_self]; rfl
  · rw [List.getElem?_append_right (by omega), h, show k * 2 + 1 - k * 2 = 1 by omega]; rfl
theorem gapP_set0 {p : List IP} {k : Nat} {y0 y1 u : Value} {r : List Value} (hp : p.length = k) : (flatP p ++ y0 :: y1 :: r).set (k * 2) u = flatP p ++ u :: y1 :: r := by
  have h : (flatP p).length = k * 2 := by rw [flatP_len, hp]
  rw [List.set_append_right _ _ (by omega), h, Nat.sub_self]; rfl
theorem gapP_set1 {p : List IP} {k : Nat} {y0 y1 u : Value} {r : List Value} (hp : p.length = k) : (flatP p ++ y0 :: y1 :: r).set (k * 2 + 1) u = flatP p ++ y0 :: u :: r := by
  have h : (flatP p).length = k * 2 := by rw [flatP_len, hp]
  rw [List.set_append_right _ _ (by omega), h, show k * 2 + 1 - k * 2 = 1 by omega]; rfl
theorem flatP_drop {l : List IP} {k : Nat} (h : k < l.length) : flatP (l.drop k) = .int .i64 l[k].1 :: .int .i64 l[k].2 :: flatP (l.drop (k + 1)) := by
  unfold flatP
  rw [List.drop_eq_getElem_cons h, List.flatMap_cons]
  rfl

set_option maxRecDepth 100000 in
theorem pmark_any (base : Nat) (a : Option Addr) (cap : Nat) (l : List IP) (k0 : Nat) (w : World) (hl : l.length ≤ 4000000) (hk0 : 0 < k0) (hk1 : k0 ≤ 4000000) (hown : OwnP w base (.slice a l.length cap) l) :
    Calls Tryz.prog 25 #[.slice a l.length cap, .int .i64 k0] w fun e w' => e = .returned (.int .i64 ((k0 + 2 * l.length : Nat) : Int)) ∧ OwnP w' base (.slice a l.length cap) (pmarks k0 l.length) ∧ w.grownBy w' (Value.slice a l.length cap).ownBlock := by
  have HOWN := Lib.hid hown
  clear hown
  go_enter Tryz.func25, Tryz.ntmps25
  go_wp2
  go_loopw [1, 5] (fun kk i wr => ∃ k : Nat, k ≤ l.length ∧ i = .int .i64 k ∧ kk = .int .i64 ((k0 + 2 * k : Nat) : Int) ∧ wr.ownsRow base 38 2 (.slice a l.length cap) l.length (flatP (pmarks k0 k) ++ flatP (l.drop k)) ∧ w.grownBy wr (Value.slice a l.length cap).ownBlock) (fun _ i _ => l.length - (intOf i).toNat)
  case atStart => exact ⟨0, Nat.zero_le _, rfl, by go_num, HOWN.out, World.grownBy.refl _ _⟩
  case round =>
    obtain ⟨k, hk, rfl, rfl, hrow, hg⟩ := hrel
    have HG := Lib.hid hg
    clear hg
    by_cases hlt : k < l.length
    · obtain ⟨g, rfl, hbg, hgl, -⟩ := rowX_at hrow (by omega)
      have HGL := Lib.hid hgl
      clear hgl hbg
      rw [flatP_drop hlt] at hrow
      have q0 := hrow.cellAt (k * 2) (by omega)
      have q1 := hrow.cellAt (k * 2 + 1) (by omega)
      rw [(gapP_at (pmarks_len k0 k)).1] at q0
      rw [(gapP_at (pmarks_len k0 k)).2] at q1
      have f0 := hrow.frozenAt (k * 2)
      have f1 := hrow.frozenAt (k * 2 + 1)
      have HN := Lib.hid (hrow.stored (k * 2) (.int .i64 ((k0 + 2 * k : Nat) : Int)))
      have HN2 := Lib.hid (HN.out.1.stored (k * 2 + 1) (.int .i64 ((k0 + 2 * k + 1 : Nat) : Int)))
      clear hrow
      generalize l[k].1 = y at q0 HN HN2
      generalize l[k].2 = z at q1 HN HN2
      go_wp2
      go_roundw
      case rel =>
        refine ⟨k + 1, by omega, by go_num, by go_num, ?_, ?_⟩
        · have h := HN2.out.1
          rw [gapP_set0 (pmarks_len k0 k), gapP_set1 (pmarks_len k0 k)] at h
          rw [pmarks_succ, flatP_snoc, List.append_assoc]
          exact h
        · exact grown_trans' (grown_trans' HG.out HN.out.2) HN2.out.2
      case measure => simp [intOf]; omega
    · obtain rfl : k = l.length := by omega
      have HROW := Lib.hid hrow
      clear hrow
      go_wp2
      go_ret
      refine ⟨rfl, ?_, HG.out⟩
      have h := HROW.out
      rw [List.drop_length, show flatP [] = [] from rfl, List.append_nil] at h
      unfold OwnP
      rw [pmarks_len]
      exact h

set_option maxRecDepth 100000 in
theorem pheld_any (a : Option Addr) (cap n k0 : Nat) (w : World) (hl : n ≤ 4000000) (hk0 : 0 < k0) (hk1 : k0 ≤ 4000000) (hin : InP w a (pmarks k0 n)) :
    Calls Tryz.prog 26 #[.slice a n cap, .int .i64 k0] w fun e w' => e = .returned (.int .i64 ((k0 + 2 * n : Nat) : Int)) ∧ Below w.heap.size w w' := by
  have HIN := Lib.hid hin
  clear hin
  go_enter Tryz.func26, Tryz.ntmps26
  go_wp2
  go_loopw [1, 5] (fun kk i wr => ∃ k : Nat, k ≤ n ∧ i = .int .i64 k ∧ kk = .int .i64 ((k0 + 2 * k : Nat) : Int) ∧ Below w.heap.size w wr) (fun _ i _ => n - (intOf i).toNat)
  case atStart => exact ⟨0, Nat.zero_le _, rfl, by go_num, Below.refl _ _⟩
  case round =>
    obtain ⟨k, hk, rfl, rfl, hb⟩ := hrel
    have HB := Lib.hid hb
    clear hb
    by_cases hlt : k < n
    · obtain ⟨b, off, rfl, hbw, hc⟩ := HIN.out (by rw [pmarks_len]; omega)
      obtain ⟨p0, p1⟩ := hc k _ (pmarks_at hlt)
      have g0 : wr.cell? ⟨b, off + k * 2, none⟩ = some (.int .i64 ((k0 + 2 * k : Nat) : Int)) := by rw [HB.out.cell (p := ⟨b, off + k * 2, none⟩) hbw]; exact p0
      have g1 : wr.cell? ⟨b, off + k * 2 + 1, none⟩ = some (.int .i64 ((k0 + 2 * k + 1 : Nat) : Int)) := by rw [HB.out.cell (p := ⟨b, off + k * 2 + 1, none⟩) hbw]; exact p1
      clear hc p0 p1 hbw
      go_wp2
      go_roundw
      case rel => exact ⟨k + 1, by omega, by go_num, by go_num, HB.out⟩
      case measure => simp [intOf]; omega
    · obtain rfl : k = n := by omega
      go_wp2
      go_ret
      exact ⟨rfl, HB.out⟩

end Go.Proofs.YthjbekgognfiiaaGreat
