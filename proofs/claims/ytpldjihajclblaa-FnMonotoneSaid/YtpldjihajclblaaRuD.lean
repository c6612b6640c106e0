/-
  The conditions of tests and of rules are made: impl's Test.condition, Rule.condition; TestHolds and RuleHolds. By an AI agent.
-/
import Derived.Test.YtpldjihajclblaaRuC
namespace Go.Proofs.Ytpldjihajclblaa
open Go.RowKit
set_option linter.unusedVariables false

theorem hmf2 : ∀ (fn : Fn) (first cap : Array Value) (w : World), (Instr.makeFunc fn first cap).run Try.prog w = .ok (.func fn first cap) w := fun _ _ _ _ => rfl
/-- a test's condition is made -/
def MadeT (w : World) (t : TS) (e : Ending) (w' : World) : Prop := ∃ v, e = .returned v ∧ CondT w' w.heap.size v t ∧ Below w.heap.size w w'

set_option maxRecDepth 100000 in
theorem tc_impl (f t : Int) (u : Bool) (w : World) :
    Calls Try.prog 57 #[.agg #[.int .i64 f, .int .i64 t, .bool u]] w (MadeT w ((f, t), u)) := by
  have hmf := hmf2
  obtain ⟨w1, hw1⟩ : ∃ w1, w1 = w.alloc (.cells #[.int .i64 f, .int .i64 t, .bool u] 53) := ⟨_, rfl⟩
  have HW := Lib.hid hw1
  have HB1 := Lib.hid (show Below w.heap.size w w1 by rw [hw1]; exact (Below.refl w.heap.size w).alloc (Nat.le_refl _) _)
  have HT4 := Lib.hid (show BlkV w1 w.heap.size 53 #[.int .i64 f, .int .i64 t, .bool u] by rw [hw1]; exact BlkV.new _ _ _)
  have HGL := Lib.hid (show w.heap.size < w1.heap.size by rw [hw1]; simp)
  clear hw1
  obtain ⟨fb, hfb⟩ : ∃ fb, decide (0 ≤ f ∧ f ≤ 5) = fb := ⟨_, rfl⟩
  have HFB := Lib.hid hfb
  clear hfb
  cases fb
  · go_enter Try.func57, Try.ntmps57
    go_wp2_with (go_at_call 51; rw [← HW.out]; ((with_reducible refine (feat_is _ _ _ HFB.out).mono ?_); rintro e w2 ⟨rfl, hb2⟩; have HB2 := Lib.hid hb2; clear hb2))
    go_ret
    exact ⟨_, rfl, .inl ⟨rfl, HFB.out⟩, HB1.out.trans (HB2.out.mono HB1.out.size)⟩
  · cases u
    · go_enter Try.func57, Try.ntmps57
      go_wp2_with (go_at_call 51; rw [← HW.out]; ((with_reducible refine (feat_is _ _ _ HFB.out).mono ?_); rintro e w2 ⟨rfl, hb2⟩; have x2 := (HT4.out.below hb2).three2; have HB2 := Lib.hid hb2; clear hb2))
      go_ret
      exact ⟨_, rfl, .inr (.inr ⟨HFB.out, rfl, _, rfl, Nat.le_refl _, Nat.lt_of_lt_of_le HGL.out HB2.out.size, (HT4.out.below HB2.out).three0, (HT4.out.below HB2.out).three1⟩), HB1.out.trans (HB2.out.mono HB1.out.size)⟩
    · go_enter Try.func57, Try.ntmps57
      go_wp2_with (go_at_call 51; rw [← HW.out]; ((with_reducible refine (feat_is _ _ _ HFB.out).mono ?_); rintro e w2 ⟨rfl, hb2⟩; have x2 := (HT4.out.below hb2).three2; have HB2 := Lib.hid hb2; clear hb2))
      go_ret
      exact ⟨_, rfl, .inr (.inl ⟨HFB.out, rfl, _, rfl, Nat.le_refl _, Nat.lt_of_lt_of_le HGL.out HB2.out.size, (HT4.out.below HB2.out).three0, (HT4.out.below HB2.out).three1⟩), HB1.out.trans (HB2.out.mono HB1.out.size)⟩

theorem info_cond : (Try.prog.info? 67).map (fun i => (i.zero, i.size, i.bytes)) = some (some .nilFunc, 1, 8) := by kernel_rfl
/-- a slice of conditions of the call's own -/
structure OwnC (w : World) (b : Nat) (n : Nat) (l : List TS) (vs rest : List Value) : Prop where
  row : w.ownsRow b 67 1 (.slice (some ⟨b, 0, none⟩) n n) n (vs ++ rest)
  len : vs.length = l.length
  cond : ∀ (j : Nat) (v : Value) (t : TS), vs[j]? = some v → l[j]? = some t → CondT w (b + 1) v t
theorem OwnC.inC {w : World} {b n : Nat} {l : List TS} {vs : List Value} (h : OwnC w b n l vs []) (hn : n = l.length) : InC w b (some ⟨b, 0, none⟩) l := by
  intro h0
  obtain ⟨g, e, _, hg, hc⟩ := cell_own h.row (by omega)
  injection e with e
  injection e with e
  subst e
  refine ⟨b, 0, rfl, Nat.le_refl _, hg, fun j t hj => ?_⟩
  have hlt := (List.getElem?_eq_some_iff.1 hj).1
  have hv : vs[j]? = some (vs[j]'(by rw [h.len]; exact hlt)) := List.getElem?_eq_getElem _
  exact ⟨_, hc j _ (by rw [List.append_nil]; exact hv), (h.cond j _ t hv hj).mono (by omega)⟩
theorem OwnC.step {w w2 w3 : World} {b n k : Nat} {l : List TS} {vs r2 : List Value} {v y : Value} {t : TS} (h : OwnC w b n (l.take k) vs (y :: r2)) (hk : k ≤ l.length) (hb : Below w.heap.size w w2) (hbw : b < w.heap.size) (ht : l[k]? = some t) (hc : CondT w2 w.heap.size v t)
    (hrow : w3.ownsRow b 67 1 (.slice (some ⟨b, 0, none⟩) n n) n ((vs ++ [v]) ++ r2)) (hg : w2.grownBy w3 (some b)) : OwnC w3 b n (l.take (k + 1)) (vs ++ [v]) r2 := by
  have hkeep : ∀ g, b + 1 ≤ g → g < w2.heap.size → w3.heap[g]? = w2.heap[g]? := fun g h1 h2 => hg.block g h2 (fun e => by injection e with e; omega)
  refine ⟨hrow, by rw [take_one ht]; simp [h.len], fun j x s hx hs => ?_⟩
  rw [take_one ht] at hs
  rcases snoc_at hx with hx | ⟨rfl, rfl⟩
  · have hlt := (List.getElem?_eq_some_iff.1 hx).1
    rw [List.getElem?_append_left (by rw [← h.len]; exact hlt)] at hs
    exact ((h.cond j x s hx hs).below hb).keep hg.size hkeep
  · rw [List.getElem?_append_right (by rw [h.len]; exact Nat.le_refl _), h.len, Nat.sub_self] at hs
    simp at hs
    subst hs
    exact (hc.mono (by omega)).keep hg.size hkeep

set_option maxRecDepth 100000 in
set_option maxHeartbeats 2000000 in
theorem cva_any (a : Option Addr) (c : Nat) (l : List TS) (w : World) (h : SmTs w a l c) :
    Calls Try.prog 56 #[.slice a l.length c, .func (.func 57) #[] #[]] w fun e w' => ∃ a' c', e = .returned (.slice a' l.length c') ∧ InC w' w.heap.size a' l ∧ Below w.heap.size w w' := by
  obtain ⟨i0, hi, hz0, hz1, hz2⟩ := info_get info_cond
  have HIN := Lib.hid h.inTs
  have hl := h.len
  clear h
  go_enter Try.func56, Try.ntmps56
  go_wp2_with (at_make; refine wpList_make_full _ rfl _ _ 65 rfl w.heap.size 67 i0 _ 1 Try.underlying65 hi hz0 hz1 .i64 .i64 _ _ l.length rfl rfl rfl rfl (by rw [hz2]; omega) (by unfold maxLen; omega) (Nat.le_refl _) ?_; intro w1 hrow hg)
  have HROW := Lib.hid hrow
  have HB1 := Lib.hid ((Below.refl w.heap.size w).grown hg (Nat.le_refl _) (fun k hk => by cases hk))
  have HLT := Lib.hid (World.ownsRow.lt hrow w.heap.size rfl).2
  clear hrow hg
  go_loopw [13] (fun i wr => ∃ (k : Nat) (vs rest : List Value), k ≤ l.length ∧ i = .int .i64 k ∧ OwnC wr w.heap.size l.length (l.take k) vs rest ∧ Below w.heap.size w wr ∧ w.heap.size < wr.heap.size) (fun i _ => l.length - (intOf i).toNat)
  case atStart => exact ⟨0, [], _, Nat.zero_le _, rfl, ⟨HROW.out, rfl, fun j v t h => by simp at h⟩, HB1.out, HLT.out⟩
  case round =>
    obtain ⟨k, vs, rest, hk, rfl, hown, hb, hws⟩ := hrel
    by_cases hlt : k < l.length
    · obtain ⟨b, off, f, t, u, rfl, hbw, hx, c0, c1, c2⟩ := (HIN.out.below hb).at_ hlt
      have HX := Lib.hid hx
      have HOWN := Lib.hid hown
      have HB := Lib.hid hb
      have HWS := Lib.hid hws
      have HVL := Lib.hid (show vs.length = k by rw [hown.len, List.length_take]; omega)
      have HA1 := Lib.hid ((Below.refl wr.heap.size wr).alloc (Nat.le_refl _) (.cells #[.int .i64 f, .int .i64 t, .bool u] 53))
      clear hx hown hb hws hbw
      go_wp2_with (go_at_call 57; ((with_reducible refine (tc_impl f t u _).mono ?_); rintro e w2 ⟨v, rfl, hc, hb2⟩; refine Hid.out ?_))
      refine Lib.hid ?_
      have hbb : Below wr.heap.size wr w2 := HA1.out.trans (hb2.mono HA1.out.size)
      have hrow2 := World.ownsRow.kept HOWN.out.row (row := none) ⟨hbb.os, hbb.tape, hbb.output, hbb.size, fun i hi _ => hbb.block i hi⟩ (by simp [Value.ownBlock])
      obtain ⟨y, r2, rfl, hy, hset⟩ := ss_row_at hrow2.1 HVL.out (by omega)
      have q0 := hrow2.cellAt k (by omega)
      rw [hy] at q0
      have f0 := hrow2.frozenAt k
      have HN := Lib.hid (hrow2.stored k v)
      rw [hset] at HN
      have HC := Lib.hid (hc.mono HA1.out.size)
      have HBB := Lib.hid hbb
      have hv : v = funV 73 ∨ (∃ g, v = closV 74 g) ∨ ∃ g, v = closV 75 g := by
        rcases hc with h | ⟨_, _, g, h, _⟩ | ⟨_, _, g, h, _⟩
        · exact .inl h.1
        · exact .inr (.inl ⟨g, h⟩)
        · exact .inr (.inr ⟨g, h⟩)
      clear hb2 hrow2 hy hset hc hbb
      rcases hv with rfl | ⟨g, rfl⟩ | ⟨g, rfl⟩
      all_goals
        go_wp2
        go_roundw
        case rel =>
          exact ⟨k + 1, _, r2, by omega, by go_num, HOWN.out.step hk HBB.out HWS.out HX.out HC.out HN.out.1 HN.out.2, (HB.out.trans (HBB.out.mono HB.out.size)).grown HN.out.2 (Nat.le_trans HB.out.size HBB.out.size) (fun j hj => by cases hj; exact Nat.le_refl _), Nat.lt_of_lt_of_le HWS.out (Nat.le_trans HBB.out.size HN.out.2.size)⟩
        case measure => simp [intOf]; omega
    · obtain rfl : k = l.length := by omega
      have HOWN := Lib.hid hown
      clear hown
      go_wp2
      go_ret
      have h := HOWN.out
      rw [List.take_length] at h
      have h1 := h.row.1
      rw [List.length_append, h.len] at h1
      obtain rfl : rest = [] := List.eq_nil_of_length_eq_zero (by omega)
      exact ⟨_, _, rfl, h.inC rfl, hb⟩

/-- a rule's condition is made -/
def MadeR (w : World) (r : List TS) (e : Ending) (w' : World) : Prop := ∃ v, e = .returned v ∧ CondR w' w.heap.size v r ∧ Below w.heap.size w w'

set_option maxRecDepth 100000 in
theorem allOf_any (a : Option Addr) (n c : Nat) (w : World) :
    Calls Try.prog 55 #[.slice a n c] w fun e w' => e = .returned (closV 72 w.heap.size) ∧ w' = w.alloc (.cells #[.slice a n c] 65) := by
  have hmf := hmf2
  go_enter Try.func55, Try.ntmps55
  go_wp2
  go_ret
  exact ⟨rfl, rfl⟩

set_option maxRecDepth 100000 in
theorem rc_impl (a : Option Addr) (c : Nat) (l : List TS) (w : World) (h : SmTs w a l c) :
    Calls Try.prog 39 #[.agg #[.slice a l.length c]] w (MadeR w l) := by
  have HA1 := Lib.hid ((Below.refl w.heap.size w).alloc (Nat.le_refl _) (.cells #[.slice a l.length c] 50))
  have HC := Lib.hid (fun (W : World) (hW : Below w.heap.size w W) => cva_any a c l W (h.below hW))
  have HL := Lib.hid h.len
  clear h
  go_enter Try.func39, Try.ntmps39
  go_wp2_with (first
    | (go_at_call 56; ((with_reducible refine (HC.out _ HA1.out).mono ?_); rintro e w2 ⟨a', c', rfl, hc, hb2⟩; have HIC := Lib.hid (hc.mono HA1.out.size); have HB2 := Lib.hid (HA1.out.trans (hb2.mono HA1.out.size)); clear hc hb2))
    | (go_at_call 55; ((with_reducible refine (allOf_any _ _ _ _).mono ?_); rintro e w3 ⟨rfl, hw3⟩; have HW3 := Lib.hid hw3; clear hw3)))
  go_ret
  have hb3 : Below w2.heap.size w2 w3 := by rw [HW3.out]; exact (Below.refl _ _).alloc (Nat.le_refl _) _
  have hblk : BlkV w3 w2.heap.size 65 #[.slice a' l.length c'] := by rw [HW3.out]; exact BlkV.new _ _ _
  exact ⟨_, rfl, ⟨_, a', c', rfl, HB2.out.size, by rw [HW3.out]; simp, hblk.one0, HIC.out.below hb3, HL.out⟩, HB2.out.trans (hb3.mono HB2.out.size)⟩

end Go.Proofs.Ytpldjihajclblaa
