/-
  The walk of laws.FnOrders: it answers true for every slice of bytes, a nil one too. By an AI agent.
-/
import Derived.Test.YtggohfinkpppkaaOrdL
import Derived.Test.YtggohfinkpppkaaTcFC
import Derived.Test.YtggohfinkpppkaaGTabDraw
import Derived.Laws.StructEq
import Derived.Deep.QuietTactic
import Derived.BigQuiet
namespace Go.Proofs.Ytggohfinkpppkaa
open Go.RowKit
set_option linter.unusedVariables false

def GivesOT (w : World) (n : Nat) (l : List Str) (e : Ending) (w' : World) : Prop := ∃ a cap, e = .returned (.slice a n cap) ∧ InS w' a l ∧ Below w.heap.size w w'
theorem GivesOT.of {w w' : World} {n : Nat} {l : List Str} {e : Ending} (hn : l.length = n) (h : GivesS w l e w') : GivesOT w n l e w' := by
  subst hn
  obtain ⟨a, c, he, ho, hb⟩ := h
  exact ⟨a, c, he, ho.inS, hb⟩
theorem eqtok_n (a1 a2 : Option Addr) (c1 c2 n : Nat) (l : List Str) (w : World) (hn : l.length = n) (hl : l.length ≤ maxLen) (h1 : InS w a1 l) (h2 : InS w a2 l) :
    Calls Try.prog 42 #[.slice a1 n c1, .slice a2 n c2] w fun e w' => e = .returned (.bool true) ∧ Below w.heap.size w w' := by
  subst hn
  exact (spec_eq a1 a2 c1 c2 l l w hl hl h1 h2).mono fun e w' h => by rwa [eqB_refl] at h
theorem ct_bounds6 {ls : List (List Str)} (hm : ls.length ≤ 6) (hx : ∀ l ∈ ls, l.length ≤ 6 ∧ ∀ x ∈ l, x.length ≤ 10) : (ctR ls).length ≤ 36 ∧ ∀ x ∈ ctR ls, x.1.length ≤ 10 ∧ x.2 ≤ (ls.length : Int) := by
  have h1 := ct_len ls
  have h2 := sets_small hm hx
  refine ⟨by omega, fun x hx2 => ?_⟩
  have h3 := ct_count hx2
  obtain ⟨t, ht, rfl⟩ := List.mem_map.1 hx2
  rw [setL_mem, List.mem_flatten] at ht
  obtain ⟨l, hl, htl⟩ := ht
  exact ⟨(hx l hl).2 t htl, h3.2⟩
theorem neq_tc (s : ByteArray) (z : Int) (w : World) : (binOp .neq 66 (.agg #[.string s, .int .i64 z]) (.agg #[.string s, .int .i64 z])).run Try.prog w = .ok (.bool false) w := by
  have h : (Op.equalIn 10000 66 (.agg #[.string s, .int .i64 z]) (.agg #[.string s, .int .i64 z])).run Try.prog w = .ok true w := by
    rw [run_equalIn_agg w 9999 _ _ _ (by kernel_rfl) (by kernel_rfl)]
    simp [go_sem, Program.fieldsOf, Try.underlying66, Try.underlying9, Try.underlying3]
  rw [run_neq_struct, h]
  rfl
theorem guard_tc (x y : Operand) (xs ys : Array Value) (w : World) : (eqGuard .neq 66 x y (.agg xs) (.agg ys)).run Try.prog w = .ok () w :=
  run_eqGuard_agg w _ _ _ _ _ _ (by kernel_rfl)

theorem gt_no {x y : Str} {s t : ByteArray} (hs : s.data.toList = x) (ht : t.data.toList = y) (h : x ≤ y) : Op.bytesLess s.toList t.toList = true ∨ (Op.bytesLess s.toList t.toList = false ∧ (s.toList == t.toList) = true) := by
  by_cases h2 : x < y
  · exact .inl (less_yes hs ht h2)
  · have e : x = y := List.le_antisymm h (List.not_lt.1 h2)
    refine .inr ⟨less_no hs ht h2, ?_⟩
    rw [ByteArray.toList_eq, ByteArray.toList_eq, hs, ht, e]
    simp
theorem codeAt_on {w w' : World} {A : Option Addr} {len : Nat} (h : CodeAt w w.heap.size A len) (hb : Below w.heap.size w w') : CodeAt w' w'.heap.size A len := by
  have h1 := h.keep (w' := w') (fun k hk => hb.block k hk)
  refine ⟨h1.1, fun h0 => ?_⟩
  obtain ⟨b, off, hA, hlt, hz⟩ := h1.2 h0
  exact ⟨b, off, hA, Nat.lt_of_lt_of_le hlt hb.size, hz⟩
theorem ord_drewN {base : Nat} {w w' : World} (h : Below base w w') (n : Nat) : Below base w (w'.drewN n) := ⟨h.os, h.tape, h.output, h.size, h.block⟩

set_option maxRecDepth 100000 in
set_option maxHeartbeats 4000000 in
theorem FnOrders_core (A : Option Addr) (len cap : Nat) (w : World) (hcode : CodeAt w w.heap.size A len) :
    Calls Try.prog 8 #[.slice A len cap] w fun e w' => e = .returned (.bool true) ∧ Below w.heap.size w w' := by
  have HCODE := Lib.hid hcode
  have hlen : (len : Int) ≤ 1048576 := by have := hcode.1; omega
  clear hcode
  go_enter Try.func8, Try.ntmps8
  go_wp2_with (go_at_call 39; (refine (big_no A len cap _ hlen).mono ?_); rintro e w0 ⟨rfl, rfl⟩; refine Hid.out ?_)
  refine Lib.hid ?_
  clear hlen
  go_wp2_with (go_at_call 40; ((with_reducible refine (drawOrd_any A len cap _ HCODE.out).mono ?_); rintro e wd ⟨a1, a2, c1, c2, tab, l, rfl, h1, h2, htl, hl, hx, hbd⟩; refine Hid.out ?_))
  refine Lib.hid ?_
  have HBD := Lib.hid hbd
  clear hbd
  obtain ⟨r, hr⟩ : ∃ r, ordR tab l = r := ⟨_, rfl⟩
  have hrl : r.length = l.length := by rw [← hr]; exact ord_len _ _
  have HRL := Lib.hid hrl
  have HRX := Lib.hid (fun (x : Str) (hx' : x ∈ r) => hx x ((ord_perm tab l).mem_iff.1 (by rw [hr]; exact hx')))
  have HRS := Lib.hid (show r.Pairwise (KLe tab) from by rw [← hr]; exact ord_sorted tab l)
  have HRM := Lib.hid (show r.length ≤ maxLen by unfold maxLen; omega)
  have KOI := Lib.hid (fun (W : World) (hW : Below wd.heap.size wd W) => (ord_implC a1 a2 c1 c2 tab l r W hr (h1.below hW) (h2.below hW)).mono fun e w' h => (show GivesOT W l.length r e w' from GivesOT.of hrl h))
  have KOS := Lib.hid (fun (W : World) (hW : Below wd.heap.size wd W) => (ord_specC a1 a2 c1 c2 tab l r W hr (h1.below hW) (h2.below hW)).mono fun e w' h => (show GivesOT W l.length r e w' from GivesOT.of hrl h))
  have KFR := Lib.hid (fun (W : World) (hW : Below wd.heap.size wd W) (s : ByteArray) (x : Str) (z : Int) (hs : s.data.toList = x) (hxl : x.length ≤ 10) (hz : frqL tab x = z) => freq_implC a1 c1 tab s z W (by have h3 : s.data.toList.length = s.size := Array.length_toList; rw [hs] at h3; omega) (by rw [hs]; exact hz) (h1.below hW).1)
  clear h1 h2 hx hr hrl
  go_wp2_with (first
    | (go_at_call 41; ((with_reducible refine (KOI.out _ (Below.refl _ _)).mono ?_); rintro e w2 ⟨ao, co, rfl, ho, hb⟩; have HO2 := Lib.hid ho; have HB2 := Lib.hid hb; clear ho hb))
    | (go_at_call 43; ((with_reducible refine (KOS.out _ HB2.out).mono ?_); rintro e w3 ⟨ap, cp, rfl, hp, hb⟩; have HP3 := Lib.hid hp; have HO3 := Lib.hid (HO2.out.below hb); have HB3 := Lib.hid (HB2.out.trans (hb.mono HB2.out.size)); clear hp hb))
    | (go_at_call 42; ((with_reducible refine (eqtok_n _ _ _ _ l.length r _ HRL.out HRM.out HO3.out HP3.out).mono ?_); rintro e w4 ⟨rfl, hb⟩; have HO4 := Lib.hid (HO3.out.below hb); have HB4 := Lib.hid (HB3.out.trans (hb.mono HB3.out.size)); clear hb)))
  go_loopw [6, 7, 8] (fun i _ _ wr => ∃ j : Nat, j ≤ 7 ∧ i = .int .i64 ((j : Int) + 1) ∧ Below w4.heap.size w4 wr) (fun i _ _ _ => l.length - (intOf i).toNat)
  case atStart => exact ⟨0, Nat.zero_le _, by go_num, Below.refl _ _⟩
  case round =>
    obtain ⟨j, hj, rfl, hb⟩ := hrel
    have HB := Lib.hid hb
    have HBR := Lib.hid (HB4.out.trans (hb.mono HB4.out.size))
    clear hb
    by_cases hlt : j + 1 < l.length
    · obtain ⟨b, off, rfl, hbw, hc⟩ := HO4.out (by have := HRL.out; omega)
      obtain ⟨x, s, hx1, hx2, hx3, hx4⟩ := str_at (l := r) (k := j) (by have := HRL.out; omega)
      obtain ⟨y, u, hy1, hy2, hy3, hy4⟩ := str_at (l := r) (k := j + 1) (by have := HRL.out; omega)
      have g0 : wr.cell? ⟨b, off + j, none⟩ = some (.string s) := by rw [HB.out.cell (p := ⟨b, off + j, none⟩) hbw, ← hx3]; exact hc j x hx1
      have g1 : wr.cell? ⟨b, off + (j + 1), none⟩ = some (.string u) := by rw [HB.out.cell (p := ⟨b, off + (j + 1), none⟩) hbw, ← hy3]; exact hc (j + 1) y hy1
      have hbr : b < wr.heap.size := by have := HB.out.size; omega
      obtain ⟨f, hf⟩ : ∃ f, frqL tab x = f := ⟨_, rfl⟩
      obtain ⟨g, hg⟩ : ∃ g, frqL tab y = g := ⟨_, rfl⟩
      have hk : f < g ∨ (f = g ∧ x ≤ y) := by
        have h := List.pairwise_iff_getElem.1 HRS.out j (j + 1) (List.getElem?_eq_some_iff.1 hx1).1 (List.getElem?_eq_some_iff.1 hy1).1 (by omega)
        rw [(List.getElem?_eq_some_iff.1 hx1).2, (List.getElem?_eq_some_iff.1 hy1).2, kle_iff, hf, hg] at h
        exact h
      have HK := Lib.hid hk
      have HL := Lib.hid (fun h : x ≤ y => gt_no hx2 hy2 h)
      have HF := Lib.hid (fun (W : World) (hW : Below wd.heap.size wd W) => KFR.out W hW s x f hx2 (HRX.out x (List.mem_of_getElem? hx1)) hf)
      have HG := Lib.hid (fun (W : World) (hW : Below wd.heap.size wd W) => KFR.out W hW u y g hy2 (HRX.out y (List.mem_of_getElem? hy1)) hg)
      clear hc hx1 hx2 hx3 hx4 hy1 hy2 hy3 hy4 hf hg hk hbw
      go_wp2_with (go_at_call 44; ((with_reducible refine (HF.out _ HBR.out).mono ?_); rintro e w5 ⟨rfl, hb5⟩; refine Hid.out ?_))
      refine Lib.hid ?_
      have g05 : w5.cell? ⟨b, off + j, none⟩ = some (.string s) := by rw [hb5.cell (p := ⟨b, off + j, none⟩) hbr]; exact g0
      have g15 : w5.cell? ⟨b, off + (j + 1), none⟩ = some (.string u) := by rw [hb5.cell (p := ⟨b, off + (j + 1), none⟩) hbr]; exact g1
      have HB5 := Lib.hid (HB.out.trans (hb5.mono HB.out.size))
      have HBR5 := Lib.hid (HBR.out.trans (hb5.mono HBR.out.size))
      have hbr5 : b < w5.heap.size := by have := hb5.size; omega
      clear g0 g1 hb5 hbr
      go_wp2_with (go_at_call 44; ((with_reducible refine (HG.out _ HBR5.out).mono ?_); rintro e w6 ⟨rfl, hb6⟩; refine Hid.out ?_))
      refine Lib.hid ?_
      have g06 : w6.cell? ⟨b, off + j, none⟩ = some (.string s) := by rw [hb6.cell (p := ⟨b, off + j, none⟩) hbr5]; exact g05
      have g16 : w6.cell? ⟨b, off + (j + 1), none⟩ = some (.string u) := by rw [hb6.cell (p := ⟨b, off + (j + 1), none⟩) hbr5]; exact g15
      have HB6 := Lib.hid (HB5.out.trans (hb6.mono HB5.out.size))
      clear g05 g15 hb6 hbr5
      have hi0 : (j : Int) < (l.length : Int) := by omega
      have hi1 : (j : Int) + 1 < (l.length : Int) := by omega
      rcases HK.out with hk | ⟨rfl, hk⟩
      · have d1 : decide (g < f) = false := decide_eq_false (by omega)
        have d2 : (f == g) = false := by simp; omega
        clear hk
        go_wp2_with fail
        go_quiet (fail)
        go_wp2
        go_roundw
        case rel => exact ⟨j + 1, by omega, by go_num, ord_drewN HB6.out _⟩
        case measure => simp [intOf]; omega
      · have d0 := HL.out hk
        clear hk
        rcases d0 with d1 | ⟨d1, d2⟩
        all_goals
          go_wp2_with fail
          go_quiet (fail)
          go_wp2
          go_roundw
          case rel => exact ⟨j + 1, by omega, by go_num, ord_drewN HB6.out _⟩
          case measure => simp [intOf]; omega
    · have hni : ¬ ((j : Int) + 1 < (l.length : Int)) := by omega
      have HBW := Lib.hid (HBD.out.trans (HBR.out.mono HBD.out.size))
      clear KFR HB HBR
      go_wp2_with (go_at_call 45; ((with_reducible refine (drawCount_any A len cap _ (codeAt_on HCODE.out HBW.out)).mono ?_); rintro e w7 ⟨ac, cc, ls, rfl, hss, hls, hlx, hb7⟩; refine Hid.out ?_))
      refine Lib.hid ?_
      have HB7 := Lib.hid (HBW.out.trans (hb7.mono HBW.out.size))
      have hct := ct_bounds6 hls hlx
      have htt := ttB_true.2 (ct_table ls)
      obtain ⟨T, hT⟩ : ∃ T, ctR ls = T := ⟨_, rfl⟩
      rw [hT] at hct htt
      have hTl := hct.1
      have HTX := Lib.hid hct.2
      have HTT := Lib.hid htt
      have KCI := Lib.hid (fun (W : World) (hW : Below w7.heap.size w7 W) => cnt_implC ac cc ls T W hT (hss.below hW))
      have KCS := Lib.hid (fun (W : World) (hW : Below w7.heap.size w7 W) => cnt_specC ac cc ls T W hT (hss.below hW))
      clear hb7 hct htt hT hss hlx HBW
      go_wp2_with (first
        | (go_at_call 35; ((with_reducible refine (KCI.out _ (Below.refl _ _)).mono ?_); rintro e w8 ⟨at8, ct8, rfl, ho, hb⟩; have HO8 := Lib.hid ho; have HB8 := Lib.hid hb; clear ho hb))
        | (go_at_call 33; ((with_reducible refine (KCS.out _ HB8.out).mono ?_); rintro e w9 ⟨au9, cu9, rfl, ho, hb⟩; have HO9 := Lib.hid ho.inT; have HO89 := Lib.hid (HO8.out.below hb); have HB9 := Lib.hid (HB8.out.trans (hb.mono HB8.out.size)); clear ho hb))
        | (go_at_call 46; ((with_reducible refine (ttab_implC _ _ T true _ HTT.out (HO89.out.smT (by omega) (fun x hx => by have := (HTX.out x hx).1; omega))).mono ?_); rintro e w10 ⟨rfl, hb⟩; have HT1 := Lib.hid (HO89.out.inT.below hb); have HT2 := Lib.hid (HO9.out.below hb); have HB10 := Lib.hid (HB9.out.trans (hb.mono HB9.out.size)); clear hb)))
      go_loopw [12] (fun i wr => ∃ k : Nat, k ≤ T.length ∧ i = .int .i64 k ∧ Below w10.heap.size w10 wr) (fun i _ => T.length - (intOf i).toNat)
      case atStart => exact ⟨0, Nat.zero_le _, rfl, Below.refl _ _⟩
      case round =>
        obtain ⟨k, hk, rfl, hb⟩ := hrel
        have HB := Lib.hid hb
        clear hb
        by_cases hlt : k < T.length
        · obtain ⟨b1, o1, rfl, hb1, hc1⟩ := HT1.out (by omega)
          obtain ⟨b2, o2, rfl, hb2, hc2⟩ := HT2.out (by omega)
          obtain ⟨x, s, hx1, hx2, hx3, hx4⟩ := tc_at hlt
          obtain ⟨p0, p1⟩ := hc1 k x hx1
          obtain ⟨q0, q1⟩ := hc2 k x hx1
          have g0 : wr.cell? ⟨b1, o1 + k * 2, none⟩ = some (.string s) := by rw [HB.out.cell (p := ⟨b1, o1 + k * 2, none⟩) hb1, ← hx3]; exact p0
          have g1 : wr.cell? ⟨b1, o1 + k * 2 + 1, none⟩ = some (.int .i64 x.2) := by rw [HB.out.cell (p := ⟨b1, o1 + k * 2 + 1, none⟩) hb1]; exact p1
          have g2 : wr.cell? ⟨b2, o2 + k * 2, none⟩ = some (.string s) := by rw [HB.out.cell (p := ⟨b2, o2 + k * 2, none⟩) hb2, ← hx3]; exact q0
          have g3 : wr.cell? ⟨b2, o2 + k * 2 + 1, none⟩ = some (.int .i64 x.2) := by rw [HB.out.cell (p := ⟨b2, o2 + k * 2 + 1, none⟩) hb2]; exact q1
          have hz := (HTX.out x (List.mem_of_getElem? hx1)).2
          generalize x.2 = z at g1 g3 hz
          have hn := fun W => neq_tc s z W
          have hgd := fun x y xs ys W => guard_tc x y xs ys W
          clear hc1 hc2 hx1 hx2 hx3 hx4 p0 p1 q0 q1 hb1 hb2
          have hki : (k : Int) < (T.length : Int) := by omega
          go_wp2_with fail
          go_quiet (fail)
          go_wp2
          go_roundw
          case rel => exact ⟨k + 1, by omega, by go_num, ord_drewN HB.out _⟩
          case measure => simp [intOf]; omega
        · obtain rfl : k = T.length := by omega
          go_wp2
          go_ret
          have h9 := HB10.out.trans (HB.out.mono HB10.out.size)
          exact ⟨rfl, HB7.out.trans (h9.mono HB7.out.size)⟩

set_option maxRecDepth 100000 in
set_option maxHeartbeats 1000000 in
theorem FnOrders_walk (A : Option Addr) (len cap : Nat) (zs : List Int) (w : World) (h : IsRow .u8 w A len cap zs) :
    Calls Try.prog 8 #[.slice A len cap] w fun e w' => e = .returned (.bool true) ∧ Below w.heap.size w w' := by
  by_cases hl : 1048576 < (len : Int)
  · go_enter Try.func8, Try.ntmps8
    go_wp2_with (go_at_call 39; (refine (big_yes A len cap _ hl).mono ?_); rintro e w0 ⟨rfl, rfl⟩)
    go_ret
    exact ⟨rfl, Below.refl _ _⟩
  · exact FnOrders_core A len cap w (codeAt_of h (by omega))

end Go.Proofs.Ytggohfinkpppkaa
