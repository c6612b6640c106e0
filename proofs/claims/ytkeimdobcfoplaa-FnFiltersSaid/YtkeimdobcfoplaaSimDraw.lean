/-
  What the drawing functions of chapter 10 hand back; laws.at; laws.sameInts. By an AI agent.
-/
import Derived.Test.YtkeimdobcfoplaaEdDraw
import Derived.Test.YtkeimdobcfoplaaSetDraw
import Derived.Test.YtkeimdobcfoplaaIntT
namespace Go.Proofs.Ytkeimdobcfoplaa
open Go.RowKit
set_option linter.unusedVariables false

set_option maxRecDepth 100000 in
set_option maxHeartbeats 1000000 in
theorem drawPF10_any (A : Option Addr) (len cap : Nat) (w : World) (hcode : CodeAt w w.heap.size A len) : Calls Try.prog 11 #[.slice A len cap] w (DrawnTwoInt w) := by
  have HCODE := Lib.hid hcode
  clear hcode
  go_enter Try.func11, Try.ntmps11
  go_wp2_with (go_at_call 36; (refine (l1New_any A len cap _ HCODE.out).mono ?_); rintro e w1 ⟨c, rfl, hc1, hb1⟩; refine Hid.out ?_)
  refine Lib.hid ?_
  have HC1 := Lib.hid hc1
  have HB1 := Lib.hid hb1
  clear hc1 hb1
  go_wp2_with (go_at_call 37; (refine (l4Two_any w.heap.size c _ HC1.out).mono ?_); rintro e w2 ⟨s, t, rfl, hs, ht, hc2, hg2⟩; refine Hid.out ?_)
  refine Lib.hid ?_
  have HC2 := Lib.hid hc2
  have HG2 := Lib.hid hg2
  have HST := Lib.hid (And.intro hs ht)
  clear hc2 hg2 hs ht
  go_wp2_with (go_at_call 38; (refine (l1Below_any w.heap.size c _ _ HC2.out (by omega) (by omega)).mono ?_); rintro e w3 ⟨x, rfl, hx0, hx1, hc3, hg3⟩; refine Hid.out ?_)
  refine Lib.hid ?_
  have HG3 := Lib.hid (grown_trans HG2.out hg3)
  clear hc3 hg3
  go_wp2
  go_ret3
  exact ⟨s, t, x - 1, rfl, HST.out.1, HST.out.2, by omega, by omega, below_cur HB1.out HG3.out HC1.out.1⟩

def DrawnSim (w : World) (e : Ending) (w' : World) : Prop := ∃ (a : Option Addr) (c : Nat) (l : List Str) (t : ByteArray) (q : Int), e = .returned (.tuple #[.slice a l.length c, .string t, .int .i64 q]) ∧ Sm w' a l c ∧ l.length ≤ 6 ∧ t.size ≤ 200 ∧ -1 ≤ q ∧ q ≤ 4 ∧ Below w.heap.size w w'

theorem norm_small {s : ByteArray} {y : ByteArray} (h : s.size ≤ 100) (hy : nstr (normL s.data.toList) = y) : y.size ≤ 200 := by
  rw [← hy]
  exact norm_b h

set_option maxRecDepth 100000 in
set_option maxHeartbeats 2000000 in
theorem drawSim_any (A : Option Addr) (len cap : Nat) (w : World) (hcode : CodeAt w w.heap.size A len) : Calls Try.prog 17 #[.slice A len cap] w (DrawnSim w) := by
  have HCODE := Lib.hid hcode
  clear hcode
  go_enter Try.func17, Try.ntmps17
  go_wp2_with (go_at_call 36; (refine (l1New_any A len cap _ HCODE.out).mono ?_); rintro e w1 ⟨c, rfl, hc1, hb1⟩; refine Hid.out ?_)
  refine Lib.hid ?_
  have HC1 := Lib.hid hc1
  have HLT := Lib.hid hc1.lt
  have HB1 := Lib.hid hb1
  clear hc1 hb1
  go_wp2_with (go_at_call 38; (refine (l1Below_any w.heap.size c _ _ (HC1.out.alloc _) (by omega) (by omega)).mono ?_); rintro e w2 ⟨x, rfl, hx0, hx1, hc2, hg2⟩; refine Hid.out ?_)
  refine Lib.hid ?_
  obtain ⟨n, rfl⟩ := Int.eq_ofNat_of_zero_le hx0
  have HC2 := Lib.hid hc2
  have HG2 := Lib.hid (grown_trans (grown_alloc w1 _ c) hg2)
  have HO2 := Lib.hid (own_keptc (own_new w1 w1.heap.size w1.heap.size rfl (Nat.le_refl _)) hg2 HLT.out)
  have hn : n ≤ 6 := by omega
  clear hc2 hg2 hx0 hx1
  go_wp2
  go_loopw [6, 7] (fun v i wr => ∃ (k : Nat) (a : Option Addr) (cp : Nat) (l : List Str), i = .int .i64 k ∧ v = .slice a l.length cp ∧ k + l.length ≤ 6 ∧ (∀ x ∈ l, x.length ≤ 200) ∧ OwnS wr w1.heap.size (.slice a l.length cp) l ∧ Cur wr w.heap.size c ∧ w1.grownBy wr (some c)) (fun _ i _ => (intOf i).toNat)
  case atStart => exact ⟨n, _, _, [], rfl, rfl, hn, by simp, HO2.out, HC2.out, HG2.out⟩
  case round =>
    clear HC2 HG2 HO2
    obtain ⟨k, a, cp, l, rfl, rfl, hk, hx, hown, hcur, hg⟩ := hrel
    have HX := Lib.hid hx
    have HOWN := Lib.hid hown
    have HCU := Lib.hid hcur
    have HG := Lib.hid hg
    clear hx hown hcur hg
    by_cases hlt : 0 < k
    · obtain ⟨j, rfl⟩ : ∃ j, k = j + 1 := ⟨k - 1, by omega⟩
      go_wp2_with (go_at_call 42; (refine (l2Text_any w.heap.size c _ HCU.out).mono ?_); rintro e w3 ⟨s, rfl, hs, hc3, hg3⟩; refine Hid.out ?_)
      refine Lib.hid ?_
      have HS := Lib.hid hs
      have HC3 := Lib.hid hc3
      have HG3 := Lib.hid (grown_trans HG.out hg3)
      have HO3 := Lib.hid (own_keptc HOWN.out hg3 HLT.out)
      have HS1 := Lib.hid (show s.size ≤ 1048576 by omega)
      clear hs hc3 hg3
      obtain ⟨y, hy⟩ : ∃ y, nstr (normL s.data.toList) = y := ⟨_, rfl⟩
      have HY := Lib.hid (norm_small HS.out hy)
      have HN := Lib.hid (show ∀ W, Calls Try.prog 41 #[.string s] W fun e w' => e = .returned (.string y) ∧ Below W.heap.size W w' from fun W => by rw [← hy]; exact spec_no s W HS1.out)
      clear hy
      go_wp2_with (go_at_call 41; (refine (HN.out _).mono ?_); rintro e w4 ⟨rfl, hb4⟩; refine Hid.out ?_)
      refine Lib.hid ?_
      have HC4 := Lib.hid (HC3.out.below hb4 HC3.out.lt)
      have HG4 := Lib.hid (grown_below HG3.out (hb4.mono HG3.out.size))
      have HO4 := Lib.hid (HO3.out.below hb4)
      clear hb4
      obtain ⟨v', w5, hrun, ho, hgr⟩ := run_app 28 w1.heap.size (.slice a l.length cp) l (w4.alloc (.cells #[.string y] 9)) (HO4.out.alloc _) (some ⟨w4.heap.size, 0, none⟩) 1 [y.data.toList]
        (in_one w4 w4.heap.size y _ rfl rfl) nofun (by simp; omega) (by have := HG4.out.size; simp; omega)
      obtain ⟨a', c', rfl⟩ := ho.shape
      have HRUN := Lib.hid hrun
      have HO := Lib.hid ho
      have HB := Lib.hid (below_own (w0 := w1) (HO4.out.alloc (.cells #[.string y] 9)) (by have := HG4.out.size; simp; omega) hgr)
      have HC5 := Lib.hid ((HC4.out.alloc (.cells #[.string y] 9)).below HB.out HLT.out)
      have HG5 := Lib.hid (grown_below (grown_trans HG4.out (grown_alloc w4 (.cells #[.string y] 9) c)) HB.out)
      clear hrun ho hgr
      go_wp2_with (at_builtin; refine Lib.wpList_append_run _ rfl _ _ _ _ rfl _ _ rfl rfl _ _ HRUN.out ?_)
      go_roundw
      case rel =>
        refine ⟨j, a', c', l ++ [y.data.toList], by go_num, by first | rfl | simp, by rw [List.length_append]; simp; omega, fun x hx => ?_, HO.out, HC5.out, HG5.out⟩
        rcases List.mem_append.1 hx with hx | hx
        · exact HX.out x hx
        · rw [List.mem_singleton.1 hx]
          have h1 : y.data.toList.length = y.size := Array.length_toList
          have := HY.out
          omega
      case measure => simp [intOf]
    · obtain rfl : k = 0 := by omega
      go_wp2_with (go_at_call 42; (refine (l2Text_any w.heap.size c _ HCU.out).mono ?_); rintro e w3 ⟨s, rfl, hs, hc3, hg3⟩; refine Hid.out ?_)
      refine Lib.hid ?_
      have HS := Lib.hid hs
      have HC3 := Lib.hid hc3
      have HG3 := Lib.hid (grown_trans HG.out hg3)
      have HO3 := Lib.hid (own_keptc HOWN.out hg3 HLT.out)
      have HS1 := Lib.hid (show s.size ≤ 1048576 by omega)
      clear hs hc3 hg3
      obtain ⟨y, hy⟩ : ∃ y, nstr (normL s.data.toList) = y := ⟨_, rfl⟩
      have HY := Lib.hid (norm_small HS.out hy)
      have HN := Lib.hid (show ∀ W, Calls Try.prog 41 #[.string s] W fun e w' => e = .returned (.string y) ∧ Below W.heap.size W w' from fun W => by rw [← hy]; exact spec_no s W HS1.out)
      clear hy
      go_wp2_with (go_at_call 41; (refine (HN.out _).mono ?_); rintro e w4 ⟨rfl, hb4⟩; refine Hid.out ?_)
      refine Lib.hid ?_
      have HC4 := Lib.hid (HC3.out.below hb4 HC3.out.lt)
      have HG4 := Lib.hid (grown_below HG3.out (hb4.mono HG3.out.size))
      have HO4 := Lib.hid (HO3.out.below hb4)
      clear hb4
      go_wp2_with (go_at_call 38; (refine (l1Below_any w.heap.size c _ _ HC4.out (by omega) (by omega)).mono ?_); rintro e w5 ⟨x, rfl, hx0, hx1, hc5, hg5⟩; refine Hid.out ?_)
      refine Lib.hid ?_
      have HG5 := Lib.hid (grown_trans HG4.out hg5)
      have HO5 := Lib.hid (own_keptc HO4.out hg5 HLT.out)
      clear hc5 hg5
      go_wp2
      go_ret3
      exact ⟨a, cp, l, y, x - 1, rfl, HO5.out.sm (by omega) (fun x hx => by have := HX.out x hx; omega), by omega, HY.out, by omega, by omega, below_cur HB1.out HG5.out HC1.out.1⟩

set_option maxRecDepth 100000 in
set_option maxHeartbeats 1000000 in
theorem at0_any (A : Option Addr) (len cap : Nat) (w : World) (hcode : CodeAt w w.heap.size A len) : Calls Try.prog 21 #[.slice A len cap, .int .i64 0] w fun e w' => ∃ z : Int, e = .returned (.int .i64 z) ∧ 0 ≤ z ∧ z ≤ 255 ∧ Below w.heap.size w w' := by
  have HCODE := Lib.hid hcode
  have hlen : len ≤ 1048576 := hcode.1
  clear hcode
  by_cases h0 : 0 < len
  · obtain ⟨b, off, rfl, hlt, hz⟩ := HCODE.out.2 h0
    obtain ⟨z, hz0, hz1, hc⟩ := hz 0 h0
    rw [Nat.add_zero] at hc
    go_enter Try.func21, Try.ntmps21
    go_wp2
    go_ret
    exact ⟨z, rfl, hz0, hz1, Below.refl _ _⟩
  · obtain rfl : len = 0 := by omega
    go_enter Try.func21, Try.ntmps21
    go_wp2
    go_ret
    exact ⟨0, rfl, by omega, by omega, Below.refl _ _⟩

end Go.Proofs.Ytkeimdobcfoplaa
