/-
  What the drawing functions of chapter 7 hand back: some numbers, some texts, two lists of integers; nothing that existed is written. By an AI agent.
-/
import Derived.Test.YtlcpbbfcdbghdaaDoorDraw2
import Derived.Test.YtlcpbbfcdbghdaaDoorIntT
namespace Go.Proofs.YtlcpbbfcdbghdaaDoor
open Go.RowKit
set_option linter.unusedVariables false

theorem ngrown_end {w w' w2 : World} {c : Nat} (h : Below w.heap.size w w') (hg : w'.grownBy w2 (some c)) (hc : w.heap.size ≤ c) : Below w.heap.size w w2 :=
  h.grown hg h.size (fun k hk => by injection hk with hk; omega)

def DrawnNums (w : World) (e : Ending) (w' : World) : Prop := ∃ a b s : Int, e = .returned (.tuple #[.int .i64 a, .int .i64 b, .int .i64 s]) ∧ Below w.heap.size w w'
def DrawnTwoS (w : World) (e : Ending) (w' : World) : Prop := ∃ s t : ByteArray, e = .returned (.tuple #[.string s, .string t]) ∧ s.size ≤ 17 ∧ t.size ≤ 17 ∧ Below w.heap.size w w'
def DrawnOneS (w : World) (e : Ending) (w' : World) : Prop := ∃ s : ByteArray, e = .returned (.string s) ∧ s.size ≤ 5 ∧ Below w.heap.size w w'
def DrawnInts (w : World) (e : Ending) (w' : World) : Prop := ∃ (a1 a2 : Option Addr) (c1 c2 : Nat) (l m : List Int), e = .returned (.tuple #[.slice a1 l.length c1, .slice a2 m.length c2]) ∧ InI w' a1 l ∧ InI w' a2 m ∧ l.length ≤ 6 ∧ m.length ≤ 6 ∧ Below w.heap.size w w'

set_option maxRecDepth 100000 in
set_option maxHeartbeats 2000000 in
theorem drawNS_any (A : Option Addr) (len cap : Nat) (w : World) (hcode : CodeAt w w.heap.size A len) : Calls Tryd.prog 6 #[.slice A len cap] w (DrawnNums w) := by
  have HCODE := Lib.hid hcode
  clear hcode
  go_enter Tryd.func6, Tryd.ntmps6
  go_wp2_with (go_at_call 20; (refine (l1New_any A len cap _ HCODE.out).mono ?_); rintro e w1 ⟨c, rfl, hc1, hb1⟩; refine Hid.out ?_)
  refine Lib.hid ?_
  have HC1 := Lib.hid hc1
  have HL1 := Lib.hid hc1.lt
  have HB1 := Lib.hid hb1
  clear hc1 hb1
  go_wp2_with (go_at_call 21; (refine (l1PickInt_any w.heap.size c w1.heap.size 8 _ (HC1.out.alloc _) (by omega) (by omega) (by have := HL1.out; omega) (lit_cells w1 [0, 1, 5, 1980, 1985, 9999, 10000, -1] (by decide))).mono ?_); rintro e w2 ⟨a, rfl, ha0, ha1, hc2, hg2⟩; refine Hid.out ?_)
  refine Lib.hid ?_
  have HC2 := Lib.hid hc2
  have HL2 := Lib.hid hc2.lt
  have HG2 := Lib.hid (grown_trans (grown_alloc w1 _ c) hg2)
  clear hc2 hg2
  go_wp2_with (go_at_call 21; (refine (l1PickInt_any w.heap.size c w2.heap.size 6 _ (HC2.out.alloc _) (by omega) (by omega) (by have := HL2.out; omega) (lit_cells w2 [0, 3, 5, 1980, 1983, 9999] (by decide))).mono ?_); rintro e w3 ⟨b, rfl, hb0, hb1, hc3, hg3⟩; refine Hid.out ?_)
  refine Lib.hid ?_
  have HC3 := Lib.hid hc3
  have HL3 := Lib.hid hc3.lt
  have HG3 := Lib.hid (grown_trans HG2.out (grown_trans (grown_alloc w2 _ c) hg3))
  clear hc3 hg3
  go_wp2_with (go_at_call 21; (refine (l1PickInt_any w.heap.size c w3.heap.size 7 _ (HC3.out.alloc _) (by omega) (by omega) (by have := HL3.out; omega) (lit_cells w3 [10, 5, 1, 3, 0, 9999, 10000] (by decide))).mono ?_); rintro e w4 ⟨s, rfl, hs0, hs1, hc4, hg4⟩; refine Hid.out ?_)
  refine Lib.hid ?_
  have HG4 := Lib.hid (grown_trans HG3.out (grown_trans (grown_alloc w3 _ c) hg4))
  clear hc4 hg4
  go_wp2
  go_ret3
  exact ⟨a, b, s, rfl, ngrown_end HB1.out HG4.out HC1.out.1⟩

set_option maxRecDepth 100000 in
set_option maxHeartbeats 1000000 in
theorem l7Phone_any (B c : Nat) (w : World) (hcur : Cur w B c) : Calls Tryd.prog 26 #[.pointer (some ⟨c, 0, none⟩)] w (SomeStr w B c 17) := by
  have HC := Lib.hid hcur
  have HLT := Lib.hid hcur.lt
  clear hcur
  go_enter Tryd.func26, Tryd.ntmps26
  go_wp2_with (go_at_call 28; (refine (l1Pick_any B c w.heap.size 11 17 _ (HC.out.alloc _) (by omega) (by omega) (by have := HLT.out; omega) (lit_strs w [⟨#[53, 53, 53, 32, 49, 50, 51, 52]⟩, ⟨#[43, 49, 32, 53, 53, 53, 45, 49, 50, 51, 52]⟩, ⟨#[49, 53, 53, 53, 49, 50, 51, 52]⟩, ⟨#[53, 53, 53, 49, 50, 51, 52]⟩, ⟨#[49, 50, 51, 52]⟩, ⟨#[50, 51, 52]⟩, ⟨#[]⟩, ⟨#[53, 53, 53, 45, 57, 57, 57, 57]⟩, ⟨#[48, 48, 52, 52, 32, 50, 48, 32, 55, 57, 52, 54, 32, 48, 48, 49, 56]⟩, ⟨#[55, 57, 52, 54, 32, 48, 48, 49, 56]⟩, ⟨#[120]⟩] 17 (by decide))).mono ?_); rintro e w1 ⟨s1, rfl, hs1, hc1, hg1⟩; refine Hid.out ?_)
  refine Lib.hid ?_
  have HC1 := Lib.hid hc1
  have HG1 := Lib.hid (grown_trans (grown_alloc w _ c) hg1)
  clear hc1 hg1
  go_wp2
  go_ret
  exact ⟨s1, rfl, hs1, HC1.out, HG1.out⟩

set_option maxRecDepth 100000 in
set_option maxHeartbeats 1000000 in
theorem drawPS_any (A : Option Addr) (len cap : Nat) (w : World) (hcode : CodeAt w w.heap.size A len) : Calls Tryd.prog 9 #[.slice A len cap] w (DrawnTwoS w) := by
  have HCODE := Lib.hid hcode
  clear hcode
  go_enter Tryd.func9, Tryd.ntmps9
  go_wp2_with (go_at_call 20; (refine (l1New_any A len cap _ HCODE.out).mono ?_); rintro e w1 ⟨c, rfl, hc1, hb1⟩; refine Hid.out ?_)
  refine Lib.hid ?_
  have HC1 := Lib.hid hc1
  have HB1 := Lib.hid hb1
  clear hc1 hb1
  go_wp2_with (go_at_call 26; (refine (l7Phone_any w.heap.size c _ HC1.out).mono ?_); rintro e w2 ⟨s, rfl, hs, hc2, hg2⟩; refine Hid.out ?_)
  refine Lib.hid ?_
  have HC2 := Lib.hid hc2
  have HG2 := Lib.hid hg2
  clear hc2 hg2
  go_wp2_with (go_at_call 26; (refine (l7Phone_any w.heap.size c _ HC2.out).mono ?_); rintro e w3 ⟨t, rfl, ht, hc3, hg3⟩; refine Hid.out ?_)
  refine Lib.hid ?_
  have HG3 := Lib.hid (grown_trans HG2.out hg3)
  clear hc3 hg3
  go_wp2
  go_ret2
  exact ⟨s, t, rfl, hs, ht, ngrown_end HB1.out HG3.out HC1.out.1⟩

set_option maxRecDepth 100000 in
set_option maxHeartbeats 1000000 in
theorem drawPY_any (A : Option Addr) (len cap : Nat) (w : World) (hcode : CodeAt w w.heap.size A len) : Calls Tryd.prog 14 #[.slice A len cap] w (DrawnOneS w) := by
  have HCODE := Lib.hid hcode
  clear hcode
  go_enter Tryd.func14, Tryd.ntmps14
  go_wp2_with (go_at_call 20; (refine (l1New_any A len cap _ HCODE.out).mono ?_); rintro e w1 ⟨c, rfl, hc1, hb1⟩; refine Hid.out ?_)
  refine Lib.hid ?_
  have HC1 := Lib.hid hc1
  have HL1 := Lib.hid hc1.lt
  have HB1 := Lib.hid hb1
  clear hc1 hb1
  go_wp2_with (go_at_call 28; (refine (l1Pick_any w.heap.size c w1.heap.size 10 5 _ (HC1.out.alloc _) (by omega) (by omega) (by have := HL1.out; omega) (lit_strs w1 [⟨#[49, 57, 56, 48]⟩, ⟨#[50, 48, 48, 49]⟩, ⟨#[48, 57, 56, 48]⟩, ⟨#[57, 57, 57]⟩, ⟨#[57, 57, 57, 57]⟩, ⟨#[49, 48, 48, 48, 48]⟩, ⟨#[]⟩, ⟨#[49, 57, 120, 48]⟩, ⟨#[45, 49, 57, 56, 48]⟩, ⟨#[49, 48, 48, 48]⟩] 5 (by decide))).mono ?_); rintro e w2 ⟨s, rfl, hs, hc2, hg2⟩; refine Hid.out ?_)
  refine Lib.hid ?_
  have HG2 := Lib.hid (grown_trans (grown_alloc w1 _ c) hg2)
  clear hc2 hg2
  go_wp2
  go_ret
  exact ⟨s, rfl, hs, ngrown_end HB1.out HG2.out HC1.out.1⟩

theorem two_new (w : World) : PairI ((w.alloc (.cells #[] 3)).alloc (.cells #[] 3)) w.heap.size (.slice (some ⟨w.heap.size, 0, none⟩) 0 0) (.slice (some ⟨w.heap.size + 1, 0, none⟩) 0 0) [] [] := by
  have h1 := (OwnI.made w w.heap.size #[] 0 (Nat.le_refl _) (Nat.zero_le _) rfl).alloc (.cells #[] 3)
  have h2 := OwnI.made (w.alloc (.cells #[] 3)) w.heap.size #[] 0 (by simp) (Nat.zero_le _) rfl
  rw [show (w.alloc (.cells #[] 3)).heap.size = w.heap.size + 1 by simp] at h2
  refine ⟨h1, h2, fun k hk e => ?_⟩
  simp [Value.ownBlock] at hk e
  omega

theorem drawn_of {w w' : World} {base : Nat} {u v : Value} {l m : List Int} (hp : PairI w' base u v l m) (hl : l.length ≤ 6) (hm : m.length ≤ 6) (hb : Below w.heap.size w w') : DrawnInts w (.returned (.tuple #[u, v])) w' := by
  obtain ⟨a1, c1, rfl⟩ := hp.1.shape
  obtain ⟨a2, c2, rfl⟩ := hp.2.1.shape
  exact ⟨a1, a2, c1, c2, l, m, rfl, hp.1.inI, hp.2.1.inI, hl, hm, hb⟩
theorem below_alloc {B : Nat} {w w' : World} (h : Below B w w') (o : Obj) (hB : B ≤ w.heap.size) : Below B w (w'.alloc o) := h.alloc (Nat.le_trans hB h.size) o

set_option maxRecDepth 100000 in
set_option maxHeartbeats 4000000 in
theorem drawCS_any (A : Option Addr) (len cap : Nat) (w : World) (hcode : CodeAt w w.heap.size A len) : Calls Tryd.prog 17 #[.slice A len cap] w (DrawnInts w) := by
  have HCODE := Lib.hid hcode
  clear hcode
  go_enter Tryd.func17, Tryd.ntmps17
  go_wp2_with (go_at_call 20; (refine (l1New_any A len cap _ HCODE.out).mono ?_); rintro e w1 ⟨c, rfl, hc1, hb1⟩; refine Hid.out ?_)
  refine Lib.hid ?_
  have HC1 := Lib.hid hc1
  have HL1 := Lib.hid hc1.lt
  have HLO := Lib.hid hc1.1
  have HB1 := Lib.hid hb1
  clear hc1 hb1
  go_wp2_with (go_at_call 31; (refine (l1Below_any w.heap.size c _ _ ((HC1.out.alloc _).alloc _) (by omega) (by omega)).mono ?_); rintro e w2 ⟨x, rfl, hx0, hx1, hc2, hg2⟩; refine Hid.out ?_)
  refine Lib.hid ?_
  obtain ⟨n, rfl⟩ := Int.eq_ofNat_of_zero_le hx0
  have HC2 := Lib.hid hc2
  have HP2 := Lib.hid ((two_new w1).keptc hg2 HL1.out)
  have HB2 := Lib.hid (ngrown_end (HB1.out.trans (((((Below.refl w1.heap.size w1).alloc (Nat.le_refl _) (.cells #[] 3)).alloc (by simp) (.cells #[] 3))).mono HB1.out.size)) hg2 HLO.out)
  have HZ2 := Lib.hid (show w1.heap.size ≤ w2.heap.size by have := hg2.size; simp at this; omega)
  have hn : n ≤ 4 := by omega
  clear hc2 hg2 hx0 hx1
  go_wp2
  go_loopw [5, 6, 7] (fun u v i wr => ∃ (k : Nat) (l m : List Int), i = .int .i64 k ∧ k + l.length ≤ 4 ∧ k + m.length ≤ 4 ∧ PairI wr w1.heap.size u v l m ∧ Cur wr w.heap.size c ∧ w1.heap.size ≤ wr.heap.size ∧ Below w.heap.size w wr) (fun _ _ i _ => (intOf i).toNat)
  case atStart => exact ⟨n, [], [], rfl, hn, hn, HP2.out, HC2.out, HZ2.out, HB2.out⟩
  case round =>
    clear HC2 HP2 HB2 HZ2
    obtain ⟨k, l, m, rfl, hkl, hkm, hpr, hcu, hsz, hbw⟩ := hrel
    have HPR := Lib.hid hpr
    have HCU := Lib.hid hcu
    have HCL := Lib.hid hcu.lt
    have HSZ := Lib.hid hsz
    have HBW := Lib.hid hbw
    clear hpr hcu hsz hbw
    by_cases hlt : 0 < k
    · obtain ⟨j, rfl⟩ : ∃ j, k = j + 1 := ⟨k - 1, by omega⟩
      go_wp2_with (first
        | (go_at_call 21; ((with_reducible refine (l1PickInt_any w.heap.size c wr.heap.size 5 _ (HCU.out.alloc _) (by omega) (by omega) (by have := HCL.out; omega) (lit_cells wr [0, 500, 1000, 333, 800] (by decide))).mono ?_); rintro e w3 ⟨z3, rfl, za3, zb3, hc, hg⟩; have HP3 := Lib.hid ((HPR.out.alloc _).keptc hg HL1.out); have HC3 := Lib.hid hc; have HCL3 := Lib.hid hc.lt; have HZ3 := Lib.hid (show w1.heap.size ≤ w3.heap.size by have h1 := hg.size; have h2 := HSZ.out; simp at h1; omega); have HB3 := Lib.hid (ngrown_end (HBW.out.alloc (by have := HBW.out.size; omega) _) hg HLO.out); clear hc hg))
        | (at_builtin; refine append_i rfl _ _ rfl w1.heap.size u5 l z3 HP3.out.1 rfl rfl (by omega) HZ3.out ?_; intro v4 w4 ho hg hat; have hb := HP3.out.below HZ3.out hg; have HP4 := Lib.hid (HP3.out.first ho hg hat); have HC4 := Lib.hid (HC3.out.below hb HL1.out); have HCL4 := Lib.hid (HC3.out.below hb HL1.out).lt; have HZ4 := Lib.hid (Nat.le_trans HZ3.out hb.size); have HB4 := Lib.hid (HB3.out.trans (hb.mono HB1.out.size)); clear ho hg hat hb)
        | (go_at_call 21; ((with_reducible refine (l1PickInt_any w.heap.size c w4.heap.size 4 _ (HC4.out.alloc _) (by omega) (by omega) (by have := HCL4.out; omega) (lit_cells w4 [0, 1, 2, 5] (by decide))).mono ?_); rintro e w5 ⟨z5, rfl, za5, zb5, hc, hg⟩; have HP5 := Lib.hid ((HP4.out.alloc _).keptc hg HL1.out); have HC5 := Lib.hid hc; have HCL5 := Lib.hid hc.lt; have HZ5 := Lib.hid (show w1.heap.size ≤ w5.heap.size by have h1 := hg.size; have h2 := HZ4.out; simp at h1; omega); have HB5 := Lib.hid (ngrown_end (HB4.out.alloc (by have := HB4.out.size; omega) _) hg HLO.out); clear hc hg))
        | (at_builtin; refine append_i rfl _ _ rfl w1.heap.size u6 m z5 HP5.out.swap.1 rfl rfl (by omega) HZ5.out ?_; intro v6 w6 ho hg hat; have hb := HP5.out.swap.below HZ5.out hg; have HP6 := Lib.hid (HP5.out.swap.first ho hg hat).swap; have HC6 := Lib.hid (HC5.out.below hb HL1.out); have HCL6 := Lib.hid (HC5.out.below hb HL1.out).lt; have HZ6 := Lib.hid (Nat.le_trans HZ5.out hb.size); have HB6 := Lib.hid (HB5.out.trans (hb.mono HB1.out.size)); clear ho hg hat hb))
      go_roundw
      case rel => exact ⟨j, _, _, by go_num, by simp; omega, by simp; omega, HP6.out, HC6.out, HZ6.out, HB6.out⟩
      case measure => simp [intOf] <;> omega
    · obtain rfl : k = 0 := by omega
      go_wp2_with (go_at_call 31; (refine (l1Below_any w.heap.size c _ _ HCU.out (by omega) (by omega)).mono ?_); rintro e w3 ⟨y, rfl, hy0, hy1, hc3, hg3⟩; refine Hid.out ?_)
      refine Lib.hid ?_
      have HP3 := Lib.hid (HPR.out.keptc hg3 HL1.out)
      have HZ3 := Lib.hid (Nat.le_trans HSZ.out hg3.size)
      have HB3 := Lib.hid (ngrown_end HBW.out hg3 HLO.out)
      clear hc3 hg3
      by_cases y0 : y = 0
      · subst y0
        go_wp2_with (first
          | (at_builtin; refine append_i rfl _ _ rfl w1.heap.size u5 l 1001 HP3.out.1 rfl rfl (by omega) HZ3.out ?_; intro v4 w4 ho hg hat; have hb := HP3.out.below HZ3.out hg; have HP4 := Lib.hid (HP3.out.first ho hg hat); have HZ4 := Lib.hid (Nat.le_trans HZ3.out hb.size); have HB4 := Lib.hid (HB3.out.trans (hb.mono HB1.out.size)); clear ho hg hat hb)
          | (at_builtin; refine append_i rfl _ _ rfl w1.heap.size u6 m 1 HP4.out.swap.1 rfl rfl (by omega) HZ4.out ?_; intro v5 w5 ho hg hat; have hb := HP4.out.swap.below HZ4.out hg; have HP5 := Lib.hid (HP4.out.swap.first ho hg hat).swap; have HZ5 := Lib.hid (Nat.le_trans HZ4.out hb.size); have HB5 := Lib.hid (HB4.out.trans (hb.mono HB1.out.size)); clear ho hg hat hb))
        go_ret2
        exact drawn_of HP5.out (by simp; omega) (by simp; omega) HB5.out
      · have y0b : (y == 0) = false := by simpa using y0
        by_cases y1 : y = 1
        · subst y1
          go_wp2_with (at_builtin; refine append_i rfl _ _ rfl w1.heap.size u6 m 1 HP3.out.swap.1 rfl rfl (by omega) HZ3.out ?_; intro v4 w4 ho hg hat; have hb := HP3.out.swap.below HZ3.out hg; have HP4 := Lib.hid (HP3.out.swap.first ho hg hat).swap; have HZ4 := Lib.hid (Nat.le_trans HZ3.out hb.size); have HB4 := Lib.hid (HB3.out.trans (hb.mono HB1.out.size)); clear ho hg hat hb)
          go_ret2
          exact drawn_of HP4.out (by omega) (by simp; omega) HB4.out
        · have y1b : (y == 1) = false := by simpa using y1
          go_wp2
          go_ret2
          exact drawn_of HP3.out (by omega) (by omega) HB3.out

end Go.Proofs.YtlcpbbfcdbghdaaDoor
