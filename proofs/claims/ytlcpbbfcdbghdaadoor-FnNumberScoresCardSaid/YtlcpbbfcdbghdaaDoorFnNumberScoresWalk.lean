/-
  The walk of laws.FnNumberScores. By an AI agent.
-/
import Derived.Test.YtlcpbbfcdbghdaaDoorNumFacts
import Derived.Test.YtlcpbbfcdbghdaaDoorPhone
import Derived.Test.YtlcpbbfcdbghdaaDoorYear
import Derived.Test.YtlcpbbfcdbghdaaDoorNumDraw
import Derived.Test.YtlcpbbfcdbghdaaDoorLawCode
namespace Go.Proofs.YtlcpbbfcdbghdaaDoor
open Go.RowKit
set_option linter.unusedVariables false

theorem code_later {w w' : World} {A : Option Addr} {len : Nat} (h : CodeAt w w.heap.size A len) (hb : Below w.heap.size w w') : CodeAt w' w'.heap.size A len := by
  have h1 := h.keep (w' := w') fun k hk => hb.block k hk
  exact ⟨h1.1, fun h0 => by obtain ⟨b, off, e, hlt, hz⟩ := h1.2 h0; exact ⟨b, off, e, Nat.lt_of_lt_of_le hlt hb.size, hz⟩⟩

set_option maxRecDepth 100000 in
set_option maxHeartbeats 4000000 in
theorem FnNumberScores_core (A : Option Addr) (len cap : Nat) (w : World) (hcode : CodeAt w w.heap.size A len) (hT : TabAt w) :
    Calls Tryd.prog 3 #[.slice A len cap] w fun e w' => e = .returned (.bool true) ∧ Below w.heap.size w w' := by
  have HCODE := Lib.hid hcode
  have HT := Lib.hid hT
  have hlen : (len : Int) ≤ 1048576 := by have := hcode.1; omega
  clear hcode hT
  go_enter Tryd.func3, Tryd.ntmps3
  go_wp2_with (go_at_call 5; (refine (big_no A len cap _ hlen).mono ?_); rintro e w0 ⟨rfl, rfl⟩; refine Hid.out ?_)
  refine Lib.hid ?_
  clear hlen
  go_wp2_with (go_at_call 6; ((with_reducible refine (drawNS_any A len cap _ HCODE.out).mono ?_); rintro e w1 ⟨a, b, s, rfl, hb⟩; refine Hid.out ?_))
  refine Lib.hid ?_
  have HBW := Lib.hid hb
  clear hb
  obtain ⟨r, hr⟩ : ∃ r, nsR a b s = r := ⟨_, rfl⟩
  obtain ⟨r0, r1⟩ := nsR_range a b s
  rw [hr] at r0 r1
  have HR := Lib.hid hr
  have HR2 := Lib.hid ((nsR_symm b a s).trans hr)
  clear hr
  go_wp2_with (first
    | (go_at_call 7; ((with_reducible refine (ns_impl a b s r _ HR.out).mono ?_); rintro e wn ⟨rfl, hb⟩; have HBW2 := Lib.hid (HBW.out.trans (hb.mono HBW.out.size)); clear hb HBW; have HBW := HBW2; clear HBW2))
    | (go_at_call 7; ((with_reducible refine (ns_impl b a s r _ HR2.out).mono ?_); rintro e wn ⟨rfl, hb⟩; have HBW2 := Lib.hid (HBW.out.trans (hb.mono HBW.out.size)); clear hb HBW; have HBW := HBW2; clear HBW2))
    | (go_at_call 8; ((with_reducible refine (ns_spec a b s r _ HR.out).mono ?_); rintro e wn ⟨rfl, rfl⟩))
    | (go_at_call 9; ((with_reducible refine (drawPS_any A len cap _ (code_later HCODE.out HBW.out)).mono ?_); rintro e wp ⟨p, q, rfl, hp, hq, hb⟩; refine Hid.out ?_)))
  refine Lib.hid ?_
  have HBX := Lib.hid (HBW.out.trans (hb.mono HBW.out.size))
  clear hb HBW r0 r1 HR HR2
  have HBW := HBX
  clear HBX
  have HP := Lib.hid (show p.size ≤ 1048576 by omega)
  have HQ := Lib.hid (show q.size ≤ 1048576 by omega)
  clear hp hq
  obtain ⟨t, ht⟩ : ∃ t, phR (digL p.data.toList) (digL q.data.toList) = t := ⟨_, rfl⟩
  obtain ⟨x, hx⟩ : ∃ x, nstr (digL p.data.toList) = x := ⟨_, rfl⟩
  have HR := Lib.hid ht
  have HR2 := Lib.hid ((phR_symm (digL q.data.toList) (digL p.data.toList)).trans ht)
  have HX := Lib.hid hx
  clear ht hx
  go_wp2_with (first
    | (go_at_call 10; ((with_reducible refine (ph_impl p q t _ HP.out HQ.out HR.out).mono ?_); rintro e wn ⟨rfl, hb⟩; have HBW2 := Lib.hid (HBW.out.trans (hb.mono HBW.out.size)); clear hb HBW; have HBW := HBW2; clear HBW2))
    | (go_at_call 10; ((with_reducible refine (ph_impl q p t _ HQ.out HP.out HR2.out).mono ?_); rintro e wn ⟨rfl, hb⟩; have HBW2 := Lib.hid (HBW.out.trans (hb.mono HBW.out.size)); clear hb HBW; have HBW := HBW2; clear HBW2))
    | (go_at_call 11; ((with_reducible refine (ph_spec p q t _ HP.out HQ.out HR.out).mono ?_); rintro e wn ⟨rfl, hb⟩; have HBW2 := Lib.hid (HBW.out.trans (hb.mono HBW.out.size)); clear hb HBW; have HBW := HBW2; clear HBW2))
    | (go_at_call 12; ((with_reducible refine (cD p x _ HP.out HX.out).mono ?_); rintro e wn ⟨rfl, hb⟩; have HBW2 := Lib.hid (HBW.out.trans (hb.mono HBW.out.size)); clear hb HBW; have HBW := HBW2; clear HBW2))
    | (go_at_call 13; ((with_reducible refine (cDs p x _ HP.out HX.out).mono ?_); rintro e wn ⟨rfl, hb⟩; have HBW2 := Lib.hid (HBW.out.trans (hb.mono HBW.out.size)); clear hb HBW; have HBW := HBW2; clear HBW2))
    | (go_at_call 14; ((with_reducible refine (drawPY_any A len cap _ (code_later HCODE.out HBW.out)).mono ?_); rintro e wy ⟨y, rfl, hy, hb⟩; refine Hid.out ?_)))
  refine Lib.hid ?_
  have HBX := Lib.hid (HBW.out.trans (hb.mono HBW.out.size))
  clear hb HBW HR HR2 HX HP HQ
  have HBW := HBX
  clear HBX
  have HY := Lib.hid (show y.size ≤ 1048576 by omega)
  clear hy
  obtain ⟨z, hz⟩ : ∃ z, yrR y.data.toList = z := ⟨_, rfl⟩
  have HZ := Lib.hid hz
  clear hz
  go_wp2_with (first
    | (go_at_call 15; ((with_reducible refine (yr_impl y z _ HY.out (HT.out.on HBW.out) HZ.out).mono ?_); rintro e wn ⟨rfl, hb⟩; have HBW2 := Lib.hid (HBW.out.trans (hb.mono HBW.out.size)); clear hb HBW; have HBW := HBW2; clear HBW2))
    | (go_at_call 16; ((with_reducible refine (yr_spec y z _ HY.out HZ.out).mono ?_); rintro e wn ⟨rfl, hb⟩; have HBW2 := Lib.hid (HBW.out.trans (hb.mono HBW.out.size)); clear hb HBW; have HBW := HBW2; clear HBW2))
    | (go_at_call 17; ((with_reducible refine (drawCS_any A len cap _ (code_later HCODE.out HBW.out)).mono ?_); rintro e wc ⟨a1, a2, c1, c2, l, m, rfl, hl, hm, hll, hml, hb⟩; refine Hid.out ?_)))
  refine Lib.hid ?_
  have HBX := Lib.hid (HBW.out.trans (hb.mono HBW.out.size))
  clear hb HBW HY HZ
  have HBW := HBX
  clear HBX
  have HL := Lib.hid hl
  have HM := Lib.hid hm
  have HLL := Lib.hid (show l.length ≤ 4000000 by omega)
  have HML := Lib.hid (show m.length ≤ 4000000 by omega)
  clear hl hm hml
  obtain ⟨C, hC⟩ : ∃ C, coR l m = C := ⟨_, rfl⟩
  have HC := Lib.hid hC
  clear hC
  go_wp2_with (go_at_call 18; ((with_reducible refine (co_impl a1 a2 c1 c2 l m C _ HL.out HM.out HLL.out HML.out HC.out).mono ?_); rintro e w5 ⟨rfl, hb⟩; refine Hid.out ?_))
  refine Lib.hid ?_
  have HL5 := Lib.hid (HL.out.below hb)
  have HM5 := Lib.hid (HM.out.below hb)
  have HBX := Lib.hid (HBW.out.trans (hb.mono HBW.out.size))
  clear hb HBW HL HM
  go_wp2_with (go_at_call 19; ((with_reducible refine (co_spec a1 a2 c1 c2 l m C _ HL5.out HM5.out HLL.out HML.out HC.out).mono ?_); rintro e w6 ⟨rfl, hb⟩; refine Hid.out ?_))
  refine Lib.hid ?_
  have HL6 := Lib.hid (HL5.out.below hb)
  have HBW := Lib.hid (HBX.out.trans (hb.mono HBX.out.size))
  clear hb HBX HL5 HM5
  go_wp2
  go_loop [14, 15, 16] (fun u v i => ∃ (k : Nat) (LO HI : Int), k ≤ l.length ∧ u = .int .i64 LO ∧ v = .int .i64 HI ∧ i = .int .i64 k ∧ ∀ j, j < k → LO ≤ l.getD j 0 ∧ l.getD j 0 ≤ HI) (fun _ _ i => l.length - (intOf i).toNat)
  case atStart => exact ⟨0, 1000, 0, Nat.zero_le _, rfl, rfl, rfl, fun j hj => absurd hj (Nat.not_lt_zero _)⟩
  case round =>
    obtain ⟨k, LO, HI, hk, rfl, rfl, rfl, hlo⟩ := hrel
    have HLO := Lib.hid hlo
    clear hlo
    by_cases hlt : k < l.length
    · obtain ⟨b, off, rfl, hbk, hc⟩ := HL6.out (by omega)
      obtain ⟨x, hx⟩ : ∃ x, l[k]? = some x := ⟨_, List.getElem?_eq_getElem hlt⟩
      have hcell : w6.cell? ⟨b, off + k, none⟩ = some (.int .i64 x) := hc k x hx
      have HX := Lib.hid hx
      clear hc hx
      by_cases h1 : x < LO
      all_goals by_cases h2 : HI < x
      all_goals go_wp2
      all_goals
        go_round
        case rel => exact ⟨k + 1, _, _, by omega, rfl, rfl, by go_num, lo_step HLO.out HX.out (by omega) (by omega) (by omega) (by omega)⟩
        case measure => simp [intOf]; omega
    · obtain rfl : k = l.length := by omega
      by_cases h0 : C = 0
      · subst h0
        go_wp2
        go_ret
        exact ⟨rfl, HBW.out⟩
      · have h0b : (C == 0) = false := by simpa using h0
        obtain ⟨g1, g2⟩ := co_between HC.out h0 HLO.out
        go_wp2
        go_ret
        exact ⟨rfl, HBW.out⟩

set_option maxRecDepth 100000 in
theorem FnNumberScores_walk (a0 : Option Addr) (len0 cap0 : Nat) (z0 : List Int) (w : World) (w0 : IsRow .u8 w a0 len0 cap0 z0) (hT : TabAt w) :
    Calls Tryd.prog 3 #[.slice a0 len0 cap0] w fun e w' => e = .returned (.bool true) ∧ Below w.heap.size w w' := by
  by_cases hbig : 1048576 < (len0 : Int)
  · have HBIG := Lib.hid hbig
    clear hbig w0 hT
    go_enter Tryd.func3, Tryd.ntmps3
    go_wp2_with (go_at_call 5; (refine (big_yes a0 len0 cap0 _ HBIG.out).mono ?_); rintro e w' ⟨rfl, rfl⟩)
    go_ret
    exact ⟨rfl, Below.refl _ _⟩
  · exact FnNumberScores_core a0 len0 cap0 w (codeAt_of w0 (by omega)) hT

end Go.Proofs.YtlcpbbfcdbghdaaDoor
