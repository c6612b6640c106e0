/-
  The score of two normalized strings, on both sides, for strings of at most 1,000 bytes; the score of two years. By an AI agent.
-/
import Derived.Test.YtggohfinkpppkabGreatDoorStrE
import Derived.Test.YtggohfinkpppkabGreatDoorNNorm
import Derived.Test.YtggohfinkpppkabGreatDoorEdDist
import Derived.Test.YtggohfinkpppkabGreatDoorYear
import Derived.Test.YtggohfinkpppkabGreatDoorNumS
namespace Go.Proofs.YtggohfinkpppkabGreatDoor
open Go.RowKit
set_option linter.unusedVariables false

def edR (x y : List UInt8) : Int := if normL x = [] ∨ normL y = [] then 0 else esR (edD false (nstr (normL x)) (nstr (normL y))) (max (normL x).length (normL y).length)
theorem norm_small (s : ByteArray) (h : s.size ≤ 1000) : (nstr (normL s.data.toList)).size ≤ 2000 := by
  have h1 := norm_len s.data.toList
  have h2 := dsize s
  rw [nstr_size]
  omega
theorem ed_zero1 {x y : List UInt8} {X : ByteArray} {r : Int} (hX : nstr (normL x) = X) (h : X.size = 0) (hr : edR x y = r) : 0 = r := by
  rw [← hX, nstr_size] at h
  rw [← hr]
  unfold edR
  rw [if_pos (.inl (List.eq_nil_of_length_eq_zero h))]
theorem ed_zero2 {x y : List UInt8} {Y : ByteArray} {r : Int} (hY : nstr (normL y) = Y) (h : Y.size = 0) (hr : edR x y = r) : 0 = r := by
  rw [← hY, nstr_size] at h
  rw [← hr]
  unfold edR
  rw [if_pos (.inr (List.eq_nil_of_length_eq_zero h))]
theorem ed_full {x y : List UInt8} {X Y : ByteArray} {r : Int} (hX : nstr (normL x) = X) (hY : nstr (normL y) = Y) (h : ¬ X.size = 0) (h' : ¬ Y.size = 0) (hr : edR x y = r) : esR (edD false X Y) (max X.size Y.size) = r := by
  rw [← hX, nstr_size] at h
  rw [← hY, nstr_size] at h'
  rw [← hr]
  unfold edR
  rw [if_neg (by rintro (e | e); exact h (by rw [e]; rfl); exact h' (by rw [e]; rfl)), ← hX, ← hY, nstr_size, nstr_size]
theorem spec_no_at (s X : ByteArray) (w : World) (hs : s.size ≤ 1000) (hX : nstr (normL s.data.toList) = X) :
    Calls Tryz.prog 11 #[.string s] w fun e w' => e = .returned (.string X) ∧ Below w.heap.size w w' := by
  rw [← hX]
  exact spec_no s w (by omega)
theorem impl_no_at (s X : ByteArray) (w : World) (hs : s.size ≤ 1000) (hX : nstr (normL s.data.toList) = X) :
    Calls Tryz.prog 71 #[.string s] w fun e w' => e = .returned (.string X) ∧ Below w.heap.size w w' := by
  rw [← hX]
  exact impl_no s w (by omega)
theorem spec_es_at (X Y : ByteArray) (r : Int) (w : World) (hX : X.size ≤ 2000) (hY : Y.size ≤ 2000) (hr : esR (edD false X Y) (max X.size Y.size) = r) :
    Calls Tryz.prog 54 #[.string X, .string Y] w fun e w' => e = .returned (.int .i64 r) ∧ Below w.heap.size w w' := by
  rw [← hr]
  exact spec_es X Y w (by omega) (by omega)
theorem impl_es_at (X Y : ByteArray) (r : Int) (w : World) (hX : X.size ≤ 2000) (hY : Y.size ≤ 2000) (hr : esR (edD false X Y) (max X.size Y.size) = r) :
    Calls Tryz.prog 72 #[.string X, .string Y] w fun e w' => e = .returned (.int .i64 r) ∧ Below w.heap.size w w' := by
  rw [← hr]
  exact impl_es X Y w (by omega) (by omega)

set_option maxRecDepth 100000 in
set_option maxHeartbeats 800000 in
theorem ed_spec (a b : ByteArray) (r : Int) (w : World) (ha : a.size ≤ 1000) (hb : b.size ≤ 1000) (hr : edR a.data.toList b.data.toList = r) :
    Calls Tryz.prog 25 #[.string a, .string b] w fun e w' => e = .returned (.int .i64 r) ∧ Below w.heap.size w w' := by
  obtain ⟨X, hX⟩ : ∃ X, nstr (normL a.data.toList) = X := ⟨_, rfl⟩
  obtain ⟨Y, hY⟩ : ∃ Y, nstr (normL b.data.toList) = Y := ⟨_, rfl⟩
  have HXS := Lib.hid (show X.size ≤ 2000 by rw [← hX]; exact norm_small a ha)
  have HYS := Lib.hid (show Y.size ≤ 2000 by rw [← hY]; exact norm_small b hb)
  have HX := Lib.hid hX
  have HY := Lib.hid hY
  have HR := Lib.hid hr
  have HA := Lib.hid ha
  have HB := Lib.hid hb
  clear hX hY hr ha hb
  by_cases hx : X.size = 0
  · have HE := Lib.hid (ed_zero1 HX.out hx HR.out)
    obtain ⟨q1, q2⟩ := empties hx
    clear hx
    go_enter Tryz.func25, Tryz.ntmps25
    go_wp2_with (first
      | (go_at_call 11; ((with_reducible refine (spec_no_at a X _ HA.out HX.out).mono ?_); rintro e w1 ⟨rfl, hb1⟩; have B1 := Lib.hid hb1; clear hb1))
      | (go_at_call 11; ((with_reducible refine (spec_no_at b Y _ HB.out HY.out).mono ?_); rintro e w2 ⟨rfl, hb2⟩; have B2 := Lib.hid (B1.out.trans (hb2.mono B1.out.size)); clear hb2)))
    go_ret
    exact ⟨iret_int HE.out, B2.out⟩
  · by_cases hy : Y.size = 0
    · have HE := Lib.hid (ed_zero2 HY.out hy HR.out)
      obtain ⟨q1, q2⟩ := empties hy
      obtain ⟨q3, q4⟩ := fulls hx
      clear hx hy
      go_enter Tryz.func25, Tryz.ntmps25
      go_wp2_with (first
        | (go_at_call 11; ((with_reducible refine (spec_no_at a X _ HA.out HX.out).mono ?_); rintro e w1 ⟨rfl, hb1⟩; have B1 := Lib.hid hb1; clear hb1))
        | (go_at_call 11; ((with_reducible refine (spec_no_at b Y _ HB.out HY.out).mono ?_); rintro e w2 ⟨rfl, hb2⟩; have B2 := Lib.hid (B1.out.trans (hb2.mono B1.out.size)); clear hb2)))
      go_ret
      exact ⟨iret_int HE.out, B2.out⟩
    · have HE := Lib.hid (ed_full HX.out HY.out hx hy HR.out)
      obtain ⟨q1, q2⟩ := fulls hy
      obtain ⟨q3, q4⟩ := fulls hx
      clear hx hy
      go_enter Tryz.func25, Tryz.ntmps25
      go_wp2_with (first
        | (go_at_call 11; ((with_reducible refine (spec_no_at a X _ HA.out HX.out).mono ?_); rintro e w1 ⟨rfl, hb1⟩; have B1 := Lib.hid hb1; clear hb1))
        | (go_at_call 11; ((with_reducible refine (spec_no_at b Y _ HB.out HY.out).mono ?_); rintro e w2 ⟨rfl, hb2⟩; have B2 := Lib.hid (B1.out.trans (hb2.mono B1.out.size)); clear hb2))
        | (go_at_call 54; ((with_reducible refine (spec_es_at X Y r _ HXS.out HYS.out HE.out).mono ?_); rintro e w3 ⟨rfl, hb3⟩; have B3 := Lib.hid (B2.out.trans (hb3.mono B2.out.size)); clear hb3)))
      go_ret
      exact ⟨rfl, B3.out⟩

set_option maxRecDepth 100000 in
set_option maxHeartbeats 800000 in
theorem ed_impl (a b : ByteArray) (r : Int) (w : World) (ha : a.size ≤ 1000) (hb : b.size ≤ 1000) (hr : edR a.data.toList b.data.toList = r) :
    Calls Tryz.prog 48 #[.string a, .string b] w fun e w' => e = .returned (.int .i64 r) ∧ Below w.heap.size w w' := by
  obtain ⟨X, hX⟩ : ∃ X, nstr (normL a.data.toList) = X := ⟨_, rfl⟩
  obtain ⟨Y, hY⟩ : ∃ Y, nstr (normL b.data.toList) = Y := ⟨_, rfl⟩
  have HXS := Lib.hid (show X.size ≤ 2000 by rw [← hX]; exact norm_small a ha)
  have HYS := Lib.hid (show Y.size ≤ 2000 by rw [← hY]; exact norm_small b hb)
  have HX := Lib.hid hX
  have HY := Lib.hid hY
  have HR := Lib.hid hr
  have HA := Lib.hid ha
  have HB := Lib.hid hb
  clear hX hY hr ha hb
  by_cases hx : X.size = 0
  · have HE := Lib.hid (ed_zero1 HX.out hx HR.out)
    obtain ⟨q1, q2⟩ := empties hx
    clear hx
    go_enter Tryz.func48, Tryz.ntmps48
    go_wp2_with (first
      | (go_at_call 71; ((with_reducible refine (impl_no_at a X _ HA.out HX.out).mono ?_); rintro e w1 ⟨rfl, hb1⟩; have B1 := Lib.hid hb1; clear hb1))
      | (go_at_call 71; ((with_reducible refine (impl_no_at b Y _ HB.out HY.out).mono ?_); rintro e w2 ⟨rfl, hb2⟩; have B2 := Lib.hid (B1.out.trans (hb2.mono B1.out.size)); clear hb2)))
    go_ret
    exact ⟨iret_int HE.out, B2.out⟩
  · by_cases hy : Y.size = 0
    · have HE := Lib.hid (ed_zero2 HY.out hy HR.out)
      obtain ⟨q1, q2⟩ := empties hy
      obtain ⟨q3, q4⟩ := fulls hx
      clear hx hy
      go_enter Tryz.func48, Tryz.ntmps48
      go_wp2_with (first
        | (go_at_call 71; ((with_reducible refine (impl_no_at a X _ HA.out HX.out).mono ?_); rintro e w1 ⟨rfl, hb1⟩; have B1 := Lib.hid hb1; clear hb1))
        | (go_at_call 71; ((with_reducible refine (impl_no_at b Y _ HB.out HY.out).mono ?_); rintro e w2 ⟨rfl, hb2⟩; have B2 := Lib.hid (B1.out.trans (hb2.mono B1.out.size)); clear hb2)))
      go_ret
      exact ⟨iret_int HE.out, B2.out⟩
    · have HE := Lib.hid (ed_full HX.out HY.out hx hy HR.out)
      obtain ⟨q1, q2⟩ := fulls hy
      obtain ⟨q3, q4⟩ := fulls hx
      clear hx hy
      go_enter Tryz.func48, Tryz.ntmps48
      go_wp2_with (first
        | (go_at_call 71; ((with_reducible refine (impl_no_at a X _ HA.out HX.out).mono ?_); rintro e w1 ⟨rfl, hb1⟩; have B1 := Lib.hid hb1; clear hb1))
        | (go_at_call 71; ((with_reducible refine (impl_no_at b Y _ HB.out HY.out).mono ?_); rintro e w2 ⟨rfl, hb2⟩; have B2 := Lib.hid (B1.out.trans (hb2.mono B1.out.size)); clear hb2))
        | (go_at_call 72; ((with_reducible refine (impl_es_at X Y r _ HXS.out HYS.out HE.out).mono ?_); rintro e w3 ⟨rfl, hb3⟩; have B3 := Lib.hid (B2.out.trans (hb3.mono B2.out.size)); clear hb3)))
      go_ret
      exact ⟨rfl, B3.out⟩

/-- the score of two years -/
noncomputable def yearR (x y : List UInt8) : Int := if yrR x = 0 ∨ yrR y = 0 then 0 else nsR (yrR x) (yrR y) 10

set_option maxRecDepth 100000 in
set_option maxHeartbeats 800000 in
theorem year_impl (a b : ByteArray) (r : Int) (w : World) (ha : a.size ≤ 1000) (hb : b.size ≤ 1000) (hr : yearR a.data.toList b.data.toList = r) (ht : TabAt w) :
    Calls Tryz.prog 52 #[.string a, .string b] w fun e w' => e = .returned (.int .i64 r) ∧ Below w.heap.size w w' := by
  obtain ⟨x, hx⟩ : ∃ x, yrR a.data.toList = x := ⟨_, rfl⟩
  obtain ⟨y, hy⟩ : ∃ y, yrR b.data.toList = y := ⟨_, rfl⟩
  have HR := Lib.hid (show (if x = 0 ∨ y = 0 then 0 else nsR x y 10) = r by rw [← hr]; unfold yearR; rw [hx, hy])
  have HX := Lib.hid hx
  have HY := Lib.hid hy
  have HT := Lib.hid ht
  have HA := Lib.hid (show a.size ≤ 1048576 by omega)
  have HB := Lib.hid (show b.size ≤ 1048576 by omega)
  clear hx hy hr ha hb ht
  by_cases h1 : x = 0
  · subst h1
    obtain rfl : 0 = r := by rw [← HR.out, if_pos (.inl rfl)]
    go_enter Tryz.func52, Tryz.ntmps52
    go_wp2_with (first
      | (go_at_call 79; ((with_reducible refine (yr_impl a 0 _ HA.out HT.out HX.out).mono ?_); rintro e w1 ⟨rfl, hb1⟩; have B1 := Lib.hid hb1; clear hb1))
      | (go_at_call 79; ((with_reducible refine (yr_impl b y _ HB.out (HT.out.on B1.out) HY.out).mono ?_); rintro e w2 ⟨rfl, hb2⟩; have B2 := Lib.hid (B1.out.trans (hb2.mono B1.out.size)); clear hb2)))
    go_ret
    exact ⟨rfl, B2.out⟩
  · by_cases h2 : y = 0
    · subst h2
      obtain rfl : 0 = r := by rw [← HR.out, if_pos (.inr rfl)]
      have q1 : (x == 0) = false := by simpa using h1
      go_enter Tryz.func52, Tryz.ntmps52
      go_wp2_with (first
        | (go_at_call 79; ((with_reducible refine (yr_impl a x _ HA.out HT.out HX.out).mono ?_); rintro e w1 ⟨rfl, hb1⟩; have B1 := Lib.hid hb1; clear hb1))
        | (go_at_call 79; ((with_reducible refine (yr_impl b 0 _ HB.out (HT.out.on B1.out) HY.out).mono ?_); rintro e w2 ⟨rfl, hb2⟩; have B2 := Lib.hid (B1.out.trans (hb2.mono B1.out.size)); clear hb2)))
      go_ret
      exact ⟨rfl, B2.out⟩
    · have HE := Lib.hid (show nsR x y 10 = r by rw [← HR.out, if_neg (by rintro (e | e); exact h1 e; exact h2 e)])
      have q1 : (x == 0) = false := by simpa using h1
      have q2 : (y == 0) = false := by simpa using h2
      clear h1 h2
      go_enter Tryz.func52, Tryz.ntmps52
      go_wp2_with (first
        | (go_at_call 79; ((with_reducible refine (yr_impl a x _ HA.out HT.out HX.out).mono ?_); rintro e w1 ⟨rfl, hb1⟩; have B1 := Lib.hid hb1; clear hb1))
        | (go_at_call 79; ((with_reducible refine (yr_impl b y _ HB.out (HT.out.on B1.out) HY.out).mono ?_); rintro e w2 ⟨rfl, hb2⟩; have B2 := Lib.hid (B1.out.trans (hb2.mono B1.out.size)); clear hb2))
        | (go_at_call 80; ((with_reducible refine (ns_impl x y 10 r _ HE.out).mono ?_); rintro e w3 ⟨rfl, hb3⟩; have B3 := Lib.hid (B2.out.trans (hb3.mono B2.out.size)); clear hb3)))
      go_ret
      exact ⟨rfl, B3.out⟩

end Go.Proofs.YtggohfinkpppkabGreatDoor
