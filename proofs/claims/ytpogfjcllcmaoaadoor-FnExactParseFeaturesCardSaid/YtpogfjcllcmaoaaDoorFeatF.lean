/-
  What FormatFeatures answers, on both sides. By an AI agent.
-/
import Derived.Test.YtpogfjcllcmaoaaDoorFeatP
import Derived.Test.YtpogfjcllcmaoaaDoorFmtAt
import Derived.Test.YtpogfjcllcmaoaaDoorStrT
import Derived.Test.YtpogfjcllcmaoaaDoorUndrew
import Derived.Deep.RegionHeld3
import Derived.Deep.RegionWith
namespace Go.Proofs.YtpogfjcllcmaoaaDoor
open Go.RowKit
set_option linter.unusedVariables false

theorem cell_in {w : World} {b off k : Nat} {l : List Int} {x : Int} (h : InI w (some ⟨b, off, none⟩) l) (hx : l[k]? = some x) : w.cell? ⟨b, off + k, none⟩ = some (.int .i64 x) := by
  obtain ⟨hlt, -⟩ := List.getElem?_eq_some_iff.1 hx
  obtain ⟨b', off', ha, -, hc⟩ := h (by omega)
  injection ha with ha
  injection ha with h1 h2
  subst h1
  subst h2
  exact hc k x hx

/-- the text behind k rounds -/
def ffT (l : List Int) (k : Nat) : ByteArray := strOf (Lib.join ((fparts l).take k) [32])
theorem ffT_zero (l : List Int) : ffT l 0 = ⟨#[]⟩ := rfl
theorem ffT_size {l : List Int} (h : fvB l = true) (k : Nat) : (ffT l k).size ≤ 200 := by
  unfold ffT
  rw [strOf_size]
  have h1 := join_len (L := (fparts l).take k) (fun y hy => fparts_small h y (List.mem_of_mem_take hy))
  have h2 : ((fparts l).take k).length ≤ 6 := by rw [List.length_take, fparts_len, (fv_of h).1]; omega
  omega
theorem ffT_all {l : List Int} (h : fvB l = true) : ffT l 6 = ffR l := by
  unfold ffT
  rw [List.take_of_length_le (by rw [fparts_len, (fv_of h).1]; omega), ff_yes h]
  rfl
theorem part_str {k : Nat} {x : Int} {N t : ByteArray} (hN : fnR k = N) (ht : strOf (Lib.itoa x) = t) : (N ++ ⟨#[61]⟩) ++ t = strOf (fpart k x) := by
  rw [← hN, ← ht]
  show (strOf (fnL k) ++ strOf [61]) ++ strOf (Lib.itoa x) = _
  rw [strOf_append, strOf_append]
  unfold fpart
  simp
theorem ffT_first {l : List Int} {x : Int} {N t : ByteArray} (hx : l[0]? = some x) (hN : fnR (0 : Nat) = N) (ht : strOf (Lib.itoa x) = t) : ((⟨#[]⟩ ++ N) ++ ⟨#[61]⟩) ++ t = ffT l 1 := by
  unfold ffT
  rw [join_first (fparts_at hx), ← part_str hN ht]
  have e : (⟨#[]⟩ : ByteArray) ++ N = N := ByteArray.ext (by simp)
  rw [e]
theorem ffT_next {l : List Int} {k : Nat} {x : Int} {u N t : ByteArray} (hk : 0 < k) (hx : l[k]? = some x) (hu : ffT l k = u) (hN : fnR k = N) (ht : strOf (Lib.itoa x) = t) : (((u ++ ⟨#[32]⟩) ++ N) ++ ⟨#[61]⟩) ++ t = ffT l (k + 1) := by
  unfold ffT at hu ⊢
  rw [join_snoc (fparts_at hx) hk, ← hu, ← hN, ← ht]
  show (((strOf _ ++ strOf [32]) ++ strOf (fnL k)) ++ strOf [61]) ++ strOf (Lib.itoa x) = _
  rw [strOf_append, strOf_append, strOf_append, strOf_append]
  unfold fpart
  simp [List.append_assoc]
theorem fn_size (n : Int) : (fnR n).size ≤ 6 := fn_len n

set_option maxRecDepth 100000 in
set_option maxHeartbeats 1600000 in
theorem ff_spec (a : Option Addr) (cap : Nat) (l : List Int) (r : ByteArray) (w : World) (hl : l.length ≤ 4000000) (hin : InI w a l) (hr : ffR l = r) :
    Calls Tryd.prog 5 #[.slice a l.length cap] w fun e w' => e = .returned (.string r) ∧ Below w.heap.size w w' := by
  have HR := Lib.hid hr
  have HIN := Lib.hid hin
  clear hr hin
  obtain ⟨b, hb⟩ : ∃ b, fvB l = b := ⟨_, rfl⟩
  have HV := Lib.hid hb
  clear hb
  cases b
  · obtain rfl : ⟨#[]⟩ = r := by rw [← HR.out, ff_no HV.out]
    go_enter Tryd.func5, Tryd.ntmps5
    go_wp2_with (go_at_call 13; ((with_reducible refine (fv_spec a cap l _ _ hl HIN.out HV.out).mono ?_); rintro e w' ⟨rfl, rfl⟩))
    go_ret
    exact ⟨rfl, Below.refl _ _⟩
  · have H6 := Lib.hid (fv_of HV.out).1
    go_enter Tryd.func5, Tryd.ntmps5
    go_wp2_with (go_at_call 13; ((with_reducible refine (fv_spec a cap l _ _ hl HIN.out HV.out).mono ?_); rintro e w' ⟨rfl, rfl⟩))
    go_loopw [3, 4] (fun s i wr => ∃ k : Nat, k ≤ l.length ∧ i = .int .i64 k ∧ s = .string (ffT l k) ∧ Below w.heap.size w wr) (fun _ i _ => l.length - (intOf i).toNat)
    case atStart => exact ⟨0, Nat.zero_le _, rfl, rfl, Below.refl _ _⟩
    case round =>
      obtain ⟨k, hk, rfl, rfl, hbw⟩ := hrel
      have hus := ffT_size HV.out k
      obtain ⟨u, hu⟩ : ∃ u, ffT l k = u := ⟨_, rfl⟩
      rw [hu] at hus ⊢
      have HU := Lib.hid hu
      have HB := Lib.hid hbw
      clear hu hbw
      by_cases hlt : k < l.length
      · have hin := HIN.out.below HB.out
        obtain ⟨b, off, rfl, hb, hc⟩ := hin (by omega)
        obtain ⟨x, hx⟩ : ∃ x, l[k]? = some x := ⟨_, List.getElem?_eq_getElem hlt⟩
        have hcell : wr.cell? ⟨b, off + k, none⟩ = some (.int .i64 x) := hc k x hx
        have HBL := Lib.hid hb
        have HX := Lib.hid hx
        have hx0 := (fv_at HV.out hx).1
        have hx1 := (fv_at HV.out hx).2
        obtain ⟨N, hN⟩ : ∃ N, fnR k = N := ⟨_, rfl⟩
        obtain ⟨t, ht⟩ : ∃ t, strOf (Lib.itoa x) = t := ⟨_, rfl⟩
        have hNs : N.size ≤ 6 := by rw [← hN]; exact fn_size _
        have hts : t.size ≤ 21 := by rw [← ht, strOf_size]; exact Lib.itoa_length_le x (by omega) (by omega)
        have HNN := Lib.hid hN
        have HTT := Lib.hid ht
        have wrap1 := wrap_one
        clear hc hx hN ht hin hb
        by_cases h0 : k = 0
        · subst h0
          have hue : u = ⟨#[]⟩ := by rw [← HU.out, ffT_zero]
          subst hue
          have HN0 := Lib.hid (show fnR 0 = N from HNN.out)
          have hcell0 : wr.cell? ⟨b, off, none⟩ = some (.int .i64 x) := hcell
          clear hcell
          have z1 : ¬ 9223372036854775807 < N.size := by omega
          have z2 : ¬ 9223372036854775807 < N.size + 1 := by omega
          have z3 : ¬ 9223372036854775807 < N.size + 1 + t.size := by omega
          go_wp2_with (fail)
          go_region_held3 (fun w' => w'.cell? ⟨b, off, none⟩ = some (.int .i64 x))
            (first | exact y0 | exact x0 | exact hcell0)
            (first
              | (go_at_call 14; (with_reducible refine (fn_spec 0 N _ HN0.out).mono ?_); rintro e w2 ⟨rfl, hb⟩; have x0 := ((undrew hb).cell (p := ⟨b, off, none⟩) HBL.out).trans hcell0; have HB2 := Lib.hid (HB.out.trans ((undrew hb).mono HB.out.size)); have HBL2 := Lib.hid (Nat.lt_of_lt_of_le HBL.out (undrew hb).size); clear hb)
              | (go_at_call 15; (with_reducible refine (spec_fi_at x t _ (by omega) (by omega) HTT.out).mono ?_); rintro e w3 ⟨rfl, hb⟩; have y0 := (hb.cell (p := ⟨b, off, none⟩) HBL2.out).trans x0; have HB3 := Lib.hid (HB2.out.trans (hb.mono HB2.out.size)); clear hb))
          all_goals go_wp2
          all_goals go_roundw
          all_goals first
            | (case rel => exact ⟨1, by omega, by go_num, by rw [← ffT_first HX.out HNN.out HTT.out], HB3.out⟩)
            | skip
          all_goals (simp [intOf]; omega)
        · have z0 : ¬ 9223372036854775807 < u.size + 1 := by omega
          have z1 : ¬ 9223372036854775807 < u.size + 1 + N.size := by omega
          have z2 : ¬ 9223372036854775807 < u.size + 1 + N.size + 1 := by omega
          have z3 : ¬ 9223372036854775807 < u.size + 1 + N.size + 1 + t.size := by omega
          have HK := Lib.hid (show 0 < k by omega)
          have hk0 : (0 : Int) < (k : Int) := by omega
          go_wp2_with (fail)
          go_region_held3 (fun w' => w'.cell? ⟨b, off + k, none⟩ = some (.int .i64 x))
            (first | exact y0 | exact x0 | exact hcell)
            (first
              | (go_at_call 14; (with_reducible refine (fn_spec k N _ HNN.out).mono ?_); rintro e w2 ⟨rfl, hb⟩; have x0 := ((undrew hb).cell (p := ⟨b, off + k, none⟩) HBL.out).trans hcell; have HB2 := Lib.hid (HB.out.trans ((undrew hb).mono HB.out.size)); have HBL2 := Lib.hid (Nat.lt_of_lt_of_le HBL.out (undrew hb).size); clear hb)
              | (go_at_call 15; (with_reducible refine (spec_fi_at x t _ (by omega) (by omega) HTT.out).mono ?_); rintro e w3 ⟨rfl, hb⟩; have y0 := (hb.cell (p := ⟨b, off + k, none⟩) HBL2.out).trans x0; have HB3 := Lib.hid (HB2.out.trans (hb.mono HB2.out.size)); clear hb))
          all_goals go_wp2
          all_goals go_roundw
          all_goals first
            | (case rel => exact ⟨k + 1, by omega, by go_num, by rw [← ffT_next HK.out HX.out HU.out HNN.out HTT.out], HB3.out⟩)
            | skip
          all_goals (simp [intOf]; omega)
      · obtain rfl : k = l.length := by omega
        have HE := Lib.hid (show u = r by rw [← HR.out, ← HU.out, H6.out, ffT_all HV.out])
        go_wp2
        go_ret
        exact ⟨ret_str HE.out, HB.out⟩

end Go.Proofs.YtpogfjcllcmaoaaDoor
