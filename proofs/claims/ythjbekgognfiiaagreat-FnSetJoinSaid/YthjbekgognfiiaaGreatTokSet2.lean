/-
  What spec.IsTokenSet answers. By an AI agent.
-/
import Derived.Test.YthjbekgognfiiaaGreatJ5
import Derived.Deep.RegionHeld3
namespace Go.Proofs.YthjbekgognfiiaaGreat
open Go.RowKit
set_option linter.unusedVariables false

theorem lows_of {s : ByteArray} (hw : ∀ j (hj : j < s.size), isWordI s[j].toNat = true) (hf : foldL s.data.toList = s.data.toList) : ∀ j (hj : j < s.size), lowB s[j] = true := by
  intro j hj
  refine (lowB_fold (hw j hj)).2 ?_
  have h1 := fbyte_at? s j hj
  have h2 : (foldL s.data.toList)[j]? = some (foldB s[j]) := by unfold foldL; rw [List.getElem?_map, h1]; rfl
  rw [hf, h1] at h2
  exact (Option.some.inj h2).symm
theorem fold_of {s : ByteArray} (h : ∀ j (hj : j < s.size), lowB s[j] = true) : foldL s.data.toList = s.data.toList := by
  unfold foldL
  refine List.ext_getElem? fun j => ?_
  rw [List.getElem?_map]
  by_cases hj : j < s.size
  · rw [fbyte_at? s j hj]
    have h1 := h j hj
    have h2 : isWordI s[j].toNat = true := by unfold lowB at h1; rw [Bool.and_eq_true] at h1; exact h1.1
    show some (foldB s[j]) = some s[j]
    rw [(lowB_fold h2).1 h1]
  · have h1 : s.data.toList.length = s.size := Array.length_toList
    rw [List.getElem?_eq_none (by omega)]
    rfl
theorem tokB_fold {s : ByteArray} (h : tokB s.data.toList = true) : foldL s.data.toList = s.data.toList :=
  fold_of fun j hj => by
    cases hq : lowB s[j]
    · rw [tokB_bad hj hq] at h; cases h
    · rfl
theorem tokB_word {s : ByteArray} (h : tokB s.data.toList = true) (j : Nat) (hj : j < s.size) : isWordI s[j].toNat = true := by
  have h1 : lowB s[j] = true := by
    cases hq : lowB s[j]
    · rw [tokB_bad hj hq] at h; cases h
    · rfl
  unfold lowB at h1
  rw [Bool.and_eq_true] at h1
  exact h1.1
theorem empty_of {s : ByteArray} (h : s.size = 0) : (s.toList == ([] : List UInt8)) = true ∧ s.toList.isEmpty = true := by
  rw [ByteArray.toList_eq]
  have h1 : s.data.toList.length = s.size := Array.length_toList
  rw [List.eq_nil_of_length_eq_zero (by omega : s.data.toList.length = 0)]
  exact ⟨rfl, rfl⟩
theorem full_of {s : ByteArray} (h : s.size ≠ 0) : (s.toList == ([] : List UInt8)) = false ∧ s.toList.isEmpty = false := by
  rw [ByteArray.toList_eq]
  have h1 : s.data.toList.length = s.size := Array.length_toList
  cases hq : s.data.toList with
  | nil => rw [hq] at h1; simp at h1; omega
  | cons a r => exact ⟨rfl, rfl⟩

set_option maxRecDepth 100000 in
set_option maxHeartbeats 4000000 in
theorem tset_spec (a0 : Option Addr) (c0 : Nat) (l0 : List Str) (w : World) (h0 : Sm w a0 l0 c0) :
    Calls Tryz.prog 35 #[.slice a0 l0.length c0] w fun e w' => e = .returned (.bool (tsetR l0)) ∧ Below w.heap.size w w' := by
  obtain ⟨hin0, -, -, hl0, hx0⟩ := h0
  have H0 := Lib.hid hin0
  have X0 := Lib.hid hx0
  clear hin0 hx0
  obtain ⟨b, hb⟩ : ∃ b, tsB l0 = b := ⟨_, rfl⟩
  have HBB := Lib.hid hb
  show Calls _ _ _ w fun e w' => e = .returned (.bool (tsB l0)) ∧ Below w.heap.size w w'
  rw [hb]
  clear hb
  go_enter Tryz.func35, Tryz.ntmps35
  go_wp2
  go_loopw [3] (fun i wr => ∃ k : Nat, k ≤ l0.length ∧ i = .int .i64 k ∧ TokSet (l0.take k) ∧ Below w.heap.size w wr) (fun i _ => l0.length - (intOf i).toNat)
  case atStart => exact ⟨0, Nat.zero_le _, rfl, ⟨fun x hx => by simp at hx, by simp [Asc]⟩, Below.refl _ _⟩
  case round =>
    obtain ⟨k, hk, rfl, hts, hb⟩ := hrel
    have HTS := Lib.hid hts
    have HB := Lib.hid hb
    clear hts hb
    by_cases hlt : k < l0.length
    · obtain ⟨bb, off, rfl, hbw, hc⟩ := H0.out (by omega)
      obtain ⟨x, s, hx1, hx2, hx3, hx4⟩ := str_at hlt
      have hcell : wr.cell? ⟨bb, off + k, none⟩ = some (.string s) := by
        rw [HB.out.cell (p := ⟨bb, off + k, none⟩) hbw, ← hx3]
        exact hc k x hx1
      have HSZ := Lib.hid (show s.size ≤ 1048576 by rw [hx4]; exact X0.out x (List.mem_of_getElem? hx1))
      have HX1 := Lib.hid hx1
      have HX2 := Lib.hid hx2
      have HBW := Lib.hid hbw
      by_cases hemp : s.size = 0
      · -- an empty element
        obtain ⟨he, he2⟩ := empty_of hemp
        obtain rfl : false = b := by rw [← HBB.out, tsB_no (tok_bad (List.mem_of_getElem? hx1) (by rw [← hx2]; exact tokB_nil hemp))]
        have hk0 : (0 : Int) ≤ (k : Int) := by omega
        clear hc hx1 hx2 hx3 hx4 hbw hemp
        go_wp2
        go_quiet (fail)
        go_wp2
        go_ret
        exact ⟨rfl, HB.out.trans (quiet_below _ _ _)⟩
      · obtain ⟨he, he2⟩ := full_of hemp
        by_cases h0 : k = 0
        · subst h0
          rw [Nat.add_zero] at hcell
          have HC0 := Lib.hid (show w.cell? ⟨bb, off, none⟩ = some (.string s) by rw [← HB.out.cell (p := ⟨bb, off, none⟩) hbw]; exact hcell)
          clear hc hx1 hx2 hx3 hx4 hbw
          have hcast : (((0 : Nat)) : Int) = 0 := rfl
          rw [hcast]
          go_wp2
          go_quiet (fail)
          go_wp2
          go_loopw [4] (fun i wi => ∃ j : Nat, j ≤ s.size ∧ i = .int .i64 j ∧ (∀ q (hq : q < s.size), q < j → isWordI s[q].toNat = true) ∧ (0 < j → foldL s.data.toList = s.data.toList) ∧ Below w.heap.size w wi) (fun i _ => s.size - (intOf i).toNat)
          case atStart => exact ⟨0, Nat.zero_le _, rfl, fun q _ h => absurd h (Nat.not_lt_zero _), fun h => absurd h (Nat.lt_irrefl _), HB.out.trans (quiet_below _ _ _)⟩
          case round =>
            clear hcell HB
            obtain ⟨j, hj, rfl, hw, hf, hb⟩ := hrel
            have HW := Lib.hid hw
            have HF := Lib.hid hf
            have HB := Lib.hid hb
            clear hw hf hb
            have hcell : wr.cell? ⟨bb, off, none⟩ = some (.string s) := by
              rw [HB.out.cell (p := ⟨bb, off, none⟩) HBW.out]
              exact HC0.out
            by_cases hjl : j < s.size
            · have hsz : (s.size : Int) ≤ 1048576 := by have := HSZ.out; omega
              have hj0 : (0 : Int) ≤ (j : Int) := by omega
              have hjs : (j : Int) < (s.size : Int) := by omega
              by_cases hw1 : isWordI s[j].toNat = true
              · have HW1 := Lib.hid hw1
                have HBR := Lib.hid (show bb < wr.heap.size from Nat.lt_of_lt_of_le HBW.out HB.out.size)
                clear hw1
                by_cases hfx : foldL s.data.toList = s.data.toList
                · have HFC := Lib.hid (fun W : World => (spec_fc s W HSZ.out).mono fun e w' h => (show e = .returned (.string s) ∧ Below W.heap.size W w' from ⟨by rw [h.1, hfx, nstr_data], h.2⟩))
                  have HFX := Lib.hid hfx
                  clear hfx
                  go_wp2
                  go_region_held3 (fun w' => w'.cell? ⟨bb, off, none⟩ = some (.string s)) (first | exact hcell1 | exact hcell) (first | (go_at_call 73; refine (l2Word_is _ true _ HW1.out).mono ?_; rintro e w' ⟨rfl, rfl⟩) | (go_at_call 74; refine (HFC.out _).mono ?_; rintro e w1 ⟨rfl, hb1⟩; have HB1 := Lib.hid hb1; have hcell1 := (hb1.cell (p := ⟨bb, off, none⟩) HBR.out).trans hcell; clear hb1))
                  go_wp2
                  go_roundw
                  case rel =>
                    refine ⟨j + 1, by omega, by go_num, fun q hq hlt => ?_, fun _ => HFX.out, (HB.out.drew).trans (HB1.out.mono HB.out.size)⟩
                    by_cases e : q = j
                    · subst e; exact HW1.out
                    · exact HW.out q hq (by omega)
                  case measure => simp [intOf]; omega
                · obtain ⟨f, hfd⟩ : ∃ f, f = nstr (foldL s.data.toList) := ⟨_, rfl⟩
                  have HFC := Lib.hid (fun W : World => (spec_fc s W HSZ.out).mono fun e w' h => (show e = .returned (.string f) ∧ Below W.heap.size W w' from ⟨by rw [h.1, hfd], h.2⟩))
                  have hne : (f.toList == s.toList) = false := by
                    rw [ByteArray.toList_eq, ByteArray.toList_eq, hfd, nstr_list]
                    simpa using hfx
                  obtain rfl : false = b := by
                    rw [← HBB.out, tsB_no (tok_bad (List.mem_of_getElem? HX1.out) ?_)]
                    rw [← HX2.out]
                    cases hq : tokB s.data.toList
                    · rfl
                    · exact absurd (tokB_fold hq) hfx
                  clear hfx hfd
                  go_wp2
                  go_region_held3 (fun w' => w'.cell? ⟨bb, off, none⟩ = some (.string s)) (first | exact hcell1 | exact hcell) (first | (go_at_call 73; refine (l2Word_is _ true _ HW1.out).mono ?_; rintro e w' ⟨rfl, rfl⟩) | (go_at_call 74; refine (HFC.out _).mono ?_; rintro e w1 ⟨rfl, hb1⟩; have HB1 := Lib.hid hb1; have hcell1 := (hb1.cell (p := ⟨bb, off, none⟩) HBR.out).trans hcell; clear hb1))
                  go_wp2
                  go_ret
                  exact ⟨rfl, (HB.out.drew).trans (HB1.out.mono HB.out.size)⟩
              · have HW1 := Lib.hid (show isWordI s[j].toNat = false by simpa using hw1)
                have HLW := Lib.hid (fun W : World => (l2Word_is s[j].toNat false W HW1.out).mono fun e w' h => (show e = .returned (.bool false) ∧ w' = W from ⟨h.1, h.2.symm⟩))
                obtain rfl : false = b := by
                  rw [← HBB.out, tsB_no (tok_bad (List.mem_of_getElem? HX1.out) ?_)]
                  rw [← HX2.out]
                  cases hq : tokB s.data.toList
                  · rfl
                  · exact absurd (tokB_word hq j hjl) hw1
                clear hw1
                go_wp2
                go_quiet ((go_at_call 73; exact Calls.quiet_of_same (HLW.out _)))
                go_wp2
                go_ret
                exact ⟨rfl, HB.out.trans (quiet_below _ _ _)⟩
            · obtain rfl : j = s.size := by omega
              have HTB := Lib.hid (show tokB s.data.toList = true from tokB_all (by omega) (lows_of (fun q hq => HW.out q hq hq) (HF.out (by omega))))
              go_wp2
              go_roundw
              case rel =>
                refine ⟨0 + 1, by omega, by go_num, tok_take HTS.out HX1.out (by rw [← HX2.out]; exact HTB.out) (fun y h => absurd rfl h), HB.out⟩
              case measure => simp [intOf]; omega
        · obtain ⟨i, rfl⟩ : ∃ i, k = i + 1 := ⟨k - 1, by omega⟩
          obtain ⟨y, t, hy1, hy2, hy3, hy4⟩ := str_at (show i < l0.length by omega)
          have hcell2 : wr.cell? ⟨bb, off + i, none⟩ = some (.string t) := by
            rw [HB.out.cell (p := ⟨bb, off + i, none⟩) hbw, ← hy3]
            exact hc i y hy1
          have HC0 := Lib.hid (show w.cell? ⟨bb, off + (i + 1), none⟩ = some (.string s) by rw [← HB.out.cell (p := ⟨bb, off + (i + 1), none⟩) hbw]; exact hcell)
          have HY1 := Lib.hid hy1
          have hi0 : (0 : Int) ≤ (i : Int) := by omega
          have hi1 : (i : Int) < (l0.length : Int) := by omega
          have hi2 : ((i + 1 : Nat) : Int) < (l0.length : Int) := by omega
          have hgt : decide ((0 : Int) < (i : Int) + 1) = true := decide_eq_true (by omega)
          have hi3 : (0 : Int) ≤ (i : Int) + 1 := by omega
          have hi4 : (i : Int) + 1 < (l0.length : Int) := by omega
          by_cases hyx : y < x
          · have hls := less_yes hy2 hx2 hyx
            have HYX := Lib.hid hyx
            clear hc hx1 hx2 hx3 hx4 hbw hy1 hy2 hy3 hy4 hyx h0
            have hcast : ((i + 1 : Nat) : Int) = (i : Int) + 1 := by omega
            rw [hcast]
            clear hcast
            go_wp2
            go_quiet (fail)
            go_wp2
            go_loopw [4] (fun i wi => ∃ j : Nat, j ≤ s.size ∧ i = .int .i64 j ∧ (∀ q (hq : q < s.size), q < j → isWordI s[q].toNat = true) ∧ (0 < j → foldL s.data.toList = s.data.toList) ∧ Below w.heap.size w wi) (fun i _ => s.size - (intOf i).toNat)
            case atStart => exact ⟨0, Nat.zero_le _, rfl, fun q _ h => absurd h (Nat.not_lt_zero _), fun h => absurd h (Nat.lt_irrefl _), HB.out.trans (quiet_below _ _ _)⟩
            case round =>
              clear hcell HB
              obtain ⟨j, hj, rfl, hw, hf, hb⟩ := hrel
              have HW := Lib.hid hw
              have HF := Lib.hid hf
              have HB := Lib.hid hb
              clear hw hf hb
              have hcell : wr.cell? ⟨bb, off + (i + 1), none⟩ = some (.string s) := by
                rw [HB.out.cell (p := ⟨bb, off + (i + 1), none⟩) HBW.out]
                exact HC0.out
              by_cases hjl : j < s.size
              · have hsz : (s.size : Int) ≤ 1048576 := by have := HSZ.out; omega
                have hj0 : (0 : Int) ≤ (j : Int) := by omega
                have hjs : (j : Int) < (s.size : Int) := by omega
                by_cases hw1 : isWordI s[j].toNat = true
                · have HW1 := Lib.hid hw1
                  have HBR := Lib.hid (show bb < wr.heap.size from Nat.lt_of_lt_of_le HBW.out HB.out.size)
                  clear hw1
                  by_cases hfx : foldL s.data.toList = s.data.toList
                  · have HFC := Lib.hid (fun W : World => (spec_fc s W HSZ.out).mono fun e w' h => (show e = .returned (.string s) ∧ Below W.heap.size W w' from ⟨by rw [h.1, hfx, nstr_data], h.2⟩))
                    have HFX := Lib.hid hfx
                    clear hfx
                    go_wp2
                    go_region_held3 (fun w' => w'.cell? ⟨bb, off + (i + 1), none⟩ = some (.string s)) (first | exact hcell1 | exact hcell) (first | (go_at_call 73; refine (l2Word_is _ true _ HW1.out).mono ?_; rintro e w' ⟨rfl, rfl⟩) | (go_at_call 74; refine (HFC.out _).mono ?_; rintro e w1 ⟨rfl, hb1⟩; have HB1 := Lib.hid hb1; have hcell1 := (hb1.cell (p := ⟨bb, off + (i + 1), none⟩) HBR.out).trans hcell; clear hb1))
                    go_wp2
                    go_roundw
                    case rel =>
                      refine ⟨j + 1, by omega, by go_num, fun q hq hlt => ?_, fun _ => HFX.out, (HB.out.drew).trans (HB1.out.mono HB.out.size)⟩
                      by_cases e : q = j
                      · subst e; exact HW1.out
                      · exact HW.out q hq (by omega)
                    case measure => simp [intOf]; omega
                  · obtain ⟨f, hfd⟩ : ∃ f, f = nstr (foldL s.data.toList) := ⟨_, rfl⟩
                    have HFC := Lib.hid (fun W : World => (spec_fc s W HSZ.out).mono fun e w' h => (show e = .returned (.string f) ∧ Below W.heap.size W w' from ⟨by rw [h.1, hfd], h.2⟩))
                    have hne : (f.toList == s.toList) = false := by
                      rw [ByteArray.toList_eq, ByteArray.toList_eq, hfd, nstr_list]
                      simpa using hfx
                    obtain rfl : false = b := by
                      rw [← HBB.out, tsB_no (tok_bad (List.mem_of_getElem? HX1.out) ?_)]
                      rw [← HX2.out]
                      cases hq : tokB s.data.toList
                      · rfl
                      · exact absurd (tokB_fold hq) hfx
                    clear hfx hfd
                    go_wp2
                    go_region_held3 (fun w' => w'.cell? ⟨bb, off + (i + 1), none⟩ = some (.string s)) (first | exact hcell1 | exact hcell) (first | (go_at_call 73; refine (l2Word_is _ true _ HW1.out).mono ?_; rintro e w' ⟨rfl, rfl⟩) | (go_at_call 74; refine (HFC.out _).mono ?_; rintro e w1 ⟨rfl, hb1⟩; have HB1 := Lib.hid hb1; have hcell1 := (hb1.cell (p := ⟨bb, off + (i + 1), none⟩) HBR.out).trans hcell; clear hb1))
                    go_wp2
                    go_ret
                    exact ⟨rfl, (HB.out.drew).trans (HB1.out.mono HB.out.size)⟩
                · have HW1 := Lib.hid (show isWordI s[j].toNat = false by simpa using hw1)
                  have HLW := Lib.hid (fun W : World => (l2Word_is s[j].toNat false W HW1.out).mono fun e w' h => (show e = .returned (.bool false) ∧ w' = W from ⟨h.1, h.2.symm⟩))
                  obtain rfl : false = b := by
                    rw [← HBB.out, tsB_no (tok_bad (List.mem_of_getElem? HX1.out) ?_)]
                    rw [← HX2.out]
                    cases hq : tokB s.data.toList
                    · rfl
                    · exact absurd (tokB_word hq j hjl) hw1
                  clear hw1
                  go_wp2
                  go_quiet ((go_at_call 73; exact Calls.quiet_of_same (HLW.out _)))
                  go_wp2
                  go_ret
                  exact ⟨rfl, HB.out.trans (quiet_below _ _ _)⟩
              · obtain rfl : j = s.size := by omega
                have HTB := Lib.hid (show tokB s.data.toList = true from tokB_all (by omega) (lows_of (fun q hq => HW.out q hq hq) (HF.out (by omega))))
                go_wp2
                go_roundw
                case rel =>
                  refine ⟨(i + 1) + 1, by omega, by go_num, tok_take HTS.out HX1.out (by rw [← HX2.out]; exact HTB.out) (fun z _ hz => by rw [show i + 1 - 1 = i from rfl, HY1.out] at hz; obtain rfl := Option.some.inj hz; exact HYX.out), HB.out⟩
                case measure => simp [intOf]; omega
          · have hls := less_no hy2 hx2 hyx
            obtain rfl : false = b := by rw [← HBB.out, tsB_no (tok_order hy1 hx1 hyx)]
            clear hc hx1 hx2 hx3 hx4 hbw hy1 hy2 hy3 hy4 hyx h0
            go_wp2
            go_quiet (fail)
            go_wp2
            go_ret
            exact ⟨rfl, HB.out.trans (quiet_below _ _ _)⟩
    · obtain rfl : k = l0.length := by omega
      obtain rfl : true = b := by rw [← HBB.out, tsB_yes (by have h := HTS.out; rwa [List.take_length] at h)]
      go_wp2
      go_ret
      exact ⟨rfl, HB.out⟩

end Go.Proofs.YthjbekgognfiiaaGreat
