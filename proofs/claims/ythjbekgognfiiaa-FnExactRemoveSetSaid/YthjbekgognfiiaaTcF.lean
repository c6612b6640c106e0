/-
  What IsTokenTable and TokenFrequency answer, on both sides. By an AI agent.
-/
import Derived.Test.YthjbekgognfiiaaTcS
import Derived.Test.YthjbekgognfiiaaPut
import Derived.Test.YthjbekgognfiiaaJ1
namespace Go.Proofs.Ythjbekgognfiiaa
open Go.RowKit
set_option linter.unusedVariables false

theorem tret_bool {a b : Bool} (h : a = b) : Ending.returned (.bool a) = .returned (.bool b) := by rw [h]
theorem InT.at {w wr : World} {b off : Nat} {l : List TC} (h : InT w (some ⟨b, off, none⟩) l) (hb : Below w.heap.size w wr) {k : Nat} {x : TC} (hx : l[k]? = some x) {s : ByteArray} (hs : encStr x.1 = .string s) :
    wr.cell? ⟨b, off + k * 2, none⟩ = some (.string s) ∧ wr.cell? ⟨b, off + k * 2 + 1, none⟩ = some (.int .i64 x.2) := by
  obtain ⟨b', off', e, hlt, hc⟩ := h (by have := (List.getElem?_eq_some_iff.1 hx).1; omega)
  simp only [Option.some.injEq, Addr.mk.injEq, and_true] at e
  obtain ⟨rfl, rfl⟩ := e
  obtain ⟨h0, h1⟩ := hc k x hx
  rw [hb.cell (p := ⟨b, off + k * 2, none⟩) hlt, hb.cell (p := ⟨b, off + k * 2 + 1, none⟩) hlt, ← hs]
  exact ⟨h0, h1⟩

set_option maxRecDepth 100000 in
set_option maxHeartbeats 1000000 in
theorem ttab_impl (a : Option Addr) (c : Nat) (l : List TC) (w : World) (h0 : SmT w a l c) :
    Calls Try.prog 50 #[.slice a l.length c] w fun e w' => e = .returned (.bool (ttB l)) ∧ Below w.heap.size w w' := by
  obtain ⟨hin, -, -, hl, -⟩ := h0
  have HIN := Lib.hid hin
  clear hin
  obtain ⟨r, hr⟩ : ∃ r, ttB l = r := ⟨_, rfl⟩
  have HR := Lib.hid hr
  rw [hr]
  clear hr
  go_enter Try.func50, Try.ntmps50
  go_wp2
  go_loopw [7] (fun i wr => ∃ k : Nat, k ≤ l.length ∧ i = .int .i64 k ∧ TokTab (l.take k) ∧ Below w.heap.size w wr) (fun i _ => l.length - (intOf i).toNat)
  case atStart => exact ⟨0, Nat.zero_le _, rfl, ⟨fun x hx => by simp at hx, by simp [Asc]⟩, Below.refl _ _⟩
  case round =>
    obtain ⟨k, hk, rfl, ht, hb⟩ := hrel
    have HT := Lib.hid ht
    have HB := Lib.hid hb
    clear ht hb
    by_cases hlt : k < l.length
    · obtain ⟨b, off, rfl, hbw, -⟩ := HIN.out (by omega)
      obtain ⟨x, s, hx1, hx2, hx3, hx4⟩ := tc_at hlt
      obtain ⟨c0, c1⟩ := HIN.out.at HB.out hx1 hx3
      have HBW := Lib.hid (Nat.lt_of_lt_of_le hbw HB.out.size)
      have HX1 := Lib.hid hx1
      have HX2 := Lib.hid hx2
      obtain ⟨z, hz⟩ : ∃ z, x.2 = z := ⟨_, rfl⟩
      have HZ := Lib.hid hz
      rw [hz] at c1
      clear hx1 hx3 hx4 hbw hz
      by_cases hc : z < 1
      · obtain rfl : false = r := by rw [← HR.out, tt_count HX1.out (by rw [HZ.out]; exact hc)]
        have d1 : decide (z < 1) = true := decide_eq_true hc
        clear hx2
        go_wp2
        go_quiet (fail)
        go_wp2
        go_ret
        exact ⟨rfl, (HB.out.alloc HB.out.size _).trans (quiet_below _ _ _)⟩
      · have d1 : decide (z < 1) = false := decide_eq_false hc
        by_cases h0 : k = 0
        · subst h0
          clear hx2
          rw [Nat.zero_mul, Nat.add_zero] at c0 c1
          go_wp2
          go_quiet (fail)
          go_wp2
          go_roundw
          case rel => exact ⟨0 + 1, by omega, by go_num, tt_step HT.out HX1.out (by rw [HZ.out]; omega) (fun y h => absurd rfl h), (HB.out.alloc HB.out.size _).trans (quiet_below _ _ _)⟩
          case measure => simp [intOf]; omega
        · obtain ⟨j, rfl⟩ : ∃ j, k = j + 1 := ⟨k - 1, by omega⟩
          obtain ⟨y, t, hy1, hy2, hy3, hy4⟩ := tc_at (show j < l.length by omega)
          obtain ⟨e0, e1⟩ := HIN.out.at HB.out hy1 hy3
          have HY1 := Lib.hid hy1
          have e2 : (wr.alloc (.cells #[.string s, .int .i64 z] 71)).cell? ⟨b, off + j * 2, none⟩ = some (.string t) := by
            rw [← e0]
            exact ((Below.refl wr.heap.size wr).alloc (Nat.le_refl _) _).cell (p := ⟨b, off + j * 2, none⟩) HBW.out
          by_cases hyx : y.1 < x.1
          · have hls := less_yes hy2 hx2 hyx
            have HYX := Lib.hid hyx
            clear hx2 hy1 hy2 hy3 hy4 hyx h0 e1
            go_wp2
            go_quiet (fail)
            go_wp2
            go_roundw
            case rel =>
              refine ⟨j + 1 + 1, by omega, by go_num, tt_step HT.out HX1.out (by rw [HZ.out]; omega) (fun z _ hz => ?_), (HB.out.alloc HB.out.size _).trans (quiet_below _ _ _)⟩
              rw [show j + 1 - 1 = j from rfl, HY1.out] at hz
              obtain rfl := Option.some.inj hz
              exact HYX.out
            case measure => simp [intOf]; omega
          · have hls := less_no hy2 hx2 hyx
            obtain rfl : false = r := by rw [← HR.out, tt_order HY1.out HX1.out hyx]
            clear hx2 hy1 hy2 hy3 hy4 hyx h0 e1
            go_wp2
            go_quiet (fail)
            go_wp2
            go_ret
            exact ⟨rfl, (HB.out.alloc HB.out.size _).trans (quiet_below _ _ _)⟩
    · obtain rfl : k = l.length := by omega
      obtain rfl : true = r := by
        rw [← HR.out]
        refine (ttB_true.2 ?_).symm
        have h := HT.out
        rwa [List.take_length] at h
      go_wp2
      go_ret
      exact ⟨rfl, HB.out⟩

set_option maxRecDepth 100000 in
set_option maxHeartbeats 1000000 in
theorem ttab_spec (a : Option Addr) (c : Nat) (l : List TC) (w : World) (h0 : SmT w a l c) :
    Calls Try.prog 43 #[.slice a l.length c] w fun e w' => e = .returned (.bool (ttB l)) ∧ Below w.heap.size w w' := by
  obtain ⟨hin, -, -, hl, -⟩ := h0
  have HIN := Lib.hid hin
  clear hin
  obtain ⟨r, hr⟩ : ∃ r, ttB l = r := ⟨_, rfl⟩
  have HR := Lib.hid hr
  rw [hr]
  clear hr
  go_enter Try.func43, Try.ntmps43
  go_wp2
  go_loopw [3] (fun i wr => ∃ k : Nat, k ≤ l.length ∧ i = .int .i64 k ∧ TokTab (l.take k) ∧ Below w.heap.size w wr) (fun i _ => l.length - (intOf i).toNat)
  case atStart => exact ⟨0, Nat.zero_le _, rfl, ⟨fun x hx => by simp at hx, by simp [Asc]⟩, Below.refl _ _⟩
  case round =>
    obtain ⟨k, hk, rfl, ht, hb⟩ := hrel
    have HT := Lib.hid ht
    have HB := Lib.hid hb
    clear ht hb
    by_cases hlt : k < l.length
    · obtain ⟨b, off, rfl, hbw, -⟩ := HIN.out (by omega)
      obtain ⟨x, s, hx1, hx2, hx3, hx4⟩ := tc_at hlt
      obtain ⟨c0, c1⟩ := HIN.out.at HB.out hx1 hx3
      have HBW := Lib.hid (Nat.lt_of_lt_of_le hbw HB.out.size)
      have HX1 := Lib.hid hx1
      have HX2 := Lib.hid hx2
      obtain ⟨z, hz⟩ : ∃ z, x.2 = z := ⟨_, rfl⟩
      have HZ := Lib.hid hz
      rw [hz] at c1
      clear hx1 hx3 hx4 hbw hz
      by_cases hc : z < 1
      · obtain rfl : false = r := by rw [← HR.out, tt_count HX1.out (by rw [HZ.out]; exact hc)]
        have d1 : decide (z < 1) = true := decide_eq_true hc
        clear hx2
        go_wp2
        go_quiet (fail)
        go_wp2
        go_ret
        exact ⟨rfl, HB.out.trans (quiet_below _ _ _)⟩
      · have d1 : decide (z < 1) = false := decide_eq_false hc
        by_cases h0 : k = 0
        · subst h0
          clear hx2
          rw [Nat.zero_mul, Nat.add_zero] at c0 c1
          go_wp2
          go_quiet (fail)
          go_wp2
          go_roundw
          case rel => exact ⟨0 + 1, by omega, by go_num, tt_step HT.out HX1.out (by rw [HZ.out]; omega) (fun y h => absurd rfl h), HB.out.trans (quiet_below _ _ _)⟩
          case measure => simp [intOf]; omega
        · obtain ⟨j, rfl⟩ : ∃ j, k = j + 1 := ⟨k - 1, by omega⟩
          obtain ⟨y, t, hy1, hy2, hy3, hy4⟩ := tc_at (show j < l.length by omega)
          obtain ⟨e0, e1⟩ := HIN.out.at HB.out hy1 hy3
          have HY1 := Lib.hid hy1
          by_cases hyx : y.1 < x.1
          · have hls := less_yes hy2 hx2 hyx
            have HYX := Lib.hid hyx
            clear hx2 hy1 hy2 hy3 hy4 hyx h0 e1
            go_wp2
            go_quiet (fail)
            go_wp2
            go_roundw
            case rel =>
              refine ⟨j + 1 + 1, by omega, by go_num, tt_step HT.out HX1.out (by rw [HZ.out]; omega) (fun z _ hz => ?_), HB.out.trans (quiet_below _ _ _)⟩
              rw [show j + 1 - 1 = j from rfl, HY1.out] at hz
              obtain rfl := Option.some.inj hz
              exact HYX.out
            case measure => simp [intOf]; omega
          · have hls := less_no hy2 hx2 hyx
            obtain rfl : false = r := by rw [← HR.out, tt_order HY1.out HX1.out hyx]
            clear hx2 hy1 hy2 hy3 hy4 hyx h0 e1
            go_wp2
            go_quiet (fail)
            go_wp2
            go_ret
            exact ⟨rfl, HB.out.trans (quiet_below _ _ _)⟩
    · obtain rfl : k = l.length := by omega
      obtain rfl : true = r := by
        rw [← HR.out]
        refine (ttB_true.2 ?_).symm
        have h := HT.out
        rwa [List.take_length] at h
      go_wp2
      go_ret
      exact ⟨rfl, HB.out⟩

end Go.Proofs.Ythjbekgognfiiaa
