/-
  What spec.IsTokenSet and impl.IsTokenSet answer. By an AI agent.
-/
import Derived.Test.YthjbekgognfiiaaJ1
import Derived.Test.YthjbekgognfiiaaPut
import Derived.Test.YthjbekgognfiiaaSetOf
import Derived.Test.YthjbekgognfiiaaNFold
import Derived.Test.YthjbekgognfiiaaNStrip
import Derived.Test.YthjbekgognfiiaaJ3
namespace Go.Proofs.Ythjbekgognfiiaa
open Go.RowKit
set_option linter.unusedVariables false

set_option maxRecDepth 100000 in
theorem tokByte_is (c : UInt8) (b : Bool) (w : World) (hb : lowB c = b) :
    Calls Try.prog 65 #[.int .u8 (c.toNat : Int)] w fun e w' => e = .returned (.bool b) ∧ w' = w := by
  by_cases hw : isWordI c.toNat = true
  · have HW := Lib.hid hw
    by_cases h1 : c.toNat < 65
    · obtain rfl : true = b := by rw [← hb]; unfold lowB; rw [hw]; simp; omega
      clear hw hb
      go_enter Try.func65, Try.ntmps65
      go_wp2_with (go_at_call 67; refine (isWordByte_is _ true _ HW.out).mono ?_; rintro e w' ⟨rfl, rfl⟩)
      go_ret
      exact ⟨nret_bool (by first | rfl | (simp; omega)), rfl⟩
    · by_cases h2 : 90 < c.toNat
      · obtain rfl : true = b := by rw [← hb]; unfold lowB; rw [hw]; simp; omega
        clear hw hb
        go_enter Try.func65, Try.ntmps65
        go_wp2_with (go_at_call 67; refine (isWordByte_is _ true _ HW.out).mono ?_; rintro e w' ⟨rfl, rfl⟩)
        go_ret
        exact ⟨nret_bool (by first | rfl | (simp; omega)), rfl⟩
      · obtain rfl : false = b := by rw [← hb]; unfold lowB; rw [hw]; simp; omega
        clear hw hb
        go_enter Try.func65, Try.ntmps65
        go_wp2_with (go_at_call 67; refine (isWordByte_is _ true _ HW.out).mono ?_; rintro e w' ⟨rfl, rfl⟩)
        go_ret
        exact ⟨nret_bool (by first | rfl | (simp; omega)), rfl⟩
  · have hw' : isWordI c.toNat = false := by simpa using hw
    have HW := Lib.hid hw'
    obtain rfl : false = b := by rw [← hb]; unfold lowB; rw [hw']; rfl
    clear hw hb hw'
    go_enter Try.func65, Try.ntmps65
    go_wp2_with (go_at_call 67; refine (isWordByte_is _ false _ HW.out).mono ?_; rintro e w' ⟨rfl, rfl⟩)
    go_ret
    exact ⟨nret_bool (by first | rfl | (simp; omega)), rfl⟩

theorem tokB_bad {s : ByteArray} {k : Nat} (h : k < s.size) (hb : lowB s[k] = false) : tokB s.data.toList = false := by
  unfold tokB
  have hm : s[k] ∈ s.data.toList := List.mem_of_getElem? (fbyte_at? s k h)
  rw [Bool.and_eq_false_iff]
  right
  rw [List.all_eq_false]
  exact ⟨_, hm, by rw [hb]; decide⟩
theorem tokB_all {s : ByteArray} (h0 : 0 < s.size) (h : ∀ k (hk : k < s.size), lowB s[k] = true) : tokB s.data.toList = true := by
  unfold tokB
  have hne : s.data.toList ≠ [] := fun e => by
    have h1 : s.data.toList.length = s.size := Array.length_toList
    rw [e] at h1
    simp at h1
    omega
  rw [ne0_yes hne, Bool.true_and, List.all_eq_true]
  intro c hc
  obtain ⟨k, hk⟩ := List.getElem?_of_mem hc
  have hlt : k < s.size := by have := (List.getElem?_eq_some_iff.1 hk).1; simpa using this
  rw [fbyte_at? s k hlt] at hk
  obtain rfl := Option.some.inj hk
  exact h k hlt
theorem tokB_nil {s : ByteArray} (h : s.size = 0) : tokB s.data.toList = false := by
  have h1 : s.data.toList.length = s.size := Array.length_toList
  have h2 : s.data.toList = [] := List.eq_nil_of_length_eq_zero (by omega)
  rw [h2]
  rfl

set_option maxRecDepth 100000 in
theorem isToken_is (s : ByteArray) (b : Bool) (w : World) (hs : s.size ≤ 1048576) (hb : tokB s.data.toList = b) :
    Calls Try.prog 62 #[.string s] w fun e w' => e = .returned (.bool b) ∧ w' = w := by
  have HBB := Lib.hid hb
  clear hb
  go_enter Try.func62, Try.ntmps62
  go_wp2
  go_loop [6] (fun i => ∃ k : Nat, k ≤ s.size ∧ i = .int .i64 k ∧ ∀ j (hj : j < s.size), j < k → lowB s[j] = true) (fun i => s.size - (intOf i).toNat)
  case atStart => exact ⟨0, Nat.zero_le _, rfl, fun j _ hj => absurd hj (Nat.not_lt_zero _)⟩
  case round =>
    obtain ⟨k, hk, rfl, hall⟩ := hrel
    have HALL := Lib.hid hall
    clear hall
    by_cases hlt : k < s.size
    · by_cases hl : lowB s[k] = true
      · have HL := Lib.hid hl
        clear hl
        go_wp2_with (go_at_call 65; refine (tokByte_is s[k] true _ HL.out).mono ?_; rintro e w' ⟨rfl, rfl⟩)
        go_round
        case rel =>
          refine ⟨k + 1, by omega, by go_num, fun j hj hlt2 => ?_⟩
          by_cases e : j = k
          · subst e; exact HL.out
          · exact HALL.out j hj (by omega)
        case measure => simp [intOf]; omega
      · have HL := Lib.hid (show lowB s[k] = false by simpa using hl)
        clear hl
        obtain rfl : false = b := by rw [← HBB.out, tokB_bad hlt HL.out]
        go_wp2_with (go_at_call 65; refine (tokByte_is s[k] false _ HL.out).mono ?_; rintro e w' ⟨rfl, rfl⟩)
        go_ret
        exact ⟨rfl, rfl⟩
    · obtain rfl : k = s.size := by omega
      by_cases h0 : s.size = 0
      · obtain rfl : false = b := by rw [← HBB.out, tokB_nil h0]
        have he : (s.toList == ([] : List UInt8)) = true := by
          rw [ByteArray.toList_eq]
          have h1 : s.data.toList.length = s.size := Array.length_toList
          rw [List.eq_nil_of_length_eq_zero (by omega : s.data.toList.length = 0)]
          rfl
        have he2 : s.toList.isEmpty = true := by simpa using he
        clear h0
        go_wp2
        go_ret
        refine ⟨nret_bool ?_, rfl⟩
        rfl
      · obtain rfl : true = b := by rw [← HBB.out, tokB_all (by omega) (fun j hj => HALL.out j hj hj)]
        have he2 : s.toList.isEmpty = false := by
          rw [ByteArray.toList_eq]
          have h1 : s.data.toList.length = s.size := Array.length_toList
          cases hq : s.data.toList with
          | nil => rw [hq] at h1; simp at h1; omega
          | cons a r => rfl
        have he : (s.toList == ([] : List UInt8)) = false := by simpa using he2
        clear h0
        go_wp2
        go_ret
        refine ⟨nret_bool ?_, rfl⟩
        rfl

theorem tok_take {l : List Str} {k : Nat} {x : Str} (h : TokSet (l.take k)) (hx : l[k]? = some x) (ht : tokB x = true) (hy : ∀ y, k ≠ 0 → l[k - 1]? = some y → y < x) : TokSet (l.take (k + 1)) := by
  rw [take_snoc' hx]
  refine tok_step h ht fun y hl => ?_
  have hlt := (List.getElem?_eq_some_iff.1 hx).1
  rw [List.getLast?_eq_getElem?, List.length_take, Nat.min_eq_left (by omega)] at hl
  have hk0 : k ≠ 0 := fun e => by subst e; simp at hl
  rw [List.getElem?_take_of_lt (by omega)] at hl
  exact hy y hk0 hl

noncomputable abbrev tsetR (l : List Str) : Bool := tsB l

set_option maxRecDepth 100000 in
set_option maxHeartbeats 1000000 in
theorem tset_impl (a0 : Option Addr) (c0 : Nat) (l0 : List Str) (w : World) (h0 : Sm w a0 l0 c0) :
    Calls Try.prog 53 #[.slice a0 l0.length c0] w fun e w' => e = .returned (.bool (tsetR l0)) ∧ Below w.heap.size w w' := by
  obtain ⟨hin0, -, -, hl0, hx0⟩ := h0
  have H0 := Lib.hid hin0
  have X0 := Lib.hid hx0
  clear hin0 hx0
  obtain ⟨b, hb⟩ : ∃ b, tsB l0 = b := ⟨_, rfl⟩
  have HBB := Lib.hid hb
  show Calls _ _ _ w fun e w' => e = .returned (.bool (tsB l0)) ∧ Below w.heap.size w w'
  rw [hb]
  clear hb
  go_enter Try.func53, Try.ntmps53
  go_wp2
  go_loop [7] (fun i => ∃ k : Nat, k ≤ l0.length ∧ i = .int .i64 k ∧ TokSet (l0.take k)) (fun i => l0.length - (intOf i).toNat)
  case atStart => exact ⟨0, Nat.zero_le _, rfl, ⟨fun x hx => by simp at hx, by simp [Asc]⟩⟩
  case round =>
    obtain ⟨k, hk, rfl, hts⟩ := hrel
    have HTS := Lib.hid hts
    clear hts
    by_cases hlt : k < l0.length
    · obtain ⟨bb, off, rfl, hbw, hc⟩ := H0.out (by omega)
      obtain ⟨x, s, hx1, hx2, hx3, hx4⟩ := str_at hlt
      have hcell : w.cell? ⟨bb, off + k, none⟩ = some (.string s) := by rw [← hx3]; exact hc k x hx1
      have HSZ := Lib.hid (show s.size ≤ 1048576 by rw [hx4]; exact X0.out x (List.mem_of_getElem? hx1))
      have HX1 := Lib.hid hx1
      have HX2 := Lib.hid hx2
      by_cases ht : tokB x = true
      · have HT := Lib.hid (show tokB s.data.toList = true by rw [hx2]; exact ht)
        by_cases h0 : k = 0
        · subst h0
          rw [Nat.add_zero] at hcell
          clear hc hx1 hx2 hx3 hx4 hbw ht
          go_wp2_with (go_at_call 62; (refine (isToken_is s true _ HSZ.out HT.out).mono ?_); rintro e w' ⟨rfl, rfl⟩)
          go_round
          case rel => exact ⟨0 + 1, by omega, by go_num, tok_take HTS.out HX1.out (by rw [← HX2.out]; exact HT.out) (fun y h => absurd rfl h)⟩
          case measure => simp [intOf]; omega
        · obtain ⟨j, rfl⟩ : ∃ j, k = j + 1 := ⟨k - 1, by omega⟩
          obtain ⟨y, t, hy1, hy2, hy3, hy4⟩ := str_at (show j < l0.length by omega)
          have hcell2 : w.cell? ⟨bb, off + j, none⟩ = some (.string t) := by rw [← hy3]; exact hc j y hy1
          have HY1 := Lib.hid hy1
          by_cases hyx : y < x
          · have hls := less_yes hy2 hx2 hyx
            have HYX := Lib.hid hyx
            clear hc hx1 hx2 hx3 hx4 hbw ht hy1 hy2 hy3 hy4 hyx h0
            go_wp2_with (go_at_call 62; (refine (isToken_is s true _ HSZ.out HT.out).mono ?_); rintro e w' ⟨rfl, rfl⟩)
            go_round
            case rel =>
              refine ⟨j + 1 + 1, by omega, by go_num, tok_take HTS.out HX1.out (by rw [← HX2.out]; exact HT.out) (fun z _ hz => ?_)⟩
              rw [show j + 1 - 1 = j from rfl, HY1.out] at hz
              obtain rfl := Option.some.inj hz
              exact HYX.out
            case measure => simp [intOf]; omega
          · have hls := less_no hy2 hx2 hyx
            obtain rfl : false = b := by rw [← HBB.out, tsB_no (tok_order hy1 hx1 hyx)]
            clear hc hx1 hx2 hx3 hx4 hbw ht hy1 hy2 hy3 hy4 hyx h0
            go_wp2_with (go_at_call 62; (refine (isToken_is s true _ HSZ.out HT.out).mono ?_); rintro e w' ⟨rfl, rfl⟩)
            go_ret
            exact ⟨rfl, Below.refl _ _⟩
      · have htf : tokB x = false := by simpa using ht
        have HT := Lib.hid (show tokB s.data.toList = false by rw [hx2]; exact htf)
        obtain rfl : false = b := by rw [← HBB.out, tsB_no (tok_bad (List.mem_of_getElem? hx1) htf)]
        clear hc hx1 hx2 hx3 hx4 hbw ht htf
        go_wp2_with (go_at_call 62; (refine (isToken_is s false _ HSZ.out HT.out).mono ?_); rintro e w' ⟨rfl, rfl⟩)
        go_ret
        exact ⟨rfl, Below.refl _ _⟩
    · obtain rfl : k = l0.length := by omega
      obtain rfl : true = b := by rw [← HBB.out, tsB_yes (by have h := HTS.out; rwa [List.take_length] at h)]
      go_wp2
      go_ret
      exact ⟨rfl, Below.refl _ _⟩

end Go.Proofs.Ythjbekgognfiiaa
