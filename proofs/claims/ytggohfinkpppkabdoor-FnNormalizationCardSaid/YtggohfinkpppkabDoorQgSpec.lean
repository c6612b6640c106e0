/-
  What spec.QGrams answers. By an AI agent.
-/
import Derived.Test.YtggohfinkpppkabDoorPut2
import Derived.Test.YtggohfinkpppkabDoorHeld
import Derived.Test.YtggohfinkpppkabDoorSpecIn
import Derived.Test.YtggohfinkpppkabDoorPlainTok
import Derived.Lib.AppendZeros
import Derived.Lib.Strings
namespace Go.Proofs.YtggohfinkpppkabDoor
open Go.RowKit Go.Maps Go.Sort
set_option linter.unusedVariables false

/-- what QGrams answers -/
def qgR (s : Str) (q : Int) : List Str := if 1 ≤ q ∧ q ≤ 3 then sortL (gramsL s q.toNat) else []
theorem qgR_yes {s : Str} {m : Nat} (h1 : 1 ≤ m) (h2 : m ≤ 3) : qgR s (m : Int) = sortL (gramsL s m) := by
  unfold qgR
  rw [if_pos (by omega)]
  simp
theorem qgR_no {s : Str} {q : Int} (h : ¬ (1 ≤ q ∧ q ≤ 3)) : qgR s q = [] := by unfold qgR; rw [if_neg h]
theorem qgR_len (s : Str) (q : Int) : (qgR s q).length ≤ s.length := by
  unfold qgR
  split
  · rw [sortL_length, grams_len]
    omega
  · simp
theorem grams_short {s : Str} {m : Nat} (h : s.length < m) : gramsL s m = [] := by
  unfold gramsL
  rw [show s.length + 1 - m = 0 by omega]
  rfl
theorem ext_part (s : ByteArray) (k m : Nat) : (s.extract k (k + m)).data.toList = (s.data.toList.drop k).take m := by
  rw [Lib.extract_data, show k + m - k = m by omega]

set_option maxRecDepth 100000 in
set_option maxHeartbeats 1000000 in
theorem qg_spec_yes (s : ByteArray) (m : Nat) (w : World) (hs : s.size ≤ 3000000) (h1 : 1 ≤ m) (h2 : m ≤ 3) :
    Calls Tryd.prog 33 #[.string s, .int .i64 m] w (GivesS w (qgR s.data.toList m)) := by
  have hsl : s.data.toList.length = s.size := Array.length_toList
  have HSL := Lib.hid hsl
  have HM := Lib.hid (And.intro h1 h2)
  rw [qgR_yes h1 h2]
  clear hsl
  go_enter Tryd.func33, Tryd.ntmps33
  go_wp2
  go_loopw [5, 6] (fun v i wr => ∃ (k : Nat) (a : Option Addr) (c : Nat) (r : List Str), k ≤ s.size ∧ i = .int .i64 k ∧ v = .slice a r.length c ∧ r = sortL ((gramsL s.data.toList m).take k) ∧ OwnS wr w.heap.size (.slice a r.length c) r ∧ Below w.heap.size w wr) (fun _ i _ => s.size - (intOf i).toNat)
  case atStart => exact ⟨0, _, _, [], Nat.zero_le _, rfl, rfl, rfl, own_new w w.heap.size w.heap.size rfl (Nat.le_refl _), (Below.refl _ _).alloc (Nat.le_refl _) _⟩
  case round =>
    obtain ⟨k, a, c, r, hk, rfl, rfl, hr, hown, hb⟩ := hrel
    have hrl : r.length ≤ k := by
      rw [hr, sortL_length]
      exact List.length_take_le _ _
    have HR := Lib.hid hr
    have HOWN := Lib.hid hown
    have HB := Lib.hid hb
    clear hr hown hb
    by_cases hlt : k + m ≤ s.size
    · have HX := Lib.hid (ext_part s k m)
      go_wp2_with (first
        | (go_at_call 63; (refine (l1In_yes _ _ _ _ (by omega) (by omega)).mono ?_); rintro e w' ⟨rfl, rfl⟩)
        | (go_at_call 49; (refine (put_any true w.heap.size a c r (s.extract k (k + m)) _ _ (by omega) HOWN.out HB.out.size HX.out).mono ?_); rintro e w2 ⟨a2, c2, rfl, ho2, hb2⟩; have HO2 := Lib.hid ho2; have HB2 := Lib.hid hb2; clear ho2 hb2))
      go_roundw
      case rel =>
        refine ⟨k + 1, a2, c2, putL true r _, by omega, by go_num, rfl, ?_, HO2.out, HB.out.trans (HB2.out.mono HB.out.size)⟩
        rw [grams_take _ _ _ (by rw [HSL.out]; exact hlt), sortL_snoc, ← HR.out]
      case measure => simp [intOf]; omega
    · go_wp2
      go_ret
      have e : r = sortL (gramsL s.data.toList m) := by
        have h := HR.out
        rw [grams_all _ _ _ (by rw [HSL.out]; omega)] at h
        exact h
      rw [← e]
      exact ⟨a, c, rfl, HOWN.out, HB.out⟩

set_option maxRecDepth 100000 in
theorem qg_spec_no (s : ByteArray) (q : Int) (w : World) (hs : s.size ≤ 3000000) (hq : ¬ (1 ≤ q ∧ q ≤ 3)) (hq0 : -9223372036854775808 ≤ q) (hq1 : q ≤ 9223372036854775807) :
    Calls Tryd.prog 33 #[.string s, .int .i64 q] w (GivesS w (qgR s.data.toList q)) := by
  rw [qgR_no hq]
  have HQ := Lib.hid hq
  clear hq
  by_cases hle : q ≤ s.size
  · go_enter Tryd.func33, Tryd.ntmps33
    go_wp2
    refine wp_loop_rounds 1 ?_
    rw [rounds_succ]
    go_wp2_with (go_at_call 63; (refine (l1In_no _ _ _ _ HQ.out).mono ?_); rintro e w' ⟨rfl, rfl⟩)
    go_ret
    exact ⟨_, _, rfl, own_new w w.heap.size w.heap.size rfl (Nat.le_refl _), (Below.refl _ _).alloc (Nat.le_refl _) _⟩
  · go_enter Tryd.func33, Tryd.ntmps33
    go_wp2
    refine wp_loop_rounds 1 ?_
    rw [rounds_succ]
    go_wp2
    go_ret
    exact ⟨_, _, rfl, own_new w w.heap.size w.heap.size rfl (Nat.le_refl _), (Below.refl _ _).alloc (Nat.le_refl _) _⟩

theorem qg_spec (s : ByteArray) (q : Int) (w : World) (hs : s.size ≤ 3000000) (hq0 : -9223372036854775808 ≤ q) (hq1 : q ≤ 9223372036854775807) :
    Calls Tryd.prog 33 #[.string s, .int .i64 q] w (GivesS w (qgR s.data.toList q)) := by
  by_cases hq : 1 ≤ q ∧ q ≤ 3
  · obtain ⟨m, rfl⟩ := Int.eq_ofNat_of_zero_le (show 0 ≤ q by omega)
    exact qg_spec_yes s m w hs (by omega) (by omega)
  · exact qg_spec_no s q w hs hq hq0 hq1

noncomputable abbrev qgramsR (s : Str) (q : Int) : List Str := qgR s q
theorem qgrams_len (a0 : ByteArray) (q : Int) (h : a0.size ≤ 1048576) : (qgramsR a0.data.toList q).length ≤ 4000000 := by
  have h1 := qgR_len a0.data.toList q
  have h2 : a0.data.toList.length = a0.size := Array.length_toList
  show (qgR a0.data.toList q).length ≤ 4000000
  omega

theorem qgrams_spec (s : ByteArray) (q : Int) (w : World) (hs : s.size ≤ 1048576) (hq0 : -9223372036854775808 ≤ q) (hq1 : q ≤ 9223372036854775807) :
    Calls Tryd.prog 33 #[.string s, .int .i64 q] w (GivesS w (qgramsR s.data.toList q)) := qg_spec s q w (by omega) hq0 hq1

end Go.Proofs.YtggohfinkpppkabDoor
