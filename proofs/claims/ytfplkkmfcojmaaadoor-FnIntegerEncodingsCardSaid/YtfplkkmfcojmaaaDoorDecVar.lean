/-
  What spec.DecodeVarint and impl.DecodeVarint answer, for every string. By an AI agent.
-/
import Derived.Test.YtfplkkmfcojmaaaDoorEncVar
import Derived.Test.YtfplkkmfcojmaaaDoorPlainNum
import Derived.Deep.RegionWith
import Derived.Lib.Strings
namespace Go.Proofs.YtfplkkmfcojmaaaDoor
open Go.RowKit
set_option linter.unusedVariables false

def AllBig (s : ByteArray) (k : Nat) : Prop := ∀ j b, j < k → s.data.toList[j]? = some b → 128 ≤ b.toNat
def SomeVlen (s : ByteArray) (w : World) (e : Ending) (w' : World) : Prop := ∃ k : Nat, e = .returned (.int .i64 k) ∧ IsVlen s.data.toList k ∧ w = w'

theorem byte_getElem? (s : ByteArray) (k : Nat) (h : k < s.size) : s.data.toList[k]? = some s[k] := by
  rw [List.getElem?_eq_getElem (by simpa using h)]
  rfl

theorem AllBig.succ {s : ByteArray} {k : Nat} (h : AllBig s k) (hk : k < s.size) (hb : 128 ≤ s[k].toNat) : AllBig s (k + 1) := by
  intro j b hj hjb
  rcases Nat.lt_or_ge j k with hlt | hge
  · exact h j b hlt hjb
  · obtain rfl : j = k := by omega
    rw [byte_getElem? s j hk] at hjb
    injection hjb with e
    subst e
    exact hb

theorem vlen_here {s : ByteArray} {k : Nat} (h : AllBig s k) (hk : k < s.size) (hk7 : k < 7) (hb : s[k].toNat < 128) : IsVlen s.data.toList (k + 1) :=
  .inr ⟨by omega, by omega, by simp; omega, ⟨s[k], byte_getElem? s k hk, hb⟩, fun j b hj hjb => h j b (by omega) hjb⟩

theorem vlen_none {s : ByteArray} {k : Nat} (h : AllBig s k) (hk : k = 7 ∨ k = s.size) : IsVlen s.data.toList 0 := by
  refine .inl ⟨rfl, fun j b hj hjb => ?_⟩
  rcases hk with rfl | rfl
  · exact h j b hj hjb
  · have : j < s.data.toList.length := (List.getElem?_eq_some_iff.1 hjb).1
    exact h j b (by simpa using this) hjb

set_option maxRecDepth 100000 in
set_option maxHeartbeats 400000 in
theorem vlen_any (s : ByteArray) (w : World) (hs : s.size ≤ maxLen) :
    Calls Tryd.prog 24 #[.string s] w (SomeVlen s w) := by
  unfold maxLen at hs
  by_cases h7 : s.size ≤ 7
  all_goals
    go_enter Tryd.func24, Tryd.ntmps24
    go_wp2
    go_loop [7] (fun i => ∃ k : Nat, k ≤ s.size ∧ k ≤ 7 ∧ i = .int .i64 k ∧ AllBig s k) (fun i => 7 - (intOf i).toNat)
    case atStart => exact ⟨0, Nat.zero_le _, by omega, rfl, fun j b hj => by omega⟩
    case round =>
      obtain ⟨k, hk, hk7, rfl, hab⟩ := hrel
      have HAB := Lib.hid hab
      clear hab
      by_cases hlt : k < s.size ∧ k < 7
      · obtain ⟨hks, hk8⟩ := hlt
        have hby := s[k].toNat_lt
        by_cases hsm : s[k].toNat < 128
        · go_wp2
          go_ret
          exact ⟨k + 1, by go_num, vlen_here HAB.out hks hk8 hsm, rfl⟩
        · go_wp2
          go_round
          case rel => exact ⟨k + 1, by omega, by omega, by go_num, HAB.out.succ hks (by omega)⟩
          case measure => simp [intOf]; omega
      · go_wp2
        go_ret
        exact ⟨0, rfl, vlen_none HAB.out (by omega), rfl⟩

theorem or_step (l : List UInt8) (b : UInt8) (k : Nat) (hk : k ≤ 6) (hl : l.length = k) :
    bits .or .i64 ((leN l : Nat) : Int) (wrap64 ((b.toNat : Int) % 128 * 2 ^ (7 * k))) = ((leN (l ++ [b]) : Nat) : Int) := by
  have hp : (2 : Nat) ^ (7 * k) = 128 ^ k := by rw [Nat.pow_mul]
  have hpi : (2 : Int) ^ (7 * k) = ((128 ^ k : Nat) : Int) := by rw [← hp]; simp
  have h1 := leN_lt l
  rw [hl] at h1
  have hx : b.toNat % 128 < 128 := Nat.mod_lt _ (by omega)
  have hq : 128 ^ k ≤ 128 ^ 6 := Nat.pow_le_pow_right (by omega) hk
  have h6 : (128 : Nat) ^ 6 = 4398046511104 := by decide
  have hm : 128 ^ k * (b.toNat % 128) ≤ 128 ^ k * 127 := Nat.mul_le_mul_left _ (by omega)
  have e1 : (b.toNat : Int) % 128 * 2 ^ (7 * k) = ((128 ^ k * (b.toNat % 128) : Nat) : Int) := by
    rw [hpi, Nat.mul_comm]; simp
  rw [e1, show wrap64 ((128 ^ k * (b.toNat % 128) : Nat) : Int) = ((128 ^ k * (b.toNat % 128) : Nat) : Int) from IntWalk.wrap64_in _ ⟨by omega, by omega⟩]
  rw [bits_join_low .i64 63 (by decide) wraps_i64 (7 * k) _ _ (by omega) (by rw [hpi]; omega) (by omega) (by omega) (by rw [hpi]; simp) (by omega), leN_snoc, hl]
  simp

theorem leN_take (s : ByteArray) (k : Nat) (hk : k < s.size) (h6 : k ≤ 6) :
    bits .or .i64 ((leN (s.data.toList.take k) : Nat) : Int) (wrap64 ((s[k].toNat : Int) % 128 * 2 ^ (7 * k))) = ((leN (s.data.toList.take (k + 1)) : Nat) : Int) := by
  rw [take_snoc s k hk]
  exact or_step _ _ k h6 (by rw [List.length_take, Nat.min_eq_left]; simp; omega)

theorem ext_list (s : ByteArray) (k : Nat) : (s.extract 0 k).toList = s.data.toList.take k := by
  rw [ByteArray.toList_eq, Lib.extract_data]
  simp

theorem of_same' {l : List UInt8} {s : ByteArray} {k : Nat} (h : ((strOf l).toList == (s.extract 0 k).toList) = true) : l = s.data.toList.take k := by
  rw [ext_list, show (strOf l).toList = l from ByteArray.toList_mk l] at h
  simpa using h

theorem of_other' {l : List UInt8} {s : ByteArray} {k : Nat} (h : ((strOf l).toList == (s.extract 0 k).toList) = false) : l ≠ s.data.toList.take k := by
  rw [ext_list, show (strOf l).toList = l from ByteArray.toList_mk l] at h
  simpa using h

theorem of_same {l : List UInt8} {s : ByteArray} {k : Nat} (h : (!(strOf l).toList == (s.extract 0 k).toList) = false) : l = s.data.toList.take k := of_same' (by simpa using h)
theorem of_other {l : List UInt8} {s : ByteArray} {k : Nat} (h : (!(strOf l).toList == (s.extract 0 k).toList) = true) : l ≠ s.data.toList.take k := of_other' (by simpa using h)

def SomeDv (s : ByteArray) (w : World) (e : Ending) (w' : World) : Prop := ∃ n k : Nat, e = .returned (.tuple #[.int .i64 n, .int .i64 k]) ∧ DvOk s.data.toList n k ∧ Below w.heap.size w w'

set_option maxRecDepth 100000 in
set_option maxHeartbeats 800000 in
theorem impl_dv (s : ByteArray) (w : World) (hs : s.size ≤ maxLen) :
    Calls Tryd.prog 10 #[.string s] w (SomeDv s w) := by
  unfold maxLen at hs
  have HSZ := Lib.hid hs
  go_enter Tryd.func10, Tryd.ntmps10
  go_wp2_with (go_at_call 24; refine (vlen_any _ _ HSZ.out).mono ?_; rintro e w' ⟨L, rfl, hL, rfl⟩; refine Hid.out ?_)
  refine Lib.hid ?_
  have hL7 := hL.le.1
  have hLs : L ≤ s.size := by simpa using hL.le.2
  have HL := Lib.hid hL
  clear hL
  go_wp2
  go_loop [5, 10] (fun n i => ∃ k : Nat, k ≤ L ∧ i = .int .i64 k ∧ n = .int .i64 (leN (s.data.toList.take k))) (fun _ i => L - (intOf i).toNat)
  case atStart => exact ⟨0, Nat.zero_le _, rfl, rfl⟩
  case round =>
    obtain ⟨k, hk, rfl, rfl⟩ := hrel
    by_cases hlt : k < L
    · have hks : k < s.size := by omega
      have hby := s[k].toNat_lt
      go_wp2
      go_round
      case rel => exact ⟨k + 1, by omega, by go_num, by rw [leN_take s k hks (by omega)]⟩
      case measure => simp [intOf]; omega
    · obtain rfl : k = L := by omega
      have hn := leN_small (s.data.toList.take k) (by rw [List.length_take]; omega)
      have HN := Lib.hid hn
      clear hn
      go_wp2
      go_region_with (go_at_call 9; refine (impl_ev_yes _ _ HN.out).mono ?_; rintro e w1 ⟨rfl, hb1⟩)
      all_goals
        have HB := Lib.hid ((Below.refl _ _).drew.trans hb1 : Below w.heap.size w w1)
        clear hb1
        go_wp2
      all_goals go_ret2
      all_goals first
        | exact ⟨_, _, rfl, vlen_yes HL.out (of_same (by assumption)), HB.out⟩
        | exact ⟨0, 0, rfl, vlen_no HL.out (of_other (by assumption)), HB.out⟩

theorem leN_drop (s : ByteArray) (k j : Nat) (hk : k ≤ s.size) (hj : j < k) :
    leN ((s.data.toList.take k).drop j) = leN ((s.data.toList.take k).drop (j + 1)) * 128 + s[j].toNat % 128 := by
  have hl : j < (s.data.toList.take k).length := by rw [List.length_take]; simp; omega
  rw [List.drop_eq_getElem_cons hl]
  have e : (s.data.toList.take k)[j] = s[j] := by rw [List.getElem_take]; rfl
  rw [e, leN]
  omega

end Go.Proofs.YtfplkkmfcojmaaaDoor
