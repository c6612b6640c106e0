/-
  What leastCost, EditDistance, SwapDistance, EditWithin and EditScore answer, on both sides. By an AI agent.
-/
import Derived.Test.YtggohfinkpppkabGreatDoorEdTab
import Derived.Test.YtggohfinkpppkabGreatDoorSpTab
import Derived.Test.YtggohfinkpppkabGreatDoorGMem
namespace Go.Proofs.YtggohfinkpppkabGreatDoor
open Go.RowKit
set_option linter.unusedVariables false

/-- the distance, or -1 -/
def edD (sw : Bool) (a b : ByteArray) : Int := if a.size ≤ 40 ∧ b.size ≤ 40 then ((lev sw a.data.toList b.data.toList : Nat) : Int) else -1
theorem edD_yes {sw : Bool} {a b : ByteArray} (h1 : a.size ≤ 40) (h2 : b.size ≤ 40) : edD sw a b = ((lev sw a.data.toList b.data.toList : Nat) : Int) := by unfold edD; rw [if_pos ⟨h1, h2⟩]
theorem edD_no {sw : Bool} {a b : ByteArray} (h : ¬ (a.size ≤ 40 ∧ b.size ≤ 40)) : edD sw a b = -1 := by unfold edD; rw [if_neg h]
theorem edD_ge (sw : Bool) (a b : ByteArray) : -1 ≤ edD sw a b := by unfold edD; split <;> omega
theorem edD_le (sw : Bool) (a b : ByteArray) : edD sw a b ≤ 40 := by
  unfold edD
  split
  · have := lev_most sw a.data.toList b.data.toList
    rw [ba_len, ba_len] at this
    omega
  · omega
theorem edD_max (sw : Bool) (a b : ByteArray) : edD sw a b ≤ (max a.size b.size : Nat) := by
  unfold edD
  split
  · have := lev_most sw a.data.toList b.data.toList
    rw [ba_len, ba_len] at this
    omega
  · omega

set_option maxRecDepth 100000 in
set_option maxHeartbeats 400000 in
theorem cost_any (sw : Bool) (a b : ByteArray) (w : World) (ha : a.size ≤ 1048576) (hb : b.size ≤ 1048576) (v : Int) (hv : edD sw a b = v) :
    Calls Tryz.prog 115 #[.string a, .string b, .bool sw] w fun e w' => e = .returned (.int .i64 v) ∧ Below w.heap.size w w' := by
  have HV := Lib.hid hv
  clear hv
  by_cases h1 : a.size ≤ 40
  · have d1 : decide (40 < (a.size : Int)) = false := by simp; omega
    by_cases h2 : b.size ≤ 40
    · have d2 : decide (40 < (b.size : Int)) = false := by simp; omega
      obtain ⟨n, hn⟩ : ∃ n, lev sw a.data.toList b.data.toList = n := ⟨_, rfl⟩
      obtain rfl : (n : Int) = v := by rw [← HV.out, edD_yes h1 h2, hn]
      have HN := Lib.hid hn
      clear hn
      go_enter Tryz.func115, Tryz.ntmps115
      go_wp2_with (go_at_call 129; ((with_reducible refine (costs_any _ _ _ _ h1 h2).mono ?_); rintro e w1 ⟨gr, gc, rfl, hgr, hgc, ⟨cs, ht, hrf⟩, hbel⟩; have k1 := ht.cellrow (i := 0) (o := 0) (by omega) (by omega); rw [ba_len] at k1; have k2 : w1.cell? ⟨gc, 0, none⟩ = some (.int .i64 n) := (by rw [ht.2.1.cell]; have h := hrf 0 0 (by omega) (by omega) (by omega); rw [Nat.zero_mul, Nat.zero_add, List.drop_zero, List.drop_zero, HN.out] at h; exact h); have HB := Lib.hid hbel; clear ht hrf hgr hgc hbel))
      all_goals go_ret
      all_goals exact ⟨rfl, HB.out⟩
    · have d2 : decide (40 < (b.size : Int)) = true := by simp; omega
      obtain rfl : -1 = v := by rw [← HV.out, edD_no (fun e => h2 e.2)]
      go_enter Tryz.func115, Tryz.ntmps115
      go_wp2
      go_ret
      exact ⟨rfl, Below.refl _ _⟩
  · have d1 : decide (40 < (a.size : Int)) = true := by simp; omega
    obtain rfl : -1 = v := by rw [← HV.out, edD_no (fun e => h1 e.1)]
    go_enter Tryz.func115, Tryz.ntmps115
    go_wp2
    go_ret
    exact ⟨rfl, Below.refl _ _⟩

set_option maxRecDepth 100000 in
theorem impl_ed (a b : ByteArray) (w : World) (ha : a.size ≤ 1048576) (hb : b.size ≤ 1048576) (v : Int) (hv : edD false a b = v) :
    Calls Tryz.prog 95 #[.string a, .string b] w fun e w' => e = .returned (.int .i64 v) ∧ Below w.heap.size w w' := by
  have HV := Lib.hid hv
  clear hv
  go_enter Tryz.func95, Tryz.ntmps95
  go_wp2_with (go_at_call 115; ((with_reducible refine (cost_any _ _ _ _ ha hb _ HV.out).mono ?_); rintro e w1 ⟨rfl, hb1⟩))
  go_ret
  exact ⟨rfl, hb1⟩

set_option maxRecDepth 100000 in
theorem fits_yes (a b : ByteArray) (w : World) (h1 : a.size ≤ 40) (h2 : b.size ≤ 40) :
    Calls Tryz.prog 104 #[.string a, .string b] w fun e w' => e = .returned (.bool true) ∧ w = w' := by
  have d1 : decide ((a.size : Int) ≤ 40) = true := by simp; omega
  have d2 : decide ((b.size : Int) ≤ 40) = true := by simp; omega
  go_enter Tryz.func104, Tryz.ntmps104
  go_wp2
  go_ret
  exact ⟨rfl, rfl⟩
set_option maxRecDepth 100000 in
theorem fits_no (a b : ByteArray) (w : World) (ha : a.size ≤ 1048576) (hb : b.size ≤ 1048576) (h : ¬ (a.size ≤ 40 ∧ b.size ≤ 40)) :
    Calls Tryz.prog 104 #[.string a, .string b] w fun e w' => e = .returned (.bool false) ∧ w = w' := by
  by_cases h1 : a.size ≤ 40
  · have d1 : decide ((a.size : Int) ≤ 40) = true := by simp; omega
    have d2 : decide ((b.size : Int) ≤ 40) = false := by simp; omega
    clear h
    go_enter Tryz.func104, Tryz.ntmps104
    go_wp2
    go_ret
    exact ⟨rfl, rfl⟩
  · have d1 : decide ((a.size : Int) ≤ 40) = false := by simp; omega
    clear h
    go_enter Tryz.func104, Tryz.ntmps104
    go_wp2
    go_ret
    exact ⟨rfl, rfl⟩

theorem SomeD.at {sw : Bool} {a b : ByteArray} {w w' : World} {e : Ending} (h : SomeD sw a b w e w') {n : Nat} (hn : lev sw a.data.toList b.data.toList = n) :
    ∃ gd cap g, e = .returned (.slice (some ⟨gd, 0, none⟩) (a.size + 1) cap) ∧ w'.cell? ⟨gd, a.size, none⟩ = some (.slice (some ⟨g, 0, none⟩) (b.size + 1) (b.size + 1)) ∧ w'.cell? ⟨g, b.size, none⟩ = some (.int .i64 n) ∧ Below w.heap.size w w' := by
  obtain ⟨v, gs, rfl, hgl, hrd, hb⟩ := h
  obtain ⟨gd, cap, rfl, _, _, _, hc⟩ := hrd.shape hgl (by omega)
  obtain ⟨g, hg⟩ : ∃ g, gs[a.size]? = some g := ⟨_, List.getElem?_eq_getElem (by omega)⟩
  obtain ⟨cs, h1, h2⟩ := (hrd.2 a.size g hg).2
  have k1 := hc a.size g hg
  rw [ba_len] at k1
  refine ⟨gd, cap, g, rfl, k1, ?_, hb⟩
  have k2 := h2.2 b.size (by rw [ba_len]; omega)
  have e := Dt_all sw a.data.toList b.data.toList
  rw [ba_len, ba_len, hn] at e
  rw [h1.cell, k2, e]
  rfl

set_option maxRecDepth 100000 in
set_option maxHeartbeats 400000 in
theorem spec_ed (a b : ByteArray) (w : World) (ha : a.size ≤ 1048576) (hb : b.size ≤ 1048576) (v : Int) (hv : edD false a b = v) :
    Calls Tryz.prog 83 #[.string a, .string b] w fun e w' => e = .returned (.int .i64 v) ∧ Below w.heap.size w w' := by
  have HV := Lib.hid hv
  clear hv
  by_cases h : a.size ≤ 40 ∧ b.size ≤ 40
  · obtain ⟨h1, h2⟩ := h
    obtain ⟨n, hn⟩ : ∃ n, lev false a.data.toList b.data.toList = n := ⟨_, rfl⟩
    obtain rfl : (n : Int) = v := by rw [← HV.out, edD_yes h1 h2, hn]
    have HN := Lib.hid hn
    clear hn
    go_enter Tryz.func83, Tryz.ntmps83
    go_wp2_with (first
      | (go_at_call 104; ((with_reducible refine (fits_yes _ _ _ h1 h2).mono ?_); rintro e w1 ⟨rfl, rfl⟩))
      | (go_at_call 105; ((with_reducible refine (table_any _ _ _ _ h1 h2).mono ?_); intro e w1 hs; obtain ⟨gd, cap, g, rfl, k1, k2, hb1⟩ := hs.at HN.out; have HB := Lib.hid hb1; clear hs hb1)))
    go_ret
    exact ⟨rfl, HB.out⟩
  · obtain rfl : -1 = v := by rw [← HV.out, edD_no h]
    have HH := Lib.hid h
    clear h
    go_enter Tryz.func83, Tryz.ntmps83
    go_wp2_with (go_at_call 104; ((with_reducible refine (fits_no _ _ _ ha hb HH.out).mono ?_); rintro e w1 ⟨rfl, rfl⟩))
    go_ret
    exact ⟨rfl, Below.refl _ _⟩

/-- EditWithin's answer out of the distance -/
def ewR (d limit : Int) : Int := if d < 0 ∨ limit < d then -1 else d

/-- EditScore's answer out of the distance and the length of the longer string -/
def esR (d : Int) (m : Nat) : Int := if d < 0 then 0 else if m = 0 then 1000 else 1000 * ((m : Int) - d) / (m : Int)
theorem esR_neg {d : Int} (m : Nat) (h : d < 0) : 0 = esR d m := by unfold esR; rw [if_pos h]
theorem esR_none {d : Int} {m : Nat} (h : ¬ d < 0) (hm : m = 0) : 1000 = esR d m := by unfold esR; rw [if_neg h, if_pos hm]
theorem esR_some {d : Int} {m : Nat} (h : ¬ d < 0) (hm : m ≠ 0) : 1000 * ((m : Int) - d) / (m : Int) = esR d m := by unfold esR; rw [if_neg h, if_neg hm]

set_option maxRecDepth 100000 in
set_option maxHeartbeats 400000 in
theorem impl_es (a b : ByteArray) (w : World) (ha : a.size ≤ 1048576) (hb : b.size ≤ 1048576) :
    Calls Tryz.prog 72 #[.string a, .string b] w fun e w' => e = .returned (.int .i64 (esR (edD false a b) (max a.size b.size))) ∧ Below w.heap.size w w' := by
  obtain ⟨d, hd⟩ : ∃ d, edD false a b = d := ⟨_, rfl⟩
  have hd1 : -1 ≤ d := by rw [← hd]; exact edD_ge _ _ _
  have hd2 : d ≤ (max a.size b.size : Nat) := by rw [← hd]; exact edD_max _ _ _
  rw [hd]
  have HD := Lib.hid hd
  clear hd
  by_cases hl : a.size < b.size
  · obtain ⟨m, hm⟩ : ∃ m, max a.size b.size = m := ⟨_, rfl⟩
    have hmm : b.size = m := by omega
    rw [hm] at hd2 ⊢
    have hb1 : b.size ≤ m := by omega
    have hb2 : m ≤ b.size := by omega
    have hxb : (b.size : Int) = (m : Int) := by omega
    clear hm hmm
    by_cases h0 : d < 0
    · have d0 : decide (d < 0) = true := by simpa using h0
      have HW := Lib.hid (esR_neg m h0)
      go_enter Tryz.func72, Tryz.ntmps72
      go_wp2_with (go_at_call 95; ((with_reducible refine (impl_ed _ _ _ ha hb _ HD.out).mono ?_); rintro e w1 ⟨rfl, hb1⟩; have HB := Lib.hid hb1; clear hb1))
      go_ret
      exact ⟨ret_int HW.out, HB.out⟩
    · have d0 : decide (d < 0) = false := by simp; omega
      by_cases hz : m = 0
      · have dz : ((m : Int) == 0) = true := by simp; omega
        have HW := Lib.hid (esR_none h0 hz)
        clear hz
        go_enter Tryz.func72, Tryz.ntmps72
        go_wp2_with (go_at_call 95; ((with_reducible refine (impl_ed _ _ _ ha hb _ HD.out).mono ?_); rintro e w1 ⟨rfl, hb1⟩; have HB := Lib.hid hb1; clear hb1))
        go_ret
        exact ⟨ret_int HW.out, HB.out⟩
      · have dz : ((m : Int) == 0) = false := by simp; omega
        have hm1 : 1 ≤ m := by omega
        have HW := Lib.hid (esR_some h0 hz)
        clear hz
        go_enter Tryz.func72, Tryz.ntmps72
        go_wp2_with (go_at_call 95; ((with_reducible refine (impl_ed _ _ _ ha hb _ HD.out).mono ?_); rintro e w1 ⟨rfl, hb1⟩; have HB := Lib.hid hb1; clear hb1))
        go_ret
        exact ⟨ret_int HW.out, HB.out⟩
  · obtain ⟨m, hm⟩ : ∃ m, max a.size b.size = m := ⟨_, rfl⟩
    have hmm : a.size = m := by omega
    rw [hm] at hd2 ⊢
    have ha1 : a.size ≤ m := by omega
    have ha2 : m ≤ a.size := by omega
    have hxa : (a.size : Int) = (m : Int) := by omega
    clear hm hmm
    by_cases h0 : d < 0
    · have d0 : decide (d < 0) = true := by simpa using h0
      have HW := Lib.hid (esR_neg m h0)
      go_enter Tryz.func72, Tryz.ntmps72
      go_wp2_with (go_at_call 95; ((with_reducible refine (impl_ed _ _ _ ha hb _ HD.out).mono ?_); rintro e w1 ⟨rfl, hb1⟩; have HB := Lib.hid hb1; clear hb1))
      go_ret
      exact ⟨ret_int HW.out, HB.out⟩
    · have d0 : decide (d < 0) = false := by simp; omega
      by_cases hz : m = 0
      · have dz : ((m : Int) == 0) = true := by simp; omega
        have HW := Lib.hid (esR_none h0 hz)
        clear hz
        go_enter Tryz.func72, Tryz.ntmps72
        go_wp2_with (go_at_call 95; ((with_reducible refine (impl_ed _ _ _ ha hb _ HD.out).mono ?_); rintro e w1 ⟨rfl, hb1⟩; have HB := Lib.hid hb1; clear hb1))
        go_ret
        exact ⟨ret_int HW.out, HB.out⟩
      · have dz : ((m : Int) == 0) = false := by simp; omega
        have hm1 : 1 ≤ m := by omega
        have HW := Lib.hid (esR_some h0 hz)
        clear hz
        go_enter Tryz.func72, Tryz.ntmps72
        go_wp2_with (go_at_call 95; ((with_reducible refine (impl_ed _ _ _ ha hb _ HD.out).mono ?_); rintro e w1 ⟨rfl, hb1⟩; have HB := Lib.hid hb1; clear hb1))
        go_ret
        exact ⟨ret_int HW.out, HB.out⟩

set_option maxRecDepth 100000 in
set_option maxHeartbeats 400000 in
theorem spec_es (a b : ByteArray) (w : World) (ha : a.size ≤ 1048576) (hb : b.size ≤ 1048576) :
    Calls Tryz.prog 54 #[.string a, .string b] w fun e w' => e = .returned (.int .i64 (esR (edD false a b) (max a.size b.size))) ∧ Below w.heap.size w w' := by
  obtain ⟨d, hd⟩ : ∃ d, edD false a b = d := ⟨_, rfl⟩
  have hd1 : -1 ≤ d := by rw [← hd]; exact edD_ge _ _ _
  have hd2 : d ≤ (max a.size b.size : Nat) := by rw [← hd]; exact edD_max _ _ _
  rw [hd]
  have HD := Lib.hid hd
  clear hd
  by_cases hl : a.size < b.size
  · obtain ⟨m, hm⟩ : ∃ m, max a.size b.size = m := ⟨_, rfl⟩
    have hmm : b.size = m := by omega
    rw [hm] at hd2 ⊢
    have hb1 : b.size ≤ m := by omega
    have hb2 : m ≤ b.size := by omega
    have hxb : (b.size : Int) = (m : Int) := by omega
    clear hm hmm
    by_cases h0 : d < 0
    · have d0 : decide (d < 0) = true := by simpa using h0
      have HW := Lib.hid (esR_neg m h0)
      go_enter Tryz.func54, Tryz.ntmps54
      go_wp2_with (go_at_call 83; ((with_reducible refine (spec_ed _ _ _ ha hb _ HD.out).mono ?_); rintro e w1 ⟨rfl, hb1⟩; have HB := Lib.hid hb1; clear hb1))
      go_ret
      exact ⟨ret_int HW.out, HB.out⟩
    · have d0 : decide (d < 0) = false := by simp; omega
      by_cases hz : m = 0
      · have dz : ((m : Int) == 0) = true := by simp; omega
        have HW := Lib.hid (esR_none h0 hz)
        clear hz
        go_enter Tryz.func54, Tryz.ntmps54
        go_wp2_with (go_at_call 83; ((with_reducible refine (spec_ed _ _ _ ha hb _ HD.out).mono ?_); rintro e w1 ⟨rfl, hb1⟩; have HB := Lib.hid hb1; clear hb1))
        go_ret
        exact ⟨ret_int HW.out, HB.out⟩
      · have dz : ((m : Int) == 0) = false := by simp; omega
        have hm1 : 1 ≤ m := by omega
        have HW := Lib.hid (esR_some h0 hz)
        clear hz
        go_enter Tryz.func54, Tryz.ntmps54
        go_wp2_with (go_at_call 83; ((with_reducible refine (spec_ed _ _ _ ha hb _ HD.out).mono ?_); rintro e w1 ⟨rfl, hb1⟩; have HB := Lib.hid hb1; clear hb1))
        go_ret
        exact ⟨ret_int HW.out, HB.out⟩
  · obtain ⟨m, hm⟩ : ∃ m, max a.size b.size = m := ⟨_, rfl⟩
    have hmm : a.size = m := by omega
    rw [hm] at hd2 ⊢
    have ha1 : a.size ≤ m := by omega
    have ha2 : m ≤ a.size := by omega
    have hxa : (a.size : Int) = (m : Int) := by omega
    clear hm hmm
    by_cases h0 : d < 0
    · have d0 : decide (d < 0) = true := by simpa using h0
      have HW := Lib.hid (esR_neg m h0)
      go_enter Tryz.func54, Tryz.ntmps54
      go_wp2_with (go_at_call 83; ((with_reducible refine (spec_ed _ _ _ ha hb _ HD.out).mono ?_); rintro e w1 ⟨rfl, hb1⟩; have HB := Lib.hid hb1; clear hb1))
      go_ret
      exact ⟨ret_int HW.out, HB.out⟩
    · have d0 : decide (d < 0) = false := by simp; omega
      by_cases hz : m = 0
      · have dz : ((m : Int) == 0) = true := by simp; omega
        have HW := Lib.hid (esR_none h0 hz)
        clear hz
        go_enter Tryz.func54, Tryz.ntmps54
        go_wp2_with (go_at_call 83; ((with_reducible refine (spec_ed _ _ _ ha hb _ HD.out).mono ?_); rintro e w1 ⟨rfl, hb1⟩; have HB := Lib.hid hb1; clear hb1))
        go_ret
        exact ⟨ret_int HW.out, HB.out⟩
      · have dz : ((m : Int) == 0) = false := by simp; omega
        have hm1 : 1 ≤ m := by omega
        have HW := Lib.hid (esR_some h0 hz)
        clear hz
        go_enter Tryz.func54, Tryz.ntmps54
        go_wp2_with (go_at_call 83; ((with_reducible refine (spec_ed _ _ _ ha hb _ HD.out).mono ?_); rintro e w1 ⟨rfl, hb1⟩; have HB := Lib.hid hb1; clear hb1))
        go_ret
        exact ⟨ret_int HW.out, HB.out⟩

end Go.Proofs.YtggohfinkpppkabGreatDoor
