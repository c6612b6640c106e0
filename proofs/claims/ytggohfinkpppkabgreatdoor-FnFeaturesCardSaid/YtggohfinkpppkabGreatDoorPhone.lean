/-
  What impl.commonSuffix answers, PhoneScore on both sides; the walk of laws.FnExactPhoneScore. By an AI agent.
-/
import Derived.Test.YtggohfinkpppkabGreatDoorDigs
import Derived.BigQuiet
import Derived.Deep.QuietTactic
import Derived.Lib.Hide
namespace Go.Proofs.YtggohfinkpppkabGreatDoor
open Go.RowKit
set_option linter.unusedVariables false

theorem quiet_b (B : Nat) (w : World) (n : Nat) : Below B w (w.drewN n) := ⟨rfl, rfl, rfl, Nat.le_refl _, fun _ _ => rfl⟩
theorem sret_i {k : IntKind} {a b : Int} (h : a = b) : Ending.returned (.int k a) = .returned (.int k b) := by rw [h]

/-- the byte at the place k from the end -/
theorem end_at (x : ByteArray) (k p : Nat) (h : k + p + 1 = x.size) : x.data.toList.reverse[k]? = some (x[p]'(by omega)) := by
  have hl : x.data.toList.length = x.size := Array.length_toList
  rw [rev_at (by omega), hl, show x.size - 1 - k = p by omega, fbyte_at? x p (by omega)]

/-- what is known of the place k: below n the bytes agree, at n (where both have one) they don't -/
theorem suf_at {x y : ByteArray} {n k p q : Nat} (h : IsSuf x.data.toList y.data.toList n) (hp : k + p + 1 = x.size) (hq : k + q + 1 = y.size) (hk : k < n) : x[p]'(by omega) = y[q]'(by omega) := by
  have h1 := h.2.2.1 k hk
  rw [end_at x k p hp, end_at y k q hq] at h1
  simpa using h1
theorem suf_end {x y : ByteArray} {n p q : Nat} (h : IsSuf x.data.toList y.data.toList n) (hp : n + p + 1 = x.size) (hq : n + q + 1 = y.size) : x[p]'(by omega) ≠ y[q]'(by omega) := by
  have hl : x.data.toList.length = x.size := Array.length_toList
  have hl2 : y.data.toList.length = y.size := Array.length_toList
  rcases h.2.2.2 with e | e | e
  · omega
  · omega
  · rw [end_at x n p hp, end_at y n q hq] at e
    exact fun c => e (by rw [c])
theorem suf_le {x y : ByteArray} {n : Nat} (h : IsSuf x.data.toList y.data.toList n) : n ≤ x.size ∧ n ≤ y.size := by
  have hl : x.data.toList.length = x.size := Array.length_toList
  have hl2 : y.data.toList.length = y.size := Array.length_toList
  exact ⟨by have := h.1; omega, by have := h.2.1; omega⟩











set_option maxRecDepth 100000 in
set_option maxHeartbeats 1000000 in
theorem suf_impl (x y : ByteArray) (n : Nat) (w : World) (hx : x.size ≤ 1048576) (hy : y.size ≤ 1048576) (h : IsSuf x.data.toList y.data.toList n) :
    Calls Tryz.prog 82 #[.string x, .string y] w fun e w' => e = .returned (.int .i64 (n : Int)) ∧ Below w.heap.size w w' := by
  have HN := Lib.hid h
  obtain ⟨n1, n2⟩ := suf_le h
  clear h
  rcases Nat.lt_trichotomy x.size y.size with hxy | hxy | hxy
  · go_enter Tryz.func82, Tryz.ntmps82
    go_wp2
    go_loopw [13] (fun i wr => ∃ k m : Nat, k ≤ n ∧ i = .int .i64 k ∧ wr = w.drewN m) (fun i _ => n - (intOf i).toNat)
    case atStart => exact ⟨0, 0, Nat.zero_le _, rfl, rfl⟩
    case round =>
      obtain ⟨k, m, hk, rfl, rfl⟩ := hrel
      by_cases hlt : k < n
      · obtain ⟨p, hp⟩ : ∃ p : Nat, k + p + 1 = x.size := ⟨x.size - 1 - k, by omega⟩
        obtain ⟨q, hq⟩ : ∃ q : Nat, k + q + 1 = y.size := ⟨y.size - 1 - k, by omega⟩
        have hp1 : (x.size : Int) - 1 - (k : Int) = (p : Int) := by omega
        have hq1 : (y.size : Int) - 1 - (k : Int) = (q : Int) := by omega
        have hp2 : p < x.size := by omega
        have hq2 : q < y.size := by omega
        have he := suf_at HN.out hp hq hlt
        go_wp2
        go_quiet (fail)
        go_wp2
        go_roundw
        case rel => exact ⟨k + 1, _, by omega, by go_num, rfl⟩
        case measure => simp [intOf]; omega
      · obtain rfl : k = n := by omega
        by_cases hend : k < x.size
        · obtain ⟨p, hp⟩ : ∃ p : Nat, k + p + 1 = x.size := ⟨x.size - 1 - k, by omega⟩
          obtain ⟨q, hq⟩ : ∃ q : Nat, k + q + 1 = y.size := ⟨y.size - 1 - k, by omega⟩
          have hp1 : (x.size : Int) - 1 - (k : Int) = (p : Int) := by omega
          have hq1 : (y.size : Int) - 1 - (k : Int) = (q : Int) := by omega
          have hp2 : p < x.size := by omega
          have hq2 : q < y.size := by omega
          have he := suf_end HN.out hp hq
          have he2 : ((x[p].toNat : Int) == (y[q].toNat : Int)) = false := by
            have h3 : x[p].toNat ≠ y[q].toNat := fun c => he (UInt8.toNat_inj.1 c)
            simp
            omega
          clear he
          go_wp2
          go_quiet (fail)
          go_wp2
          go_ret
          exact ⟨rfl, (quiet_b _ _ _).trans (quiet_b _ _ _)⟩
        · obtain hend2 : k = x.size := by omega
          go_wp2
          go_ret
          exact ⟨sret_i (by omega), quiet_b _ _ _⟩
  · go_enter Tryz.func82, Tryz.ntmps82
    go_wp2
    go_loopw [13] (fun i wr => ∃ k m : Nat, k ≤ n ∧ i = .int .i64 k ∧ wr = w.drewN m) (fun i _ => n - (intOf i).toNat)
    case atStart => exact ⟨0, 0, Nat.zero_le _, rfl, rfl⟩
    case round =>
      obtain ⟨k, m, hk, rfl, rfl⟩ := hrel
      by_cases hlt : k < n
      · obtain ⟨p, hp⟩ : ∃ p : Nat, k + p + 1 = x.size := ⟨x.size - 1 - k, by omega⟩
        obtain ⟨q, hq⟩ : ∃ q : Nat, k + q + 1 = y.size := ⟨y.size - 1 - k, by omega⟩
        obtain rfl : q = p := by omega
        have hp1 : (x.size : Int) - 1 - (k : Int) = (q : Int) := by omega
        have hq1 : (y.size : Int) - 1 - (k : Int) = (q : Int) := by omega
        have hp2 : q < x.size := by omega
        have hq2 : q < y.size := by omega
        have he := suf_at HN.out hp hq hlt
        go_wp2
        go_quiet (fail)
        go_wp2
        go_roundw
        case rel => exact ⟨k + 1, _, by omega, by go_num, rfl⟩
        case measure => simp [intOf]; omega
      · obtain rfl : k = n := by omega
        by_cases hend : k < y.size
        · obtain ⟨p, hp⟩ : ∃ p : Nat, k + p + 1 = x.size := ⟨x.size - 1 - k, by omega⟩
          obtain ⟨q, hq⟩ : ∃ q : Nat, k + q + 1 = y.size := ⟨y.size - 1 - k, by omega⟩
          obtain rfl : q = p := by omega
          have hp1 : (x.size : Int) - 1 - (k : Int) = (q : Int) := by omega
          have hq1 : (y.size : Int) - 1 - (k : Int) = (q : Int) := by omega
          have hp2 : q < x.size := by omega
          have hq2 : q < y.size := by omega
          have he := suf_end HN.out hp hq
          have he2 : ((x[q].toNat : Int) == (y[q].toNat : Int)) = false := by
            have h3 : x[q].toNat ≠ y[q].toNat := fun c => he (UInt8.toNat_inj.1 c)
            simp
            omega
          clear he
          go_wp2
          go_quiet (fail)
          go_wp2
          go_ret
          exact ⟨rfl, (quiet_b _ _ _).trans (quiet_b _ _ _)⟩
        · obtain hend2 : k = y.size := by omega
          go_wp2
          go_ret
          exact ⟨sret_i (by omega), quiet_b _ _ _⟩
  · go_enter Tryz.func82, Tryz.ntmps82
    go_wp2
    go_loopw [13] (fun i wr => ∃ k m : Nat, k ≤ n ∧ i = .int .i64 k ∧ wr = w.drewN m) (fun i _ => n - (intOf i).toNat)
    case atStart => exact ⟨0, 0, Nat.zero_le _, rfl, rfl⟩
    case round =>
      obtain ⟨k, m, hk, rfl, rfl⟩ := hrel
      by_cases hlt : k < n
      · obtain ⟨p, hp⟩ : ∃ p : Nat, k + p + 1 = x.size := ⟨x.size - 1 - k, by omega⟩
        obtain ⟨q, hq⟩ : ∃ q : Nat, k + q + 1 = y.size := ⟨y.size - 1 - k, by omega⟩
        have hp1 : (x.size : Int) - 1 - (k : Int) = (p : Int) := by omega
        have hq1 : (y.size : Int) - 1 - (k : Int) = (q : Int) := by omega
        have hp2 : p < x.size := by omega
        have hq2 : q < y.size := by omega
        have he := suf_at HN.out hp hq hlt
        go_wp2
        go_quiet (fail)
        go_wp2
        go_roundw
        case rel => exact ⟨k + 1, _, by omega, by go_num, rfl⟩
        case measure => simp [intOf]; omega
      · obtain rfl : k = n := by omega
        by_cases hend : k < y.size
        · obtain ⟨p, hp⟩ : ∃ p : Nat, k + p + 1 = x.size := ⟨x.size - 1 - k, by omega⟩
          obtain ⟨q, hq⟩ : ∃ q : Nat, k + q + 1 = y.size := ⟨y.size - 1 - k, by omega⟩
          have hp1 : (x.size : Int) - 1 - (k : Int) = (p : Int) := by omega
          have hq1 : (y.size : Int) - 1 - (k : Int) = (q : Int) := by omega
          have hp2 : p < x.size := by omega
          have hq2 : q < y.size := by omega
          have he := suf_end HN.out hp hq
          have he2 : ((x[p].toNat : Int) == (y[q].toNat : Int)) = false := by
            have h3 : x[p].toNat ≠ y[q].toNat := fun c => he (UInt8.toNat_inj.1 c)
            simp
            omega
          clear he
          go_wp2
          go_quiet (fail)
          go_wp2
          go_ret
          exact ⟨rfl, (quiet_b _ _ _).trans (quiet_b _ _ _)⟩
        · obtain hend2 : k = y.size := by omega
          go_wp2
          go_ret
          exact ⟨sret_i (by omega), quiet_b _ _ _⟩

theorem same_is (x y : ByteArray) : (x.toList == y.toList) = decide (x.data.toList = y.data.toList) := by
  rw [ByteArray.toList_eq, ByteArray.toList_eq]
  by_cases h : x.data.toList = y.data.toList
  · simp [h]
  · have h2 : (x.data.toList == y.data.toList) = false := by simpa using h
    rw [h2, decide_eq_false h]
theorem len_data (x : ByteArray) : x.data.toList.length = x.size := Array.length_toList
theorem dg_size (a x : ByteArray) (h : nstr (digL a.data.toList) = x) (ha : a.size ≤ 1048576) : x.size ≤ 1048576 := by
  rw [← h, nstr_size]
  have h1 := digL_length a.data.toList
  have h2 := len_data a
  omega
theorem dg_list (a x : ByteArray) (h : nstr (digL a.data.toList) = x) : x.data.toList = digL a.data.toList := by rw [← h, nstr_list]

theorem cD (a x : ByteArray) (w : World) (ha : a.size ≤ 1048576) (h : nstr (digL a.data.toList) = x) :
    Calls Tryz.prog 81 #[.string a] w fun e w' => e = .returned (.string x) ∧ Below w.heap.size w w' :=
  (impl_dg a w ha).mono fun e w' k => ⟨by rw [k.1, h], k.2⟩
theorem cDs (a x : ByteArray) (w : World) (ha : a.size ≤ 1048576) (h : nstr (digL a.data.toList) = x) :
    Calls Tryz.prog 59 #[.string a] w fun e w' => e = .returned (.string x) ∧ Below w.heap.size w w' :=
  (spec_dg a w ha).mono fun e w' k => ⟨by rw [k.1, h], k.2⟩

set_option maxRecDepth 100000 in
set_option maxHeartbeats 1000000 in
theorem ph_impl (a b : ByteArray) (r : Int) (w : World) (ha : a.size ≤ 1048576) (hb : b.size ≤ 1048576) (hr : phR (digL a.data.toList) (digL b.data.toList) = r) :
    Calls Tryz.prog 53 #[.string a, .string b] w fun e w' => e = .returned (.int .i64 r) ∧ Below w.heap.size w w' := by
  obtain ⟨x, hx⟩ : ∃ x, nstr (digL a.data.toList) = x := ⟨_, rfl⟩
  obtain ⟨y, hy⟩ : ∃ y, nstr (digL b.data.toList) = y := ⟨_, rfl⟩
  obtain ⟨n, hn⟩ : ∃ n, sufN x.data.toList y.data.toList = n := ⟨_, rfl⟩
  have hs : IsSuf x.data.toList y.data.toList n := by rw [← hn]; exact sufN_is _ _
  have HR := Lib.hid (show phN x.size y.size n = r by rw [← hr, phR, ← dg_list a x hx, ← dg_list b y hy, len_data, len_data, hn])
  have HX := Lib.hid hx
  have HY := Lib.hid hy
  have HA := Lib.hid ha
  have HB := Lib.hid hb
  have HS := Lib.hid hs
  have hxs := dg_size a x hx ha
  have hys := dg_size b y hy hb
  have HXS := Lib.hid hxs
  have HYS := Lib.hid hys
  obtain ⟨n1, n2⟩ := suf_le hs
  have he := suf_eq hs
  rw [len_data, len_data] at he
  have HE := Lib.hid he
  clear hx hy hn hs hr he ha hb
  have hm : ∀ d : Bool, ((n : Int) == if y.size < x.size then (y.size : Int) else (x.size : Int)) = d → (d = true ↔ n = x.size ∨ n = y.size) := by
    rintro d rfl
    by_cases h : y.size < x.size
    · simp only [h, if_true, beq_iff_eq]
      omega
    · simp only [h, if_false, beq_iff_eq]
      omega
  have go : ∀ c d : Bool, (x.toList == y.toList) = c → ((n : Int) == if y.size < x.size then (y.size : Int) else (x.size : Int)) = d → (c = true ↔ n = x.size ∧ n = y.size) → (d = true ↔ n = x.size ∨ n = y.size) → Calls Tryz.prog 53 #[.string a, .string b] w fun e w' => e = .returned (.int .i64 r) ∧ Below w.heap.size w w' := by
    intro c d hc hd hiff hiffd
    have HI := Lib.hid hiff
    have HJ := Lib.hid hiffd
    clear hiff hiffd hm
    cases c <;> cases d
    all_goals
      go_enter Tryz.func53, Tryz.ntmps53
      go_wp2_with (first
        | (go_at_call 81; ((with_reducible refine (cD a x _ HA.out HX.out).mono ?_); rintro e w1 ⟨rfl, hb1⟩; have HB1 := Lib.hid hb1; clear hb1))
        | (go_at_call 81; ((with_reducible refine (cD b y _ HB.out HY.out).mono ?_); rintro e w2 ⟨rfl, hb2⟩; have HB2 := Lib.hid hb2; clear hb2))
        | (go_at_call 82; ((with_reducible refine (suf_impl x y n _ HXS.out HYS.out HS.out).mono ?_); rintro e w3 ⟨rfl, hb3⟩; have HB3 := Lib.hid hb3; clear hb3)))
      all_goals go_ret
      all_goals
        refine ⟨sret_i ?_, HB1.out.trans ((HB2.out.mono HB1.out.size).trans (HB3.out.mono (Nat.le_trans HB1.out.size HB2.out.size)))⟩
        have h2 := HI.out
        have h3 := HJ.out
        simp only [reduceCtorEq, false_iff, true_iff] at h2 h3
        rw [← HR.out]
        unfold phN
        (repeat' split) <;> omega
  refine go _ _ rfl rfl ?_ (hm _ rfl)
  rw [same_is, decide_eq_true_iff]
  exact HE.out

set_option maxRecDepth 100000 in
set_option maxHeartbeats 2000000 in
theorem ph_spec (a b : ByteArray) (r : Int) (w : World) (ha : a.size ≤ 1048576) (hb : b.size ≤ 1048576) (hr : phR (digL a.data.toList) (digL b.data.toList) = r) :
    Calls Tryz.prog 29 #[.string a, .string b] w fun e w' => e = .returned (.int .i64 r) ∧ Below w.heap.size w w' := by
  obtain ⟨x, hx⟩ : ∃ x, nstr (digL a.data.toList) = x := ⟨_, rfl⟩
  obtain ⟨y, hy⟩ : ∃ y, nstr (digL b.data.toList) = y := ⟨_, rfl⟩
  obtain ⟨n, hn⟩ : ∃ n, sufN x.data.toList y.data.toList = n := ⟨_, rfl⟩
  have hs : IsSuf x.data.toList y.data.toList n := by rw [← hn]; exact sufN_is _ _
  have HR := Lib.hid (show phN x.size y.size n = r by rw [← hr, phR, ← dg_list a x hx, ← dg_list b y hy, len_data, len_data, hn])
  have HX := Lib.hid hx
  have HY := Lib.hid hy
  have HA := Lib.hid ha
  have HB := Lib.hid hb
  have HN := Lib.hid hs
  have hxs := dg_size a x hx ha
  have hys := dg_size b y hy hb
  obtain ⟨n1, n2⟩ := suf_le hs
  clear hx hy hn hs hr ha hb
  go_enter Tryz.func29, Tryz.ntmps29
  go_wp2_with (first
    | (go_at_call 59; ((with_reducible refine (cDs a x _ HA.out HX.out).mono ?_); rintro e w1 ⟨rfl, hb1⟩; have HB1 := Lib.hid hb1; clear hb1))
    | (go_at_call 59; ((with_reducible refine (cDs b y _ HB.out HY.out).mono ?_); rintro e w2 ⟨rfl, hb2⟩; have HB2 := Lib.hid (HB1.out.trans (hb2.mono HB1.out.size)); clear hb2)))
  go_loopw [7] (fun i wr => ∃ k : Nat, k ≤ n ∧ i = .int .i64 k ∧ Below w.heap.size w wr) (fun i _ => n - (intOf i).toNat)
  case atStart => exact ⟨0, Nat.zero_le _, rfl, HB2.out⟩
  case round =>
    obtain ⟨k, hk, rfl, hbw⟩ := hrel
    have HBW := Lib.hid hbw
    clear hbw HB1 HB2
    by_cases hlt : k < n
    · obtain ⟨p, hp⟩ : ∃ p : Nat, k + p + 1 = x.size := ⟨x.size - 1 - k, by omega⟩
      obtain ⟨q, hq⟩ : ∃ q : Nat, k + q + 1 = y.size := ⟨y.size - 1 - k, by omega⟩
      have hp1 : (x.size : Int) - 1 - (k : Int) = (p : Int) := by omega
      have hq1 : (y.size : Int) - 1 - (k : Int) = (q : Int) := by omega
      have hp2 : p < x.size := by omega
      have hq2 : q < y.size := by omega
      have he := suf_at HN.out hp hq hlt
      have d1 : decide (k < x.size) = true := by simp; omega
      have d2 : decide (k < y.size) = true := by simp; omega
      have d3 : ((x[p].toNat : Int) == (y[q].toNat : Int)) = true := by rw [he]; simp
      clear he
      go_wp2
      go_quiet (fail)
      go_wp2
      go_roundw
      case rel => exact ⟨k + 1, by omega, by go_num, HBW.out.trans (quiet_b _ _ _)⟩
      case measure => simp [intOf]; omega
    · obtain rfl : k = n := by omega
      by_cases hex : k < x.size
      · have d1 : decide (k < x.size) = true := by simp; omega
        by_cases hey : k < y.size
        · have d2 : decide (k < y.size) = true := by simp; omega
          obtain ⟨p, hp⟩ : ∃ p : Nat, k + p + 1 = x.size := ⟨x.size - 1 - k, by omega⟩
          obtain ⟨q, hq⟩ : ∃ q : Nat, k + q + 1 = y.size := ⟨y.size - 1 - k, by omega⟩
          have hp1 : (x.size : Int) - 1 - (k : Int) = (p : Int) := by omega
          have hq1 : (y.size : Int) - 1 - (k : Int) = (q : Int) := by omega
          have hp2 : p < x.size := by omega
          have hq2 : q < y.size := by omega
          have he := suf_end HN.out hp hq
          have d3 : ((x[p].toNat : Int) == (y[q].toNat : Int)) = false := by
            have h3 : x[p].toNat ≠ y[q].toNat := fun c => he (UInt8.toNat_inj.1 c)
            simp
            omega
          clear he
          have e1 : ((k : Int) == (x.size : Int)) = false := by simp; omega
          have e2 : ((k : Int) == (y.size : Int)) = false := by simp; omega
          go_wp2
          go_quiet (fail)
          go_wp2
          all_goals go_ret
          all_goals
            refine ⟨sret_i ?_, HBW.out.trans (quiet_b _ _ _)⟩
            rw [← HR.out]
            unfold phN
            (repeat' split) <;> omega
        · have d2 : decide (k < y.size) = false := by simp; omega
          have e1 : ((k : Int) == (x.size : Int)) = false := by simp; omega
          have e2 : ((k : Int) == (y.size : Int)) = true := by simp; omega
          go_wp2
          go_quiet (fail)
          go_wp2
          all_goals go_ret
          all_goals
            refine ⟨sret_i ?_, HBW.out.trans (quiet_b _ _ _)⟩
            rw [← HR.out]
            unfold phN
            (repeat' split) <;> omega
      · have d1 : decide (k < x.size) = false := by simp; omega
        have e1 : ((k : Int) == (x.size : Int)) = true := by simp; omega
        by_cases hey : k < y.size
        · have e2 : ((k : Int) == (y.size : Int)) = false := by simp; omega
          go_wp2
          go_quiet (fail)
          go_wp2
          all_goals go_ret
          all_goals
            refine ⟨sret_i ?_, HBW.out.trans (quiet_b _ _ _)⟩
            rw [← HR.out]
            unfold phN
            (repeat' split) <;> omega
        · have e2 : ((k : Int) == (y.size : Int)) = true := by simp; omega
          go_wp2
          go_quiet (fail)
          go_wp2
          all_goals go_ret
          all_goals
            refine ⟨sret_i ?_, HBW.out.trans (quiet_b _ _ _)⟩
            rw [← HR.out]
            unfold phN
            (repeat' split) <;> omega

end Go.Proofs.YtggohfinkpppkabGreatDoor
