/-
  What CombineScores answers, on both sides, for lists of at most 4,000,000 integers. By an AI agent.
-/
import Derived.Test.YtlcpbbfcdbghdaaDoorSpecIn
import Derived.Test.YtlcpbbfcdbghdaaDoorInts
namespace Go.Proofs.YtlcpbbfcdbghdaaDoor
open Go.RowKit
set_option linter.unusedVariables false

/-- the sum of the first k products, of the first k weights -/
def dotT (l m : List Int) : Nat → Int
  | 0 => 0
  | k + 1 => dotT l m k + l.getD k 0 * m.getD k 0
def sumT (m : List Int) : Nat → Int
  | 0 => 0
  | k + 1 => sumT m k + m.getD k 0

theorem prod_range {a b : Int} (h1 : 0 ≤ a) (h2 : a ≤ 1000) (h3 : 0 ≤ b) (h4 : b ≤ 1000) : 0 ≤ a * b ∧ a * b ≤ 1000000 := by
  refine ⟨Int.mul_nonneg h1 h3, ?_⟩
  have e1 : a * b ≤ 1000 * b := Int.mul_le_mul_of_nonneg_right h2 h3
  omega

theorem getD_at {l : List Int} {k : Nat} {x : Int} (h : l[k]? = some x) : l.getD k 0 = x := by rw [List.getD_eq_getElem?_getD, h]; rfl
theorem within_at {l : List Int} {k : Nat} (h : withinB 0 1000 (l.take (k + 1)) = true) (hk : k < l.length) : 0 ≤ l.getD k 0 ∧ l.getD k 0 ≤ 1000 := by
  rw [getD_at (List.getElem?_eq_getElem hk)]
  refine within_mem h ?_
  rw [List.take_succ_eq_append_getElem hk]
  exact List.mem_append_right _ (List.mem_singleton.2 rfl)
theorem within_less {lo hi : Int} {l : List Int} {k : Nat} (h : withinB lo hi (l.take (k + 1)) = true) : withinB lo hi (l.take k) = true := by
  unfold withinB at h ⊢
  rw [List.all_eq_true] at h ⊢
  exact fun x hx => h x ((List.take_subset_take_left (l := l) (show k ≤ k + 1 by omega)) hx)

theorem within_take {lo hi : Int} {l : List Int} {k : Nat} (h : withinB lo hi l = true) : withinB lo hi (l.take k) = true := by
  unfold withinB at h ⊢
  rw [List.all_eq_true] at h ⊢
  exact fun x hx => h x (List.mem_of_mem_take hx)

theorem sum_range {m : List Int} : ∀ k : Nat, k ≤ m.length → withinB 0 1000 (m.take k) = true → 0 ≤ sumT m k ∧ sumT m k ≤ 1000 * (k : Int)
  | 0, _, _ => ⟨Int.le_refl 0, Int.le_refl 0⟩
  | k + 1, hk, h => by
    have h1 := sum_range k (by omega) (within_less h)
    have h2 := within_at h (by omega)
    unfold sumT
    omega
theorem dot_range {l m : List Int} : ∀ k : Nat, k ≤ l.length → k ≤ m.length → withinB 0 1000 (l.take k) = true → withinB 0 1000 (m.take k) = true → 0 ≤ dotT l m k ∧ dotT l m k ≤ 1000000 * (k : Int)
  | 0, _, _, _, _ => ⟨Int.le_refl 0, Int.le_refl 0⟩
  | k + 1, hk, hk2, h, g => by
    have h1 := dot_range k (by omega) (by omega) (within_less h) (within_less g)
    have h2 := within_at h (by omega)
    have h3 := within_at g (by omega)
    have h4 := prod_range h2.1 h2.2 h3.1 h3.2
    unfold dotT
    omega

/-- the answer -/
def coR (l m : List Int) : Int :=
  if l.length = m.length then (if withinB 0 1000 l && withinB 0 1000 m then (if sumT m m.length = 0 then 0 else dotT l m m.length / sumT m m.length) else 0) else 0
theorem coR_ne {l m : List Int} (h : l.length ≠ m.length) : coR l m = 0 := by unfold coR; rw [if_neg h]
theorem coR_bad {l m : List Int} (h : ¬ (withinB 0 1000 l = true ∧ withinB 0 1000 m = true)) : coR l m = 0 := by
  unfold coR
  split
  · rw [if_neg (by simpa using h)]
  · rfl
theorem coR_ok {l m : List Int} {n : Nat} (h : l.length = n) (h' : m.length = n) (h1 : withinB 0 1000 l = true) (h2 : withinB 0 1000 m = true) : coR l m = if sumT m n = 0 then 0 else dotT l m n / sumT m n := by
  unfold coR
  rw [if_pos (by omega), h1, h2, h']
  rfl

theorem cl1In (x a b : Int) (r : Bool) (w : World) (h : decide (a ≤ x ∧ x ≤ b) = r) :
    Calls Tryd.prog 25 #[.int .i64 x, .int .i64 a, .int .i64 b] w fun e w' => e = .returned (.bool r) ∧ w' = w := by
  cases r with
  | true =>
    have h1 := of_decide_eq_true h
    exact (l1In_yes x a b w h1.1 h1.2).mono fun e w' k => ⟨k.1, k.2.symm⟩
  | false => exact (l1In_no x a b w (of_decide_eq_false h)).mono fun e w' k => ⟨k.1, k.2.symm⟩

theorem quiet_c (B : Nat) (w : World) (n : Nat) : Below B w (w.drewN n) := ⟨rfl, rfl, rfl, Nat.le_refl _, fun _ _ => rfl⟩
theorem wrap_c {p : Int} (h1 : 0 ≤ p) (h2 : p ≤ 1000000) : IntKind.i64.wrap p = p := IntWalk.i64_in p (by omega)

/-- lists of one length n -/
def TwoI (w : World) (a1 a2 : Option Addr) (n : Nat) (l m : List Int) : Prop := InI w a1 l ∧ InI w a2 m ∧ l.length = n ∧ m.length = n

theorem TwoI.at {w : World} {a1 a2 : Option Addr} {n k : Nat} {l m : List Int} (h : TwoI w a1 a2 n l m) (hk : k < n) :
    ∃ b1 o1 b2 o2 x y, a1 = some ⟨b1, o1, none⟩ ∧ a2 = some ⟨b2, o2, none⟩ ∧ l[k]? = some x ∧ m[k]? = some y ∧ w.cell? ⟨b1, o1 + k, none⟩ = some (.int .i64 x) ∧ w.cell? ⟨b2, o2 + k, none⟩ = some (.int .i64 y) := by
  obtain ⟨h1, h2, h3, h4⟩ := h
  obtain ⟨b1, o1, rfl, _, c1⟩ := h1 (by omega)
  obtain ⟨b2, o2, rfl, _, c2⟩ := h2 (by omega)
  exact ⟨b1, o1, b2, o2, _, _, rfl, rfl, List.getElem?_eq_getElem (by omega), List.getElem?_eq_getElem (by omega), c1 k _ (List.getElem?_eq_getElem (by omega)), c2 k _ (List.getElem?_eq_getElem (by omega))⟩

set_option maxRecDepth 100000 in
theorem co_spec_ne (a1 a2 : Option Addr) (n1 n2 c1 c2 : Nat) (w : World) (h : n1 ≠ n2) :
    Calls Tryd.prog 19 #[.slice a1 n1 c1, .slice a2 n2 c2] w fun e w' => e = .returned (.int .i64 0) ∧ Below w.heap.size w w' := by
  go_enter Tryd.func19, Tryd.ntmps19
  go_wp2
  go_ret
  exact ⟨rfl, Below.refl _ _⟩

set_option maxRecDepth 100000 in
theorem co_impl_ne (a1 a2 : Option Addr) (n1 n2 c1 c2 : Nat) (w : World) (h : n1 ≠ n2) :
    Calls Tryd.prog 18 #[.slice a1 n1 c1, .slice a2 n2 c2] w fun e w' => e = .returned (.int .i64 0) ∧ Below w.heap.size w w' := by
  go_enter Tryd.func18, Tryd.ntmps18
  go_wp2
  go_ret
  exact ⟨rfl, Below.refl _ _⟩

set_option maxRecDepth 100000 in
set_option maxHeartbeats 1000000 in
theorem co_spec_eq (a1 a2 : Option Addr) (n c1 c2 : Nat) (l m : List Int) (r : Int) (w : World) (h : TwoI w a1 a2 n l m) (hn : n ≤ 4000000) (hr : coR l m = r) :
    Calls Tryd.prog 19 #[.slice a1 n c1, .slice a2 n c2] w fun e w' => e = .returned (.int .i64 r) ∧ Below w.heap.size w w' := by
  have HT := Lib.hid h
  have HR := Lib.hid hr
  clear h hr
  go_enter Tryd.func19, Tryd.ntmps19
  go_wp2
  go_loopw [5, 6, 7] (fun u v i wr => ∃ (k j : Nat) (D S : Int), k ≤ n ∧ u = .int .i64 D ∧ v = .int .i64 S ∧ i = .int .i64 k ∧ wr = w.drewN j ∧ dotT l m k = D ∧ sumT m k = S ∧ withinB 0 1000 (l.take k) = true ∧ withinB 0 1000 (m.take k) = true) (fun _ _ i _ => n - (intOf i).toNat)
  case atStart => exact ⟨0, 0, 0, 0, Nat.zero_le _, rfl, rfl, rfl, rfl, rfl, rfl, within_zero _ _ _, within_zero _ _ _⟩
  case round =>
    obtain ⟨k, j, D, S, hk, rfl, rfl, rfl, rfl, hD, hS, hw1, hw2⟩ := hrel
    obtain ⟨D0, D1⟩ := dot_range k (by have := HT.out.2.2.1; omega) (by have := HT.out.2.2.2; omega) hw1 hw2
    obtain ⟨S0, S1⟩ := sum_range k (by have := HT.out.2.2.2; omega) hw2
    rw [hD] at D0 D1
    rw [hS] at S0 S1
    have HD := Lib.hid hD
    have HS := Lib.hid hS
    have HW1 := Lib.hid hw1
    have HW2 := Lib.hid hw2
    clear hD hS hw1 hw2
    by_cases hlt : k < n
    · obtain ⟨b1, o1, b2, o2, x, y, rfl, rfl, hx, hy, hcell1, hcell2⟩ := HT.out.at hlt
      have HX := Lib.hid hx
      have HY := Lib.hid hy
      clear hx hy
      obtain ⟨bx, hbx⟩ : ∃ b, decide (0 ≤ x ∧ x ≤ 1000) = b := ⟨_, rfl⟩
      obtain ⟨by_, hby⟩ : ∃ b, decide (0 ≤ y ∧ y ≤ 1000) = b := ⟨_, rfl⟩
      have HBX := Lib.hid hbx
      have HBY := Lib.hid hby
      cases bx
      · have HB := Lib.hid (of_decide_eq_false hbx)
        clear hbx hby
        go_wp2_with (go_at_call 25; ((with_reducible refine (cl1In _ _ _ _ _ HBX.out).mono ?_); rintro e w' ⟨rfl, rfl⟩))
        go_ret
        exact ⟨iret_int (by rw [← HR.out, coR_bad (fun e => HB.out (within_mem e.1 (List.mem_of_getElem? HX.out)))]), quiet_c _ _ _⟩
      · cases by_
        · have HB := Lib.hid (of_decide_eq_false hby)
          clear hbx hby
          go_wp2_with (first
            | (go_at_call 25; ((with_reducible refine (cl1In _ _ _ _ _ HBX.out).mono ?_); rintro e w' ⟨rfl, rfl⟩))
            | (go_at_call 25; ((with_reducible refine (cl1In _ _ _ _ _ HBY.out).mono ?_); rintro e w' ⟨rfl, rfl⟩)))
          go_ret
          exact ⟨iret_int (by rw [← HR.out, coR_bad (fun e => HB.out (within_mem e.2 (List.mem_of_getElem? HY.out)))]), quiet_c _ _ _⟩
        · obtain ⟨x0, x1⟩ := of_decide_eq_true hbx
          obtain ⟨y0, y1⟩ := of_decide_eq_true hby
          clear hbx hby
          obtain ⟨p, hp⟩ : ∃ p, x * y = p := ⟨_, rfl⟩
          obtain ⟨p0, p1⟩ := prod_range x0 x1 y0 y1
          rw [hp] at p0 p1
          have hwp : IntKind.i64.wrap (x * y) = p := by rw [hp]; exact wrap_c p0 p1
          have HP := Lib.hid hp
          clear hp
          go_wp2_with (first
            | (go_at_call 25; ((with_reducible refine (cl1In _ _ _ _ _ HBX.out).mono ?_); rintro e w' ⟨rfl, rfl⟩))
            | (go_at_call 25; ((with_reducible refine (cl1In _ _ _ _ _ HBY.out).mono ?_); rintro e w' ⟨rfl, rfl⟩)))
          go_quiet (fail)
          go_wp2
          go_roundw
          case rel =>
            refine ⟨k + 1, _, D + p, S + y, by omega, rfl, rfl, by go_num, rfl, ?_, ?_, within_yes HW1.out HX.out x0 x1, within_yes HW2.out HY.out y0 y1⟩
            · unfold dotT
              rw [HD.out, getD_at HX.out, getD_at HY.out, HP.out]
            · unfold sumT
              rw [HS.out, getD_at HY.out]
          case measure => simp [intOf]; omega
    · obtain rfl : k = n := by omega
      have HA := Lib.hid (coR_ok HT.out.2.2.1 HT.out.2.2.2 (by have := HW1.out; rwa [List.take_of_length_le (by have := HT.out.2.2.1; omega)] at this) (by have := HW2.out; rwa [List.take_of_length_le (by have := HT.out.2.2.2; omega)] at this))
      by_cases hz : S = 0
      · subst hz
        go_wp2
        go_ret
        exact ⟨iret_int (by rw [← HR.out, HA.out, if_pos HS.out]), quiet_c _ _ _⟩
      · have hz2 : (S == 0) = false := by simpa using hz
        have q0 := Int.ediv_nonneg D0 S0
        have q1 : D / S ≤ D := Int.ediv_le_self S D0
        have S2 : 1 ≤ S := by omega
        have HZ := Lib.hid hz
        clear hz
        go_wp2
        go_ret
        exact ⟨iret_int (by rw [← HR.out, HA.out, HS.out, HD.out, if_neg HZ.out]), quiet_c _ _ _⟩

set_option maxRecDepth 100000 in
set_option maxHeartbeats 1000000 in
theorem co_impl_eq (a1 a2 : Option Addr) (n c1 c2 : Nat) (l m : List Int) (r : Int) (w : World) (h : TwoI w a1 a2 n l m) (hn : n ≤ 4000000) (hr : coR l m = r) :
    Calls Tryd.prog 18 #[.slice a1 n c1, .slice a2 n c2] w fun e w' => e = .returned (.int .i64 r) ∧ Below w.heap.size w w' := by
  have HT := Lib.hid h
  have HR := Lib.hid hr
  have within1 : ∀ (b : Bool), withinB 0 1000 l = b → Calls Tryd.prog 22 #[.int .i64 0, .int .i64 1000, .slice a1 n c1] w fun e w' => e = .returned (.bool b) ∧ w = w' := by
    intro b hb
    obtain ⟨h1, h2, h3, h4⟩ := h
    subst h3
    exact (within_is 0 1000 a1 c1 l b w (by omega) h1 hb).mono fun e w' k => ⟨k.1, k.2.symm⟩
  have within2 : ∀ (b : Bool), withinB 0 1000 m = b → Calls Tryd.prog 22 #[.int .i64 0, .int .i64 1000, .slice a2 n c2] w fun e w' => e = .returned (.bool b) ∧ w = w' := by
    intro b hb
    obtain ⟨h1, h2, h3, h4⟩ := h
    subst h4
    exact (within_is 0 1000 a2 c2 m b w (by omega) h2 hb).mono fun e w' k => ⟨k.1, k.2.symm⟩
  have C1 := Lib.hid within1
  have C2 := Lib.hid within2
  clear h hr within1 within2
  obtain ⟨bl, hbl⟩ : ∃ b, withinB 0 1000 l = b := ⟨_, rfl⟩
  obtain ⟨bm, hbm⟩ : ∃ b, withinB 0 1000 m = b := ⟨_, rfl⟩
  have HBL := Lib.hid hbl
  have HBM := Lib.hid hbm
  clear hbl hbm
  cases bl
  · go_enter Tryd.func18, Tryd.ntmps18
    go_wp2_with (go_at_call 22; ((with_reducible refine (C1.out _ HBL.out).mono ?_); rintro e w' ⟨rfl, rfl⟩))
    go_ret
    exact ⟨iret_int (by rw [← HR.out, coR_bad (fun e => by rw [HBL.out] at e; cases e.1)]), Below.refl _ _⟩
  · cases bm
    · go_enter Tryd.func18, Tryd.ntmps18
      go_wp2_with (first
        | (go_at_call 22; ((with_reducible refine (C1.out _ HBL.out).mono ?_); rintro e w' ⟨rfl, rfl⟩))
        | (go_at_call 22; ((with_reducible refine (C2.out _ HBM.out).mono ?_); rintro e w' ⟨rfl, rfl⟩)))
      go_ret
      exact ⟨iret_int (by rw [← HR.out, coR_bad (fun e => by rw [HBM.out] at e; cases e.2)]), Below.refl _ _⟩
    · have HWL := Lib.hid (fun k : Nat => within_take (l := l) (k := k) HBL.out)
      have HWM := Lib.hid (fun k : Nat => within_take (l := m) (k := k) HBM.out)
      go_enter Tryd.func18, Tryd.ntmps18
      go_wp2_with (first
        | (go_at_call 22; ((with_reducible refine (C1.out _ HBL.out).mono ?_); rintro e w' ⟨rfl, rfl⟩))
        | (go_at_call 22; ((with_reducible refine (C2.out _ HBM.out).mono ?_); rintro e w' ⟨rfl, rfl⟩)))
      clear C1 C2
      go_loop [5, 6, 24] (fun u v i => ∃ (k : Nat) (D S : Int), k ≤ n ∧ u = .int .i64 D ∧ v = .int .i64 S ∧ i = .int .i64 k ∧ dotT l m k = D ∧ sumT m k = S) (fun _ _ i => n - (intOf i).toNat)
      case atStart => exact ⟨0, 0, 0, Nat.zero_le _, rfl, rfl, rfl, rfl, rfl⟩
      case round =>
        obtain ⟨k, D, S, hk, rfl, rfl, rfl, hD, hS⟩ := hrel
        obtain ⟨D0, D1⟩ := dot_range k (by have := HT.out.2.2.1; omega) (by have := HT.out.2.2.2; omega) (HWL.out k) (HWM.out k)
        obtain ⟨S0, S1⟩ := sum_range k (by have := HT.out.2.2.2; omega) (HWM.out k)
        rw [hD] at D0 D1
        rw [hS] at S0 S1
        have HD := Lib.hid hD
        have HS := Lib.hid hS
        clear hD hS
        by_cases hlt : k < n
        · obtain ⟨b1, o1, b2, o2, x, y, rfl, rfl, hx, hy, hcell1, hcell2⟩ := HT.out.at hlt
          obtain ⟨x0, x1⟩ := within_mem HBL.out (List.mem_of_getElem? hx)
          obtain ⟨y0, y1⟩ := within_mem HBM.out (List.mem_of_getElem? hy)
          have HX := Lib.hid hx
          have HY := Lib.hid hy
          clear hx hy
          obtain ⟨p, hp⟩ : ∃ p, x * y = p := ⟨_, rfl⟩
          obtain ⟨p0, p1⟩ := prod_range x0 x1 y0 y1
          rw [hp] at p0 p1
          have hwp : IntKind.i64.wrap (x * y) = p := by rw [hp]; exact wrap_c p0 p1
          have HP := Lib.hid hp
          clear hp
          go_wp2
          go_round
          case rel =>
            refine ⟨k + 1, D + p, S + y, by omega, rfl, rfl, by go_num, ?_, ?_⟩
            · unfold dotT
              rw [HD.out, getD_at HX.out, getD_at HY.out, HP.out]
            · unfold sumT
              rw [HS.out, getD_at HY.out]
          case measure => simp [intOf]; omega
        · obtain rfl : k = n := by omega
          have HA := Lib.hid (coR_ok HT.out.2.2.1 HT.out.2.2.2 HBL.out HBM.out)
          by_cases hz : S = 0
          · subst hz
            go_wp2
            go_ret
            exact ⟨iret_int (by rw [← HR.out, HA.out, if_pos HS.out]), Below.refl _ _⟩
          · have hz2 : (S == 0) = false := by simpa using hz
            have q0 := Int.ediv_nonneg D0 S0
            have q1 : D / S ≤ D := Int.ediv_le_self S D0
            have S2 : 1 ≤ S := by omega
            have HZ := Lib.hid hz
            clear hz
            go_wp2
            go_ret
            exact ⟨iret_int (by rw [← HR.out, HA.out, HS.out, HD.out, if_neg HZ.out]), Below.refl _ _⟩

theorem co_spec (a1 a2 : Option Addr) (c1 c2 : Nat) (l m : List Int) (r : Int) (w : World) (h1 : InI w a1 l) (h2 : InI w a2 m) (hl : l.length ≤ 4000000) (hm : m.length ≤ 4000000) (hr : coR l m = r) :
    Calls Tryd.prog 19 #[.slice a1 l.length c1, .slice a2 m.length c2] w fun e w' => e = .returned (.int .i64 r) ∧ Below w.heap.size w w' := by
  by_cases h : l.length = m.length
  · rw [h]
    exact co_spec_eq a1 a2 m.length c1 c2 l m r w ⟨h1, h2, h, rfl⟩ hm hr
  · rw [← hr, coR_ne h]
    exact co_spec_ne a1 a2 _ _ c1 c2 w h
theorem co_impl (a1 a2 : Option Addr) (c1 c2 : Nat) (l m : List Int) (r : Int) (w : World) (h1 : InI w a1 l) (h2 : InI w a2 m) (hl : l.length ≤ 4000000) (hm : m.length ≤ 4000000) (hr : coR l m = r) :
    Calls Tryd.prog 18 #[.slice a1 l.length c1, .slice a2 m.length c2] w fun e w' => e = .returned (.int .i64 r) ∧ Below w.heap.size w w' := by
  by_cases h : l.length = m.length
  · rw [h]
    exact co_impl_eq a1 a2 m.length c1 c2 l m r w ⟨h1, h2, h, rfl⟩ hm hr
  · rw [← hr, coR_ne h]
    exact co_impl_ne a1 a2 _ _ c1 c2 w h

end Go.Proofs.YtlcpbbfcdbghdaaDoor
