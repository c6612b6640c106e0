/-
  What spec.l8Int, spec.CompareRecords, cmp.Or, slices.Compare and impl.CompareRecords answer. By an AI agent.
-/
import Derived.Test.YtlapgcbeemdboaaRecV
import Derived.Test.YtlapgcbeemdboaaInts
import Derived.Test.YtlapgcbeemdboaaShelf
import Derived.Test.YtlapgcbeemdboaaCmpCnt
namespace Go.Proofs.Ytlapgcbeemdboaa
open Go.RowKit
set_option linter.unusedVariables false

abbrev ci (a b : Int) : Int := Lib.compareInt a b
def orI (a b : Int) : Int := if a = 0 then b else a
def cmpL : List Str → List Str → Int
  | [], [] => 0
  | [], _ :: _ => -1
  | _ :: _, [] => 1
  | x :: l, y :: m => orI (cmpR x y) (cmpL l m)
def crR (s0 k0 v0 s1 k1 v1 : Int) (l0 l1 : List Str) : Int := orI (ci s0 s1) (orI (ci k0 k1) (orI (ci v0 v1) (cmpL l0 l1)))

theorem or_zero (b : Int) : orI 0 b = b := if_pos rfl
theorem or_some {a : Int} (b : Int) (h : a ≠ 0) : orI a b = a := if_neg h
theorem cret_int {k : IntKind} {a b : Int} (h : a = b) : Ending.returned (.int k a) = .returned (.int k b) := by rw [h]
theorem ci_lt {a b : Int} (h : a < b) : ci a b = -1 := by unfold ci Lib.compareInt; rw [if_pos h]
theorem ci_gt {a b : Int} (h : b < a) : ci a b = 1 := by unfold ci Lib.compareInt; rw [if_neg (by omega), if_pos h]
theorem ci_eq {a b : Int} (h : a = b) : ci a b = 0 := by unfold ci Lib.compareInt; rw [if_neg (by omega), if_neg (by omega)]
theorem ci_range (a b : Int) : -1 ≤ ci a b ∧ ci a b ≤ 1 := by unfold ci Lib.compareInt; split <;> (try split) <;> omega

theorem drop_at {l : List Str} {n : Nat} {x : Str} (h : l[n]? = some x) : l.drop n = x :: l.drop (n + 1) := by
  obtain ⟨hlt, he⟩ := List.getElem?_eq_some_iff.1 h
  rw [List.drop_eq_getElem_cons hlt, he]
theorem drop_end {l : List Str} {n : Nat} (h : l.length ≤ n) : l.drop n = [] := List.drop_eq_nil_of_le h
theorem cmpL_end {l m : List Str} {n : Nat} (h1 : n ≤ l.length) (h2 : n ≤ m.length) (h : n = l.length ∨ n = m.length) : cmpL (l.drop n) (m.drop n) = ci (l.length : Int) (m.length : Int) := by
  by_cases e1 : n < l.length
  · have e2 : m.length ≤ n := by omega
    rw [drop_end e2, List.drop_eq_getElem_cons e1, ci_gt (by omega)]
    rfl
  · by_cases e2 : n < m.length
    · rw [drop_end (l := l) (by omega), List.drop_eq_getElem_cons e2, ci_lt (by omega)]
      rfl
    · rw [drop_end (l := l) (by omega), drop_end (l := m) (by omega), ci_eq (by omega)]
      rfl

set_option maxRecDepth 100000 in
theorem l8i_is (a b r : Int) (w : World) (hr : ci a b = r) :
    Calls Try.prog 31 #[.int .i64 a, .int .i64 b] w fun e w' => e = .returned (.int .i64 r) ∧ w' = w := by
  have HR := Lib.hid hr
  clear hr
  by_cases h1 : a < b
  · go_enter Try.func31, Try.ntmps31
    go_wp2
    go_ret
    exact ⟨cret_int (by rw [← HR.out, ci_lt h1]), rfl⟩
  · by_cases h2 : b < a
    · go_enter Try.func31, Try.ntmps31
      go_wp2
      go_ret
      exact ⟨cret_int (by rw [← HR.out, ci_gt h2]), rfl⟩
    · go_enter Try.func31, Try.ntmps31
      go_wp2
      go_ret
      exact ⟨cret_int (by rw [← HR.out, ci_eq (by omega)]), rfl⟩

theorem cmpi_is (a b r : Int) (w : World) (hr : ci a b = r) :
    Calls Try.prog 33 #[.int .i64 a, .int .i64 b] w fun e w' => e = .returned (.int .i64 r) ∧ w' = w :=
  (Try.cmp_Compare_int a b w).mono fun e w' h => ⟨by rw [h.1]; exact cret_int hr, h.2⟩

set_option maxRecDepth 100000 in
theorem cmps_is (a0 a1 : Option Addr) (c0 c1 : Nat) (l0 l1 : List Str) (r : Int) (w : World) (h0 : Sm w a0 l0 c0) (h1 : Sm w a1 l1 c1) (hr : cmpL l0 l1 = r) :
    Calls Try.prog 34 #[.slice a0 l0.length c0, .slice a1 l1.length c1] w fun e w' => e = .returned (.int .i64 r) ∧ w' = w := by
  have hl0 := h0.2.2.2.1
  have hl1 := h1.2.2.2.1
  have H0 := Lib.hid h0.1
  have H1 := Lib.hid h1.1
  have HR := Lib.hid hr
  clear h0 h1 hr
  go_enter Try.func34, Try.ntmps34
  go_wp2
  go_loop [11] (fun i => ∃ n : Nat, n ≤ l0.length ∧ n ≤ l1.length ∧ i = .int .i64 n ∧ cmpL (l0.drop n) (l1.drop n) = r) (fun i => l0.length - (intOf i).toNat)
  case atStart => exact ⟨0, Nat.zero_le _, Nat.zero_le _, rfl, HR.out⟩
  case round =>
    obtain ⟨n, hn0, hn1, rfl, he⟩ := hrel
    have HE := Lib.hid he
    clear he
    by_cases q0 : n < l0.length
    · obtain ⟨b0, o0, rfl, hb0, hc0⟩ := H0.out (by omega)
      obtain ⟨x, s, hx1, hx2, hx3, hx4⟩ := str_at q0
      have hcell0 : w.cell? ⟨b0, o0 + n, none⟩ = some (.string s) := by rw [← hx3]; exact hc0 n x hx1
      by_cases q1 : n < l1.length
      · obtain ⟨b1, o1, rfl, hb1, hc1⟩ := H1.out (by omega)
        obtain ⟨y, t, hy1, hy2, hy3, hy4⟩ := str_at q1
        have hcell1 : w.cell? ⟨b1, o1 + n, none⟩ = some (.string t) := by rw [← hy3]; exact hc1 n y hy1
        obtain ⟨d, hd⟩ : ∃ d, cmpR s.data.toList t.data.toList = d := ⟨_, rfl⟩
        have HD := Lib.hid hd
        have HE2 := Lib.hid (show orI d (cmpL (l0.drop (n + 1)) (l1.drop (n + 1))) = r by
          rw [← HE.out, drop_at hx1, drop_at hy1, ← hd, hx2, hy2]
          rfl)
        clear hc0 hc1 hx1 hx2 hx3 hx4 hy1 hy2 hy3 hy4 hd
        by_cases hz : d = 0
        · have hq : (d != 0) = false := by simp [hz]
          have HE3 := Lib.hid (show cmpL (l0.drop (n + 1)) (l1.drop (n + 1)) = r by rw [← HE2.out, hz, or_zero])
          clear hz
          go_wp2_with (go_at_call 41; (refine (cmp_is _ _ _ _ HD.out).mono ?_); rintro e w1 ⟨rfl, rfl⟩)
          go_round
          case rel => exact ⟨n + 1, by omega, by omega, by go_num, HE3.out⟩
          case measure => simp [intOf]; omega
        · have hq : (d != 0) = true := by simp [hz]
          have HE3 := Lib.hid (show d = r by rw [← HE2.out, or_some _ hz])
          clear hz
          go_wp2_with (go_at_call 41; (refine (cmp_is _ _ _ _ HD.out).mono ?_); rintro e w1 ⟨rfl, rfl⟩)
          go_ret
          exact ⟨cret_int HE3.out, rfl⟩
      · have HE2 := Lib.hid (show (1 : Int) = r by rw [← HE.out, drop_at hx1, drop_end (l := l1) (by omega)]; rfl)
        clear hc0 hx1 hx2 hx3 hx4
        go_wp2
        go_ret
        exact ⟨cret_int HE2.out, rfl⟩
    · obtain rfl : n = l0.length := by omega
      have HE2 := Lib.hid (show ci (l0.length : Int) (l1.length : Int) = r by rw [← HE.out, cmpL_end (Nat.le_refl _) hn1 (.inl rfl)])
      by_cases q1 : l0.length < l1.length
      · go_wp2
        go_ret
        exact ⟨cret_int (by rw [← HE2.out, ci_lt (by omega)]), rfl⟩
      · go_wp2
        go_ret
        exact ⟨cret_int (by rw [← HE2.out, ci_eq (by omega)]), rfl⟩

/-- the first that is not 0 -/
def orL : List Int → Int
  | [] => 0
  | a :: l => orI a (orL l)

set_option maxRecDepth 100000 in
theorem or_is (a : Option Addr) (cap : Nat) (l : List Int) (r : Int) (w : World) (hl : l.length ≤ 4000000) (hin : InI w a l) (hr : orL l = r) :
    Calls Try.prog 32 #[.slice a l.length cap] w fun e w' => e = .returned (.int .i64 r) ∧ w' = w := by
  have HIN := Lib.hid hin
  have HR := Lib.hid hr
  clear hin hr
  go_enter Try.func32, Try.ntmps32
  go_wp2
  go_loop [8] (fun i => ∃ n : Nat, n ≤ l.length ∧ i = .int .i64 n ∧ orL (l.drop n) = r) (fun i => l.length - (intOf i).toNat)
  case atStart => exact ⟨0, Nat.zero_le _, rfl, HR.out⟩
  case round =>
    obtain ⟨n, hn, rfl, he⟩ := hrel
    have HE := Lib.hid he
    clear he
    by_cases q : n < l.length
    · obtain ⟨b, off, rfl, hb, hc⟩ := HIN.out (by omega)
      obtain ⟨x, hx⟩ : ∃ x, l[n]? = some x := ⟨_, List.getElem?_eq_getElem q⟩
      have hcell : w.cell? ⟨b, off + n, none⟩ = some (.int .i64 x) := hc n x hx
      have HE2 := Lib.hid (show orI x (orL (l.drop (n + 1))) = r by
        obtain ⟨hlt, hx2⟩ := List.getElem?_eq_some_iff.1 hx
        rw [← HE.out, List.drop_eq_getElem_cons hlt, hx2]
        rfl)
      clear hc hx
      by_cases hz : x = 0
      · have hq : (x != 0) = false := by simp [hz]
        have HE3 := Lib.hid (show orL (l.drop (n + 1)) = r by rw [← HE2.out, hz, or_zero])
        clear hz
        go_wp2
        go_round
        case rel => exact ⟨n + 1, by omega, by go_num, HE3.out⟩
        case measure => simp [intOf]; omega
      · have hq : (x != 0) = true := by simp [hz]
        have HE3 := Lib.hid (show x = r by rw [← HE2.out, or_some _ hz])
        clear hz
        go_wp2
        go_ret
        exact ⟨cret_int HE3.out, rfl⟩
    · obtain rfl : n = l.length := by omega
      go_wp2
      go_ret
      exact ⟨cret_int (by rw [← HE.out, List.drop_eq_nil_of_le (Nat.le_refl _)]; rfl), rfl⟩

end Go.Proofs.Ytlapgcbeemdboaa
