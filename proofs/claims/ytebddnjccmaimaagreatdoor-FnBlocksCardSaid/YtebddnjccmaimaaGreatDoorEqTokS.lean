/-
  What spec.EqualTokens answers at any two lists. By an AI agent.
-/
import Derived.Test.YtebddnjccmaimaaGreatDoorGMem
namespace Go.Proofs.YtebddnjccmaimaaGreatDoor
open Go.RowKit
set_option linter.unusedVariables false

def eqB (l m : List Str) : Bool := decide (l = m)

theorem str_ne {x y : Str} {s t : ByteArray} (hs : s.data.toList = x) (ht : t.data.toList = y) (h : x ≠ y) : (s.toList == t.toList) = false := by
  rw [ByteArray.toList_eq, ByteArray.toList_eq, hs, ht]
  simpa using h

theorem ret_bool {a b : Bool} (h : a = b) : Ending.returned (.bool a) = .returned (.bool b) := by rw [h]

theorem eqB_same {l m : List Str} (hn : l.length = m.length) (h : ∀ j, j < l.length → l[j]? = m[j]?) : eqB l m = true := by
  unfold eqB
  refine decide_eq_true (List.ext_getElem? fun j => ?_)
  by_cases hj : j < l.length
  · exact h j hj
  · rw [List.getElem?_eq_none (by omega), List.getElem?_eq_none (by omega)]
theorem eqB_other {l m : List Str} {k : Nat} {x y : Str} (hx : l[k]? = some x) (hy : m[k]? = some y) (h : x ≠ y) : eqB l m = false := by
  unfold eqB
  refine decide_eq_false fun e => ?_
  rw [e, hy] at hx
  exact h (Option.some.inj hx).symm
theorem eqB_len {l m : List Str} (h : l.length ≠ m.length) : eqB l m = false := by
  unfold eqB
  exact decide_eq_false fun e => h (by rw [e])

set_option maxRecDepth 100000 in
theorem spec_eq (a1 a2 : Option Addr) (c1 c2 : Nat) (l m : List Str) (w : World) (hl : l.length ≤ maxLen) (hm : m.length ≤ maxLen) (h1 : InS w a1 l) (h2 : InS w a2 m) :
    Calls Tryz.prog 16 #[.slice a1 l.length c1, .slice a2 m.length c2] w fun e w' => e = .returned (.bool (eqB l m)) ∧ Below w.heap.size w w' := by
  unfold maxLen at hl hm
  have H1 := Lib.hid h1
  have H2 := Lib.hid h2
  clear h1 h2
  by_cases hn : l.length = m.length
  · have HN := Lib.hid hn
    have hnb : ((l.length : Int) != (m.length : Int)) = false := by simp [hn]
    clear hn
    go_enter Tryz.func16, Tryz.ntmps16
    go_wp2
    go_loopw [5] (fun i wr => ∃ k n : Nat, k ≤ l.length ∧ i = .int .i64 k ∧ wr = w.drewN n ∧ ∀ j, j < k → l[j]? = m[j]?) (fun i _ => l.length - (intOf i).toNat)
    case atStart => exact ⟨0, 0, Nat.zero_le _, rfl, rfl, fun j hj => absurd hj (Nat.not_lt_zero _)⟩
    case round =>
      obtain ⟨k, n, hk, rfl, rfl, hall⟩ := hrel
      have HALL := Lib.hid hall
      clear hall
      by_cases hlt : k < l.length
      · have hlt2 : k < m.length := by have := HN.out; omega
        obtain ⟨b1, o1, rfl, hb1, hc1⟩ := H1.out (by omega)
        obtain ⟨b2, o2, rfl, hb2, hc2⟩ := H2.out (by omega)
        obtain ⟨x, s, hx1, hx2, hx3, hx4⟩ := str_at hlt
        obtain ⟨y, t, hy1, hy2, hy3, hy4⟩ := str_at hlt2
        have hcell1 : w.cell? ⟨b1, o1 + k, none⟩ = some (.string s) := by rw [← hx3]; exact hc1 k x hx1
        have hcell2 : w.cell? ⟨b2, o2 + k, none⟩ = some (.string t) := by rw [← hy3]; exact hc2 k y hy1
        have HX := Lib.hid hx1
        have HY := Lib.hid hy1
        by_cases hxy : x = y
        · have hst : s = t := by
            subst hxy
            have := hx3.symm.trans hy3
            simpa using this
          subst hst
          have HXY := Lib.hid hxy
          clear hc1 hc2 hx1 hx2 hx3 hx4 hy1 hy2 hy3 hy4 hxy
          go_wp2
          go_quiet (fail)
          go_wp2
          go_roundw
          case rel =>
            refine ⟨k + 1, _, by omega, by go_num, rfl, fun j hj => ?_⟩
            by_cases e : j = k
            · rw [e, HX.out, HY.out, HXY.out]
            · exact HALL.out j (by omega)
          case measure => simp [intOf]; omega
        · have hst := str_ne hx2 hy2 hxy
          have HXY := Lib.hid hxy
          clear hc1 hc2 hx1 hx2 hx3 hx4 hy1 hy2 hy3 hy4 hxy
          go_wp2
          go_quiet (fail)
          go_wp2
          go_ret
          exact ⟨ret_bool (by rw [eqB_other HX.out HY.out HXY.out]), (quiet_below _ _ _).trans (quiet_below _ _ _)⟩
      · obtain rfl : k = l.length := by omega
        go_wp2
        go_ret
        exact ⟨ret_bool (by rw [eqB_same HN.out HALL.out]), quiet_below _ _ _⟩
  · have hnb : ((l.length : Int) != (m.length : Int)) = true := by simp; omega
    have HN := Lib.hid hn
    clear hn
    go_enter Tryz.func16, Tryz.ntmps16
    go_wp2
    go_ret
    exact ⟨ret_bool (by rw [eqB_len HN.out]), Below.refl _ _⟩

end Go.Proofs.YtebddnjccmaimaaGreatDoor
