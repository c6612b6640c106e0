/-
  What spec.EqualTokens and impl.EqualTokens answer at any two lists; the walk of laws.FnExactEqualTokens. By an AI agent.
-/
import Derived.Test.YtciohiahonpfhaaStrT
import Derived.Shelf.Slices.Equal
import Derived.Test.YtciohiahonpfhaaShelf
namespace Go.Proofs.Ytciohiahonpfhaa
open Go.RowKit
set_option linter.unusedVariables false

def eqB (l m : List Str) : Bool := decide (l = m)

theorem str_ne {x y : Str} {s t : ByteArray} (hs : s.data.toList = x) (ht : t.data.toList = y) (h : x ≠ y) : (s.toList == t.toList) = false := by
  rw [ByteArray.toList_eq, ByteArray.toList_eq, hs, ht]
  simpa using h

theorem ret_bool {a b : Bool} (h : a = b) : Ending.returned (.bool a) = .returned (.bool b) := by rw [h]

theorem eqB_same {l m : List Str} (hn : l.length = m.length) (h : ∀ j, j < l.length → l[j]? = m[j]?) : eqB l m = true := by
  unfold eqB
  refine decide_eq_true (List.ext_getElem? fun j => ?_)
  by_cases hj : j < l.length
  · exact h j hj
  · rw [List.getElem?_eq_none (by omega), List.getElem?_eq_none (by omega)]
theorem eqB_other {l m : List Str} {k : Nat} {x y : Str} (hx : l[k]? = some x) (hy : m[k]? = some y) (h : x ≠ y) : eqB l m = false := by
  unfold eqB
  refine decide_eq_false fun e => ?_
  rw [e, hy] at hx
  exact h (Option.some.inj hx).symm
theorem eqB_len {l m : List Str} (h : l.length ≠ m.length) : eqB l m = false := by
  unfold eqB
  exact decide_eq_false fun e => h (by rw [e])

set_option maxRecDepth 100000 in
theorem spec_eq (a1 a2 : Option Addr) (c1 c2 : Nat) (l m : List Str) (w : World) (hl : l.length ≤ maxLen) (hm : m.length ≤ maxLen) (h1 : InS w a1 l) (h2 : InS w a2 m) :
    Calls Try.prog 24 #[.slice a1 l.length c1, .slice a2 m.length c2] w fun e w' => e = .returned (.bool (eqB l m)) ∧ Below w.heap.size w w' := by
  unfold maxLen at hl hm
  have H1 := Lib.hid h1
  have H2 := Lib.hid h2
  clear h1 h2
  by_cases hn : l.length = m.length
  · have HN := Lib.hid hn
    have hnb : ((l.length : Int) != (m.length : Int)) = false := by simp [hn]
    clear hn
    go_enter Try.func24, Try.ntmps24
    go_wp2
    go_loopw [5] (fun i wr => ∃ k n : Nat, k ≤ l.length ∧ i = .int .i64 k ∧ wr = w.drewN n ∧ ∀ j, j < k → l[j]? = m[j]?) (fun i _ => l.length - (intOf i).toNat)
    case atStart => exact ⟨0, 0, Nat.zero_le _, rfl, rfl, fun j hj => absurd hj (Nat.not_lt_zero _)⟩
    case round =>
      obtain ⟨k, n, hk, rfl, rfl, hall⟩ := hrel
      have HALL := Lib.hid hall
      clear hall
      by_cases hlt : k < l.length
      · have hlt2 : k < m.length := by have := HN.out; omega
        obtain ⟨b1, o1, rfl, hb1, hc1⟩ := H1.out (by omega)
        obtain ⟨b2, o2, rfl, hb2, hc2⟩ := H2.out (by omega)
        obtain ⟨x, s, hx1, hx2, hx3, hx4⟩ := str_at hlt
        obtain ⟨y, t, hy1, hy2, hy3, hy4⟩ := str_at hlt2
        have hcell1 : w.cell? ⟨b1, o1 + k, none⟩ = some (.string s) := by rw [← hx3]; exact hc1 k x hx1
        have hcell2 : w.cell? ⟨b2, o2 + k, none⟩ = some (.string t) := by rw [← hy3]; exact hc2 k y hy1
        have HX := Lib.hid hx1
        have HY := Lib.hid hy1
        by_cases hxy : x = y
        · have hst : s = t := by
            subst hxy
            have := hx3.symm.trans hy3
            simpa using this
          subst hst
          have HXY := Lib.hid hxy
          clear hc1 hc2 hx1 hx2 hx3 hx4 hy1 hy2 hy3 hy4 hxy
          go_wp2
          go_quiet (fail)
          go_wp2
          go_roundw
          case rel =>
            refine ⟨k + 1, _, by omega, by go_num, rfl, fun j hj => ?_⟩
            by_cases e : j = k
            · rw [e, HX.out, HY.out, HXY.out]
            · exact HALL.out j (by omega)
          case measure => simp [intOf]; omega
        · have hst := str_ne hx2 hy2 hxy
          have HXY := Lib.hid hxy
          clear hc1 hc2 hx1 hx2 hx3 hx4 hy1 hy2 hy3 hy4 hxy
          go_wp2
          go_quiet (fail)
          go_wp2
          go_ret
          exact ⟨ret_bool (by rw [eqB_other HX.out HY.out HXY.out]), (quiet_below _ _ _).trans (quiet_below _ _ _)⟩
      · obtain rfl : k = l.length := by omega
        go_wp2
        go_ret
        exact ⟨ret_bool (by rw [eqB_same HN.out HALL.out]), quiet_below _ _ _⟩
  · have hnb : ((l.length : Int) != (m.length : Int)) = true := by simp; omega
    have HN := Lib.hid hn
    clear hn
    go_enter Try.func24, Try.ntmps24
    go_wp2
    go_ret
    exact ⟨ret_bool (by rw [eqB_len HN.out]), Below.refl _ _⟩

theorem lib_eq (a1 a2 : Option Addr) (c1 c2 : Nat) (l m : List Str) (w : World) (hl : l.length ≤ maxLen) (hm : m.length ≤ maxLen) (h1 : InS w a1 l) (h2 : InS w a2 m) :
    Calls Try.prog 38 #[.slice a1 l.length c1, .slice a2 m.length c2] w fun e w' => e = .returned (.bool (eqB l m)) ∧ Below w.heap.size w w' := by
  unfold maxLen at hl hm
  by_cases hn : l.length = m.length
  · by_cases h0 : l.length = 0
    · rw [h0]
      refine (Try.slices_Equal_string_empty a1 a2 c1 m.length c2 w hm).mono fun e w' ⟨he, hw⟩ => ⟨?_, by rw [hw]; exact Below.refl _ _⟩
      rw [he, eqB_same hn (fun j hj => by omega), decide_eq_true (by omega)]
    · obtain ⟨b1, o1, rfl, _, hc1⟩ := h1 (by omega)
      obtain ⟨b2, o2, rfl, _, hc2⟩ := h2 (by omega)
      have hcell : ∀ (n : List Str) (b o : Nat), (∀ j x, n[j]? = some x → w.cell? ⟨b, o + j, none⟩ = some (encStr x)) → ∀ j, j < (n.map fun x => (⟨x.toArray⟩ : ByteArray)).length → w.cell? ⟨b, o + j, none⟩ = some (.string ((n.map fun x => (⟨x.toArray⟩ : ByteArray)).getD j ByteArray.empty)) := by
        intro n b o hc j hj
        simp only [List.length_map] at hj
        rw [hc j _ (List.getElem?_eq_getElem hj)]
        simp [List.getD, List.getElem?_eq_getElem hj]
      refine (Try.slices_Equal_string b1 o1 l.length c1 b2 o2 m.length c2 (l.map fun x => ⟨x.toArray⟩) (m.map fun x => ⟨x.toArray⟩) w (by simp) (by simp) hl hm (hcell l b1 o1 hc1) (hcell m b2 o2 hc2)).mono fun e w' ⟨he, q, hw⟩ => ⟨?_, by rw [hw]; exact quiet_below _ _ _⟩
      rw [he]
      refine ret_bool ?_
      unfold eqB
      rw [List.take_of_length_le (by simp), List.take_of_length_le (by simp)]
      refine decide_eq_decide.2 ⟨fun h => ?_, fun h => by rw [h]⟩
      have inj : ∀ x y : Str, (⟨x.toArray⟩ : ByteArray) = ⟨y.toArray⟩ → x = y := fun x y h => by simpa using h
      exact List.map_inj_right (fun x y => inj x y) |>.1 h
  · refine (Try.slices_Equal_string_lens a1 a2 l.length c1 m.length c2 w hn).mono fun e w' ⟨he, hw⟩ => ⟨?_, by rw [hw]; exact Below.refl _ _⟩
    rw [he, eqB_len hn]

set_option maxRecDepth 100000 in
theorem impl_eq (a1 a2 : Option Addr) (c1 c2 : Nat) (l m : List Str) (w : World) (hl : l.length ≤ maxLen) (hm : m.length ≤ maxLen) (h1 : InS w a1 l) (h2 : InS w a2 m) :
    Calls Try.prog 25 #[.slice a1 l.length c1, .slice a2 m.length c2] w fun e w' => e = .returned (.bool (eqB l m)) ∧ Below w.heap.size w w' := by
  have HL := Lib.hid hl
  have HM := Lib.hid hm
  have H1 := Lib.hid h1
  have H2 := Lib.hid h2
  clear hl hm h1 h2
  obtain ⟨b, hbq⟩ : ∃ b, b = eqB l m := ⟨_, rfl⟩
  have HQ := Lib.hid hbq
  rw [← hbq]
  clear hbq
  go_enter Try.func25, Try.ntmps25
  go_wp2_with (go_at_call 38; (refine (lib_eq _ _ _ _ l m _ HL.out HM.out H1.out H2.out).mono ?_); rintro e w1 ⟨rfl, hb1⟩)
  go_ret
  exact ⟨ret_bool (by rw [HQ.out]), hb1⟩

abbrev equalR (l m : List Str) : Bool := eqB l m
theorem Sm.ml {w : World} {a : Option Addr} {l : List Str} (h : Sm w a l) : l.length ≤ maxLen := by have := h.2.1; unfold maxLen; omega
theorem equal_spec (a0 a1 : Option Addr) (c0 c1 : Nat) (l0 l1 : List Str) (w : World) (h0 : Sm w a0 l0) (h1 : Sm w a1 l1) :
    Calls Try.prog 24 #[.slice a0 l0.length c0, .slice a1 l1.length c1] w fun e w' => e = .returned (.bool (eqB l0 l1)) ∧ Below w.heap.size w w' :=
  spec_eq a0 a1 c0 c1 l0 l1 w h0.ml h1.ml h0.1 h1.1
theorem equal_impl (a0 a1 : Option Addr) (c0 c1 : Nat) (l0 l1 : List Str) (w : World) (h0 : Sm w a0 l0) (h1 : Sm w a1 l1) :
    Calls Try.prog 25 #[.slice a0 l0.length c0, .slice a1 l1.length c1] w fun e w' => e = .returned (.bool (eqB l0 l1)) ∧ Below w.heap.size w w' :=
  impl_eq a0 a1 c0 c1 l0 l1 w h0.ml h1.ml h0.1 h1.1

end Go.Proofs.Ytciohiahonpfhaa
