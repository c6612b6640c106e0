/-
  What cmp.Compare answers at two strings, and impl.commonCount at two ascending lists. By an AI agent.
-/
import Derived.Test.YtggohfinkpppkabGreatDoorPut
import Derived.Test.YtggohfinkpppkabGreatDoorGPlain
namespace Go.Proofs.YtggohfinkpppkabGreatDoor
open Go.RowKit
set_option linter.unusedVariables false

set_option maxRecDepth 100000 in
theorem nan_is (s : ByteArray) (w : World) :
    Calls Tryz.prog 131 #[.string s] w fun e w' => e = .returned (.bool false) ∧ w' = w := by
  go_enter Tryz.func131, Tryz.ntmps131
  go_wp2
  go_ret
  exact ⟨by first | rfl | simp, rfl⟩

/-- the order of two strings -/
def cmpR (x y : Str) : Int := if x = y then 0 else if x < y then -1 else 1

set_option maxRecDepth 100000 in
theorem cmp_is (s t : ByteArray) (r : Int) (w : World) (h : cmpR s.data.toList t.data.toList = r) :
    Calls Tryz.prog 117 #[.string s, .string t] w fun e w' => e = .returned (.int .i64 r) ∧ w' = w := by
  have HR := Lib.hid h
  clear h
  by_cases h1 : s.data.toList = t.data.toList
  · obtain rfl := str_eq3 rfl rfl h1
    obtain rfl : 0 = r := by rw [← HR.out, cmpR, if_pos rfl]
    have hl := less_no (s := s) (t := s) rfl rfl (List.lt_irrefl s.data.toList)
    go_enter Tryz.func117, Tryz.ntmps117
    go_wp2_with (go_at_call 131; refine (nan_is _ _).mono ?_; rintro e w' ⟨rfl, rfl⟩)
    go_ret
    exact ⟨rfl, rfl⟩
  · by_cases h2 : s.data.toList < t.data.toList
    · obtain rfl : -1 = r := by rw [← HR.out, cmpR, if_neg h1, if_pos h2]
      have hl := less_yes (s := s) (t := t) rfl rfl h2
      clear h1 h2
      go_enter Tryz.func117, Tryz.ntmps117
      go_wp2_with (go_at_call 131; refine (nan_is _ _).mono ?_; rintro e w' ⟨rfl, rfl⟩)
      go_ret
      exact ⟨rfl, rfl⟩
    · obtain rfl : 1 = r := by rw [← HR.out, cmpR, if_neg h1, if_neg h2]
      have hl := less_no (s := s) (t := t) rfl rfl h2
      have hg := str_ne3 (s := s) (t := t) rfl rfl h1
      clear h1 h2
      go_enter Tryz.func117, Tryz.ntmps117
      go_wp2_with (go_at_call 131; refine (nan_is _ _).mono ?_; rintro e w' ⟨rfl, rfl⟩)
      go_ret
      exact ⟨rfl, rfl⟩

def lenS : Value → Nat | .slice _ n _ => n | _ => 0

theorem Sm.tail {w : World} {x : Str} {l : List Str} {c : Nat} {b off : Nat} (h : Sm w (some ⟨b, off, none⟩) (x :: l) c) : Sm w (if c = 1 then some ⟨b, off, none⟩ else some ⟨b, off + 1, none⟩) l (c - 1) := by
  obtain ⟨h1, h2, h3, h4, h5⟩ := h
  rw [List.length_cons] at h3 h4
  have hn : (if c = 1 then some (⟨b, off, none⟩ : Addr) else some ⟨b, off + 1, none⟩) = none → c - 1 = 0 := by
    intro e
    split at e <;> cases e
  refine ⟨fun h0 => ?_, hn, by omega, by omega, fun y hy => h5 y (List.mem_cons_of_mem _ hy)⟩
  obtain ⟨b', off', e, hb, hc⟩ := h1 (by simp)
  simp only [Option.some.injEq, Addr.mk.injEq, and_true] at e
  obtain ⟨rfl, rfl⟩ := e
  rw [if_neg (by omega)]
  exact ⟨b, off + 1, rfl, hb, fun j y hj => by rw [show off + 1 + j = off + (j + 1) by omega]; exact hc (j + 1) y (by simpa using hj)⟩
theorem Sm.head {w : World} {a : Option Addr} {x : Str} {l : List Str} {c : Nat} (h : Sm w a (x :: l) c) : ∃ b off s, a = some ⟨b, off, none⟩ ∧ w.cell? ⟨b, off, none⟩ = some (.string s) ∧ s.data.toList = x := by
  obtain ⟨h1, -⟩ := h
  obtain ⟨b, off, e, hb, hc⟩ := h1 (by simp)
  exact ⟨b, off, ⟨x.toArray⟩, e, hc 0 x (by simp), by simp⟩

theorem cmpR_eq (x : Str) : cmpR x x = 0 := by unfold cmpR; rw [if_pos rfl]
theorem cmpR_lt {x y : Str} (h : x < y) : cmpR x y = -1 := by unfold cmpR; rw [if_neg (str_ne_of h), if_pos h]
theorem cmpR_gt {x y : Str} (h : y < x) : cmpR x y = 1 := by
  unfold cmpR
  rw [if_neg (fun e => str_ne_of h e.symm), if_neg (fun k => List.lt_irrefl _ (str_lt_trans h k))]

set_option maxRecDepth 100000 in
set_option maxHeartbeats 1000000 in
theorem count_impl (a0 a1 : Option Addr) (c0 c1 : Nat) (l0 l1 : List Str) (w : World) (h0 : Sm w a0 l0 c0) (h1 : Sm w a1 l1 c1) (s0 : Asc l0) (s1 : Asc l1) :
    Calls Tryz.prog 97 #[.slice a0 l0.length c0, .slice a1 l1.length c1] w fun e w' => e = .returned (.int .i64 (ccN l0 l1)) ∧ Below w.heap.size w w' := by
  have H0 := Lib.hid h0
  have H1 := Lib.hid h1
  have S0 := Lib.hid s0
  have S1 := Lib.hid s1
  clear h0 h1 s0 s1
  go_enter Tryz.func97, Tryz.ntmps97
  go_wp2
  go_loopw [0, 1, 5] (fun u v i wr => ∃ (p q : Option Addr) (c d n : Nat) (l m : List Str), u = .slice p l.length c ∧ v = .slice q m.length d ∧ i = .int .i64 n ∧ Below w.heap.size w wr ∧ Sm wr p l c ∧ Sm wr q m d ∧ Asc l ∧ Asc m ∧ n + ccN l m = ccN l0 l1) (fun u v _ _ => lenS u + lenS v)
  case atStart => exact ⟨a0, a1, c0, c1, 0, l0, l1, rfl, rfl, rfl, Below.refl _ _, H0.out, H1.out, S0.out, S1.out, by omega⟩
  case round =>
    obtain ⟨p, q, c, d, n, l, m, rfl, rfl, rfl, hb, hp, hq, hsl, hsm, hcnt⟩ := hrel
    have HB := Lib.hid hb
    have HP := Lib.hid hp
    have HQ := Lib.hid hq
    have HSL := Lib.hid hsl
    have HSM := Lib.hid hsm
    have HC := Lib.hid hcnt
    have hcl := hp.2.2.1
    have hcm := hq.2.2.1
    have hll := hp.2.2.2.1
    have hlm := hq.2.2.2.1
    have hn : n ≤ 4000000 := by have h1 := cc_le l0 l1; have h2 := H0.out.2.2.2.1; omega
    clear hb hp hq hsl hsm hcnt
    cases l with
    | nil =>
      have hz : ([] : List Str).length = 0 := rfl
      rw [hz]
      go_wp2
      go_ret
      exact ⟨ret_int (by have := HC.out; rw [cc_nil_left] at this; omega), HB.out⟩
    | cons x l =>
      cases m with
      | nil =>
        have hz : ([] : List Str).length = 0 := rfl
        rw [hz]
        rw [List.length_cons] at hcl hll ⊢
        go_wp2
        go_ret
        exact ⟨ret_int (by have := HC.out; rw [cc_nil_right] at this; omega), HB.out⟩
      | cons y m =>
        rw [List.length_cons] at hcl hll hcm hlm ⊢
        obtain ⟨b, off, s, rfl, hcell0, hx⟩ := HP.out.head
        obtain ⟨b', off', t, rfl, hcell1, hy⟩ := HQ.out.head
        have hc1 : (1 : Int) ≤ (c : Int) := by omega
        have hd1 : (1 : Int) ≤ (d : Int) := by omega
        have TP := Lib.hid HP.out.tail
        have TQ := Lib.hid HQ.out.tail
        by_cases h1 : x = y
        · subst h1
          have HX := Lib.hid (fun q : Nat => cmp_is s t 0 (wr.drewN q) (by rw [hx, hy, cmpR_eq]))
          clear hx hy
          go_wp2
          go_quiet ((go_at_call 117; with_reducible exact Calls.quiet_of_same (HX.out _)))
          go_wp2
          go_roundw
          case rel => exact ⟨_, _, _, _, n + 1, l, m, rfl, rfl, by go_num, HB.out.trans (quiet_below _ _ _), TP.out.below (quiet_below _ _ _), TQ.out.below (quiet_below _ _ _), asc_tail HSL.out, asc_tail HSM.out, by rw [← HC.out, cc_eq HSL.out]; omega⟩
          case measure => simp [lenS]; omega
        · by_cases h2 : x < y
          · have HX := Lib.hid (fun q : Nat => cmp_is s t (-1) (wr.drewN q) (by rw [hx, hy, cmpR_lt h2]))
            have HLT := Lib.hid h2
            clear hx hy h1 h2
            go_wp2
            go_quiet ((go_at_call 117; with_reducible exact Calls.quiet_of_same (HX.out _)))
            go_wp2
            go_roundw
            case rel => exact ⟨_, _, _, _, n, l, y :: m, rfl, rfl, rfl, HB.out.trans (quiet_below _ _ _), TP.out.below (quiet_below _ _ _), HQ.out.below (quiet_below _ _ _), asc_tail HSL.out, HSM.out, by rw [← HC.out, cc_lt HLT.out HSM.out]⟩
            case measure => simp [lenS]
          · have h3 : y < x := str_lt_of (List.not_lt.1 h2) (fun e => h1 e.symm)
            have HX := Lib.hid (fun q : Nat => cmp_is s t 1 (wr.drewN q) (by rw [hx, hy, cmpR_gt h3]))
            have HLT := Lib.hid h3
            clear hx hy h1 h2 h3
            go_wp2
            go_quiet ((go_at_call 117; with_reducible exact Calls.quiet_of_same (HX.out _)))
            go_wp2
            go_roundw
            case rel => exact ⟨_, _, _, _, n, x :: l, m, rfl, rfl, rfl, HB.out.trans (quiet_below _ _ _), HP.out.below (quiet_below _ _ _), TQ.out.below (quiet_below _ _ _), HSL.out, asc_tail HSM.out, by rw [← HC.out, cc_gt HLT.out HSL.out]⟩
            case measure => simp [lenS]

end Go.Proofs.YtggohfinkpppkabGreatDoor
