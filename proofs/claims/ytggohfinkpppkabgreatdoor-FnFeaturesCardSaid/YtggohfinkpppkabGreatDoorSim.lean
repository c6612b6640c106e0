/-
  What Jaccard, Dice and Containment answer on both sides. By an AI agent.
-/
import Derived.Test.YtggohfinkpppkabGreatDoorCmpCnt
import Derived.Test.YtggohfinkpppkabGreatDoorBounds
import Derived.Test.YtggohfinkpppkabGreatDoorCommon
import Derived.Test.YtggohfinkpppkabGreatDoorUnite
import Derived.Test.YtggohfinkpppkabGreatDoorTokSet2
namespace Go.Proofs.YtggohfinkpppkabGreatDoor
open Go.RowKit
set_option linter.unusedVariables false

theorem tsB_true {l : List Str} (h : tsB l = true) : TokSet l := Classical.byContradiction fun k => by rw [tsB_no k] at h; cases h
theorem tsB_asc {l : List Str} (h : tsB l = true) : Asc l := (tsB_true h).2

def ratI (n d : Int) : Int := if d = 0 then 1000 else 1000 * n / d
theorem ratI_zero {n d : Int} (h : d = 0) : ratI n d = 1000 := by unfold ratI; rw [if_pos h]
theorem ratI_some {n d : Int} (h : d ≠ 0) : ratI n d = 1000 * n / d := by unfold ratI; rw [if_neg h]

set_option maxRecDepth 100000 in
theorem ratio_spec (n d r : Int) (w : World) (h1 : 0 ≤ n) (h2 : n ≤ 9000000) (h3 : 0 ≤ d) (h4 : d ≤ 9000000) (hr : ratI n d = r) :
    Calls Tryz.prog 85 #[.int .i64 n, .int .i64 d] w fun e w' => e = .returned (.int .i64 r) ∧ w' = w := by
  have HR := Lib.hid hr
  clear hr
  by_cases h0 : d = 0
  · subst h0
    go_enter Tryz.func85, Tryz.ntmps85
    go_wp2
    go_ret
    exact ⟨sret_int (by rw [← HR.out, ratI_zero rfl]), rfl⟩
  · obtain ⟨hq1, hq2⟩ := quo_range (show 0 ≤ 1000 * n by omega) (show 1 ≤ d by omega)
    have hd1 : 1 ≤ d := by omega
    have HV := Lib.hid (show 1000 * n / d = r by rw [← HR.out, ratI_some h0])
    clear h0
    go_enter Tryz.func85, Tryz.ntmps85
    go_wp2
    go_ret
    exact ⟨sret_int HV.out, rfl⟩

set_option maxRecDepth 100000 in
theorem ratio_impl (n d r : Int) (w : World) (h1 : 0 ≤ n) (h2 : n ≤ 9000000) (h3 : 0 ≤ d) (h4 : d ≤ 9000000) (hr : ratI n d = r) :
    Calls Tryz.prog 98 #[.int .i64 n, .int .i64 d] w fun e w' => e = .returned (.int .i64 r) ∧ w' = w := by
  have HR := Lib.hid hr
  clear hr
  by_cases h0 : d = 0
  · subst h0
    go_enter Tryz.func98, Tryz.ntmps98
    go_wp2
    go_ret
    exact ⟨sret_int (by rw [← HR.out, ratI_zero rfl]), rfl⟩
  · obtain ⟨hq1, hq2⟩ := quo_range (show 0 ≤ 1000 * n by omega) (show 1 ≤ d by omega)
    have hd1 : 1 ≤ d := by omega
    have HV := Lib.hid (show 1000 * n / d = r by rw [← HR.out, ratI_some h0])
    clear h0
    go_enter Tryz.func98, Tryz.ntmps98
    go_wp2
    go_ret
    exact ⟨sret_int HV.out, rfl⟩

/-- a slice of a known length comes back -/
def GivesN (w : World) (n : Nat) (e : Ending) (w' : World) : Prop := ∃ a cap, e = .returned (.slice a n cap) ∧ Below w.heap.size w w'
theorem GivesS.n {w : World} {l : List Str} {e : Ending} {w' : World} (h : GivesS w l e w') : GivesN w l.length e w' := by
  obtain ⟨a, cap, he, _, hb⟩ := h
  exact ⟨a, cap, he, hb⟩
theorem cm_spec (a0 a1 : Option Addr) (c0 c1 : Nat) (l0 l1 : List Str) (n : Nat) (w : World) (h0 : Sm w a0 l0 c0) (h1 : Sm w a1 l1 c1) (s0 : Asc l0) (hn : ccN l0 l1 = n) :
    Calls Tryz.prog 86 #[.slice a0 l0.length c0, .slice a1 l1.length c1] w (GivesN w n) :=
  (common_spec a0 a1 c0 c1 l0 l1 w h0 h1).mono fun e w' h => by
    have := h.n
    rwa [show (commonR l0 l1).length = n from (common_count s0).trans hn] at this
theorem un_spec (a0 a1 : Option Addr) (c0 c1 : Nat) (l0 l1 : List Str) (u : Nat) (w : World) (h0 : Sm w a0 l0 c0) (h1 : Sm w a1 l1 c1) (hu : (uniteR l0 l1).length = u) :
    Calls Tryz.prog 87 #[.slice a0 l0.length c0, .slice a1 l1.length c1] w (GivesN w u) :=
  (unite_spec a0 a1 c0 c1 l0 l1 w h0 h1).mono fun e w' h => by
    have := h.n
    rwa [hu] at this

set_option maxRecDepth 100000 in
theorem sets_is (a0 a1 : Option Addr) (c0 c1 : Nat) (l0 l1 : List Str) (b : Bool) (w : World) (h0 : Sm w a0 l0 c0) (h1 : Sm w a1 l1 c1) (hb : (tsB l0 && tsB l1) = b) :
    Calls Tryz.prog 84 #[.slice a0 l0.length c0, .slice a1 l1.length c1] w fun e w' => e = .returned (.bool b) ∧ Below w.heap.size w w' := by
  have H0 := Lib.hid h0
  have H1 := Lib.hid h1
  obtain ⟨b0, e0⟩ : ∃ b0, tsB l0 = b0 := ⟨_, rfl⟩
  obtain ⟨b1, e1⟩ : ∃ b1, tsB l1 = b1 := ⟨_, rfl⟩
  have HV := Lib.hid (show (b0 && b1) = b by rw [← hb, e0, e1])
  have C0 := Lib.hid (fun W (h : Sm W a0 l0 c0) => (tset_spec a0 c0 l0 W h).mono fun e w' k => (show e = .returned (.bool b0) ∧ Below W.heap.size W w' by rw [← e0]; exact k))
  have C1 := Lib.hid (fun W (h : Sm W a1 l1 c1) => (tset_spec a1 c1 l1 W h).mono fun e w' k => (show e = .returned (.bool b1) ∧ Below W.heap.size W w' by rw [← e1]; exact k))
  clear h0 h1 e0 e1 hb
  cases b0
  · go_enter Tryz.func84, Tryz.ntmps84
    go_wp2_with (go_at_call 106; (with_reducible refine (C0.out _ H0.out).mono ?_); rintro e w1 ⟨rfl, hb1⟩; have HB1 := Lib.hid hb1; clear hb1)
    go_ret
    exact ⟨sret_bool (by rw [← HV.out]; rfl), HB1.out⟩
  · go_enter Tryz.func84, Tryz.ntmps84
    go_wp2_with (first
      | (go_at_call 106; (with_reducible refine (C1.out _ (H1.out.below HB1.out)).mono ?_); rintro e w2 ⟨rfl, hb2⟩; have HB2 := Lib.hid (HB1.out.trans (hb2.mono HB1.out.size)); clear hb2)
      | (go_at_call 106; (with_reducible refine (C0.out _ H0.out).mono ?_); rintro e w1 ⟨rfl, hb1⟩; have HB1 := Lib.hid hb1; clear hb1))
    go_ret
    exact ⟨sret_bool (by rw [← HV.out]; rfl), HB2.out⟩

theorem ct_impl (a0 a1 : Option Addr) (c0 c1 : Nat) (l0 l1 : List Str) (n : Nat) (w : World) (h0 : Sm w a0 l0 c0) (h1 : Sm w a1 l1 c1) (s0 : Asc l0) (s1 : Asc l1) (hn : ccN l0 l1 = n) :
    Calls Tryz.prog 97 #[.slice a0 l0.length c0, .slice a1 l1.length c1] w fun e w' => e = .returned (.int .i64 n) ∧ Below w.heap.size w w' :=
  (count_impl a0 a1 c0 c1 l0 l1 w h0 h1 s0 s1).mono fun e w' h => by rwa [hn] at h

noncomputable def jacR (a b : List Str) : Int := if tsB a && tsB b then ratI (ccN a b) ((uniteR a b).length : Int) else 0
noncomputable def diceR (a b : List Str) : Int := if tsB a && tsB b then ratI (2 * (ccN a b : Int)) ((a.length : Int) + (b.length : Int)) else 0
noncomputable def contR (a b : List Str) : Int := if tsB a && tsB b then ratI (ccN a b) (min (a.length : Int) (b.length : Int)) else 0
theorem pair_yes {a b : List Str} (h : (tsB a && tsB b) = true) : Asc a ∧ Asc b := by
  rw [Bool.and_eq_true] at h
  exact ⟨tsB_asc h.1, tsB_asc h.2⟩

end Go.Proofs.YtggohfinkpppkabGreatDoor
