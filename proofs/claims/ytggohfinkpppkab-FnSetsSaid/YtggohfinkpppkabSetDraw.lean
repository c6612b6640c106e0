/-
  What spec.l1Once, l3Set, l3Any and the drawing functions over two lists of strings hand back. By an AI agent.
-/
import Derived.Test.YtggohfinkpppkabDraw2
import Derived.Test.YtggohfinkpppkabPut2
import Derived.Lib.AppendZeros
namespace Go.Proofs.Ytggohfinkpppkab
open Go.RowKit
set_option linter.unusedVariables false

theorem own_keptc {w w' : World} {base c : Nat} {v : Value} {l : List Str} (h : OwnS w base v l) (hg : w.grownBy w' (some c)) (hc : c < base) : OwnS w' base v l := by
  refine World.ownsRow.kept h hg (.inr fun e => ?_)
  have := (World.ownsRow.lt h c e).1
  omega
theorem below_own {w0 w w' : World} {v : Value} {l : List Str} (ho : OwnS w w0.heap.size v l) (hs : w0.heap.size ≤ w.heap.size) (hg : w.grownBy w' v.ownBlock) : Below w0.heap.size w w' :=
  (Below.refl _ _).grown hg hs (fun k hk => (World.ownsRow.lt ho k hk).1)

def SomeBool (w : World) (B c : Nat) (e : Ending) (w' : World) : Prop := ∃ b : Bool, e = .returned (.bool b) ∧ Cur w' B c ∧ w.grownBy w' (some c)
def SomeSet (w : World) (B c m : Nat) (e : Ending) (w' : World) : Prop := ∃ (a : Option Addr) (cap : Nat) (l : List Str), e = .returned (.slice a l.length cap) ∧ OwnS w' w.heap.size (.slice a l.length cap) l ∧ l.length ≤ m ∧ (∀ x ∈ l, x.length ≤ 10) ∧ Cur w' B c ∧ w.grownBy w' (some c)

set_option maxRecDepth 100000 in
theorem l1Once_any (B c : Nat) (n : Int) (w : World) (hcur : Cur w B c) (h0 : 0 < n) (h1 : n ≤ 4611686018427387904) : Calls Try.prog 42 #[.pointer (some ⟨c, 0, none⟩), .int .i64 n] w (SomeBool w B c) := by
  have HC := Lib.hid hcur
  clear hcur
  go_enter Try.func42, Try.ntmps42
  go_wp2_with (go_at_call 48; (refine (l1Below_any B c _ _ HC.out h0 h1).mono ?_); rintro e w1 ⟨x, rfl, hx0, hx1, hc1, hg1⟩; have HC1 := Lib.hid hc1; have HG1 := Lib.hid hg1; clear hc1 hg1)
  go_ret
  exact ⟨_, rfl, HC1.out, HG1.out⟩

theorem put_small {l : List Str} {x : Str} (h : ∀ y ∈ l, y.length ≤ 10) (hx : x.length ≤ 10) : ∀ y ∈ putL false l x, y.length ≤ 10 := by
  intro y hy
  rcases (putL_mem false x y l).1 hy with rfl | hy
  · exact hx
  · exact h y hy

set_option maxRecDepth 100000 in
set_option maxHeartbeats 2000000 in
theorem l3Set_any (B c : Nat) (w : World) (hcur : Cur w B c) : Calls Try.prog 41 #[.pointer (some ⟨c, 0, none⟩)] w (SomeSet w B c 6) := by
  have HC := Lib.hid hcur
  have HLT := Lib.hid hcur.lt
  clear hcur
  go_enter Try.func41, Try.ntmps41
  go_wp2_with (go_at_call 48; (refine (l1Below_any B c _ _ (HC.out.alloc _) (by omega) (by omega)).mono ?_); rintro e w1 ⟨x, rfl, hx0, hx1, hc1, hg1⟩; refine Hid.out ?_)
  refine Lib.hid ?_
  obtain ⟨n, rfl⟩ := Int.eq_ofNat_of_zero_le hx0
  have HC1 := Lib.hid hc1
  have HG1 := Lib.hid (grown_trans (grown_alloc w _ c) hg1)
  have HO1 := Lib.hid (own_keptc (own_new w w.heap.size w.heap.size rfl (Nat.le_refl _)) hg1 HLT.out)
  have hn : n ≤ 6 := by omega
  clear hc1 hg1 hx0 hx1
  go_wp2
  go_loopw [3, 4] (fun v i wr => ∃ (k : Nat) (a : Option Addr) (cap : Nat) (l : List Str), i = .int .i64 k ∧ v = .slice a l.length cap ∧ k + l.length ≤ 6 ∧ (∀ x ∈ l, x.length ≤ 10) ∧ OwnS wr w.heap.size (.slice a l.length cap) l ∧ Cur wr B c ∧ w.grownBy wr (some c)) (fun _ i _ => (intOf i).toNat)
  case atStart => exact ⟨n, _, _, [], rfl, rfl, hn, by simp, HO1.out, HC1.out, HG1.out⟩
  case round =>
    clear HC1 HG1 HO1
    obtain ⟨k, a, cap, l, rfl, rfl, hk, hx, hown, hcur, hg⟩ := hrel
    have HX := Lib.hid hx
    have HOWN := Lib.hid hown
    have HCU := Lib.hid hcur
    have HCL := Lib.hid hcur.lt
    have HG := Lib.hid hg
    clear hx hown hcur hg
    by_cases hlt : 0 < k
    · obtain ⟨j, rfl⟩ : ∃ j, k = j + 1 := ⟨k - 1, by omega⟩
      go_wp2_with (first
        | (go_at_call 43; (refine (l1Pick_any B c wr.heap.size 9 5 _ (HCU.out.alloc _) (by omega) (by omega) (by have := HCL.out; omega) (lit_strs wr [⟨#[97]⟩, ⟨#[98]⟩, ⟨#[99]⟩, ⟨#[100]⟩, ⟨#[101]⟩, ⟨#[97, 110, 110]⟩, ⟨#[108, 101, 101]⟩, ⟨#[115, 109, 105, 116, 104]⟩, ⟨#[57]⟩] 5 (by decide))).mono ?_); rintro e w2 ⟨s, rfl, hs, hc2, hg2⟩; have HS := Lib.hid hs; have HC2 := Lib.hid hc2; have HG2 := Lib.hid (grown_trans HG.out (grown_trans (grown_alloc wr _ c) hg2)); have HO2 := Lib.hid (own_keptc (HOWN.out.alloc _) hg2 HLT.out); clear hs hc2 hg2)
        | (go_at_call 36; (refine (put_any false w.heap.size a cap l s s.data.toList _ (by omega) HO2.out HG2.out.size rfl).mono ?_); rintro e w3 ⟨a3, c3, rfl, ho3, hb3⟩; have HO3 := Lib.hid ho3; have HB3 := Lib.hid hb3; clear ho3 hb3))
      go_roundw
      case rel =>
        refine ⟨j, a3, c3, putL false l s.data.toList, by go_num, rfl, ?_, put_small HX.out ?_, HO3.out, HC2.out.below HB3.out HC2.out.lt, grown_below HG2.out (HB3.out.mono HG2.out.size)⟩
        · have := putL_length false s.data.toList l
          omega
        · have h1 : s.data.toList.length = s.size := Array.length_toList
          have := HS.out
          omega
      case measure => simp [intOf]
    · obtain rfl : k = 0 := by omega
      go_wp2
      go_ret
      exact ⟨a, cap, l, rfl, HOWN.out, by omega, HX.out, HCU.out, HG.out⟩

set_option maxRecDepth 100000 in
set_option maxHeartbeats 2000000 in
theorem l3Any_any (B c : Nat) (w : World) (hcur : Cur w B c) : Calls Try.prog 27 #[.pointer (some ⟨c, 0, none⟩)] w (SomeSet w B c 7) := by
  have HC := Lib.hid hcur
  have HLT := Lib.hid hcur.lt
  clear hcur
  go_enter Try.func27, Try.ntmps27
  go_wp2_with (go_at_call 41; (refine (l3Set_any B c _ HC.out).mono ?_); rintro e w1 ⟨a, cap, l, rfl, ho1, hl1, hx1, hc1, hg1⟩; refine Hid.out ?_)
  refine Lib.hid ?_
  have HO1 := Lib.hid ho1
  have HX1 := Lib.hid hx1
  have HC1 := Lib.hid hc1
  have HG1 := Lib.hid hg1
  clear ho1 hx1 hc1 hg1
  go_wp2_with (go_at_call 42; (refine (l1Once_any B c _ _ HC1.out (by omega) (by omega)).mono ?_); rintro e w2 ⟨b, rfl, hc2, hg2⟩; refine Hid.out ?_)
  refine Lib.hid ?_
  have HC2 := Lib.hid hc2
  have HL2 := Lib.hid hc2.lt
  have HG2 := Lib.hid (grown_trans HG1.out hg2)
  have HO2 := Lib.hid (own_keptc HO1.out hg2 HLT.out)
  clear hc2 hg2
  cases b
  · go_wp2
    go_ret
    exact ⟨a, cap, l, rfl, HO2.out, by omega, HX1.out, HC2.out, HG2.out⟩
  · go_wp2_with (go_at_call 43; (refine (l1Pick_any B c w2.heap.size 5 3 _ (HC2.out.alloc _) (by omega) (by omega) (by have := HL2.out; omega) (lit_strs w2 [⟨#[]⟩, ⟨#[65]⟩, ⟨#[97]⟩, ⟨#[97, 32, 98]⟩, ⟨#[122, 122]⟩] 3 (by decide))).mono ?_); rintro e w3 ⟨s, rfl, hs, hc3, hg3⟩; refine Hid.out ?_)
    refine Lib.hid ?_
    have HS := Lib.hid hs
    have HC3 := Lib.hid hc3
    have HG3 := Lib.hid (grown_trans HG2.out (grown_trans (grown_alloc w2 _ c) hg3))
    have HO3 := Lib.hid (own_keptc (HO2.out.alloc _) hg3 HLT.out)
    clear hs hc3 hg3
    obtain ⟨v', w4, hrun, ho, hgr⟩ := run_app 24 w.heap.size (.slice a l.length cap) l (w3.alloc (.cells #[.string s] 9)) (HO3.out.alloc _) (some ⟨w3.heap.size, 0, none⟩) 1 [s.data.toList]
      (in_one w3 w3.heap.size s _ rfl rfl) nofun (by simp; omega) (by have := HG3.out.size; simp; omega)
    obtain ⟨a', c', rfl⟩ := ho.shape
    have HRUN := Lib.hid hrun
    have HO := Lib.hid ho
    have HB := Lib.hid (below_own (w0 := w) (HO3.out.alloc (.cells #[.string s] 9)) (by have := HG3.out.size; simp; omega) hgr)
    have HC4 := Lib.hid ((HC3.out.alloc (.cells #[.string s] 9)).below HB.out HLT.out)
    have HG4 := Lib.hid (grown_below (grown_trans HG3.out (grown_alloc w3 (.cells #[.string s] 9) c)) HB.out)
    clear hrun ho hgr
    go_wp2_with (at_builtin; refine Lib.wpList_append_run _ rfl _ _ _ _ rfl _ _ rfl rfl _ _ HRUN.out ?_)
    go_ret
    refine ⟨a', c', l ++ [s.data.toList], by rw [List.length_append]; rfl, HO.out, by simp; omega, fun x hx => ?_, HC4.out, HG4.out⟩
    rcases List.mem_append.1 hx with hx | hx
    · exact HX1.out x hx
    · rw [List.mem_singleton.1 hx]
      have h1 : s.data.toList.length = s.size := Array.length_toList
      have := HS.out
      omega

/-- two lists of strings are handed back -/
def DrawnSets (w : World) (e : Ending) (w' : World) : Prop := ∃ (a1 a2 : Option Addr) (c1 c2 : Nat) (l1 l2 : List Str), e = .returned (.tuple #[.slice a1 l1.length c1, .slice a2 l2.length c2]) ∧ Sm w' a1 l1 c1 ∧ Sm w' a2 l2 c2 ∧ l1.length ≤ 7 ∧ l2.length ≤ 7 ∧ Below w.heap.size w w'

set_option maxRecDepth 100000 in
set_option maxHeartbeats 1000000 in
theorem drawJaccard_any (A : Option Addr) (len cap : Nat) (w : World) (hcode : CodeAt w w.heap.size A len) : Calls Try.prog 7 #[.slice A len cap] w (DrawnSets w) := by
  have HCODE := Lib.hid hcode
  clear hcode
  go_enter Try.func7, Try.ntmps7
  go_wp2_with (go_at_call 26; (refine (l1New_any A len cap _ HCODE.out).mono ?_); rintro e w1 ⟨c, rfl, hc1, hb1⟩; refine Hid.out ?_)
  refine Lib.hid ?_
  have HC1 := Lib.hid hc1
  have HL1 := Lib.hid hc1.lt
  have HB1 := Lib.hid hb1
  clear hc1 hb1
  go_wp2_with (go_at_call 27; (refine (l3Any_any w.heap.size c _ HC1.out).mono ?_); rintro e w2 ⟨a1, c1, l1, rfl, ho2, hl2, hx2, hc2, hg2⟩; refine Hid.out ?_)
  refine Lib.hid ?_
  have HO2 := Lib.hid ho2
  have HX2 := Lib.hid hx2
  have HC2 := Lib.hid hc2
  have HG2 := Lib.hid hg2
  clear ho2 hx2 hc2 hg2
  go_wp2_with (go_at_call 27; (refine (l3Any_any w.heap.size c _ HC2.out).mono ?_); rintro e w3 ⟨a2, c2, l2, rfl, ho3, hl3, hx3, hc3, hg3⟩; refine Hid.out ?_)
  refine Lib.hid ?_
  have HO3 := Lib.hid ho3
  have HX3 := Lib.hid hx3
  have HO23 := Lib.hid (own_keptc HO2.out hg3 HL1.out)
  have HG3 := Lib.hid (grown_trans HG2.out hg3)
  clear ho3 hx3 hc3 hg3
  go_wp2
  go_ret2
  exact ⟨a1, a2, c1, c2, l1, l2, rfl, HO23.out.sm (by omega) (fun x hx => by have := HX2.out x hx; omega), HO3.out.sm (by omega) (fun x hx => by have := HX3.out x hx; omega), hl2, hl3, HB1.out.grown HG3.out HB1.out.size (fun k hk => by injection hk with hk; have := HC1.out.1; omega)⟩

end Go.Proofs.Ytggohfinkpppkab
