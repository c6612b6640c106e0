/-
  What the drawing functions of chapter 6 hand back: some texts and a byte; nothing that existed is written. By an AI agent.
-/
import Derived.Test.YtggohfinkpppkabDoorDraw3
namespace Go.Proofs.YtggohfinkpppkabDoor
open Go.RowKit
set_option linter.unusedVariables false

set_option maxRecDepth 100000 in
set_option maxHeartbeats 1000000 in
theorem l6Word_any (B c : Nat) (w : World) (hcur : Cur w B c) : Calls Tryd.prog 65 #[.pointer (some ⟨c, 0, none⟩)] w (SomeStr w B c 8) := by
  have HC := Lib.hid hcur
  have HLT := Lib.hid hcur.lt
  clear hcur
  go_enter Tryd.func65, Tryd.ntmps65
  go_wp2_with (go_at_call 72; (refine (l1Pick_any B c w.heap.size 16 8 _ (HC.out.alloc _) (by omega) (by omega) (by have := HLT.out; omega) (lit_strs w [⟨#[114, 111, 98, 101, 114, 116]⟩, ⟨#[82, 117, 112, 101, 114, 116]⟩, ⟨#[97, 115, 104, 99, 114, 97, 102, 116]⟩, ⟨#[116, 121, 109, 99, 122, 97, 107]⟩, ⟨#[112, 102, 105, 115, 116, 101, 114]⟩, ⟨#[104, 111, 110, 101, 121, 109, 97, 110]⟩, ⟨#[108, 101, 101]⟩, ⟨#[97]⟩, ⟨#[]⟩, ⟨#[115, 109, 105, 116, 104]⟩, ⟨#[115, 109, 121, 116, 104]⟩, ⟨#[106, 97, 99, 107, 115, 111, 110]⟩, ⟨#[57, 97]⟩, ⟨#[111, 32, 110, 101, 105, 108]⟩, ⟨#[119, 104, 119]⟩, ⟨#[98, 98, 98]⟩] 8 (by decide))).mono ?_); rintro e w1 ⟨s1, rfl, hs1, hc1, hg1⟩; refine Hid.out ?_)
  refine Lib.hid ?_
  have HC1 := Lib.hid hc1
  have HG1 := Lib.hid (grown_trans (grown_alloc w _ c) hg1)
  clear hc1 hg1
  go_wp2
  go_ret
  exact ⟨s1, rfl, hs1, HC1.out, HG1.out⟩

theorem grown_end {w w' w2 : World} {c : Nat} (h : Below w.heap.size w w') (hg : w'.grownBy w2 (some c)) (hc : w.heap.size ≤ c) : Below w.heap.size w w2 :=
  h.grown hg h.size (fun k hk => by injection hk with hk; omega)

def DrawnPair (w : World) (e : Ending) (w' : World) : Prop := ∃ s t : ByteArray, e = .returned (.tuple #[.string s, .string t]) ∧ s.size ≤ 8 ∧ t.size ≤ 8 ∧ Below w.heap.size w w'
def DrawnByte (w : World) (e : Ending) (w' : World) : Prop := ∃ x : UInt8, e = .returned (.int .u8 (x.toNat : Int)) ∧ Below w.heap.size w w'

set_option maxRecDepth 100000 in
set_option maxHeartbeats 1000000 in
theorem drawSA_any (A : Option Addr) (len cap : Nat) (w : World) (hcode : CodeAt w w.heap.size A len) : Calls Tryd.prog 36 #[.slice A len cap] w (DrawnPair w) := by
  have HCODE := Lib.hid hcode
  clear hcode
  go_enter Tryd.func36, Tryd.ntmps36
  go_wp2_with (go_at_call 55; (refine (l1New_any A len cap _ HCODE.out).mono ?_); rintro e w1 ⟨c, rfl, hc1, hb1⟩; refine Hid.out ?_)
  refine Lib.hid ?_
  have HC1 := Lib.hid hc1
  have HB1 := Lib.hid hb1
  clear hc1 hb1
  go_wp2_with (go_at_call 65; (refine (l6Word_any w.heap.size c _ HC1.out).mono ?_); rintro e w2 ⟨s, rfl, hs, hc2, hg2⟩; refine Hid.out ?_)
  refine Lib.hid ?_
  have HC2 := Lib.hid hc2
  have HG2 := Lib.hid hg2
  clear hc2 hg2
  go_wp2_with (go_at_call 65; (refine (l6Word_any w.heap.size c _ HC2.out).mono ?_); rintro e w3 ⟨t, rfl, ht, hc3, hg3⟩; refine Hid.out ?_)
  refine Lib.hid ?_
  have HG3 := Lib.hid (grown_trans HG2.out hg3)
  clear hc3 hg3
  go_wp2
  go_ret2
  exact ⟨s, t, rfl, hs, ht, grown_end HB1.out HG3.out HC1.out.1⟩

theorem wrap_byte (z : Int) : ∃ x : UInt8, IntKind.u8.wrap z = (x.toNat : Int) := ⟨UInt8.ofNat (IntKind.u8.wrap z).toNat, (ofNat_toNat_int _ (u8_lo z) (u8_hi z)).symm⟩

set_option maxRecDepth 100000 in
set_option maxHeartbeats 1000000 in
theorem drawSC_any (A : Option Addr) (len cap : Nat) (w : World) (hcode : CodeAt w w.heap.size A len) : Calls Tryd.prog 41 #[.slice A len cap] w (DrawnByte w) := by
  have HCODE := Lib.hid hcode
  clear hcode
  go_enter Tryd.func41, Tryd.ntmps41
  go_wp2_with (go_at_call 55; (refine (l1New_any A len cap _ HCODE.out).mono ?_); rintro e w1 ⟨c, rfl, hc1, hb1⟩; refine Hid.out ?_)
  refine Lib.hid ?_
  have HC1 := Lib.hid hc1
  have HL1 := Lib.hid hc1.lt
  have HB1 := Lib.hid hb1
  clear hc1 hb1
  go_wp2_with (go_at_call 61; (refine (l1PickInt_any w.heap.size c w1.heap.size 13 _ (HC1.out.alloc _) (by omega) (by omega) (by have := HL1.out; omega) (lit_cells w1 [97, 98, 67, 100, 72, 108, 109, 114, 119, 121, 49, 32, 200] (by decide))).mono ?_); rintro e w2 ⟨z, rfl, hz0, hz1, hc2, hg2⟩; refine Hid.out ?_)
  refine Lib.hid ?_
  have HG2 := Lib.hid (grown_trans (grown_alloc w1 _ c) hg2)
  clear hc2 hg2
  obtain ⟨x, hx⟩ := wrap_byte z
  go_wp2
  go_ret
  exact ⟨x, rfl, grown_end HB1.out HG2.out HC1.out.1⟩

set_option maxRecDepth 100000 in
set_option maxHeartbeats 1000000 in
theorem drawSK_any (A : Option Addr) (len cap : Nat) (w : World) (hcode : CodeAt w w.heap.size A len) : Calls Tryd.prog 42 #[.slice A len cap] w (DrawnText w) := by
  have HCODE := Lib.hid hcode
  clear hcode
  go_enter Tryd.func42, Tryd.ntmps42
  go_wp2_with (go_at_call 55; (refine (l1New_any A len cap _ HCODE.out).mono ?_); rintro e w1 ⟨c, rfl, hc1, hb1⟩; refine Hid.out ?_)
  refine Lib.hid ?_
  have HC1 := Lib.hid hc1
  have HB1 := Lib.hid hb1
  clear hc1 hb1
  go_wp2_with (go_at_call 54; (refine (l2Text_any w.heap.size c _ HC1.out).mono ?_); rintro e w2 ⟨s, rfl, hs, hc2, hg2⟩)
  go_ret
  exact ⟨s, rfl, hs, grown_end HB1.out hg2 HC1.out.1⟩

end Go.Proofs.YtggohfinkpppkabDoor
