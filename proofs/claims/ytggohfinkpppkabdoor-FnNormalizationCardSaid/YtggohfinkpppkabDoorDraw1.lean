/-
  What the drawing functions of chapter 1 (l1New, l1Num, l1Text, DrawEncodeVarint, DrawEncodeHex, DrawEncodeFixed) hand back: some numbers and texts within their bounds. By an AI agent.
-/
import Derived.Test.YtggohfinkpppkabDoorDraw
import Derived.Test.YtggohfinkpppkabDoorEncVar
namespace Go.Proofs.YtggohfinkpppkabDoor
open Go.RowKit
set_option linter.unusedVariables false

def SomeCur (w : World) (e : Ending) (w' : World) : Prop := ∃ c, e = .returned (.pointer (some ⟨c, 0, none⟩)) ∧ Cur w' w.heap.size c ∧ Below w.heap.size w w'

set_option maxRecDepth 100000 in
set_option maxHeartbeats 1000000 in
theorem l1New_any (A : Option Addr) (len cap : Nat) (w : World) (hcode : CodeAt w w.heap.size A len) : Calls Tryd.prog 55 #[.slice A len cap] w (SomeCur w) := by
  have HCODE := Lib.hid hcode
  have hlen : (len : Int) ≤ 1048576 := by have := hcode.1; omega
  clear hcode
  go_enter Tryd.func55, Tryd.ntmps55
  go_wp2
  go_loop [3, 4] (fun h i => ∃ (k : Nat) (x : Int), k ≤ len ∧ k ≤ 4000 ∧ i = .int .i64 k ∧ h = .int .i64 x) (fun _ i => 4000 - (intOf i).toNat)
  case atStart => exact ⟨0, _, Nat.zero_le _, by omega, rfl, rfl⟩
  case round =>
    obtain ⟨k, x, hk, hk4, rfl, rfl⟩ := hrel
    by_cases hlt : k < len ∧ k < 4000
    · obtain ⟨h1, h2⟩ := hlt
      obtain ⟨b, off, rfl, hb, hz⟩ := HCODE.out.2 (by omega)
      obtain ⟨z, z0, z1, hcell⟩ := hz k h1
      clear hz
      go_wp2
      go_round
      case rel => exact ⟨k + 1, _, by omega, by omega, by go_num, rfl⟩
      case measure => simp [intOf]; omega
    · have hex : ¬ k < len ∨ ¬ k < 4000 := by omega
      clear hlt
      rcases hex with hex | hex
      all_goals go_wp2
      all_goals go_ret
      all_goals refine ⟨w.heap.size, rfl, ⟨Nat.le_refl _, A, len, cap, 0, _, Nat.zero_le _, heap_alloc_new w _, HCODE.out.keep fun j hj => Below.heap_alloc w _ j hj⟩, (Below.refl _ _).alloc (Nat.le_refl _) _⟩

theorem lit_cells (w : World) (l : List Int) (hr : ∀ z ∈ l, -9223372036854775808 ≤ z ∧ z ≤ 9223372036854775807) : ∀ j, j < l.length → ∃ z : Int, -9223372036854775808 ≤ z ∧ z ≤ 9223372036854775807 ∧
    (w.alloc (.cells (l.map (Value.int .i64)).toArray 3)).cell? ⟨w.heap.size, j, none⟩ = some (.int .i64 z) := by
  intro j hj
  refine ⟨l[j], (hr _ (List.getElem_mem hj)).1, (hr _ (List.getElem_mem hj)).2, ?_⟩
  rw [World.cell?_alloc_at _ _ _ _ rfl]
  simp [hj]

theorem grown_alloc (w : World) (o : Obj) (c : Nat) : w.grownBy (w.alloc o) (some c) := World.grownBy_alloc w o _

theorem OwnB.kept {w w' : World} {base c : Nat} {v : Value} {l : List UInt8} (h : OwnB w base v l) (hg : w.grownBy w' (some c)) (hc : c < base) : OwnB w' base v l := by
  refine World.ownsRow.kept h hg (.inr fun e => ?_)
  have := (World.ownsRow.lt h c e).1
  omega

theorem grown_below {a b d : World} {c : Nat} (h1 : a.grownBy b (some c)) (h2 : Below a.heap.size b d) : a.grownBy d (some c) :=
  ⟨h2.os.trans h1.os, h2.tape.trans h1.tape, h2.output.trans h1.output, Nat.le_trans h1.size h2.size, fun k hk hne => (h2.block k hk).trans (h1.block k hk hne)⟩

def SomeText (w : World) (B c : Nat) (most : Nat) (e : Ending) (w' : World) : Prop := ∃ l : List UInt8, e = .returned (.string (strOf l)) ∧ l.length ≤ most ∧ Cur w' B c ∧ w.grownBy w' (some c)

set_option maxRecDepth 100000 in
set_option maxHeartbeats 1600000 in
theorem l1Text_any (B c most : Nat) (w : World) (hcur : Cur w B c) (hm : most ≤ 1000000) : Calls Tryd.prog 81 #[.pointer (some ⟨c, 0, none⟩), .int .i64 most] w (SomeText w B c most) := by
  have HC := Lib.hid hcur
  have HLT := Lib.hid hcur.lt
  clear hcur
  go_enter Tryd.func81, Tryd.ntmps81
  go_wp2_with (go_at_call 69; (refine (l1Below_any B c _ _ (HC.out.alloc _) (by omega) (by omega)).mono ?_); rintro e w1 ⟨st, rfl, hs0, hs1, hc1, hg1⟩; refine Hid.out ?_)
  refine Lib.hid ?_
  have HC1 := Lib.hid hc1
  have HG1 := Lib.hid (grown_trans (grown_alloc w _ c) hg1)
  have HO1 := Lib.hid ((OwnB.made w w.heap.size #[] 0 (Nat.le_refl _) (Nat.zero_le _) rfl).kept hg1 HLT.out)
  clear hc1 hg1
  go_wp2_with (go_at_call 69; (refine (l1Below_any B c _ _ HC1.out (by omega) (by omega)).mono ?_); rintro e w2 ⟨y, rfl, hy0, hy1, hc2, hg2⟩; refine Hid.out ?_)
  refine Lib.hid ?_
  have HC2 := Lib.hid hc2
  have HG2 := Lib.hid (grown_trans HG1.out hg2)
  have HO2 := Lib.hid (HO1.out.kept hg2 HLT.out)
  clear hc2 hg2
  obtain ⟨m, rfl⟩ := Int.eq_ofNat_of_zero_le hy0
  go_wp2
  go_loopw [5, 7] (fun v n wr => ∃ (k : Nat) (l : List UInt8), n = .int .i64 k ∧ l.length + k ≤ most ∧ OwnB wr w.heap.size v l ∧ Cur wr B c ∧ w.grownBy wr (some c)) (fun _ n _ => (intOf n).toNat)
  case atStart => exact ⟨m, [], rfl, by simp; omega, HO2.out, HC2.out, HG2.out⟩
  case round =>
    obtain ⟨k, l, rfl, hk, hown, hc, hg⟩ := hrel
    have HOWN := Lib.hid hown
    have HCR := Lib.hid hc
    have HGR := Lib.hid hg
    have HK := Lib.hid hk
    have hkb : (k : Int) ≤ 1000000 := by omega
    clear hown hc hg hk hy1
    by_cases h0 : 0 < k
    · go_wp2_with (go_at_call 80; (refine (l1Byte_any B c _ HCR.out).mono ?_); rintro e w3 ⟨x, rfl, hx0, hx1, hc3, hg3⟩; refine Hid.out ?_)
      refine Lib.hid ?_
      have HC3 := Lib.hid hc3
      have HG3 := Lib.hid (grown_trans HGR.out hg3)
      have HO3 := Lib.hid (HOWN.out.kept hg3 HLT.out)
      have HS3 := Lib.hid HG3.out.size
      have HL3 := Lib.hid (show l.length ≤ 70368744177664 by have := HK.out; omega)
      clear hc3 hg3
      have hcase : st = 1 ∨ st = 2 ∨ ((st == 1) = false ∧ (st == 2) = false) := by
        rcases Int.lt_trichotomy st 1 with h | h | h
        · exact .inr (.inr ⟨by simp; omega, by simp; omega⟩)
        · exact .inl h
        · by_cases h2 : st = 2
          · exact .inr (.inl h2)
          · exact .inr (.inr ⟨by simp; omega, by simp; omega⟩)
      rcases hcase with rfl | rfl | ⟨hs1', hs2'⟩
      all_goals
        go_wp2_with (at_builtin; refine append_byte rfl _ _ rfl w.heap.size _ l _ HO3.out rfl rfl (by omega) (by omega) HL3.out HS3.out ?_; intro v4 w4 hown4 hb4)
        go_roundw
      all_goals first
        | exact ⟨k - 1, _, by go_num, by have := HK.out; simp; omega, hown4, HC3.out.below hb4 HLT.out, grown_below HG3.out hb4⟩
        | (simp [intOf]; omega)
    · have hcv := HOWN.out.convert
      go_wp2
      go_ret
      exact ⟨l, rfl, by have := HK.out; omega, HCR.out, HGR.out⟩

end Go.Proofs.YtggohfinkpppkabDoor
