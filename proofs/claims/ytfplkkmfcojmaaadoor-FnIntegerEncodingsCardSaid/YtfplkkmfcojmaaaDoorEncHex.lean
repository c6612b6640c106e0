/-
  What spec.EncodeHex and impl.EncodeHex answer, for every string of at most 2^20 bytes; the walk of laws.FnExactEncodeHex. By an AI agent.
-/
import Derived.Test.YtfplkkmfcojmaaaDoorHexDig
import Derived.Test.YtfplkkmfcojmaaaDoorDecVar
import Derived.Test.YtfplkkmfcojmaaaDoorShelfB
import Derived.Deep.RegionHeld3
import Derived.Deep.AppendLies
namespace Go.Proofs.YtfplkkmfcojmaaaDoor
open Go.RowKit
set_option linter.unusedVariables false

theorem hexL_snoc (l : List UInt8) (b : UInt8) : hexL (l ++ [b]) = hexL l ++ [UInt8.ofNat (digN (b.toNat / 16)), UInt8.ofNat (digN (b.toNat % 16))] := by
  rw [hexL_append]; rfl

theorem hexL_take (s : ByteArray) (k : Nat) (h : k < s.size) : hexL (s.data.toList.take (k + 1)) = hexL (s.data.toList.take k) ++ [UInt8.ofNat (digN (s[k].toNat / 16)), UInt8.ofNat (digN (s[k].toNat % 16))] := by
  rw [take_snoc s k h, hexL_snoc]

theorem dig_cell (k : Nat) (h : k < 16) : Value.int .u8 (digN k : Int) = Value.int .u8 ((UInt8.ofNat (digN k)).toNat : Int) := by
  have := digN_lt k h
  rw [UInt8.toNat_ofNat', Nat.mod_eq_of_lt (by omega)]

set_option maxRecDepth 100000 in
set_option maxHeartbeats 800000 in
theorem impl_eh (s : ByteArray) (w : World) (hs : s.size ≤ 1048576) :
    Calls Tryd.prog 15 #[.string s] w fun e w' => e = .returned (.string (strOf (hexL s.data.toList))) ∧ Below w.heap.size w w' := by
  have HS := Lib.hid hs
  obtain ⟨m, hm⟩ : ∃ m, m = 2 * s.size := ⟨_, rfl⟩
  have hm2 : 2 * (s.size : Int) = (m : Int) := by omega
  have HM := Lib.hid (show m ≤ 281474976710656 by omega)
  clear hm
  go_enter Tryd.func15, Tryd.ntmps15
  go_wp2_with (go_at_call 28; refine (Builder_Grow_fresh w.heap.size w.heap.size m _ (Nat.le_refl _) (heap_alloc_new w _) (by simp) HM.out).mono ?_; rintro e w1 ⟨rfl, hbu, hb1⟩; refine Hid.out ?_)
  refine Lib.hid ?_
  have HB1 := Lib.hid ((Below.refl w.heap.size w).alloc (Nat.le_refl _) _ |>.trans hb1)
  have HBU := Lib.hid hbu
  clear hb1 hbu hm2
  go_wp2
  go_loopw [11] (fun i wr => ∃ k : Nat, k ≤ s.size ∧ i = .int .i64 k ∧ Lib.BuilderAt 49 5 w.heap.size w.heap.size (.pointer (some ⟨w.heap.size, 0, none⟩)) (Lib.byteCells (hexL (s.data.toList.take k))) wr ∧ Below w.heap.size w wr) (fun i _ => s.size - (intOf i).toNat)
  case atStart => exact ⟨0, Nat.zero_le _, rfl, HBU.out, HB1.out⟩
  case round =>
    obtain ⟨k, hk, rfl, hown, hb⟩ := hrel
    have HOWN := Lib.hid hown
    have HB := Lib.hid hb
    clear hown hb
    by_cases hlt : k < s.size
    · have hq : s[k].toNat / 16 < 16 := by have := s[k].toNat_lt; omega
      have hr : s[k].toNat % 16 < 16 := by omega
      have HQ := Lib.hid hq
      have HR := Lib.hid hr
      have hlen : (Lib.byteCells (hexL (s.data.toList.take k))).length + 2 ≤ 140737488355328 := by
        have h1 := hexL_length (s.data.toList.take k)
        have h2 : (s.data.toList.take k).length ≤ k := List.length_take_le _ _
        have := HS.out
        simp only [Lib.byteCells, List.length_map]
        omega
      have HLEN := Lib.hid hlen
      clear hlen
      have hd1 := fun (h : s[k].toNat / 16 < ByteArray.size ⟨#[48, 49, 50, 51, 52, 53, 54, 55, 56, 57, 97, 98, 99, 100, 101, 102]⟩) => hexDs_at (s[k].toNat / 16) HQ.out h
      have hd2 := fun (h : s[k].toNat % 16 < ByteArray.size ⟨#[48, 49, 50, 51, 52, 53, 54, 55, 56, 57, 97, 98, 99, 100, 101, 102]⟩) => hexDs_at (s[k].toNat % 16) HR.out h
      go_wp2_with (go_at_call 29; refine (Builder_WriteByte w.heap.size w.heap.size (Lib.byteCells (hexL (s.data.toList.take k))) _ _ (.inr HOWN.out) (by have := HLEN.out; omega) HB.out.size).mono ?_; rintro e w2 ⟨rfl, hbu2, hb2⟩; refine Hid.out ?_)
      refine Lib.hid ?_
      have HB2 := Lib.hid hb2
      have HBU2 := Lib.hid hbu2
      clear hb2 hbu2
      have HS2 := Lib.hid (Nat.le_trans HB.out.size HB2.out.size)
      have HLEN2 := Lib.hid (show (Lib.byteCells (hexL (s.data.toList.take k)) ++ [Value.int .u8 (digN (s[k].toNat / 16) : Int)]).length + 1 ≤ 140737488355328 by rw [List.length_append]; have := HLEN.out; simp; omega)
      go_wp2_with (go_at_call 29; refine (Builder_WriteByte w.heap.size w.heap.size _ _ _ (.inr HBU2.out) HLEN2.out HS2.out).mono ?_; rintro e w3 ⟨rfl, hbu3, hb3⟩)
      go_roundw
      case rel =>
        refine ⟨k + 1, by omega, by go_num, ?_, (HB.out.trans HB2.out).trans hb3⟩
        have e : Lib.byteCells (hexL (s.data.toList.take (k + 1))) = Lib.byteCells (hexL (s.data.toList.take k)) ++ [Value.int .u8 (digN (s[k].toNat / 16) : Int)] ++ [Value.int .u8 (digN (s[k].toNat % 16) : Int)] := by
          rw [hexL_take s k hlt, dig_cell _ HQ.out, dig_cell _ HR.out]
          simp [Lib.byteCells]
        rw [e]
        exact hbu3
      case measure => simp [intOf]; omega
    · obtain rfl : k = s.size := by omega
      go_wp2_with (go_at_call 30; refine (Builder_String_any w.heap.size w.heap.size (hexL (s.data.toList.take s.size)) _ (.inr HOWN.out) HB.out.size).mono ?_; rintro e w2 ⟨rfl, hb2⟩)
      go_ret
      exact ⟨ret_str (by rw [List.take_of_length_le (by simp)]; rfl), HB.out.trans hb2⟩

/-- what is held while one statement's operations run in whatever order -/
def EhS (w : World) (base : Nat) (v : Value) (l : List UInt8) (w' : World) : Prop := OwnB w' base v l ∧ Below base w w' ∧ base ≤ w'.heap.size

theorem EhS.start {w wr : World} {v : Value} {l : List UInt8} (h : OwnB wr w.heap.size v l) (hb : Below w.heap.size w wr) : EhS w w.heap.size v l wr := ⟨h, hb, hb.size⟩
theorem EhS.drew {w w' : World} {base : Nat} {v : Value} {l : List UInt8} (h : EhS w base v l w') : EhS w base v l w'.drew := ⟨h.1, h.2.1.drew, h.2.2⟩
theorem EhS.alloc {w w' : World} {base : Nat} {v : Value} {l : List UInt8} (h : EhS w base v l w') (o : Obj) : EhS w base v l (w'.alloc o) := ⟨OwnB.alloc h.1 o, h.2.1.alloc h.2.2 o, by have := h.2.2; simp; omega⟩

/-- append of two bytes inside a statement whose order is open -/
theorem step_append_two {ops : Array Oper} {o : Oper} {a : Act} {K : Act → World → Prop} {Q : Exit → Act → World → Prop} {E : Prop} {w0 : World} (hgd : o.guard = none) (s y : Operand)
    (ho : o.op = .call { callee := .builtin .append, args := #[s, y], argTypes := #[22, 22] })
    (base : Nat) (v : Value) (l : List UInt8) (b1 b2 : UInt8) (x1 x2 : Int) (e1 : Value.int .u8 x1 = .int .u8 b1.toNat) (e2 : Value.int .u8 x2 = .int .u8 b2.toNat) (hown : OwnB w0 base v l) (hs : a.eval s = v)
    (hy : a.eval y = .slice (some ⟨w0.heap.size, 0, none⟩) 2 2) (hlen : l.length ≤ 70368744177664) (hbase : base ≤ w0.heap.size)
    (h : ∀ v' w', OwnB w' base v' (l ++ [b1, b2]) → Below base w0 w' → K (a.put o.dst v') w') :
    if Region.wanted o (yielded ops a.tmps) = true then Oper.wp Tryd.prog o a (w0.alloc (.cells #[.int .u8 x1, .int .u8 x2] 5)).drew K Q else E := by
  obtain ⟨i0, hi, hz0, hz1, hz2⟩ := info_parts info_u8
  refine step_append_lies _ hgd s y 22 ho base 5 i0 (.int .u8 0) 1 1 Tryd.underlying22 hi hz0 hz1 hz2 rfl (by decide) v l.length (Lib.byteCells l) hs (World.ownsRow.alloc hown _)
    ⟨w0.heap.size, 0, none⟩ 2 2 [.int .u8 x1, .int .u8 x2] hy rfl (World.news_of_block (cs := #[.int .u8 x1, .int .u8 x2]) (t := 5) (fr := (0, 0)) (heap_alloc_new w0 _)) (by simp [Value.oneCell'])
    (by omega) (by unfold maxLen; omega) (by omega) (by simp; omega) (w0.heap.size + 1) (by simp) ?_
  intro g cap w' h2 h3 _ _
  refine h _ w' ?_ ?_
  · have e : Lib.byteCells (l ++ [b1, b2]) = Lib.byteCells l ++ [.int .u8 x1, .int .u8 x2] := by
      rw [e1, e2]; simp [Lib.byteCells]
    unfold OwnB
    rw [e, show (l ++ [b1, b2]).length = l.length + 2 by simp]
    exact h2
  · exact (((Below.refl base w0).alloc hbase _).drew).grown h3 (by simp; omega) (fun k hk => (World.ownsRow.lt hown k hk).1)

end Go.Proofs.YtfplkkmfcojmaaaDoor
