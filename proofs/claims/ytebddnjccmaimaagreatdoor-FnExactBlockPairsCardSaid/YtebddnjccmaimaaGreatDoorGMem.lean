/-
  Texts laid together: OwnBytes, SpecIn, EncVar, StrS, StrT, Marks, Held, Undrew, StrE, Ints, IntT, IntM, EdBlk, RowX, YzL. By an AI agent.
-/
import Derived.Test.YtebddnjccmaimaaGreatDoorRows
import Derived.WalkKit
import Derived.WalkSpells
import Derived.WalkLawsBesides
import Derived.Lib.Hide
import Derived.Lib.UnsafeStr
import Derived.Laws.IdiomStrings
import Derived.Laws.BytesArg
import Derived.Test.YtebddnjccmaimaaGreatDoorGPlain
import Derived.BigQuiet
import Derived.Deep.QuietTactic
import Derived.OwnWalk
import Derived.Laws.OwnMore
import Derived.Maps.AppendAt
import Derived.Sort.EncStr
import Derived.Deep.RegionHeld3
import Derived.Below
import Derived.Laws.CopyRow
import Derived.Laws.AppendOwn
/-
  A slice of bytes that the call made itself: what append of one byte leaves, and what string(b) gives. By an AI agent.
-/
namespace Go.Proofs.YtebddnjccmaimaaGreatDoor
open Go.RowKit
set_option linter.unusedVariables false

def OwnB (w : World) (base : Nat) (v : Value) (l : List UInt8) : Prop := w.ownsRow base 5 1 v l.length (Lib.byteCells l)

theorem info_u8 : (Tryz.prog.info? 5).map (fun i => (i.zero, i.size, i.bytes)) = some (some (.int .u8 0), 1, 1) := by kernel_rfl

theorem OwnB.nil (w : World) (base : Nat) : OwnB w base (.slice none 0 0) [] := World.ownsRow_nil _ _ _ _

theorem OwnB.made (w : World) (base : Nat) (cur : Array Value) (cap : Nat) (hb : base ≤ w.heap.size) (hm : cap ≤ maxLen) (hs : cur.size = cap) :
    OwnB (w.alloc (.cells cur 5)) base (.slice (some ⟨w.heap.size, 0, none⟩) 0 cap) [] :=
  World.ownsRow_made w cur cap hb hm (by omega)

theorem OwnB.alloc {w : World} {base : Nat} {v : Value} {l : List UInt8} (h : OwnB w base v l) (o : Obj) : OwnB (w.alloc o) base v l := World.ownsRow.alloc h o

/-- string(b) of a slice of the call's own. -/
theorem OwnB.convert {w : World} {base : Nat} {v : Value} {l : List UInt8} (h : OwnB w base v l) :
    (convert 22 9 v).run Tryz.prog w = .ok (.string ⟨l.toArray⟩) w := by
  have h2 := h.2
  rcases h2 with ⟨rfl, h0⟩ | ⟨g, cap, cur, rfl, -, -, -, -, -, -⟩
  · obtain rfl : l = [] := List.eq_nil_of_length_eq_zero h0
    exact run_convert_bytes_nil w 22 5 Tryz.underlying22 Tryz.underlying5 _ _ _ Tryz.underlying9
  · exact run_convert_bytes_back (P := Tryz.prog) w 22 9 5 ⟨g, 0, none⟩ cap l Tryz.underlying22 Tryz.underlying5 Tryz.underlying9
      (fun j hj => World.ownsRow.cells h (g := g) rfl j _ (by simp [Lib.byteCells, hj]))

theorem ofNat_toNat_int (x : Int) (h0 : 0 ≤ x) (h1 : x ≤ 255) : ((UInt8.ofNat x.toNat).toNat : Int) = x := by
  rw [UInt8.toNat_ofNat']
  have : x.toNat < 256 := by omega
  rw [show 2 ^ 8 = 256 from rfl, Nat.mod_eq_of_lt this]
  omega

/-- append of one byte, which lies in a new block of one cell. -/
theorem append_byte {ops : Array Oper} {rest : List Oper} {o : Oper} {a : Act} {Q : Exit → Act → World → Prop} {w0 : World} (hgd : o.guard = none) (s y : Operand)
    (ho : o.op = .call { callee := .builtin .append, args := #[s, y], argTypes := #[22, 22] })
    (base : Nat) (v : Value) (l : List UInt8) (x : Int) (hown : OwnB w0 base v l) (hs : a.eval s = v)
    (hy : a.eval y = .slice (some ⟨w0.heap.size, 0, none⟩) 1 1) (h0 : 0 ≤ x) (h1 : x ≤ 255) (hlen : l.length ≤ 70368744177664) (hbase : base ≤ w0.heap.size)
    (h : ∀ v' w', OwnB w' base v' (l ++ [UInt8.ofNat x.toNat]) → Below base w0 w' → wpList Tryz.prog ops Q rest (a.put o.dst v') w') :
    wpList Tryz.prog ops Q (o :: rest) a (w0.alloc (.cells #[.int .u8 x] 5)) := by
  obtain ⟨i0, hi, hz0, hz1, hz2⟩ := info_parts info_u8
  refine wpList_append_own _ hgd s y 22 ho base 5 i0 (.int .u8 0) 1 1 Tryz.underlying22 hi hz0 hz1 hz2 rfl (by decide) v l.length (Lib.byteCells l) hs (World.ownsRow.alloc hown _)
    ⟨w0.heap.size, 0, none⟩ 1 1 [.int .u8 x] hy rfl ?_ ?_ (by unfold maxLen; omega) (by omega) (by simp; omega) ?_
  · intro j u hj
    match j, hj with
    | 0, hj => simp at hj; subst hj; simp [Addr.add, World.cell?_alloc_at _ _ _ _ rfl]
  · intro u hu
    simp at hu
    subst hu
    rfl
  · intro v' w' h2 h3 _
    refine h v' w' ?_ ?_
    · have e1 : (l ++ [UInt8.ofNat x.toNat]).length = l.length + 1 := by simp
      have e2 : Lib.byteCells (l ++ [UInt8.ofNat x.toNat]) = Lib.byteCells l ++ [.int .u8 x] := by
        simp only [Lib.byteCells, List.map_append, List.map_cons, List.map_nil, ofNat_toNat_int x h0 h1]
      unfold OwnB
      rw [e1, e2]
      exact h2
    · exact ((Below.refl base w0).alloc hbase _).grown h3 (by simp; omega) (fun k hk => (World.ownsRow.lt hown k hk).1)

/-- string([]byte{x}). -/
theorem convert_one (w0 : World) (x : Int) (h0 : 0 ≤ x) (h1 : x ≤ 255) :
    (convert 22 9 (.slice (some ⟨w0.heap.size, 0, none⟩) 1 1)).run Tryz.prog (w0.alloc (.cells #[.int .u8 x] 5)) =
      .ok (.string ⟨#[UInt8.ofNat x.toNat]⟩) (w0.alloc (.cells #[.int .u8 x] 5)) := by
  have h := run_convert_bytes_back (P := Tryz.prog) (w0.alloc (.cells #[.int .u8 x] 5)) 22 9 5 ⟨w0.heap.size, 0, none⟩ 1 [UInt8.ofNat x.toNat] Tryz.underlying22 Tryz.underlying5 Tryz.underlying9
      (fun j hj => by
        obtain rfl : j = 0 := by simpa using hj
        simp [Addr.add, World.cell?_alloc_at _ _ _ _ rfl]
        have := ofNat_toNat_int x h0 h1
        simpa using this.symm)
  exact h

/-- make([]byte, n, c). -/
theorem make_bytes (w : World) (n c : Nat) (hl : n ≤ c) (hc : c ≤ 140737488355328) :
    (Instr.makeSlice 22 (.int .i64 (n : Int)) (.int .i64 (c : Int))).run Tryz.prog w = .ok (.slice (some ⟨w.heap.size, 0, none⟩) n c) (w.alloc (.cells (madeCells #[.int .u8 0] c) 5)) := by
  obtain ⟨i0, hi, hz0, hz1, hz2⟩ := info_parts info_u8
  have h := run_make (P := Tryz.prog) w 22 5 i0 (.int .u8 0) Tryz.underlying22 hi hz0 .i64 .i64 (n : Int) (c : Int) (by omega) (by omega) (by rw [hz2]; omega) (by omega)
  simp only [Int.toNat_natCast, hz1, Nat.mul_one] at h
  exact h

theorem OwnB.made0 (w : World) (base c : Nat) (hb : base ≤ w.heap.size) (hc : c ≤ maxLen) :
    OwnB (w.alloc (.cells (madeCells #[.int .u8 0] c) 5)) base (.slice (some ⟨w.heap.size, 0, none⟩) 0 c) [] :=
  OwnB.made w base _ c hb hc (size_madeCells _ _)

end Go.Proofs.YtebddnjccmaimaaGreatDoor

/-
  What spec.l1In answers. By an AI agent.
-/
namespace Go.Proofs.YtebddnjccmaimaaGreatDoor
open Go.RowKit
set_option linter.unusedVariables false

theorem l1In_yes (x a b : Int) (w : World) (h1 : a ≤ x) (h2 : x ≤ b) :
    Calls Tryz.prog 97 #[.int .i64 x, .int .i64 a, .int .i64 b] w fun e w' => e = .returned (.bool true) ∧ w = w' := by
  go_enter Tryz.func97, Tryz.ntmps97
  go_wp2
  go_ret
  exact ⟨by first | rfl | simp, rfl⟩

theorem l1In_no (x a b : Int) (w : World) (h : ¬ (a ≤ x ∧ x ≤ b)) :
    Calls Tryz.prog 97 #[.int .i64 x, .int .i64 a, .int .i64 b] w fun e w' => e = .returned (.bool false) ∧ w = w' := by
  by_cases h1 : a ≤ x
  · have h2 : decide (x ≤ b) = false := by simp; omega
    clear h
    go_enter Tryz.func97, Tryz.ntmps97
    go_wp2
    go_ret
    exact ⟨rfl, rfl⟩
  · clear h
    go_enter Tryz.func97, Tryz.ntmps97
    go_wp2
    go_ret
    exact ⟨rfl, rfl⟩

end Go.Proofs.YtebddnjccmaimaaGreatDoor

/-
  What spec.EncodeVarint and impl.EncodeVarint answer, for every integer. By an AI agent.
-/
namespace Go.Proofs.YtebddnjccmaimaaGreatDoor
open Go.RowKit
set_option linter.unusedVariables false

def strOf (l : List UInt8) : ByteArray := ⟨l.toArray⟩

theorem ret_str {a b : ByteArray} (h : a = b) : Ending.returned (.string a) = .returned (.string b) := by rw [h]

theorem strOf_append (l r : List UInt8) : strOf l ++ strOf r = strOf (l ++ r) := by
  apply ByteArray.ext
  simp [strOf]

theorem strOf_size (l : List UInt8) : (strOf l).size = l.length := by simp [strOf, ByteArray.size]

end Go.Proofs.YtebddnjccmaimaaGreatDoor

/-
  Slices of strings: one that reads as a list, one of the call's own; what the laws' own szStringS, toStringS and eqStringS do. By an AI agent.
-/
namespace Go.Proofs.YtebddnjccmaimaaGreatDoor
open Go.RowKit
set_option linter.unusedVariables false

/-- a slice whose elements are the strings of a list -/
def InS (w : World) (a : Option Addr) (l : List Str) : Prop :=
  0 < l.length → ∃ b off, a = some ⟨b, off, none⟩ ∧ b < w.heap.size ∧ ∀ j x, l[j]? = some x → w.cell? ⟨b, off + j, none⟩ = some (encStr x)

/-- a slice of the call's own -/
def OwnS (w : World) (base : Nat) (v : Value) (l : List Str) : Prop := w.ownsRow base 9 1 v l.length (l.map encStr)

theorem info_str : (Tryz.prog.info? 9).map (fun i => (i.zero, i.size, i.bytes)) = some (some (.string ⟨#[]⟩), 1, 16) := by kernel_rfl

theorem InS.keep {w w' : World} {a : Option Addr} {l : List Str} (h : InS w a l) (hs : w.heap.size ≤ w'.heap.size) (hk : ∀ b off, a = some ⟨b, off, none⟩ → b < w.heap.size → w'.heap[b]? = w.heap[b]?) : InS w' a l := by
  intro h0
  obtain ⟨b, off, ha, hb, hc⟩ := h h0
  exact ⟨b, off, ha, Nat.lt_of_lt_of_le hb hs, fun j x hj => (World.cell?_of_block (hk b off ha hb)).trans (hc j x hj)⟩
theorem InS.below {w w' : World} {a : Option Addr} {l : List Str} (h : InS w a l) (hb : Below w.heap.size w w') : InS w' a l :=
  h.keep hb.size fun b _ _ hlt => hb.block b hlt
theorem InS.alloc {w : World} {a : Option Addr} {l : List Str} (h : InS w a l) (o : Obj) : InS (w.alloc o) a l := h.below ((Below.refl _ _).alloc (Nat.le_refl _) o)

theorem OwnS.shape {w : World} {base : Nat} {v : Value} {l : List Str} (h : OwnS w base v l) : ∃ a cap, v = .slice a l.length cap := by
  rcases h.2 with ⟨rfl, h0⟩ | ⟨g, cap, cur, rfl, _⟩
  · exact ⟨none, 0, by rw [h0]⟩
  · exact ⟨_, _, rfl⟩
theorem OwnS.inS {w : World} {base : Nat} {a : Option Addr} {n cap : Nat} {l : List Str} (h : OwnS w base (.slice a n cap) l) : InS w a l := by
  intro h0
  rcases h.2 with ⟨_, h1⟩ | ⟨g, cap', cur, hv, hb, hg, _, _, _, ht⟩
  · omega
  · simp only [Value.slice.injEq] at hv
    obtain ⟨rfl, -, -⟩ := hv
    refine ⟨g, 0, rfl, (Array.getElem?_eq_some_iff.1 hg).1, fun j x hj => ?_⟩
    obtain ⟨hlt, he⟩ := List.getElem?_eq_some_iff.1 hj
    rw [Nat.zero_add, cell_of_row w g j cur _ (0, 0) hg, ← Array.getElem?_toList]
    have h2 : (cur.toList.take (l.length * 1))[j]? = (l.map encStr)[j]? := by rw [ht]
    rw [List.getElem?_take_of_lt (by omega)] at h2
    rw [h2]
    simp [he, hlt]
theorem OwnS.len_le {w : World} {base : Nat} {v : Value} {l : List Str} (h : OwnS w base v l) : l.length ≤ maxLen := by
  rcases h.2 with ⟨_, h1⟩ | ⟨g, cap', cur, hv, hb, hg, h2, h3, _, ht⟩
  · omega
  · omega
theorem OwnS.alloc {w : World} {base : Nat} {v : Value} {l : List Str} (h : OwnS w base v l) (o : Obj) : OwnS (w.alloc o) base v l := World.ownsRow.alloc h o
theorem OwnS.below {w w' : World} {base : Nat} {v : Value} {l : List Str} (h : OwnS w base v l) (hb : Below w.heap.size w w') : OwnS w' base v l :=
  World.ownsRow.kept h (row := none) ⟨hb.os, hb.tape, hb.output, hb.size, fun i hi _ => hb.block i hi⟩ (by cases hv : v.ownBlock <;> simp)
theorem OwnS.mono {w : World} {base base' : Nat} {v : Value} {l : List Str} (h : OwnS w base v l) (hb : base' ≤ base) : OwnS w base' v l := by
  refine ⟨h.1, ?_⟩
  rcases h.2 with hn | ⟨g, cap', cur, hv, hbg, rest⟩
  · exact .inl hn
  · exact .inr ⟨g, cap', cur, hv, Nat.le_trans hb hbg, rest⟩
theorem OwnS.nil (w : World) (base : Nat) : OwnS w base (.slice none 0 0) [] := World.ownsRow_nil _ _ _ _
theorem OwnS.made (w : World) (base : Nat) (cur : Array Value) (cap : Nat) (hb : base ≤ w.heap.size) (hm : cap ≤ maxLen) (hs : cur.size = cap) :
    OwnS (w.alloc (.cells cur 9)) base (.slice (some ⟨w.heap.size, 0, none⟩) 0 cap) [] :=
  World.ownsRow_made w cur cap hb hm (by omega)

/-- a slice of the call's own is handed back -/
def GivesS (w : World) (l : List Str) (e : Ending) (w' : World) : Prop :=
  ∃ a cap, e = .returned (.slice a l.length cap) ∧ OwnS w' w.heap.size (.slice a l.length cap) l ∧ Below w.heap.size w w'

theorem GivesS.mk {w w' : World} {v : Value} {l : List Str} (h : OwnS w' w.heap.size v l) (hb : Below w.heap.size w w') : GivesS w l (.returned v) w' := by
  obtain ⟨a, cap, rfl⟩ := h.shape
  exact ⟨a, cap, rfl, h, hb⟩

/-- the values and letters of a list -/
def szT (l : List Str) (k : Nat) : Nat := l.length + ((l.take k).map List.length).sum
def szL (l : List Str) : Nat := szT l l.length
theorem szT_succ {l : List Str} {k : Nat} {x : Str} (h : l[k]? = some x) : szT l (k + 1) = szT l k + x.length := by
  obtain ⟨hlt, he⟩ := List.getElem?_eq_some_iff.1 h
  unfold szT
  rw [List.take_succ_eq_append_getElem hlt, he]
  simp
  omega
theorem szT_le {l : List Str} {j k : Nat} (h : j ≤ k) : szT l j ≤ szT l k := by
  obtain ⟨d, rfl⟩ : ∃ d, k = j + d := ⟨k - j, by omega⟩
  unfold szT
  rw [List.take_add]
  simp
theorem szL_len (l : List Str) : l.length ≤ szL l := by unfold szL szT; omega
theorem szL_mem {l : List Str} {x : Str} (h : x ∈ l) : x.length ≤ szL l := by
  obtain ⟨k, hk⟩ := List.getElem?_of_mem h
  have h1 := szT_succ hk
  have h2 := szT_le (l := l) (show k + 1 ≤ l.length from (List.getElem?_eq_some_iff.1 hk).1)
  unfold szL
  omega

theorem take_snoc' {l : List Str} {k : Nat} {x : Str} (h : l[k]? = some x) : l.take (k + 1) = l.take k ++ [x] := by
  obtain ⟨hlt, he⟩ := List.getElem?_eq_some_iff.1 h
  rw [List.take_succ_eq_append_getElem hlt, he]

/-- a string of the list, with its bytes apart -/
theorem ret_int {k : IntKind} {a b : Int} (h : a = b) : Ending.returned (.int k a) = .returned (.int k b) := by rw [h]

theorem str_at {l : List Str} {k : Nat} (h : k < l.length) : ∃ (x : Str) (s : ByteArray), l[k]? = some x ∧ s.data.toList = x ∧ encStr x = .string s ∧ s.size = x.length := by
  refine ⟨l[k], ⟨l[k].toArray⟩, List.getElem?_eq_getElem h, by simp, rfl, ?_⟩
  simp [ByteArray.size]

/-- what is left of 'left', or -1 -/
def szR (l : List Str) (left : Nat) : Int := if szL l ≤ left then (left : Int) - (szL l : Int) else -1
theorem szR_yes {l : List Str} {left : Nat} (h : szL l ≤ left) : szR l left = ((left - szL l : Nat) : Int) := by unfold szR; rw [if_pos h]; omega
theorem szR_no {l : List Str} {left : Nat} (h : ¬ szL l ≤ left) : szR l left = -1 := by unfold szR; rw [if_neg h]

set_option maxRecDepth 100000 in
theorem sz_any (a : Option Addr) (cap : Nat) (l : List Str) (left : Nat) (w : World) (hl : l.length ≤ maxLen) (hin : InS w a l) (hx : ∀ x ∈ l, x.length ≤ maxLen) (hleft : left ≤ 1048576) :
    Calls Tryz.prog 63 #[.slice a l.length cap, .int .i64 left] w fun e w' => e = .returned (.int .i64 (szR l left)) ∧ w' = w := by
  unfold maxLen at hl hx
  have HX := Lib.hid hx
  have HIN := Lib.hid hin
  clear hx hin
  by_cases h1 : l.length ≤ left
  · go_enter Tryz.func63, Tryz.ntmps63
    go_wp2
    go_loop [1, 5] (fun r i => ∃ k m : Nat, k ≤ l.length ∧ i = .int .i64 k ∧ r = .int .i64 m ∧ m ≤ left ∧ m + szT l k = left) (fun _ i => l.length - (intOf i).toNat)
    case atStart => exact ⟨0, left - l.length, Nat.zero_le _, rfl, by rw [Int.ofNat_sub h1], by omega, by simp [szT]; omega⟩
    case round =>
      obtain ⟨k, m, hk, rfl, rfl, hm, hs⟩ := hrel
      have HS := Lib.hid hs
      clear hs
      by_cases hlt : k < l.length
      · obtain ⟨b, off, rfl, hb, hc⟩ := HIN.out (by omega)
        obtain ⟨x, s, hx1, hx2, hx3, hx4⟩ := str_at hlt
        have hcell : w.cell? ⟨b, off + k, none⟩ = some (.string s) := by rw [← hx3]; exact hc k x hx1
        have hsz : s.size ≤ 9223372036854775807 := by rw [hx4]; exact HX.out x (List.mem_of_getElem? hx1)
        have HT := Lib.hid (szT_succ hx1)
        have HT2 := Lib.hid (szT_le (l := l) (show k + 1 ≤ l.length from hlt))
        have HZ := Lib.hid hx4
        clear hc hx1 hx2 hx3 hx4
        by_cases hn : s.size ≤ m
        · go_wp2
          go_round
          case rel => exact ⟨k + 1, m - s.size, by omega, by go_num, by rw [Int.ofNat_sub hn], by omega, by have := HS.out; have := HT.out; have := HZ.out; omega⟩
          case measure => simp [intOf]; omega
        · go_wp2
          go_ret
          exact ⟨ret_int (by rw [szR_no (by have := HS.out; have := HT.out; have := HT2.out; have := HZ.out; unfold szL; omega)]), rfl⟩
      · obtain rfl : k = l.length := by omega
        go_wp2
        go_ret
        exact ⟨ret_int (by rw [szR_yes (by have := HS.out; unfold szL; omega)]; have := HS.out; unfold szL; omega), rfl⟩
  · go_enter Tryz.func63, Tryz.ntmps63
    go_wp2
    go_ret
    exact ⟨ret_int (by rw [szR_no (by have := szL_len l; omega)]), rfl⟩

/-- an argument of moderate size -/
def Sm (w : World) (a : Option Addr) (l : List Str) (c : Nat) : Prop := InS w a l ∧ (a = none → c = 0) ∧ l.length ≤ c ∧ l.length ≤ 4000000 ∧ ∀ x ∈ l, x.length ≤ 1048576
theorem Sm.below {w w' : World} {a : Option Addr} {l : List Str} {c : Nat} (h : Sm w a l c) (hb : Below w.heap.size w w') : Sm w' a l c := ⟨h.1.below hb, h.2⟩
theorem sz_len {l : List Str} (hs : szL l ≤ 1048576) : l.length ≤ 4000000 := by have := szL_len l; omega
theorem sz_mem {l : List Str} (hs : szL l ≤ 1048576) : ∀ x ∈ l, x.length ≤ 1048576 := fun x hx => by have := szL_mem hx; omega
theorem Sm.ml {w : World} {a : Option Addr} {l : List Str} {c : Nat} (h : Sm w a l c) : l.length ≤ maxLen := by have := h.2.2.2.1; unfold maxLen; omega
theorem OwnS.none_cap {w : World} {base : Nat} {a : Option Addr} {n cap : Nat} {l : List Str} (h : OwnS w base (.slice a n cap) l) : a = none → cap = 0 := by
  intro e
  rcases h.2 with ⟨hv, h1⟩ | ⟨g, cap', cur, hv, _⟩
  · simp only [Value.slice.injEq] at hv
    exact hv.2.2
  · simp only [Value.slice.injEq] at hv
    rw [e] at hv
    cases hv.1
theorem OwnS.cap_ge {w : World} {base : Nat} {a : Option Addr} {n cap : Nat} {l : List Str} (h : OwnS w base (.slice a n cap) l) : l.length ≤ cap := by
  rcases h.2 with ⟨hv, h1⟩ | ⟨g, cap', cur, hv, _, _, h2, _⟩
  · omega
  · simp only [Value.slice.injEq] at hv
    omega

/-- an argument of a law -/
def ArgS (w : World) (a : Option Addr) (l : List Str) : Prop := InS w a l ∧ l.length ≤ maxLen ∧ ∀ x ∈ l, x.length ≤ maxLen

theorem argS_of {w : World} {x : Addr} {l c : Nat} {ss : List ByteArray} (hl : l ≤ c) (hm : c ≤ maxLen) (hz : ss.length = c)
    (hcell : ∀ i, i < ss.length → w.cell? (x.add i) = some (.string (ss.getD i ByteArray.empty))) (hw : ∀ s ∈ ss, s.size ≤ maxLen) : ∃ L : List Str, l = L.length ∧ ArgS w (some x) L := by
  refine ⟨(ss.take l).map (·.data.toList), by simp; omega, fun h0 => ?_, by simp; omega, fun y hy => ?_⟩
  · simp at h0
    obtain ⟨b, off, spot⟩ := x
    have hspot : spot = none := by simpa [Addr.add] using World.cell?_spot (hcell 0 (by omega))
    subst hspot
    refine ⟨b, off, rfl, ?_, fun j y hj => ?_⟩
    · exact World.block_lt_of_cell? w _ (hcell 0 (by omega))
    · obtain ⟨hlt, he⟩ := List.getElem?_eq_some_iff.1 hj
      simp at hlt
      have h1 := hcell j (by omega)
      have h2 : (⟨b, off, none⟩ : Addr).add j = ⟨b, off + j, none⟩ := by unfold Addr.add; split <;> simp_all
      rw [h2] at h1
      rw [h1]
      simp only [List.getElem_map, List.getElem_take] at he
      rw [← he, List.getD, List.getElem?_eq_getElem (by omega)]
      rfl
  · obtain ⟨s, hs, rfl⟩ := List.mem_map.1 hy
    have := hw s (List.mem_of_mem_take hs)
    simpa using this

theorem sz_no {w0 : World} (a : Option Addr) (cap : Nat) (l : List Str) (left : Nat) (w : World) (h : ArgS w0 a l) (hb : Below w0.heap.size w0 w) (hleft : left ≤ 1048576) (hn : ¬ szL l ≤ left) :
    Calls Tryz.prog 63 #[.slice a l.length cap, .int .i64 left] w fun e w' => e = .returned (.int .i64 (-1)) ∧ w' = w :=
  (sz_any a cap l left w h.2.1 (h.1.below hb) h.2.2 hleft).mono fun e w' ⟨he, hw⟩ => ⟨by rw [he, szR_no hn], hw⟩
theorem sz_yes {w0 : World} (a : Option Addr) (cap : Nat) (l : List Str) (left r : Nat) (w : World) (h : ArgS w0 a l) (hb : Below w0.heap.size w0 w) (hleft : left ≤ 1048576) (hr : r + szL l = left) :
    Calls Tryz.prog 63 #[.slice a l.length cap, .int .i64 left] w fun e w' => e = .returned (.int .i64 r) ∧ w' = w :=
  (sz_any a cap l left w h.2.1 (h.1.below hb) h.2.2 hleft).mono fun e w' ⟨he, hw⟩ => ⟨by rw [he, szR_yes (by omega)]; congr 3; omega, hw⟩

/-- a slice of the call's own, in blocks from lo on and below hi -/
def OwnH (w : World) (lo hi : Nat) (v : Value) (l : List Str) : Prop := OwnS w lo v l ∧ ∀ k, v.ownBlock = some k → k < hi
theorem OwnH.of {w w' : World} {a : Option Addr} {cap : Nat} {l : List Str} (h : OwnS w' w.heap.size (.slice a l.length cap) l) : OwnH w' w.heap.size w'.heap.size (.slice a l.length cap) l :=
  ⟨h, fun k hk => (World.ownsRow.lt h k hk).2⟩
theorem OwnH.below {w w' : World} {lo hi : Nat} {v : Value} {l : List Str} (h : OwnH w lo hi v l) (hb : Below w.heap.size w w') : OwnH w' lo hi v l := ⟨h.1.below hb, h.2⟩
theorem OwnH.inS {w : World} {lo hi : Nat} {a : Option Addr} {n cap : Nat} {l : List Str} (h : OwnH w lo hi (.slice a n cap) l) : InS w a l := h.1.inS
theorem OwnS.sm {w : World} {base : Nat} {a : Option Addr} {n cap : Nat} {l : List Str} (h : OwnS w base (.slice a n cap) l) (h1 : l.length ≤ 4000000) (h2 : ∀ x ∈ l, x.length ≤ 1048576) : Sm w a l cap := ⟨h.inS, h.none_cap, h.cap_ge, h1, h2⟩
theorem OwnH.sm {w : World} {lo hi : Nat} {a : Option Addr} {n cap : Nat} {l : List Str} (h : OwnH w lo hi (.slice a n cap) l) (h1 : l.length ≤ 4000000) (h2 : ∀ x ∈ l, x.length ≤ 1048576) : Sm w a l cap := h.1.sm h1 h2
/-- what is written into one slice leaves another as it was -/
theorem OwnH.other {w w' : World} {lo hi lo' hi' : Nat} {v u : Value} {l : List Str} (h : OwnH w lo hi v l) (hg : w.grownBy w' u.ownBlock) (hu : ∀ k, u.ownBlock = some k → lo' ≤ k ∧ k < hi') (hd : hi ≤ lo' ∨ hi' ≤ lo) : OwnH w' lo hi v l := by
  refine ⟨World.ownsRow.kept h.1 hg ?_, h.2⟩
  cases hv : v.ownBlock with
  | none => exact .inl rfl
  | some k =>
    refine .inr fun e => ?_
    have h1 := (World.ownsRow.lt h.1 k hv).1
    have h2 := h.2 k hv
    have h3 := hu k e.symm
    omega
theorem OwnH.row {w : World} {lo hi : Nat} {v : Value} {l : List Str} (h : OwnH w lo hi v l) : ∀ k, v.ownBlock = some k → lo ≤ k ∧ k < hi := fun k hk => ⟨(World.ownsRow.lt h.1 k hk).1, h.2 k hk⟩
theorem below_row {w0 w w' : World} {lo hi : Nat} {v : Value} {l : List Str} (hb : Below w0.heap.size w0 w) (h : OwnH w lo hi v l) (hg : w.grownBy w' v.ownBlock) (hlo : w0.heap.size ≤ lo) : Below w0.heap.size w0 w' :=
  hb.grown hg hb.size fun k hk => Nat.le_trans hlo (h.row k hk).1

end Go.Proofs.YtebddnjccmaimaaGreatDoor

/-
  What the laws' own toStringS, eqStringS, markText, markStringS and heldStringS do, and spec.EqualTokens. By an AI agent.
-/
namespace Go.Proofs.YtebddnjccmaimaaGreatDoor
open Go.RowKit
set_option linter.unusedVariables false

theorem quiet_below (B : Nat) (w : World) (n : Nat) : Below B w (w.drewN n) := ⟨rfl, rfl, rfl, Nat.le_refl _, fun _ _ => rfl⟩

/-- the first k strings are copied, the rest is empty -/
def fillV (l : List Str) (k : Nat) : List Value := (l.take k).map encStr ++ List.replicate (l.length - k) (.string ⟨#[]⟩)
theorem fill_zero (l : List Str) : fillV l 0 = List.replicate l.length (.string ⟨#[]⟩) := by simp [fillV]
theorem fill_all (l : List Str) : fillV l l.length = l.map encStr := by simp [fillV]
theorem fill_len {l : List Str} {k : Nat} (h : k < l.length) : ((l.take k).map encStr).length = k := by
  rw [List.length_map, List.length_take]; omega
theorem fill_at {l : List Str} {k : Nat} (h : k < l.length) : (fillV l k)[k]? = some (.string ⟨#[]⟩) := by
  unfold fillV
  rw [List.getElem?_append_right (by rw [fill_len h]; omega), fill_len h, Nat.sub_self, List.getElem?_replicate, if_pos (by omega)]
theorem fill_set {l : List Str} {k : Nat} {x : Str} (h : l[k]? = some x) : (fillV l k).set k (encStr x) = fillV l (k + 1) := by
  obtain ⟨hlt, he⟩ := List.getElem?_eq_some_iff.1 h
  have e1 : l.length - k = (l.length - (k + 1)) + 1 := by omega
  unfold fillV
  rw [List.set_append_right _ _ (by rw [fill_len hlt]; omega), fill_len hlt, Nat.sub_self, e1, List.replicate_succ, List.take_succ_eq_append_getElem hlt, he, List.set_cons_zero]
  simp

set_option maxRecDepth 100000 in
theorem to_any (a : Option Addr) (cap : Nat) (l : List Str) (w : World) (hl : l.length ≤ 4000000) (hin : InS w a l) :
    Calls Tryz.prog 71 #[.slice a l.length cap] w (GivesS w l) := by
  obtain ⟨i0, hi, hz0, hz1, hz2⟩ := info_parts info_str
  have HIN := Lib.hid hin
  clear hin
  go_enter Tryz.func71, Tryz.ntmps71
  go_wp2_with (at_make; refine wpList_make_full _ rfl _ _ 31 rfl w.heap.size 9 i0 (.string ⟨#[]⟩) 1 Tryz.underlying31 hi hz0 hz1 .i64 .i64 _ _ l.length rfl rfl rfl rfl (by rw [hz2]; omega) (by unfold maxLen; omega) (Nat.le_refl _) ?_; intro w1 hrow hg)
  have HROW := Lib.hid hrow
  have HB1 := Lib.hid ((Below.refl w.heap.size w).grown hg (Nat.le_refl _) (fun k hk => by cases hk))
  clear hrow hg
  go_loopw [4] (fun i wr => ∃ k : Nat, k ≤ l.length ∧ i = .int .i64 k ∧ wr.ownsRow w.heap.size 9 1 (.slice (some ⟨w.heap.size, 0, none⟩) l.length l.length) l.length (fillV l k) ∧ Below w.heap.size w wr) (fun i _ => l.length - (intOf i).toNat)
  case atStart =>
    refine ⟨0, Nat.zero_le _, rfl, ?_, HB1.out⟩
    have h := HROW.out
    rw [Nat.mul_one, show (Value.string ⟨#[]⟩).cells = #[.string ⟨#[]⟩] from rfl, toList_madeCells_one] at h
    rw [fill_zero]
    exact h
  case round =>
    obtain ⟨k, hk, rfl, hrow, hb⟩ := hrel
    by_cases hlt : k < l.length
    · obtain ⟨b, off, rfl, hbw, hc⟩ := HIN.out (by omega)
      obtain ⟨x, s, hx1, hx2, hx3, hx4⟩ := str_at hlt
      have hcell : wr.cell? ⟨b, off + k, none⟩ = some (.string s) := by rw [← hx3, hb.cell (p := ⟨b, off + k, none⟩) hbw]; exact hc k x hx1
      have hold : wr.cell? ⟨w.heap.size, k, none⟩ = some (.string ⟨#[]⟩) := by rw [hrow.cellAt k (by omega)]; exact fill_at hlt
      have hfz : wr.frozen? ⟨w.heap.size, k, none⟩ = false := hrow.frozenAt k
      have HN := Lib.hid (hrow.stored k (.string s))
      have HE := Lib.hid (fill_set hx1)
      have H3 := Lib.hid hx3
      have HB := Lib.hid hb
      clear hc hx1 hx2 hx3 hx4 hrow hb
      go_wp2
      go_roundw
      case rel =>
        refine ⟨k + 1, by omega, by go_num, ?_, HB.out.setCell (by simp) _⟩
        rw [← HE.out, H3.out]
        exact HN.out.1
      case measure => simp [intOf]; omega
    · obtain rfl : k = l.length := by omega
      have HROW2 := Lib.hid hrow
      clear hrow
      go_wp2
      go_ret
      refine ⟨_, _, rfl, ?_, hb⟩
      have h := HROW2.out
      rw [fill_all] at h
      exact h

set_option maxRecDepth 100000 in
theorem eq_same (a1 a2 : Option Addr) (c1 c2 : Nat) (l : List Str) (w : World) (hl : l.length ≤ maxLen) (h1 : InS w a1 l) (h2 : InS w a2 l) :
    Calls Tryz.prog 26 #[.slice a1 l.length c1, .slice a2 l.length c2] w fun e w' => e = .returned (.bool true) ∧ Below w.heap.size w w' := by
  unfold maxLen at hl
  have H1 := Lib.hid h1
  have H2 := Lib.hid h2
  clear h1 h2
  go_enter Tryz.func26, Tryz.ntmps26
  go_wp2
  go_loopw [5] (fun i wr => ∃ k n : Nat, k ≤ l.length ∧ i = .int .i64 k ∧ wr = w.drewN n) (fun i _ => l.length - (intOf i).toNat)
  case atStart => exact ⟨0, 0, Nat.zero_le _, rfl, rfl⟩
  case round =>
    obtain ⟨k, n, hk, rfl, rfl⟩ := hrel
    by_cases hlt : k < l.length
    · obtain ⟨b1, o1, rfl, hb1, hc1⟩ := H1.out (by omega)
      obtain ⟨b2, o2, rfl, hb2, hc2⟩ := H2.out (by omega)
      obtain ⟨x, s, hx1, hx2, hx3, hx4⟩ := str_at hlt
      have hcell1 : w.cell? ⟨b1, o1 + k, none⟩ = some (.string s) := by rw [← hx3]; exact hc1 k x hx1
      have hcell2 : w.cell? ⟨b2, o2 + k, none⟩ = some (.string s) := by rw [← hx3]; exact hc2 k x hx1
      clear hc1 hc2 hx1 hx2 hx3 hx4
      go_wp2
      go_quiet (fail)
      go_wp2
      go_roundw
      case rel => exact ⟨k + 1, _, by omega, by go_num, rfl⟩
      case measure => simp [intOf]; omega
    · obtain rfl : k = l.length := by omega
      go_wp2
      go_ret
      exact ⟨rfl, quiet_below _ _ _⟩

end Go.Proofs.YtebddnjccmaimaaGreatDoor

/-
  What the laws' own markText, markStringS and heldStringS do. By an AI agent.
-/
namespace Go.Proofs.YtebddnjccmaimaaGreatDoor
open Go.RowKit
set_option linter.unusedVariables false

/-- the digits of k ahead of acc -/
def mdigL : Nat → Nat → List UInt8 → List UInt8
  | 0, _, acc => acc
  | f + 1, k, acc => if k = 0 then acc else mdigL f (k / 10) (UInt8.ofNat (48 + k % 10) :: acc)
theorem mdigL_enough : ∀ (f g k : Nat) (acc : List UInt8), k ≤ f → k ≤ g → mdigL f k acc = mdigL g k acc := by
  intro f
  induction f with
  | zero =>
    intro g k acc h1 h2
    obtain rfl : k = 0 := by omega
    cases g <;> simp [mdigL]
  | succ f ih =>
    intro g k acc h1 h2
    cases g with
    | zero =>
      obtain rfl : k = 0 := by omega
      simp [mdigL]
    | succ g =>
      unfold mdigL
      by_cases h : k = 0
      · rw [if_pos h, if_pos h]
      · rw [if_neg h, if_neg h]
        exact ih g _ _ (by omega) (by omega)
theorem mdigL_step {k : Nat} (h : 0 < k) (acc : List UInt8) : mdigL k k acc = mdigL (k / 10) (k / 10) (UInt8.ofNat (48 + k % 10) :: acc) := by
  obtain ⟨f, rfl⟩ : ∃ f, k = f + 1 := ⟨k - 1, by omega⟩
  conv => lhs; unfold mdigL
  rw [if_neg (by omega)]
  exact mdigL_enough _ _ _ _ (by omega) (by omega)
theorem mdigL_zero (acc : List UInt8) : mdigL 0 0 acc = acc := rfl

/-- the mark of number k -/
def markL (k : Nat) : Str := 109 :: mdigL k k []
def marksL (k n : Nat) : List Str := (List.range n).map fun j => markL (k + j)
theorem marks_length (k n : Nat) : (marksL k n).length = n := by simp [marksL]
theorem marks_at {k n j : Nat} (h : j < n) : (marksL k n)[j]? = some (markL (k + j)) := by simp [marksL, h]
theorem marks_succ (k n : Nat) : marksL k (n + 1) = marksL k n ++ [markL (k + n)] := by simp [marksL, List.range_succ]

theorem mdig48 (x : Nat) : (48 : UInt8) + UInt8.ofNat x = UInt8.ofNat (48 + x) := by
  rw [UInt8.ofNat_add]; rfl
theorem mstr_cons (b c : UInt8) (l : List UInt8) (h : b = c) : Value.string ((⟨#[b]⟩ : ByteArray) ++ strOf l) = .string (strOf (c :: l)) := by
  subst h
  exact congrArg _ (strOf_append [b] l)

set_option maxRecDepth 100000 in
theorem mark_text (n : Nat) (w : World) (h0 : 0 < n) (h1 : (n : Int) ≤ 4611686018427387904) :
    Calls Tryz.prog 72 #[.int .i64 n] w fun e w' => e = .returned (encStr (markL n)) ∧ Below w.heap.size w w' := by
  have hle : decide ((n : Int) ≤ 0) = false := by simp; omega
  go_enter Tryz.func72, Tryz.ntmps72
  go_wp2
  clear hle
  go_loopw [0, 3] (fun a o wr => ∃ (k : Nat) (l : List UInt8), k ≤ n ∧ a = .int .i64 k ∧ o = .string (strOf l) ∧ l.length + k ≤ n ∧ mdigL n n [] = mdigL k k l ∧ Below w.heap.size w wr) (fun a _ _ => (intOf a).toNat)
  case atStart => exact ⟨n, [], Nat.le_refl _, rfl, rfl, by simp, rfl, Below.refl _ _⟩
  case round =>
    obtain ⟨k, l, hk, rfl, rfl, hlen, hd, hb⟩ := hrel
    have HD := Lib.hid hd
    have HB := Lib.hid hb
    have HLEN := Lib.hid hlen
    have hsz : (strOf l).size ≤ 4611686018427387904 := by rw [strOf_size]; omega
    clear hd hb hlen
    by_cases h0 : 0 < k
    · have hcv := convert_one wr (48 + (k : Int) % 10) (by omega) (by omega)
      go_wp2
      go_roundw
      case rel =>
        refine ⟨k / 10, UInt8.ofNat (48 + k % 10) :: l, by omega, by go_num, ?_, by have := HLEN.out; simp; omega, by rw [HD.out, mdigL_step h0], HB.out.trans ((Below.refl _ _).alloc HB.out.size _)⟩
        exact mstr_cons _ _ l (mdig48 _)
      case measure => simp [intOf]; omega
    · obtain rfl : k = 0 := by omega
      go_wp2
      go_ret
      refine ⟨?_, HB.out⟩
      have e : encStr (markL n) = .string ((⟨#[109]⟩ : ByteArray) ++ strOf l) := by
        unfold markL
        rw [HD.out, mdigL_zero]
        exact congrArg Value.string (strOf_append [109] l).symm
      rw [e]
      rfl

theorem own_at {w : World} {base : Nat} {a : Option Addr} {n cap : Nat} {xs : List Value} (h : w.ownsRow base 9 1 (.slice a n cap) n xs) (h0 : 0 < n) : ∃ g, a = some ⟨g, 0, none⟩ ∧ g < w.heap.size := by
  rcases h.2 with ⟨_, h1⟩ | ⟨g, cap', cur, hv, hb, hg, _⟩
  · omega
  · simp only [Value.slice.injEq] at hv
    exact ⟨g, hv.1, (Array.getElem?_eq_some_iff.1 hg).1⟩

/-- the first k are marked -/
def markV (l : List Str) (k0 k : Nat) : List Value := (marksL k0 k).map encStr ++ (l.drop k).map encStr
theorem markV_zero (l : List Str) (k0 : Nat) : markV l k0 0 = l.map encStr := by simp [markV, marksL]
theorem markV_all (l : List Str) (k0 : Nat) : markV l k0 l.length = (marksL k0 l.length).map encStr := by simp [markV]
theorem markV_at {l : List Str} {k0 k : Nat} {x : Str} (h : l[k]? = some x) : (markV l k0 k)[k]? = some (encStr x) := by
  obtain ⟨hlt, he⟩ := List.getElem?_eq_some_iff.1 h
  unfold markV
  rw [List.getElem?_append_right (by simp [marks_length]), List.length_map, marks_length, Nat.sub_self, List.getElem?_map, List.getElem?_drop, Nat.add_zero, h]
  rfl
theorem markV_set {l : List Str} {k0 k : Nat} (hlt : k < l.length) : (markV l k0 k).set k (encStr (markL (k0 + k))) = markV l k0 (k + 1) := by
  unfold markV
  rw [List.set_append_right _ _ (by simp [marks_length]), List.length_map, marks_length, Nat.sub_self, List.drop_eq_getElem_cons hlt, List.map_cons, List.set_cons_zero, marks_succ]
  simp

def Marked (w : World) (base : Nat) (a : Option Addr) (n cap k0 : Nat) (e : Ending) (w' : World) : Prop :=
  e = .returned (.int .i64 ((k0 + n : Nat) : Int)) ∧ OwnS w' base (.slice a n cap) (marksL k0 n) ∧ w.grownBy w' (Value.slice a n cap).ownBlock

theorem grown_trans' {a b d : World} {r : Option Nat} (h1 : a.grownBy b r) (h2 : b.grownBy d r) : a.grownBy d r :=
  ⟨h2.os.trans h1.os, h2.tape.trans h1.tape, h2.output.trans h1.output, Nat.le_trans h1.size h2.size, fun k hk hne => (h2.block k (Nat.lt_of_lt_of_le hk h1.size) hne).trans (h1.block k hk hne)⟩
theorem grown_of_below {w w' : World} (h : Below w.heap.size w w') (r : Option Nat) : w.grownBy w' r := ⟨h.os, h.tape, h.output, h.size, fun k hk _ => h.block k hk⟩

set_option maxRecDepth 100000 in
theorem mark_any (base : Nat) (a : Option Addr) (cap : Nat) (l : List Str) (k0 : Nat) (w : World) (hl : l.length ≤ 4000000) (hk0 : 0 < k0) (hk1 : k0 ≤ 4000000) (hown : OwnS w base (.slice a l.length cap) l) :
    Calls Tryz.prog 29 #[.slice a l.length cap, .int .i64 k0] w (Marked w base a l.length cap k0) := by
  have HOWN := Lib.hid hown
  clear hown
  go_enter Tryz.func29, Tryz.ntmps29
  go_wp2
  go_loopw [1, 5] (fun kk i wr => ∃ k : Nat, k ≤ l.length ∧ i = .int .i64 k ∧ kk = .int .i64 ((k0 + k : Nat) : Int) ∧ wr.ownsRow base 9 1 (.slice a l.length cap) l.length (markV l k0 k) ∧ w.grownBy wr (Value.slice a l.length cap).ownBlock) (fun _ i _ => l.length - (intOf i).toNat)
  case atStart => exact ⟨0, Nat.zero_le _, rfl, by go_num, by rw [markV_zero]; exact HOWN.out, World.grownBy.refl _ _⟩
  case round =>
    obtain ⟨k, hk, rfl, rfl, hrow, hg⟩ := hrel
    have HROW := Lib.hid hrow
    have HG := Lib.hid hg
    clear hrow hg
    by_cases hlt : k < l.length
    · obtain ⟨g, rfl, hgl⟩ := own_at HROW.out (by omega)
      have HGL := Lib.hid hgl
      clear hgl
      go_wp2_with (go_at_call 72; (refine (mark_text (k0 + k) _ (by omega) (by omega)).mono ?_); rintro e w1 ⟨rfl, hb1⟩; refine Hid.out ?_)
      refine Lib.hid ?_
      have HB1 := Lib.hid hb1
      have hrow1 : w1.ownsRow base 9 1 (.slice (some ⟨g, 0, none⟩) l.length cap) l.length (markV l k0 k) :=
        World.ownsRow.kept HROW.out (row := none) (grown_of_below hb1 none) (.inr (by simp [Value.ownBlock]))
      have hold : w1.cell? ⟨g, k, none⟩ = some (encStr l[k]) := by rw [hrow1.cellAt k (by omega)]; exact markV_at (List.getElem?_eq_getElem hlt)
      have hfz : w1.frozen? ⟨g, k, none⟩ = false := hrow1.frozenAt k
      have HN := Lib.hid (hrow1.stored k (encStr (markL (k0 + k))))
      clear hb1 hrow1
      go_wp2
      go_roundw
      case rel =>
        refine ⟨k + 1, by omega, by go_num, by go_num, ?_, ?_⟩
        · rw [← markV_set hlt]
          exact HN.out.1
        · exact grown_trans' (grown_trans' HG.out (grown_of_below HB1.out _)) HN.out.2
      case measure => simp [intOf]; omega
    · obtain rfl : k = l.length := by omega
      go_wp2
      go_ret
      refine ⟨rfl, ?_, HG.out⟩
      have h := HROW.out
      rw [markV_all] at h
      unfold OwnS
      rw [marks_length]
      exact h

end Go.Proofs.YtebddnjccmaimaaGreatDoor

/-
  What the laws' own heldStringS does at a list of marks. By an AI agent.
-/
namespace Go.Proofs.YtebddnjccmaimaaGreatDoor
open Go.RowKit
set_option linter.unusedVariables false

set_option maxRecDepth 100000 in
theorem held_any (a : Option Addr) (cap n k0 : Nat) (w : World) (hl : n ≤ 4000000) (hk0 : 0 < k0) (hk1 : k0 ≤ 4000000) (hin : InS w a (marksL k0 n)) :
    Calls Tryz.prog 30 #[.slice a n cap, .int .i64 k0] w fun e w' => e = .returned (.int .i64 ((k0 + n : Nat) : Int)) ∧ Below w.heap.size w w' := by
  have HIN := Lib.hid hin
  clear hin
  go_enter Tryz.func30, Tryz.ntmps30
  go_wp2
  go_loopw [1, 5] (fun kk i wr => ∃ k : Nat, k ≤ n ∧ i = .int .i64 k ∧ kk = .int .i64 ((k0 + k : Nat) : Int) ∧ Below w.heap.size w wr) (fun _ i _ => n - (intOf i).toNat)
  case atStart => exact ⟨0, Nat.zero_le _, rfl, by go_num, Below.refl _ _⟩
  case round =>
    obtain ⟨k, hk, rfl, rfl, hb⟩ := hrel
    have HB := Lib.hid hb
    clear hb
    by_cases hlt : k < n
    · obtain ⟨b, off, rfl, hbw, hc⟩ := HIN.out (by rw [marks_length]; omega)
      have hbr : b < wr.heap.size := Nat.lt_of_lt_of_le hbw HB.out.size
      have HBR := Lib.hid hbr
      obtain ⟨s, hs⟩ : ∃ s : ByteArray, encStr (markL (k0 + k)) = .string s := ⟨_, rfl⟩
      have hcell : wr.cell? ⟨b, off + k, none⟩ = some (.string s) := by
        rw [HB.out.cell (p := ⟨b, off + k, none⟩) hbw, ← hs]
        exact hc k _ (marks_at hlt)
      have HM := Lib.hid (fun (W : World) => (mark_text (k0 + k) W (by omega) (by omega)).mono (fun e w' h => (show e = .returned (.string s) ∧ Below W.heap.size W w' from ⟨by rw [← hs]; exact h.1, h.2⟩)))
      clear hc hs hbr hbw
      go_wp2
      go_region_with (go_at_call 72; refine (HM.out _).mono ?_; rintro e w1 ⟨rfl, hb1⟩; have HB1 := Lib.hid hb1; have hcell1 := (hb1.cell (p := ⟨b, off + k, none⟩) HBR.out).trans hcell; clear hb1)
      all_goals go_wp2
      all_goals go_roundw
      all_goals first
        | (case rel => exact ⟨k + 1, by omega, by go_num, by go_num, (HB.out.drew).trans (HB1.out.mono HB.out.size)⟩)
        | skip
      all_goals (simp [intOf]; omega)
    · obtain rfl : k = n := by omega
      go_wp2
      go_ret
      exact ⟨rfl, HB.out⟩

end Go.Proofs.YtebddnjccmaimaaGreatDoor

/-
  A world behind a draw, a world behind a new block. By an AI agent.
-/
namespace Go.Proofs.YtebddnjccmaimaaGreatDoor
open Go.RowKit

theorem undrew {w w' : World} (h : Below w.drew.heap.size w.drew w') : Below w.heap.size w w' := ⟨h.os, h.tape, h.output, h.size, h.block⟩
theorem below_new {w w' : World} {o : Obj} (h : Below (w.alloc o).heap.size (w.alloc o) w') : Below w.heap.size w w' := ((Below.refl _ _).alloc (Nat.le_refl _) o).trans (h.mono (by simp))
theorem wrap_one : IntKind.i64.wrap 1 = 1 := by decide

end Go.Proofs.YtebddnjccmaimaaGreatDoor

/-
  Two strings compared; a string that is empty or not. By an AI agent.
-/
namespace Go.Proofs.YtebddnjccmaimaaGreatDoor
open Go.RowKit

theorem dsize (t : ByteArray) : t.data.toList.length = t.size := by simp
theorem sames {a b : ByteArray} (h : a ≠ b) : (a.toList == b.toList) = false := by
  rw [ByteArray.toList_eq, ByteArray.toList_eq]
  simp
  intro e
  exact h (ByteArray.ext e)
theorem empt {s : ByteArray} (h : s.size = 0) : s = ⟨#[]⟩ := by
  apply ByteArray.ext
  apply Array.ext'
  exact List.eq_nil_of_length_eq_zero (by simpa using h)
theorem fulls {s : ByteArray} (h : ¬ s.size = 0) : (s.toList == ([] : List UInt8)) = false ∧ s.toList.isEmpty = false := by
  rw [ByteArray.toList_eq]
  have h1 : s.data.toList ≠ [] := fun e => h (by rw [← dsize, e]; rfl)
  cases h2 : s.data.toList with
  | nil => exact absurd h2 h1
  | cons a b => exact ⟨rfl, rfl⟩
theorem empties {s : ByteArray} (h : s.size = 0) : (s.toList == ([] : List UInt8)) = true ∧ s.toList.isEmpty = true := by
  rw [empt h, ByteArray.toList_eq]
  exact ⟨rfl, rfl⟩

end Go.Proofs.YtebddnjccmaimaaGreatDoor

/-
  Slices of integers: one that reads as a list; what impl.allWithin answers. By an AI agent.
-/
namespace Go.Proofs.YtebddnjccmaimaaGreatDoor
open Go.RowKit
set_option linter.unusedVariables false

/-- a slice whose elements are the integers of a list -/
def InI (w : World) (a : Option Addr) (l : List Int) : Prop :=
  0 < l.length → ∃ b off, a = some ⟨b, off, none⟩ ∧ b < w.heap.size ∧ ∀ j x, l[j]? = some x → w.cell? ⟨b, off + j, none⟩ = some (.int .i64 x)

theorem InI.keep {w w' : World} {a : Option Addr} {l : List Int} (h : InI w a l) (hs : w.heap.size ≤ w'.heap.size) (hk : ∀ b off, a = some ⟨b, off, none⟩ → b < w.heap.size → w'.heap[b]? = w.heap[b]?) : InI w' a l := by
  intro h0
  obtain ⟨b, off, ha, hb, hc⟩ := h h0
  exact ⟨b, off, ha, Nat.lt_of_lt_of_le hb hs, fun j x hj => (World.cell?_of_block (hk b off ha hb)).trans (hc j x hj)⟩
theorem InI.below {w w' : World} {a : Option Addr} {l : List Int} (h : InI w a l) (hb : Below w.heap.size w w') : InI w' a l :=
  h.keep hb.size fun b _ _ hlt => hb.block b hlt
theorem InI.alloc {w : World} {a : Option Addr} {l : List Int} (h : InI w a l) (o : Obj) : InI (w.alloc o) a l := h.below ((Below.refl _ _).alloc (Nat.le_refl _) o)
theorem InI.new (w : World) (l : List Int) : InI (w.alloc (.cells (l.map fun z => Value.int .i64 z).toArray 3)) (some ⟨w.heap.size, 0, none⟩) l := by
  intro h0
  refine ⟨w.heap.size, 0, rfl, by simp, fun j x hj => ?_⟩
  rw [World.cell?_alloc_at _ _ _ _ rfl]
  simp [hj]

/-- every number lies from lo to hi -/
def withinB (lo hi : Int) (l : List Int) : Bool := l.all fun x => decide (lo ≤ x) && decide (x ≤ hi)
theorem within_zero (lo hi : Int) (l : List Int) : withinB lo hi (l.take 0) = true := by simp [withinB]
theorem within_yes {lo hi x : Int} {l : List Int} {k : Nat} (h : withinB lo hi (l.take k) = true) (hx : l[k]? = some x) (h1 : lo ≤ x) (h2 : x ≤ hi) : withinB lo hi (l.take (k + 1)) = true := by
  obtain ⟨hlt, he⟩ := List.getElem?_eq_some_iff.1 hx
  rw [List.take_succ_eq_append_getElem hlt, he]
  unfold withinB at h ⊢
  rw [List.all_append, h]
  simp [h1, h2]
theorem within_no {lo hi x : Int} {l : List Int} (hx : x ∈ l) (h : ¬ (lo ≤ x ∧ x ≤ hi)) : withinB lo hi l = false := by
  rw [Bool.eq_false_iff]
  intro e
  have h1 := List.all_eq_true.1 e x hx
  simp at h1
  exact h h1
theorem within_mem {lo hi x : Int} {l : List Int} (h : withinB lo hi l = true) (hx : x ∈ l) : lo ≤ x ∧ x ≤ hi := by
  have h1 := List.all_eq_true.1 h x hx
  simpa using h1

theorem iret_bool {a b : Bool} (h : a = b) : Ending.returned (.bool a) = .returned (.bool b) := by rw [h]
theorem iret_int {k : IntKind} {a b : Int} (h : a = b) : Ending.returned (.int k a) = .returned (.int k b) := by rw [h]

set_option maxRecDepth 100000 in
theorem within_is (lo hi : Int) (a : Option Addr) (cap : Nat) (l : List Int) (r : Bool) (w : World) (hl : l.length ≤ 4000000) (hin : InI w a l) (hr : withinB lo hi l = r) :
    Calls Tryz.prog 118 #[.int .i64 lo, .int .i64 hi, .slice a l.length cap] w fun e w' => e = .returned (.bool r) ∧ w' = w := by
  have HR := Lib.hid hr
  have HIN := Lib.hid hin
  clear hr hin
  go_enter Tryz.func118, Tryz.ntmps118
  go_wp2
  go_loop [11] (fun i => ∃ k : Nat, k ≤ l.length ∧ i = .int .i64 k ∧ withinB lo hi (l.take k) = true) (fun i => l.length - (intOf i).toNat)
  case atStart => exact ⟨0, Nat.zero_le _, rfl, within_zero _ _ _⟩
  case round =>
    obtain ⟨k, hk, rfl, hw⟩ := hrel
    have HW := Lib.hid hw
    clear hw
    by_cases hlt : k < l.length
    · obtain ⟨b, off, rfl, hb, hc⟩ := HIN.out (by omega)
      obtain ⟨x, hx⟩ : ∃ x, l[k]? = some x := ⟨_, List.getElem?_eq_getElem hlt⟩
      have hcell : w.cell? ⟨b, off + k, none⟩ = some (.int .i64 x) := hc k x hx
      have HX := Lib.hid hx
      clear hc hx
      by_cases h1 : lo ≤ x
      · by_cases h2 : x ≤ hi
        · go_wp2
          go_round
          case rel => exact ⟨k + 1, by omega, by go_num, within_yes HW.out HX.out h1 h2⟩
          case measure => simp [intOf]; omega
        · go_wp2
          go_ret
          exact ⟨iret_bool (by rw [← HR.out, within_no (List.mem_of_getElem? HX.out) (fun e => by omega)]), rfl⟩
      · go_wp2
        go_ret
        exact ⟨iret_bool (by rw [← HR.out, within_no (List.mem_of_getElem? HX.out) (fun e => by omega)]), rfl⟩
    · obtain rfl : k = l.length := by omega
      go_wp2
      go_ret
      exact ⟨iret_bool (by have := HW.out; rw [List.take_length, HR.out] at this; exact this.symm), rfl⟩

end Go.Proofs.YtebddnjccmaimaaGreatDoor

/-
  What the laws' own toIntS and eqIntS do; an argument of a law that is a slice of integers. By an AI agent.
-/
namespace Go.Proofs.YtebddnjccmaimaaGreatDoor
open Go.RowKit
set_option linter.unusedVariables false

theorem info_i64 : (Tryz.prog.info? 3).map (fun i => (i.zero, i.size, i.bytes)) = some (some (.int .i64 0), 1, 8) := by kernel_rfl

def encI (z : Int) : Value := .int .i64 z
/-- the first k numbers are copied, the rest is 0 -/
def fillI (l : List Int) (k : Nat) : List Value := (l.take k).map encI ++ List.replicate (l.length - k) (.int .i64 0)
theorem filli_zero (l : List Int) : fillI l 0 = List.replicate l.length (.int .i64 0) := by simp [fillI]
theorem filli_all (l : List Int) : fillI l l.length = l.map encI := by simp [fillI]
theorem filli_len {l : List Int} {k : Nat} (h : k < l.length) : ((l.take k).map encI).length = k := by
  rw [List.length_map, List.length_take]; omega
theorem filli_at {l : List Int} {k : Nat} (h : k < l.length) : (fillI l k)[k]? = some (.int .i64 0) := by
  unfold fillI
  rw [List.getElem?_append_right (by rw [filli_len h]; omega), filli_len h, Nat.sub_self, List.getElem?_replicate, if_pos (by omega)]
theorem filli_set {l : List Int} {k : Nat} {x : Int} (h : l[k]? = some x) : (fillI l k).set k (encI x) = fillI l (k + 1) := by
  obtain ⟨hlt, he⟩ := List.getElem?_eq_some_iff.1 h
  have e1 : l.length - k = (l.length - (k + 1)) + 1 := by omega
  unfold fillI
  rw [List.set_append_right _ _ (by rw [filli_len hlt]; omega), filli_len hlt, Nat.sub_self, e1, List.replicate_succ, List.take_succ_eq_append_getElem hlt, he, List.set_cons_zero]
  simp

/-- a slice of integers of the call's own -/
def OwnI (w : World) (base : Nat) (v : Value) (l : List Int) : Prop := w.ownsRow base 3 1 v l.length (l.map encI)

theorem OwnI.inI {w : World} {base : Nat} {a : Option Addr} {n cap : Nat} {l : List Int} (h : OwnI w base (.slice a n cap) l) : InI w a l := by
  intro h0
  rcases h.2 with ⟨_, h1⟩ | ⟨g, cap', cur, hv, hb, hg, _, _, _, ht⟩
  · omega
  · simp only [Value.slice.injEq] at hv
    obtain ⟨rfl, -, -⟩ := hv
    refine ⟨g, 0, rfl, (Array.getElem?_eq_some_iff.1 hg).1, fun j x hj => ?_⟩
    obtain ⟨hlt, he⟩ := List.getElem?_eq_some_iff.1 hj
    rw [Nat.zero_add, cell_of_row w g j cur _ (0, 0) hg, ← Array.getElem?_toList]
    have h2 : (cur.toList.take (l.length * 1))[j]? = (l.map encI)[j]? := by rw [ht]
    rw [List.getElem?_take_of_lt (by omega)] at h2
    rw [h2]
    simp [he, hlt, encI]

theorem OwnI.shape {w : World} {base : Nat} {v : Value} {l : List Int} (h : OwnI w base v l) : ∃ a cap, v = .slice a l.length cap := by
  rcases h.2 with ⟨rfl, h0⟩ | ⟨g, cap, cur, rfl, _⟩
  · exact ⟨none, 0, by rw [h0]⟩
  · exact ⟨_, _, rfl⟩
theorem OwnI.alloc {w : World} {base : Nat} {v : Value} {l : List Int} (h : OwnI w base v l) (o : Obj) : OwnI (w.alloc o) base v l := World.ownsRow.alloc h o
theorem OwnI.made (w : World) (base : Nat) (cur : Array Value) (cap : Nat) (hb : base ≤ w.heap.size) (hm : cap ≤ maxLen) (hs : cur.size = cap) :
    OwnI (w.alloc (.cells cur 3)) base (.slice (some ⟨w.heap.size, 0, none⟩) 0 cap) [] :=
  World.ownsRow_made w cur cap hb hm (by omega)

/-- append of one integer, which lies in a new block of one cell -/
theorem append_i {ops : Array Oper} {rest : List Oper} {o : Oper} {a : Act} {Q : Exit → Act → World → Prop} {w0 : World} (hgd : o.guard = none) (s y : Operand)
    (ho : o.op = .call { callee := .builtin .append, args := #[s, y], argTypes := #[40, 40] })
    (base : Nat) (v : Value) (l : List Int) (x : Int) (hown : OwnI w0 base v l) (hs : a.eval s = v)
    (hy : a.eval y = .slice (some ⟨w0.heap.size, 0, none⟩) 1 1) (hlen : l.length ≤ 4000000) (hbase : base ≤ w0.heap.size)
    (h : ∀ v' w', OwnI w' base v' (l ++ [x]) → w0.grownBy w' v.ownBlock → (v'.ownBlock = v.ownBlock ∨ v'.ownBlock = some (w0.heap.size + 1)) → wpList Tryz.prog ops Q rest (a.put o.dst v') w') :
    wpList Tryz.prog ops Q (o :: rest) a (w0.alloc (.cells #[.int .i64 x] 3)) := by
  obtain ⟨i0, hi, hz0, hz1, hz2⟩ := info_parts info_i64
  refine wpList_append_own_at _ hgd s y 40 ho base 3 i0 (.int .i64 0) 1 8 Tryz.underlying40 hi hz0 hz1 hz2 rfl (by decide) v l.length (l.map encI) hs (World.ownsRow.alloc hown _)
    ⟨w0.heap.size, 0, none⟩ 1 1 [.int .i64 x] hy rfl (cell_one_new _ _ _) ?_ (by unfold maxLen; omega) (by omega) (by simp; omega) ?_
  · intro u hu
    simp at hu
    subst hu
    rfl
  · intro v' w' h2 h3 _ h5
    refine h v' w' ?_ ((World.grownBy_alloc w0 _ _).trans h3) (by rcases h5 with e | e; exact .inl e; exact .inr (by rw [e]; simp))
    have e1 : (l ++ [x]).length = l.length + 1 := by simp
    have e2 : (l ++ [x]).map encI = l.map encI ++ [.int .i64 x] := by simp [encI]
    unfold OwnI
    rw [e1, e2]
    exact h2

/-- two slices of integers of the call's own, in different blocks -/
def PairI (w : World) (base : Nat) (u v : Value) (l m : List Int) : Prop := OwnI w base u l ∧ OwnI w base v m ∧ ∀ k, u.ownBlock = some k → v.ownBlock ≠ some k
theorem PairI.swap {w : World} {base : Nat} {u v : Value} {l m : List Int} (h : PairI w base u v l m) : PairI w base v u m l := ⟨h.2.1, h.1, fun k hk e => h.2.2 k e hk⟩
theorem PairI.alloc {w : World} {base : Nat} {u v : Value} {l m : List Int} (h : PairI w base u v l m) (o : Obj) : PairI (w.alloc o) base u v l m := ⟨h.1.alloc o, h.2.1.alloc o, h.2.2⟩
theorem PairI.keptc {w w' : World} {base c : Nat} {u v : Value} {l m : List Int} (h : PairI w base u v l m) (hg : w.grownBy w' (some c)) (hc : c < base) : PairI w' base u v l m := by
  refine ⟨World.ownsRow.kept h.1 hg (.inr fun e => ?_), World.ownsRow.kept h.2.1 hg (.inr fun e => ?_), h.2.2⟩
  · have := (World.ownsRow.lt h.1 c e).1; omega
  · have := (World.ownsRow.lt h.2.1 c e).1; omega
theorem PairI.first {w w' : World} {base : Nat} {u v u' : Value} {l m l' : List Int} (h : PairI w base u v l m) (ho : OwnI w' base u' l') (hg : w.grownBy w' u.ownBlock) (hat : u'.ownBlock = u.ownBlock ∨ u'.ownBlock = some (w.heap.size + 1)) : PairI w' base u' v l' m := by
  refine ⟨ho, World.ownsRow.kept h.2.1 hg ?_, fun k hk e => ?_⟩
  · cases hv : v.ownBlock with
    | none => exact .inl rfl
    | some k => exact .inr fun e => h.2.2 k e.symm hv
  · rcases hat with e1 | e1
    · exact h.2.2 k (by rw [← e1]; exact hk) e
    · rw [e1] at hk
      injection hk with hk
      have := (World.ownsRow.lt h.2.1 k e).2
      omega
theorem PairI.below {w w' : World} {base : Nat} {u v : Value} {l m : List Int} (h : PairI w base u v l m) (hb : base ≤ w.heap.size) (hg : w.grownBy w' u.ownBlock) : Below base w w' :=
  (Below.refl base w).grown hg hb (fun k hk => (World.ownsRow.lt h.1 k hk).1)

/-- a slice that reads as the list is handed back -/
def GivesI (w : World) (l : List Int) (e : Ending) (w' : World) : Prop := ∃ a cap, e = .returned (.slice a l.length cap) ∧ InI w' a l ∧ Below w.heap.size w w'

theorem quiet_i (B : Nat) (w : World) (n : Nat) : Below B w (w.drewN n) := ⟨rfl, rfl, rfl, Nat.le_refl _, fun _ _ => rfl⟩

set_option maxRecDepth 100000 in
theorem eq_int (a1 a2 : Option Addr) (c1 c2 : Nat) (l : List Int) (w : World) (hl : l.length ≤ maxLen) (h1 : InI w a1 l) (h2 : InI w a2 l) :
    Calls Tryz.prog 102 #[.slice a1 l.length c1, .slice a2 l.length c2] w fun e w' => e = .returned (.bool true) ∧ Below w.heap.size w w' := by
  unfold maxLen at hl
  have H1 := Lib.hid h1
  have H2 := Lib.hid h2
  clear h1 h2
  go_enter Tryz.func102, Tryz.ntmps102
  go_wp2
  go_loopw [5] (fun i wr => ∃ k n : Nat, k ≤ l.length ∧ i = .int .i64 k ∧ wr = w.drewN n) (fun i _ => l.length - (intOf i).toNat)
  case atStart => exact ⟨0, 0, Nat.zero_le _, rfl, rfl⟩
  case round =>
    obtain ⟨k, n, hk, rfl, rfl⟩ := hrel
    by_cases hlt : k < l.length
    · obtain ⟨b1, o1, rfl, hb1, hc1⟩ := H1.out (by omega)
      obtain ⟨b2, o2, rfl, hb2, hc2⟩ := H2.out (by omega)
      obtain ⟨x, hx⟩ : ∃ x, l[k]? = some x := ⟨_, List.getElem?_eq_getElem hlt⟩
      have hcell1 : w.cell? ⟨b1, o1 + k, none⟩ = some (.int .i64 x) := hc1 k x hx
      have hcell2 : w.cell? ⟨b2, o2 + k, none⟩ = some (.int .i64 x) := hc2 k x hx
      clear hc1 hc2 hx
      go_wp2
      go_quiet (fail)
      go_wp2
      go_roundw
      case rel => exact ⟨k + 1, _, by omega, by go_num, rfl⟩
      case measure => simp [intOf]; omega
    · obtain rfl : k = l.length := by omega
      go_wp2
      go_ret
      exact ⟨rfl, quiet_i _ _ _⟩

/-- an argument of a law -/
def ArgI (w : World) (a : Option Addr) (l : List Int) : Prop := InI w a l ∧ l.length ≤ maxLen

theorem ArgI.inI {w : World} {a : Option Addr} {l : List Int} (h : ArgI w a l) : InI w a l := h.1
theorem argI_of {w : World} {x : Addr} {l c : Nat} {zs : List Int} (hl : l ≤ c) (hm : c ≤ maxLen) (hz : zs.length = c)
    (hcell : ∀ i, i < zs.length → w.cell? (x.add i) = some (.int .i64 (zs.getD i 0))) : ∃ L : List Int, l = L.length ∧ ArgI w (some x) L := by
  refine ⟨zs.take l, by simp; omega, fun h0 => ?_, by simp; omega⟩
  simp at h0
  obtain ⟨b, off, spot⟩ := x
  have hspot : spot = none := by simpa [Addr.add] using World.cell?_spot (hcell 0 (by omega))
  subst hspot
  refine ⟨b, off, rfl, ?_, fun j y hj => ?_⟩
  · exact World.block_lt_of_cell? w _ (hcell 0 (by omega))
  · obtain ⟨hlt, he⟩ := List.getElem?_eq_some_iff.1 hj
    simp at hlt
    have h1 := hcell j (by omega)
    have h2 : (⟨b, off, none⟩ : Addr).add j = ⟨b, off + j, none⟩ := by unfold Addr.add; split <;> simp_all
    rw [h2] at h1
    rw [h1]
    simp only [List.getElem_take] at he
    rw [← he, List.getD, List.getElem?_eq_getElem (by omega)]
    rfl

end Go.Proofs.YtebddnjccmaimaaGreatDoor

/-
  What the laws' own markIntS and heldIntS do; a slice of integers of the call's own in a span of blocks. By an AI agent.
-/
namespace Go.Proofs.YtebddnjccmaimaaGreatDoor
open Go.RowKit
set_option linter.unusedVariables false

theorem OwnI.below {w w' : World} {base : Nat} {v : Value} {l : List Int} (h : OwnI w base v l) (hb : Below w.heap.size w w') : OwnI w' base v l :=
  World.ownsRow.kept h (row := none) ⟨hb.os, hb.tape, hb.output, hb.size, fun i hi _ => hb.block i hi⟩ (by cases hv : v.ownBlock <;> simp)
theorem OwnI.mono {w : World} {base base' : Nat} {v : Value} {l : List Int} (h : OwnI w base v l) (hb : base' ≤ base) : OwnI w base' v l := by
  refine ⟨h.1, ?_⟩
  rcases h.2 with hn | ⟨g, cap', cur, hv, hbg, rest⟩
  · exact .inl hn
  · exact .inr ⟨g, cap', cur, hv, Nat.le_trans hb hbg, rest⟩
theorem OwnI.nil (w : World) (base : Nat) : OwnI w base (.slice none 0 0) [] := World.ownsRow_nil _ _ _ _

/-- a slice of the call's own, in blocks from lo on and below hi -/
def OwnJ (w : World) (lo hi : Nat) (v : Value) (l : List Int) : Prop := OwnI w lo v l ∧ ∀ k, v.ownBlock = some k → k < hi
theorem OwnJ.of {w w' : World} {a : Option Addr} {cap n : Nat} {l : List Int} (h : OwnI w' w.heap.size (.slice a n cap) l) : OwnJ w' w.heap.size w'.heap.size (.slice a n cap) l :=
  ⟨h, fun k hk => (World.ownsRow.lt h k hk).2⟩
theorem OwnJ.below {w w' : World} {lo hi : Nat} {v : Value} {l : List Int} (h : OwnJ w lo hi v l) (hb : Below w.heap.size w w') : OwnJ w' lo hi v l := ⟨h.1.below hb, h.2⟩
theorem OwnJ.inI {w : World} {lo hi : Nat} {a : Option Addr} {n cap : Nat} {l : List Int} (h : OwnJ w lo hi (.slice a n cap) l) : InI w a l := h.1.inI
/-- what is written into one slice leaves another as it was -/
theorem OwnJ.other {w w' : World} {lo hi lo' hi' : Nat} {v u : Value} {l : List Int} (h : OwnJ w lo hi v l) (hg : w.grownBy w' u.ownBlock) (hu : ∀ k, u.ownBlock = some k → lo' ≤ k ∧ k < hi') (hd : hi ≤ lo' ∨ hi' ≤ lo) : OwnJ w' lo hi v l := by
  refine ⟨World.ownsRow.kept h.1 hg ?_, h.2⟩
  cases hv : v.ownBlock with
  | none => exact .inl rfl
  | some k =>
    refine .inr fun e => ?_
    have h1 := (World.ownsRow.lt h.1 k hv).1
    have h2 := h.2 k hv
    have h3 := hu k e.symm
    omega
theorem OwnJ.row {w : World} {lo hi : Nat} {v : Value} {l : List Int} (h : OwnJ w lo hi v l) : ∀ k, v.ownBlock = some k → lo ≤ k ∧ k < hi := fun k hk => ⟨(World.ownsRow.lt h.1 k hk).1, h.2 k hk⟩
theorem below_rowj {w0 w w' : World} {lo hi : Nat} {v : Value} {l : List Int} (hb : Below w0.heap.size w0 w) (h : OwnJ w lo hi v l) (hg : w.grownBy w' v.ownBlock) (hlo : w0.heap.size ≤ lo) : Below w0.heap.size w0 w' :=
  hb.grown hg hb.size fun k hk => Nat.le_trans hlo (h.row k hk).1

def marksI (k n : Nat) : List Int := (List.range n).map fun i => ((k + i : Nat) : Int)
theorem marksI_length (k n : Nat) : (marksI k n).length = n := by simp [marksI]
theorem marksI_at {k n j : Nat} (h : j < n) : (marksI k n)[j]? = some ((k + j : Nat) : Int) := by simp [marksI, h]
theorem marksI_succ (k n : Nat) : marksI k (n + 1) = marksI k n ++ [((k + n : Nat) : Int)] := by simp [marksI, List.range_succ]
/-- the first k are marked -/
def markW (l : List Int) (k0 k : Nat) : List Value := (marksI k0 k).map encI ++ (l.drop k).map encI
theorem markW_zero (l : List Int) (k0 : Nat) : markW l k0 0 = l.map encI := by simp [markW, marksI]
theorem markW_all (l : List Int) (k0 : Nat) : markW l k0 l.length = (marksI k0 l.length).map encI := by simp [markW]
theorem markW_at {l : List Int} {k0 k : Nat} {x : Int} (h : l[k]? = some x) : (markW l k0 k)[k]? = some (encI x) := by
  unfold markW
  rw [List.getElem?_append_right (by simp [marksI_length]), List.length_map, marksI_length, Nat.sub_self, List.getElem?_map, List.getElem?_drop, Nat.add_zero, h]
  rfl
theorem markW_set {l : List Int} {k0 k : Nat} (hlt : k < l.length) : (markW l k0 k).set k (encI ((k0 + k : Nat) : Int)) = markW l k0 (k + 1) := by
  unfold markW
  rw [List.set_append_right _ _ (by simp [marksI_length]), List.length_map, marksI_length, Nat.sub_self, List.drop_eq_getElem_cons hlt, List.map_cons, List.set_cons_zero, marksI_succ]
  simp
theorem owni_at {w : World} {base : Nat} {a : Option Addr} {n cap : Nat} {xs : List Value} (h : w.ownsRow base 3 1 (.slice a n cap) n xs) (h0 : 0 < n) : ∃ g, a = some ⟨g, 0, none⟩ ∧ g < w.heap.size := by
  rcases h.2 with ⟨_, h1⟩ | ⟨g, cap', cur, hv, hb, hg, _⟩
  · omega
  · simp only [Value.slice.injEq] at hv
    exact ⟨g, hv.1, (Array.getElem?_eq_some_iff.1 hg).1⟩
theorem grownI_trans {a b d : World} {r : Option Nat} (h1 : a.grownBy b r) (h2 : b.grownBy d r) : a.grownBy d r :=
  ⟨h2.os.trans h1.os, h2.tape.trans h1.tape, h2.output.trans h1.output, Nat.le_trans h1.size h2.size, fun k hk hne => (h2.block k (Nat.lt_of_lt_of_le hk h1.size) hne).trans (h1.block k hk hne)⟩

set_option maxRecDepth 100000 in
theorem mark_int (base : Nat) (a : Option Addr) (cap : Nat) (l : List Int) (k0 : Nat) (w : World) (hl : l.length ≤ 4000000) (hk1 : k0 ≤ 4000000) (hown : OwnI w base (.slice a l.length cap) l) :
    Calls Tryz.prog 74 #[.slice a l.length cap, .int .i64 k0] w fun e w' =>
      e = .returned (.int .i64 ((k0 + l.length : Nat) : Int)) ∧ OwnI w' base (.slice a l.length cap) (marksI k0 l.length) ∧ w.grownBy w' (Value.slice a l.length cap).ownBlock := by
  have HOWN := Lib.hid hown
  clear hown
  go_enter Tryz.func74, Tryz.ntmps74
  go_wp2
  go_loopw [1, 5] (fun kk i wr => ∃ k : Nat, k ≤ l.length ∧ i = .int .i64 k ∧ kk = .int .i64 ((k0 + k : Nat) : Int) ∧ wr.ownsRow base 3 1 (.slice a l.length cap) l.length (markW l k0 k) ∧ w.grownBy wr (Value.slice a l.length cap).ownBlock) (fun _ i _ => l.length - (intOf i).toNat)
  case atStart => exact ⟨0, Nat.zero_le _, rfl, by go_num, by rw [markW_zero]; exact HOWN.out, World.grownBy.refl _ _⟩
  case round =>
    obtain ⟨k, hk, rfl, rfl, hrow, hg⟩ := hrel
    by_cases hlt : k < l.length
    · obtain ⟨g, rfl, hgl⟩ := owni_at hrow (by omega)
      have hold : wr.cell? ⟨g, k, none⟩ = some (encI l[k]) := by rw [hrow.cellAt k (by omega)]; exact markW_at (List.getElem?_eq_getElem hlt)
      have hfz : wr.frozen? ⟨g, k, none⟩ = false := hrow.frozenAt k
      have HN := Lib.hid (hrow.stored k (encI ((k0 + k : Nat) : Int)))
      have HG := Lib.hid hg
      clear hrow hg
      go_wp2
      go_roundw
      case rel =>
        refine ⟨k + 1, by omega, by go_num, by go_num, ?_, ?_⟩
        · rw [← markW_set hlt]
          exact HN.out.1
        · exact grownI_trans HG.out HN.out.2
      case measure => simp [intOf]; omega
    · obtain rfl : k = l.length := by omega
      have HROW := Lib.hid hrow
      have HG := Lib.hid hg
      clear hrow hg
      go_wp2
      go_ret
      refine ⟨rfl, ?_, HG.out⟩
      have h := HROW.out
      rw [markW_all] at h
      unfold OwnI
      rw [marksI_length]
      exact h

set_option maxRecDepth 100000 in
theorem held_int (a : Option Addr) (cap n k0 : Nat) (w : World) (hl : n ≤ 4000000) (hk1 : k0 ≤ 4000000) (hin : InI w a (marksI k0 n)) :
    Calls Tryz.prog 75 #[.slice a n cap, .int .i64 k0] w fun e w' => e = .returned (.int .i64 ((k0 + n : Nat) : Int)) ∧ Below w.heap.size w w' := by
  have HIN := Lib.hid hin
  clear hin
  go_enter Tryz.func75, Tryz.ntmps75
  go_wp2
  go_loopw [1, 5] (fun kk i wr => ∃ k : Nat, k ≤ n ∧ i = .int .i64 k ∧ kk = .int .i64 ((k0 + k : Nat) : Int) ∧ Below w.heap.size w wr) (fun _ i _ => n - (intOf i).toNat)
  case atStart => exact ⟨0, Nat.zero_le _, rfl, by go_num, Below.refl _ _⟩
  case round =>
    obtain ⟨k, hk, rfl, rfl, hb⟩ := hrel
    have HB := Lib.hid hb
    clear hb
    by_cases hlt : k < n
    · obtain ⟨b, off, rfl, hbw, hc⟩ := HIN.out (by rw [marksI_length]; omega)
      have hcell : wr.cell? ⟨b, off + k, none⟩ = some (.int .i64 ((k0 + k : Nat) : Int)) := by
        rw [HB.out.cell (p := ⟨b, off + k, none⟩) hbw]
        exact hc k _ (marksI_at hlt)
      clear hc hbw
      go_wp2
      go_roundw
      case rel => exact ⟨k + 1, by omega, by go_num, by go_num, HB.out⟩
      case measure => simp [intOf]; omega
    · obtain rfl : k = n := by omega
      go_wp2
      go_ret
      exact ⟨rfl, HB.out⟩

end Go.Proofs.YtebddnjccmaimaaGreatDoor

/-
  A block of cells that the call stores into; a row of least costs in it. By an AI agent.
-/
namespace Go.Proofs.YtebddnjccmaimaaGreatDoor
open Go.RowKit
set_option linter.unusedVariables false

/-- block g holds the cells cs of type t -/
def BlkV (w : World) (g : Nat) (t : TypeId) (cs : Array Value) : Prop := w.heap[g]? = some (.cells cs t (0, 0))

theorem BlkV.cell {w : World} {g : Nat} {t : TypeId} {cs : Array Value} (h : BlkV w g t cs) (i : Nat) : w.cell? ⟨g, i, none⟩ = cs[i]? := cell_of_row w g i cs t (0, 0) h
theorem BlkV.frozen {w : World} {g : Nat} {t : TypeId} {cs : Array Value} (h : BlkV w g t cs) (i : Nat) : w.frozen? ⟨g, i, none⟩ = false := by
  unfold BlkV at h
  simp [World.frozen?, h]
theorem BlkV.lt {w : World} {g : Nat} {t : TypeId} {cs : Array Value} (h : BlkV w g t cs) : g < w.heap.size := (Array.getElem?_eq_some_iff.1 h).1
theorem BlkV.new (w : World) (t : TypeId) (cs : Array Value) : BlkV (w.alloc (.cells cs t)) w.heap.size t cs := heap_alloc_new w _
theorem BlkV.set_ {w : World} {g : Nat} {t : TypeId} {cs : Array Value} (h : BlkV w g t cs) (i : Nat) (u : Value) : BlkV (w.setCell ⟨g, i, none⟩ u) g t (cs.setIfInBounds i u) := by
  unfold BlkV at h ⊢
  simp [World.setCell, Array.getElem?_modify, h]
theorem BlkV.row {w : World} {g : Nat} {t : TypeId} {cs : Array Value} (h : BlkV w g t cs) (cs' : Array Value) : BlkV (w.setRow g cs') g t cs' := setRow_heap w g cs cs' t (0, 0) h
theorem BlkV.grown {w w' : World} {g : Nat} {t : TypeId} {cs : Array Value} {row : Option Nat} (h : BlkV w g t cs) (hg : w.grownBy w' row) (hne : some g ≠ row) : BlkV w' g t cs := (hg.block g h.lt hne).trans h
theorem BlkV.n {w : World} {g : Nat} {t : TypeId} {cs : Array Value} (h : BlkV w g t cs) (k : Nat) : BlkV (w.drewN k) g t cs := h
theorem BlkV.alloc {w : World} {g : Nat} {t : TypeId} {cs : Array Value} (h : BlkV w g t cs) (o : Obj) : BlkV (w.alloc o) g t cs := h.grown (World.grownBy_alloc w o none) (by simp)
theorem BlkV.below {w w' : World} {g : Nat} {t : TypeId} {cs : Array Value} (h : BlkV w g t cs) (hb : Below w.heap.size w w') : BlkV w' g t cs := (hb.block g h.lt).trans h

theorem egrown_set (w : World) (g i : Nat) (u : Value) : w.grownBy (w.setCell ⟨g, i, none⟩ u) (some g) :=
  ⟨rfl, rfl, rfl, by simp [World.setCell], fun k _ hne => by
    have : k ≠ g := fun e => hne (by rw [e])
    simp [World.setCell, Array.getElem?_modify, Ne.symm this]⟩
theorem egrown_row (w : World) (g : Nat) (cs : Array Value) : w.grownBy (w.setRow g cs) (some g) :=
  ⟨rfl, rfl, rfl, by simp, fun k _ hne => setRow_other w g k cs (fun e => hne (by rw [e]))⟩
theorem egrown_n {a b : World} {row : Option Nat} (h : a.grownBy b row) (n : Nat) : a.grownBy (b.drewN n) row := ⟨h.os, h.tape, h.output, h.size, h.block⟩

theorem belowN {base : Nat} {w w' : World} (h : Below base w w') (n : Nat) : Below base w (w'.drewN n) := ⟨h.os, h.tape, h.output, h.size, h.block⟩
theorem below_grown {base g : Nat} {w0 w w' : World} (h : Below base w0 w) (hg : w.grownBy w' (some g)) (hb : base ≤ g) (hs : base ≤ w.heap.size) : Below base w0 w' :=
  h.grown hg hs (fun k hk => by cases hk; exact hb)

theorem toNat_lt_maxLen {n : Nat} (h : n ≤ 100000) : n ≤ maxLen := by unfold maxLen; omega

def intC (n : Nat) : Value := .int .i64 (n : Int)

/-- the row of A at o, filled from k on; ahead of k the costs behind a byte that is kept or replaced -/
def FillAt (sw : Bool) (A B : List UInt8) (cs0 cs : Array Value) (o k : Nat) : Prop :=
  cs.size = cs0.size ∧ (∀ q, k ≤ q → q ≤ B.length → cs[o + q]? = some (intC (lev sw A (B.drop q)))) ∧
    (∀ q, q < k → cs[o + q]? = some (intC (lev sw A.tail (B.drop (q + 1))))) ∧ ∀ p, p < o ∨ o + B.length + 1 ≤ p → cs[p]? = cs0[p]?

theorem set_at {cs : Array Value} {p : Nat} {u : Value} (h : p < cs.size) : (cs.setIfInBounds p u)[p]? = some u := by
  rw [Array.getElem?_setIfInBounds]; simp [h]
theorem set_ne {cs : Array Value} {p q : Nat} {u : Value} (h : p ≠ q) : (cs.setIfInBounds p u)[q]? = cs[q]? := by
  rw [Array.getElem?_setIfInBounds]; simp [h]

theorem FillAt.set {sw : Bool} {A B : List UInt8} {cs0 cs : Array Value} {o k : Nat} (h : FillAt sw A B cs0 cs o (k + 1)) (hk : k ≤ B.length) (hs : o + B.length < cs0.size) {u : Value} (hu : u = intC (lev sw A (B.drop k))) :
    FillAt sw A B cs0 (cs.setIfInBounds (o + k) u) o k := by
  obtain ⟨h1, h2, h3, h4⟩ := h
  refine ⟨by simp [h1], fun q hq hqB => ?_, fun q hq => ?_, fun p hp => ?_⟩
  · by_cases e : k = q
    · subst e
      rw [set_at (by rw [h1]; omega), hu]
    · rw [set_ne (by omega)]
      exact h2 q (by omega) hqB
  · rw [set_ne (by omega)]
    exact h3 q (by omega)
  · rw [set_ne (by omega)]
    exact h4 p hp
theorem FillAt.same {sw : Bool} {A B : List UInt8} {cs0 cs : Array Value} {o k : Nat} (h : FillAt sw A B cs0 cs o (k + 1)) (hk : k ≤ B.length) (hu : lev sw A.tail (B.drop (k + 1)) = lev sw A (B.drop k)) :
    FillAt sw A B cs0 cs o k := by
  obtain ⟨h1, h2, h3, h4⟩ := h
  refine ⟨h1, fun q hq hqB => ?_, fun q hq => h3 q (by omega), h4⟩
  by_cases e : k = q
  · subst e
    rw [h3 k (by omega), hu]
  · exact h2 q (by omega) hqB
/-- a store at k that is stored over again: the cells of the row are open there -/
def FillOpen (sw : Bool) (A B : List UInt8) (cs0 cs : Array Value) (o k : Nat) (m : Nat) : Prop :=
  FillAt sw A B cs0 (cs.setIfInBounds (o + k) (intC (lev sw A (B.drop k)))) o k ∧ cs.size = cs0.size ∧ cs[o + k]? = some (intC m)

theorem FillAt.opens {sw : Bool} {A B : List UInt8} {cs0 cs : Array Value} {o k : Nat} (h : FillAt sw A B cs0 cs o (k + 1)) (hk : k ≤ B.length) (hs : o + B.length < cs0.size) :
    FillOpen sw A B cs0 cs o k (lev sw A.tail (B.drop (k + 1))) := ⟨h.set hk hs rfl, h.1, h.2.2.1 k (by omega)⟩
theorem FillOpen.set {sw : Bool} {A B : List UInt8} {cs0 cs : Array Value} {o k m : Nat} (h : FillOpen sw A B cs0 cs o k m) (hs : o + k < cs0.size) {u : Value} {m' : Nat} (hu : u = intC m') :
    FillOpen sw A B cs0 (cs.setIfInBounds (o + k) u) o k m' := by
  obtain ⟨h1, h2, h3⟩ := h
  refine ⟨?_, by simp [h2], ?_⟩
  · rw [Array.setIfInBounds_setIfInBounds]
    exact h1
  · rw [set_at (by rw [h2]; exact hs), hu]
theorem FillOpen.far {sw : Bool} {A B : List UInt8} {cs0 cs : Array Value} {o k m : Nat} (h : FillOpen sw A B cs0 cs o k m) (hk : k ≤ B.length) {p : Nat} (hp : o + B.length + 1 ≤ p) : cs[p]? = cs0[p]? := by
  rw [← h.1.2.2.2 p (.inr hp), set_ne (by omega)]
theorem FillOpen.shut {sw : Bool} {A B : List UInt8} {cs0 cs : Array Value} {o k m : Nat} (h : FillOpen sw A B cs0 cs o k m) (hs : o + k < cs0.size) (hm : m = lev sw A (B.drop k)) : FillAt sw A B cs0 cs o k := by
  obtain ⟨h1, h2, h3⟩ := h
  subst hm
  have hlt : o + k < cs.size := by rw [h2]; exact hs
  have e : cs.setIfInBounds (o + k) (intC (lev sw A (B.drop k))) = cs := by
    apply Array.ext_getElem?
    intro p
    by_cases e : o + k = p
    · subst e
      rw [set_at hlt, h3]
    · rw [set_ne e]
  rw [e] at h1
  exact h1

/-- the cells behind copy(row, below[1:]) -/
theorem copied (cs0 : Array Value) (o W : Nat) (hW : 1 ≤ W) (hs : o + 2 * W ≤ cs0.size) : ∃ (l : List Value) (cs1 : Array Value), l.length = W - 1 ∧ (∀ q, q < W - 1 → l[q]? = cs0[o + W + (1 + q)]?) ∧
    cs1 = (cs0.toList.take o ++ l ++ cs0.toList.drop (o + l.length)).toArray ∧ cs1.size = cs0.size ∧ (∀ q, q < W - 1 → cs1[o + q]? = cs0[o + W + (1 + q)]?) ∧
    ∀ p, p < o ∨ o + (W - 1) ≤ p → cs1[p]? = cs0[p]? := by
  have hlen : cs0.toList.length = cs0.size := by simp
  refine ⟨(cs0.toList.drop (o + W + 1)).take (W - 1), _, by simp; omega, fun q hq => ?_, rfl, ?_, fun q hq => ?_, fun p hp => ?_⟩
  · rw [List.getElem?_take_of_lt hq, List.getElem?_drop, Array.getElem?_toList]
    congr 1; omega
  · simp; omega
  · rw [List.getElem?_toArray, List.append_assoc, List.getElem?_append_right (by simp; omega)]
    have e : o + q - (cs0.toList.take o).length = q := by simp; omega
    rw [e, List.getElem?_append_left (by simp; omega), List.getElem?_take_of_lt hq, List.getElem?_drop, Array.getElem?_toList]
    congr 1; omega
  · rw [List.getElem?_toArray]
    rcases hp with hp | hp
    · rw [List.append_assoc, List.getElem?_append_left (by simp; omega), List.getElem?_take_of_lt hp, Array.getElem?_toList]
    · have e2 : ((cs0.toList.drop (o + W + 1)).take (W - 1)).length = W - 1 := by simp; omega
      have e1 : (cs0.toList.take o ++ (cs0.toList.drop (o + W + 1)).take (W - 1)).length = o + (W - 1) := by rw [List.length_append, e2]; simp; omega
      rw [List.getElem?_append_right (by rw [e1]; exact hp), e1, List.getElem?_drop, e2, Array.getElem?_toList]
      congr 1; omega

/-- copy(row, below[1:]) -/
theorem run_copied (w : World) (gc o W : Nat) (src : Addr) (cs0 : Array Value) (l : List Value) (cs1 : Array Value) (hB : BlkV w gc 3 cs0) (hl : l.length = W - 1) (hW : 1 ≤ W) (hs : o + 2 * W ≤ cs0.size)
    (hsrc : ∀ q, q < W - 1 → ∃ n, l[q]? = some (intC n) ∧ w.cell? (src.add q) = some (intC n)) (h1 : cs1 = (cs0.toList.take o ++ l ++ cs0.toList.drop (o + l.length)).toArray) :
    ∃ w2, (Builtin.copy_ #[40, 40] 3 #[.slice (some ⟨gc, o, none⟩) W W, .slice (some src) (W - 1) (W - 1)]).run Tryz.prog w = .ok (goInt l.length) w2 ∧ BlkV w2 gc 3 cs1 ∧ w.grownBy w2 (some gc) := by
  refine ⟨_, run_copy_row Tryz.prog w 40 40 3 3 gc o W W src (W - 1) (W - 1) cs0 3 l Tryz.underlying40 (by kernel_rfl) hB ?_ ?_ ?_ ?_, ?_, ?_⟩
  · rw [hl]
    exact (Nat.min_eq_left (by omega)).symm
  · intro j v hv
    obtain ⟨n, e1, e2⟩ := hsrc j (by rw [← hl]; exact (List.getElem?_eq_some_iff.1 hv).1)
    rw [e2, ← e1, hv]
  · rw [hl]; omega
  · intro v hv
    obtain ⟨j, hj⟩ := List.getElem?_of_mem hv
    obtain ⟨n, e1, e2⟩ := hsrc j (by rw [← hl]; exact (List.getElem?_eq_some_iff.1 hj).1)
    rw [hj] at e1
    cases e1
    rfl
  · rw [h1]; exact hB.row _
  · rw [← h1]; exact egrown_row _ _ _

/-- what lies below the row -/
def BelowAt (sw : Bool) (A B : List UInt8) (cs : Array Value) (o : Nat) : Prop :=
  o + 2 * (B.length + 1) ≤ cs.size ∧ (∀ q, q ≤ B.length → cs[o + (B.length + 1) + q]? = some (intC (lev sw A.tail (B.drop q)))) ∧
    (1 < A.length → o + 3 * (B.length + 1) ≤ cs.size ∧ ∀ q, q ≤ B.length → cs[o + 2 * (B.length + 1) + q]? = some (intC (lev sw A.tail.tail (B.drop q))))

theorem BelowAt.fill {sw : Bool} {A B : List UInt8} {cs0 cs : Array Value} {o k : Nat} (h : BelowAt sw A B cs0 o) (hf : FillAt sw A B cs0 cs o k) : BelowAt sw A B cs o := by
  obtain ⟨h1, h2, h3⟩ := h
  obtain ⟨f1, f2, f3, f4⟩ := hf
  refine ⟨by rw [f1]; exact h1, fun q hq => ?_, fun hA => ⟨by rw [f1]; exact (h3 hA).1, fun q hq => ?_⟩⟩
  · rw [f4 _ (.inr (by omega))]; exact h2 q hq
  · rw [f4 _ (.inr (by omega))]; exact (h3 hA).2 q hq

end Go.Proofs.YtebddnjccmaimaaGreatDoor

/-
  Rows of the call's own of any elements: what is read of them, what is kept; blocks of two and of three cells. By an AI agent.
-/
namespace Go.Proofs.YtebddnjccmaimaaGreatDoor
open Go.RowKit
set_option linter.unusedVariables false

/-- what is written into the blocks from lo on and below hi alone -/
structure Chg (w w' : World) (lo hi : Nat) : Prop where
  os : w'.os = w.os
  tape : w'.tape = w.tape
  output : w'.output = w.output
  size : w.heap.size ≤ w'.heap.size
  block : ∀ k, k < w.heap.size → ¬ (lo ≤ k ∧ k < hi) → w'.heap[k]? = w.heap[k]?
theorem Chg.refl (w : World) (lo hi : Nat) : Chg w w lo hi := ⟨rfl, rfl, rfl, Nat.le_refl _, fun _ _ _ => rfl⟩
theorem Chg.grown {w w1 w2 : World} {lo hi : Nat} {r : Option Nat} (h : Chg w w1 lo hi) (hg : w1.grownBy w2 r) (hr : ∀ k, r = some k → lo ≤ k ∧ k < hi) : Chg w w2 lo hi :=
  ⟨hg.os.trans h.os, hg.tape.trans h.tape, hg.output.trans h.output, Nat.le_trans h.size hg.size, fun k hk hn => (hg.block k (Nat.lt_of_lt_of_le hk h.size) (fun e => hn (hr k e.symm))).trans (h.block k hk hn)⟩
theorem below_chg {w0 w w' : World} {lo hi : Nat} (hb : Below w0.heap.size w0 w) (h : Chg w w' lo hi) (hlo : w0.heap.size ≤ lo) : Below w0.heap.size w0 w' :=
  ⟨h.os.trans hb.os, h.tape.trans hb.tape, h.output.trans hb.output, Nat.le_trans hb.size h.size, fun k hk => (h.block k (Nat.lt_of_lt_of_le hk hb.size) (by omega)).trans (hb.block k hk)⟩
theorem row_chg {w w' : World} {lo hi base : Nat} {e : TypeId} {size n : Nat} {v : Value} {xs : List Value} (h : w.ownsRow base e size v n xs) (hc : Chg w w' lo hi) (hn : ∀ k, v.ownBlock = some k → ¬ (lo ≤ k ∧ k < hi)) : w'.ownsRow base e size v n xs := by
  refine ⟨h.1, ?_⟩
  rcases h.2 with h1 | ⟨g, cap, cur, rfl, hb, hg, rest⟩
  · exact .inl h1
  · exact .inr ⟨g, cap, cur, rfl, hb, (hc.block g (Array.getElem?_eq_some_iff.1 hg).1 (hn g rfl)).trans hg, rest⟩
theorem OwnH.chg {w w' : World} {lo hi lo' hi' : Nat} {v : Value} {l : List Str} (h : OwnH w lo hi v l) (hc : Chg w w' lo' hi') (hd : hi ≤ lo' ∨ hi' ≤ lo) : OwnH w' lo hi v l :=
  ⟨row_chg h.1 hc fun k hk => by have := h.row k hk; omega, h.2⟩
theorem cell_own {w : World} {base : Nat} {e : TypeId} {a : Option Addr} {n cap : Nat} {xs : List Value} (h : w.ownsRow base e 1 (.slice a n cap) n xs) (h0 : 0 < n) : ∃ g, a = some ⟨g, 0, none⟩ ∧ base ≤ g ∧ g < w.heap.size ∧ ∀ j u, xs[j]? = some u → w.cell? ⟨g, 0 + j, none⟩ = some u := by
  rcases h.2 with ⟨_, h1⟩ | ⟨g, cap', cur, hv, hb, hg, _, _, _, ht⟩
  · omega
  · simp only [Value.slice.injEq] at hv
    refine ⟨g, hv.1, hb, (Array.getElem?_eq_some_iff.1 hg).1, fun j u hj => ?_⟩
    have hlt := (List.getElem?_eq_some_iff.1 hj).1
    rw [h.1] at hlt
    rw [Nat.zero_add, cell_of_row w g j cur _ (0, 0) hg, ← Array.getElem?_toList]
    have h2 : (cur.toList.take (n * 1))[j]? = xs[j]? := by rw [ht]
    rw [List.getElem?_take_of_lt hlt] at h2
    rw [h2, hj]

theorem row_mono {w : World} {base base' : Nat} {e : TypeId} {size n : Nat} {v : Value} {xs : List Value} (h : w.ownsRow base e size v n xs) (hb : base' ≤ base) : w.ownsRow base' e size v n xs := by
  refine ⟨h.1, ?_⟩
  rcases h.2 with hn | ⟨g, cap', cur, hv, hbg, rest⟩
  · exact .inl hn
  · exact .inr ⟨g, cap', cur, hv, Nat.le_trans hb hbg, rest⟩
theorem rowX_none {w : World} {base : Nat} {e : TypeId} {size : Nat} {a : Option Addr} {n cap : Nat} {xs : List Value} (h : w.ownsRow base e size (.slice a n cap) n xs) : a = none → cap = 0 := by
  intro e
  rcases h.2 with ⟨hv, h1⟩ | ⟨g, cap', cur, hv, _⟩
  · simp only [Value.slice.injEq] at hv
    exact hv.2.2
  · simp only [Value.slice.injEq] at hv
    rw [e] at hv
    cases hv.1
theorem rowX_cap {w : World} {base : Nat} {e : TypeId} {size : Nat} {a : Option Addr} {n cap : Nat} {xs : List Value} (h : w.ownsRow base e size (.slice a n cap) n xs) : n ≤ cap := by
  rcases h.2 with ⟨hv, h1⟩ | ⟨g, cap', cur, hv, _, _, h2, _⟩
  · omega
  · simp only [Value.slice.injEq] at hv
    omega
theorem rowX_at {w : World} {base : Nat} {e : TypeId} {size : Nat} {a : Option Addr} {n cap : Nat} {xs : List Value} (h : w.ownsRow base e size (.slice a n cap) n xs) (h0 : 0 < n) : ∃ g, a = some ⟨g, 0, none⟩ ∧ base ≤ g ∧ g < w.heap.size ∧ ∀ (j : Nat) (u : Value), xs[j]? = some u → w.cell? ⟨g, 0 + j, none⟩ = some u := by
  rcases h.2 with ⟨_, h1⟩ | ⟨g, cap', cur, hv, hb, hg, _, _, _, ht⟩
  · omega
  · simp only [Value.slice.injEq] at hv
    refine ⟨g, hv.1, hb, (Array.getElem?_eq_some_iff.1 hg).1, fun j u hj => ?_⟩
    have hlt := (List.getElem?_eq_some_iff.1 hj).1
    rw [h.1] at hlt
    rw [Nat.zero_add, cell_of_row w g j cur _ (0, 0) hg, ← Array.getElem?_toList]
    have h2 : (cur.toList.take (n * size))[j]? = xs[j]? := by rw [ht]
    rw [List.getElem?_take_of_lt hlt] at h2
    rw [h2, hj]

theorem BlkV.two0 {w : World} {g : Nat} {t : TypeId} {a b : Value} (h : BlkV w g t #[a, b]) : w.cell? ⟨g, 0, none⟩ = some a := h.cell 0
theorem BlkV.two1 {w : World} {g : Nat} {t : TypeId} {a b : Value} (h : BlkV w g t #[a, b]) : w.cell? ⟨g, 1, none⟩ = some b := h.cell 1
theorem BlkV.three0 {w : World} {g : Nat} {t : TypeId} {a b c : Value} (h : BlkV w g t #[a, b, c]) : w.cell? ⟨g, 0, none⟩ = some a := h.cell 0
theorem BlkV.three1 {w : World} {g : Nat} {t : TypeId} {a b c : Value} (h : BlkV w g t #[a, b, c]) : w.cell? ⟨g, 1, none⟩ = some b := h.cell 1
theorem BlkV.three2 {w : World} {g : Nat} {t : TypeId} {a b c : Value} (h : BlkV w g t #[a, b, c]) : w.cell? ⟨g, 2, none⟩ = some c := h.cell 2
theorem BlkV.other {w : World} {g : Nat} {t : TypeId} {cs : Array Value} (h : BlkV w g t cs) (p : Addr) (u : Value) (hne : g ≠ p.block) : BlkV (w.setCell p u) g t cs := (Below.heap_setCell w p u g hne).trans h
theorem BlkV.new_ (w : World) (t : TypeId) (cs : Array Value) (g : Nat) (hg : w.heap.size = g) : BlkV (w.alloc (.cells cs t)) g t cs := by subst hg; exact BlkV.new w t cs
theorem row_setCell {w : World} {base : Nat} {e : TypeId} {size n : Nat} {v : Value} {xs : List Value} (h : w.ownsRow base e size v n xs) (p : Addr) (u : Value) (hp : p.block < base) : (w.setCell p u).ownsRow base e size v n xs := by
  refine World.ownsRow.kept (w' := w.setCell p u) h (row := some p.block) ⟨rfl, rfl, rfl, by simp [World.setCell], fun i hi hne => Below.heap_setCell w p u i (fun e => hne (by rw [e]))⟩ ?_
  cases hv : v.ownBlock with
  | none => exact .inl rfl
  | some k =>
    refine .inr fun e => ?_
    have h1 := (World.ownsRow.lt h k hv).1
    simp only [Option.some.injEq] at e
    omega
theorem gap2_at {p : List Value} {k : Nat} {y0 y1 : Value} {r : List Value} (h : p.length = k * 2) : (p ++ y0 :: y1 :: r)[k * 2]? = some y0 ∧ (p ++ y0 :: y1 :: r)[k * 2 + 1]? = some y1 := by
  constructor
  · rw [List.getElem?_append_right (by omega), h, Nat.sub_self]; rfl
  · rw [List.getElem?_append_right (by omega), h, show k * 2 + 1 - k * 2 = 1 by omega]; rfl
theorem gap2_set {p : List Value} {k : Nat} {y0 y1 u0 u1 : Value} {r : List Value} (h : p.length = k * 2) : ((p ++ y0 :: y1 :: r).set (k * 2) u0).set (k * 2 + 1) u1 = (p ++ [u0, u1]) ++ r := by
  rw [List.set_append_right _ _ (by omega), h, Nat.sub_self, List.set_append_right _ _ (by omega), h, show k * 2 + 1 - k * 2 = 1 by omega]
  simp
theorem gap2_rest {p rest : List Value} {k n : Nat} (h : (p ++ rest).length = n * 2) (hp : p.length = k * 2) (hk : k < n) : ∃ y0 y1 r, rest = y0 :: y1 :: r := by
  rw [List.length_append, hp] at h
  match rest, h with
  | [], h => simp at h; omega
  | [_], h => simp at h; omega
  | y0 :: y1 :: r, _ => exact ⟨y0, y1, r, rfl⟩

theorem row_keptO {w w' : World} {base : Nat} {e : TypeId} {size n : Nat} {v : Value} {xs : List Value} {r : Option Nat} (h : w.ownsRow base e size v n xs) (hg : w.grownBy w' r) (hn : ∀ k, r = some k → v.ownBlock ≠ some k) : w'.ownsRow base e size v n xs := by
  refine World.ownsRow.kept h hg ?_
  cases hv : v.ownBlock with
  | none => exact .inl rfl
  | some k => exact .inr fun e => hn k e.symm hv
theorem Chg.trans {w w1 w2 : World} {lo hi : Nat} (h : Chg w w1 lo hi) (h' : Chg w1 w2 lo hi) : Chg w w2 lo hi :=
  ⟨h'.os.trans h.os, h'.tape.trans h.tape, h'.output.trans h.output, Nat.le_trans h.size h'.size, fun k hk hn => (h'.block k (Nat.lt_of_lt_of_le hk h.size) hn).trans (h.block k hk hn)⟩
theorem row_block {w w' : World} {base : Nat} {e : TypeId} {size n : Nat} {v : Value} {xs : List Value} (h : w.ownsRow base e size v n xs) (hb : ∀ k, v.ownBlock = some k → w'.heap[k]? = w.heap[k]?) : w'.ownsRow base e size v n xs := by
  refine ⟨h.1, ?_⟩
  rcases h.2 with h1 | ⟨g, cap, cur, rfl, hbg, hg, rest⟩
  · exact .inl h1
  · exact .inr ⟨g, cap, cur, rfl, hbg, (hb g rfl).trans hg, rest⟩

theorem row_kept {w w' : World} {base : Nat} {v : Value} {l : List Str} {g : Nat} (h : OwnS w base v l) (hg : w.grownBy w' (some g)) (hn : ∀ k, v.ownBlock = some k → k ≠ g) : OwnS w' base v l := by
  refine World.ownsRow.kept h hg ?_
  cases hv : v.ownBlock with
  | none => exact .inl rfl
  | some k => exact .inr fun e => hn k hv (by injection e)
theorem snoc_at {α : Type} {vs : List α} {u x : α} {j : Nat} (h : (vs ++ [u])[j]? = some x) : vs[j]? = some x ∨ (j = vs.length ∧ x = u) := by
  rcases Nat.lt_or_ge j vs.length with hlt | hge
  · rw [List.getElem?_append_left hlt] at h; exact .inl h
  · rw [List.getElem?_append_right hge] at h
    have : j - vs.length = 0 := by have := (List.getElem?_eq_some_iff.1 h).1; simp at this; omega
    rw [this] at h
    simp at h
    exact .inr ⟨by omega, h.symm⟩
theorem ss_row_at {vs rest : List Value} {k n : Nat} (h : (vs ++ rest).length = n) (hv : vs.length = k) (hk : k < n) : ∃ y r, rest = y :: r ∧ (vs ++ y :: r)[k]? = some y ∧ ∀ u, (vs ++ y :: r).set k u = (vs ++ [u]) ++ r := by
  match rest, h with
  | [], h => simp at h; omega
  | y :: r, _ =>
    refine ⟨y, r, rfl, ?_, fun u => ?_⟩
    · rw [List.getElem?_append_right (by omega), hv, Nat.sub_self]; rfl
    · rw [List.set_append_right _ _ (by omega), hv, Nat.sub_self, List.set_cons_zero]; simp

theorem two_cells (w : World) (x y : Value) (T : TypeId) : ∀ j u, [x, y][j]? = some u → (w.alloc (.cells #[x, y] T)).cell? ((⟨w.heap.size, 0, none⟩ : Addr).add j) = some u := by
  intro j u hj
  match j, hj with
  | 0, hj => simp at hj; subst hj; simp [go_sem, Addr.add]
  | 1, hj => simp at hj; subst hj; simp [go_sem, Addr.add]
/-- what is written into blocks that are newer changes nothing -/
theorem Chg.high {w w1 w2 : World} {lo hi : Nat} {r : Option Nat} (h : Chg w w1 lo hi) (hg : w1.grownBy w2 r) (hr : ∀ k, r = some k → (lo ≤ k ∧ k < hi) ∨ w.heap.size ≤ k) : Chg w w2 lo hi :=
  ⟨hg.os.trans h.os, hg.tape.trans h.tape, hg.output.trans h.output, Nat.le_trans h.size hg.size, fun k hk hn => (hg.block k (Nat.lt_of_lt_of_le hk h.size) (fun e => by rcases hr k e.symm with h1 | h1; exact hn h1; omega)).trans (h.block k hk hn)⟩
theorem Chg.belowR {w w1 w2 : World} {lo hi : Nat} (h : Chg w w1 lo hi) (hb : Below w1.heap.size w1 w2) : Chg w w2 lo hi :=
  ⟨hb.os.trans h.os, hb.tape.trans h.tape, hb.output.trans h.output, Nat.le_trans h.size hb.size, fun k hk hn => (hb.block k (Nat.lt_of_lt_of_le hk h.size)).trans (h.block k hk hn)⟩

end Go.Proofs.YtebddnjccmaimaaGreatDoor

/-
  The values and letters of a list of lists of strings. By an AI agent.
-/
namespace Go.Proofs.YtebddnjccmaimaaGreatDoor
open Go.RowKit
set_option linter.unusedVariables false

/-- the values and letters of the lists -/
def yzT (ls : List (List Str)) (k : Nat) : Nat := ls.length + ((ls.take k).map szL).sum
def yzL (ls : List (List Str)) : Nat := yzT ls ls.length
theorem ss_take {ls : List (List Str)} {k : Nat} {l : List Str} (h : ls[k]? = some l) : ls.take (k + 1) = ls.take k ++ [l] := by
  obtain ⟨hlt, he⟩ := List.getElem?_eq_some_iff.1 h
  rw [List.take_succ_eq_append_getElem hlt, he]
theorem yzT_succ {ls : List (List Str)} {k : Nat} {l : List Str} (h : ls[k]? = some l) : yzT ls (k + 1) = yzT ls k + szL l := by
  unfold yzT
  rw [ss_take h]
  simp
  omega
theorem yzT_le {ls : List (List Str)} {j k : Nat} (h : j ≤ k) : yzT ls j ≤ yzT ls k := by
  obtain ⟨d, rfl⟩ : ∃ d, k = j + d := ⟨k - j, by omega⟩
  unfold yzT
  rw [List.take_add]
  simp
theorem yzL_len (ls : List (List Str)) : ls.length ≤ yzL ls := by unfold yzL yzT; omega
theorem yzL_mem {ls : List (List Str)} {l : List Str} (h : l ∈ ls) : szL l ≤ yzL ls := by
  obtain ⟨k, hk⟩ := List.getElem?_of_mem h
  have h1 := yzT_succ hk
  have h2 := yzT_le (ls := ls) (show k + 1 ≤ ls.length from (List.getElem?_eq_some_iff.1 hk).1)
  unfold yzL
  omega
theorem flat_sum (ls : List (List Str)) : ls.flatten.length ≤ (ls.map szL).sum := by
  induction ls with
  | nil => simp
  | cons l ls ih =>
    have := szL_len l
    simp only [List.flatten_cons, List.length_append, List.map_cons, List.sum_cons]
    omega
theorem yzL_flat (ls : List (List Str)) : ls.flatten.length ≤ yzL ls := by
  have h := flat_sum ls
  unfold yzL yzT
  rw [List.take_length]
  omega
theorem yz_len {ls : List (List Str)} (hs : yzL ls ≤ 1048576) : ls.length ≤ 4000000 := by have := yzL_len ls; omega
def yzR (ls : List (List Str)) (left : Nat) : Int := if yzL ls ≤ left then (left : Int) - (yzL ls : Int) else -1
theorem yzR_yes {ls : List (List Str)} {left : Nat} (h : yzL ls ≤ left) : yzR ls left = ((left - yzL ls : Nat) : Int) := by unfold yzR; rw [if_pos h]; omega
theorem yzR_no {ls : List (List Str)} {left : Nat} (h : ¬ yzL ls ≤ left) : yzR ls left = -1 := by unfold yzR; rw [if_neg h]

theorem szR_cases (l : List Str) (left : Nat) : (szR l left = -1 ∧ ¬ szL l ≤ left) ∨ (szR l left = ((left - szL l : Nat) : Int) ∧ szL l ≤ left) := by
  by_cases h : szL l ≤ left
  · exact .inr ⟨szR_yes h, h⟩
  · exact .inl ⟨szR_no h, h⟩

end Go.Proofs.YtebddnjccmaimaaGreatDoor

