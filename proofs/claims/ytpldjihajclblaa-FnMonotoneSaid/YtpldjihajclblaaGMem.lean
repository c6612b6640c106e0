/-
  Texts laid together: OwnBytes, SpecIn, Ints, LIn, StrS, EncVar, StrT, IntT, IntM, EdBlk, RowX, Undrew, StrE, Bounds, HeldE. By an AI agent.
-/
import Derived.Test.YtpldjihajclblaaRows
import Derived.WalkKit
import Derived.WalkSpells
import Derived.WalkLawsBesides
import Derived.Lib.Hide
import Derived.Lib.UnsafeStr
import Derived.Laws.IdiomStrings
import Derived.Laws.BytesArg
import Derived.Below
import Derived.BigQuiet
import Derived.Deep.QuietTactic
import Derived.Test.YtpldjihajclblaaGPlain
import Derived.OwnWalk
import Derived.Laws.OwnMore
import Derived.Maps.AppendAt
import Derived.Sort.EncStr
import Derived.Deep.RegionHeld3
import Derived.Laws.CopyRow
import Derived.Laws.AppendOwn
import Derived.StillTail
/-
  A slice of bytes that the call made itself: what append of one byte leaves, and what string(b) gives. By an AI agent.
-/
namespace Go.Proofs.Ytpldjihajclblaa
open Go.RowKit
set_option linter.unusedVariables false

def OwnB (w : World) (base : Nat) (v : Value) (l : List UInt8) : Prop := w.ownsRow base 5 1 v l.length (Lib.byteCells l)

theorem info_u8 : (Try.prog.info? 5).map (fun i => (i.zero, i.size, i.bytes)) = some (some (.int .u8 0), 1, 1) := by kernel_rfl

theorem OwnB.nil (w : World) (base : Nat) : OwnB w base (.slice none 0 0) [] := World.ownsRow_nil _ _ _ _

theorem OwnB.made (w : World) (base : Nat) (cur : Array Value) (cap : Nat) (hb : base ≤ w.heap.size) (hm : cap ≤ maxLen) (hs : cur.size = cap) :
    OwnB (w.alloc (.cells cur 5)) base (.slice (some ⟨w.heap.size, 0, none⟩) 0 cap) [] :=
  World.ownsRow_made w cur cap hb hm (by omega)

theorem OwnB.alloc {w : World} {base : Nat} {v : Value} {l : List UInt8} (h : OwnB w base v l) (o : Obj) : OwnB (w.alloc o) base v l := World.ownsRow.alloc h o

/-- string(b) of a slice of the call's own. -/
theorem OwnB.convert {w : World} {base : Nat} {v : Value} {l : List UInt8} (h : OwnB w base v l) :
    (convert 22 9 v).run Try.prog w = .ok (.string ⟨l.toArray⟩) w := by
  have h2 := h.2
  rcases h2 with ⟨rfl, h0⟩ | ⟨g, cap, cur, rfl, -, -, -, -, -, -⟩
  · obtain rfl : l = [] := List.eq_nil_of_length_eq_zero h0
    exact run_convert_bytes_nil w 22 5 Try.underlying22 Try.underlying5 _ _ _ Try.underlying9
  · exact run_convert_bytes_back (P := Try.prog) w 22 9 5 ⟨g, 0, none⟩ cap l Try.underlying22 Try.underlying5 Try.underlying9
      (fun j hj => World.ownsRow.cells h (g := g) rfl j _ (by simp [Lib.byteCells, hj]))

theorem ofNat_toNat_int (x : Int) (h0 : 0 ≤ x) (h1 : x ≤ 255) : ((UInt8.ofNat x.toNat).toNat : Int) = x := by
  rw [UInt8.toNat_ofNat']
  have : x.toNat < 256 := by omega
  rw [show 2 ^ 8 = 256 from rfl, Nat.mod_eq_of_lt this]
  omega

/-- append of one byte, which lies in a new block of one cell. -/
theorem append_byte {ops : Array Oper} {rest : List Oper} {o : Oper} {a : Act} {Q : Exit → Act → World → Prop} {w0 : World} (hgd : o.guard = none) (s y : Operand)
    (ho : o.op = .call { callee := .builtin .append, args := #[s, y], argTypes := #[22, 22] })
    (base : Nat) (v : Value) (l : List UInt8) (x : Int) (hown : OwnB w0 base v l) (hs : a.eval s = v)
    (hy : a.eval y = .slice (some ⟨w0.heap.size, 0, none⟩) 1 1) (h0 : 0 ≤ x) (h1 : x ≤ 255) (hlen : l.length ≤ 70368744177664) (hbase : base ≤ w0.heap.size)
    (h : ∀ v' w', OwnB w' base v' (l ++ [UInt8.ofNat x.toNat]) → Below base w0 w' → wpList Try.prog ops Q rest (a.put o.dst v') w') :
    wpList Try.prog ops Q (o :: rest) a (w0.alloc (.cells #[.int .u8 x] 5)) := by
  obtain ⟨i0, hi, hz0, hz1, hz2⟩ := info_parts info_u8
  refine wpList_append_own _ hgd s y 22 ho base 5 i0 (.int .u8 0) 1 1 Try.underlying22 hi hz0 hz1 hz2 rfl (by decide) v l.length (Lib.byteCells l) hs (World.ownsRow.alloc hown _)
    ⟨w0.heap.size, 0, none⟩ 1 1 [.int .u8 x] hy rfl ?_ ?_ (by unfold maxLen; omega) (by omega) (by simp; omega) ?_
  · intro j u hj
    match j, hj with
    | 0, hj => simp at hj; subst hj; simp [Addr.add, World.cell?_alloc_at _ _ _ _ rfl]
  · intro u hu
    simp at hu
    subst hu
    rfl
  · intro v' w' h2 h3 _
    refine h v' w' ?_ ?_
    · have e1 : (l ++ [UInt8.ofNat x.toNat]).length = l.length + 1 := by simp
      have e2 : Lib.byteCells (l ++ [UInt8.ofNat x.toNat]) = Lib.byteCells l ++ [.int .u8 x] := by
        simp only [Lib.byteCells, List.map_append, List.map_cons, List.map_nil, ofNat_toNat_int x h0 h1]
      unfold OwnB
      rw [e1, e2]
      exact h2
    · exact ((Below.refl base w0).alloc hbase _).grown h3 (by simp; omega) (fun k hk => (World.ownsRow.lt hown k hk).1)

/-- string([]byte{x}). -/
theorem convert_one (w0 : World) (x : Int) (h0 : 0 ≤ x) (h1 : x ≤ 255) :
    (convert 22 9 (.slice (some ⟨w0.heap.size, 0, none⟩) 1 1)).run Try.prog (w0.alloc (.cells #[.int .u8 x] 5)) =
      .ok (.string ⟨#[UInt8.ofNat x.toNat]⟩) (w0.alloc (.cells #[.int .u8 x] 5)) := by
  have h := run_convert_bytes_back (P := Try.prog) (w0.alloc (.cells #[.int .u8 x] 5)) 22 9 5 ⟨w0.heap.size, 0, none⟩ 1 [UInt8.ofNat x.toNat] Try.underlying22 Try.underlying5 Try.underlying9
      (fun j hj => by
        obtain rfl : j = 0 := by simpa using hj
        simp [Addr.add, World.cell?_alloc_at _ _ _ _ rfl]
        have := ofNat_toNat_int x h0 h1
        simpa using this.symm)
  exact h

/-- make([]byte, n, c). -/
theorem make_bytes (w : World) (n c : Nat) (hl : n ≤ c) (hc : c ≤ 140737488355328) :
    (Instr.makeSlice 22 (.int .i64 (n : Int)) (.int .i64 (c : Int))).run Try.prog w = .ok (.slice (some ⟨w.heap.size, 0, none⟩) n c) (w.alloc (.cells (madeCells #[.int .u8 0] c) 5)) := by
  obtain ⟨i0, hi, hz0, hz1, hz2⟩ := info_parts info_u8
  have h := run_make (P := Try.prog) w 22 5 i0 (.int .u8 0) Try.underlying22 hi hz0 .i64 .i64 (n : Int) (c : Int) (by omega) (by omega) (by rw [hz2]; omega) (by omega)
  simp only [Int.toNat_natCast, hz1, Nat.mul_one] at h
  exact h

theorem OwnB.made0 (w : World) (base c : Nat) (hb : base ≤ w.heap.size) (hc : c ≤ maxLen) :
    OwnB (w.alloc (.cells (madeCells #[.int .u8 0] c) 5)) base (.slice (some ⟨w.heap.size, 0, none⟩) 0 c) [] :=
  OwnB.made w base _ c hb hc (size_madeCells _ _)

end Go.Proofs.Ytpldjihajclblaa

/-
  What spec.l1In answers. By an AI agent.
-/
namespace Go.Proofs.Ytpldjihajclblaa
open Go.RowKit
set_option linter.unusedVariables false

theorem l1In_yes (x a b : Int) (w : World) (h1 : a ≤ x) (h2 : x ≤ b) :
    Calls Try.prog 25 #[.int .i64 x, .int .i64 a, .int .i64 b] w fun e w' => e = .returned (.bool true) ∧ w = w' := by
  go_enter Try.func25, Try.ntmps25
  go_wp2
  go_ret
  exact ⟨by first | rfl | simp, rfl⟩

theorem l1In_no (x a b : Int) (w : World) (h : ¬ (a ≤ x ∧ x ≤ b)) :
    Calls Try.prog 25 #[.int .i64 x, .int .i64 a, .int .i64 b] w fun e w' => e = .returned (.bool false) ∧ w = w' := by
  by_cases h1 : a ≤ x
  · have h2 : decide (x ≤ b) = false := by simp; omega
    clear h
    go_enter Try.func25, Try.ntmps25
    go_wp2
    go_ret
    exact ⟨rfl, rfl⟩
  · clear h
    go_enter Try.func25, Try.ntmps25
    go_wp2
    go_ret
    exact ⟨rfl, rfl⟩

end Go.Proofs.Ytpldjihajclblaa

/-
  Slices of integers: one that reads as a list; what impl.allWithin answers. By an AI agent.
-/
namespace Go.Proofs.Ytpldjihajclblaa
open Go.RowKit
set_option linter.unusedVariables false

/-- a slice whose elements are the integers of a list -/
def InI (w : World) (a : Option Addr) (l : List Int) : Prop :=
  0 < l.length → ∃ b off, a = some ⟨b, off, none⟩ ∧ b < w.heap.size ∧ ∀ j x, l[j]? = some x → w.cell? ⟨b, off + j, none⟩ = some (.int .i64 x)

theorem InI.keep {w w' : World} {a : Option Addr} {l : List Int} (h : InI w a l) (hs : w.heap.size ≤ w'.heap.size) (hk : ∀ b off, a = some ⟨b, off, none⟩ → b < w.heap.size → w'.heap[b]? = w.heap[b]?) : InI w' a l := by
  intro h0
  obtain ⟨b, off, ha, hb, hc⟩ := h h0
  exact ⟨b, off, ha, Nat.lt_of_lt_of_le hb hs, fun j x hj => (World.cell?_of_block (hk b off ha hb)).trans (hc j x hj)⟩
theorem InI.below {w w' : World} {a : Option Addr} {l : List Int} (h : InI w a l) (hb : Below w.heap.size w w') : InI w' a l :=
  h.keep hb.size fun b _ _ hlt => hb.block b hlt
theorem InI.alloc {w : World} {a : Option Addr} {l : List Int} (h : InI w a l) (o : Obj) : InI (w.alloc o) a l := h.below ((Below.refl _ _).alloc (Nat.le_refl _) o)
theorem InI.new (w : World) (l : List Int) : InI (w.alloc (.cells (l.map fun z => Value.int .i64 z).toArray 3)) (some ⟨w.heap.size, 0, none⟩) l := by
  intro h0
  refine ⟨w.heap.size, 0, rfl, by simp, fun j x hj => ?_⟩
  rw [World.cell?_alloc_at _ _ _ _ rfl]
  simp [hj]

/-- every number lies from lo to hi -/
def withinB (lo hi : Int) (l : List Int) : Bool := l.all fun x => decide (lo ≤ x) && decide (x ≤ hi)
theorem within_zero (lo hi : Int) (l : List Int) : withinB lo hi (l.take 0) = true := by simp [withinB]
theorem within_yes {lo hi x : Int} {l : List Int} {k : Nat} (h : withinB lo hi (l.take k) = true) (hx : l[k]? = some x) (h1 : lo ≤ x) (h2 : x ≤ hi) : withinB lo hi (l.take (k + 1)) = true := by
  obtain ⟨hlt, he⟩ := List.getElem?_eq_some_iff.1 hx
  rw [List.take_succ_eq_append_getElem hlt, he]
  unfold withinB at h ⊢
  rw [List.all_append, h]
  simp [h1, h2]
theorem within_no {lo hi x : Int} {l : List Int} (hx : x ∈ l) (h : ¬ (lo ≤ x ∧ x ≤ hi)) : withinB lo hi l = false := by
  rw [Bool.eq_false_iff]
  intro e
  have h1 := List.all_eq_true.1 e x hx
  simp at h1
  exact h h1
theorem within_mem {lo hi x : Int} {l : List Int} (h : withinB lo hi l = true) (hx : x ∈ l) : lo ≤ x ∧ x ≤ hi := by
  have h1 := List.all_eq_true.1 h x hx
  simpa using h1

theorem iret_bool {a b : Bool} (h : a = b) : Ending.returned (.bool a) = .returned (.bool b) := by rw [h]
theorem iret_int {k : IntKind} {a b : Int} (h : a = b) : Ending.returned (.int k a) = .returned (.int k b) := by rw [h]

set_option maxRecDepth 100000 in
theorem within_is (lo hi : Int) (a : Option Addr) (cap : Nat) (l : List Int) (r : Bool) (w : World) (hl : l.length ≤ 4000000) (hin : InI w a l) (hr : withinB lo hi l = r) :
    Calls Try.prog 34 #[.int .i64 lo, .int .i64 hi, .slice a l.length cap] w fun e w' => e = .returned (.bool r) ∧ w' = w := by
  have HR := Lib.hid hr
  have HIN := Lib.hid hin
  clear hr hin
  go_enter Try.func34, Try.ntmps34
  go_wp2
  go_loop [11] (fun i => ∃ k : Nat, k ≤ l.length ∧ i = .int .i64 k ∧ withinB lo hi (l.take k) = true) (fun i => l.length - (intOf i).toNat)
  case atStart => exact ⟨0, Nat.zero_le _, rfl, within_zero _ _ _⟩
  case round =>
    obtain ⟨k, hk, rfl, hw⟩ := hrel
    have HW := Lib.hid hw
    clear hw
    by_cases hlt : k < l.length
    · obtain ⟨b, off, rfl, hb, hc⟩ := HIN.out (by omega)
      obtain ⟨x, hx⟩ : ∃ x, l[k]? = some x := ⟨_, List.getElem?_eq_getElem hlt⟩
      have hcell : w.cell? ⟨b, off + k, none⟩ = some (.int .i64 x) := hc k x hx
      have HX := Lib.hid hx
      clear hc hx
      by_cases h1 : lo ≤ x
      · by_cases h2 : x ≤ hi
        · go_wp2
          go_round
          case rel => exact ⟨k + 1, by omega, by go_num, within_yes HW.out HX.out h1 h2⟩
          case measure => simp [intOf]; omega
        · go_wp2
          go_ret
          exact ⟨iret_bool (by rw [← HR.out, within_no (List.mem_of_getElem? HX.out) (fun e => by omega)]), rfl⟩
      · go_wp2
        go_ret
        exact ⟨iret_bool (by rw [← HR.out, within_no (List.mem_of_getElem? HX.out) (fun e => by omega)]), rfl⟩
    · obtain rfl : k = l.length := by omega
      go_wp2
      go_ret
      exact ⟨iret_bool (by have := HW.out; rw [List.take_length, HR.out] at this; exact this.symm), rfl⟩

end Go.Proofs.Ytpldjihajclblaa

/-
  spec.l1In under a decided test. By an AI agent.
-/
namespace Go.Proofs.Ytpldjihajclblaa
open Go.RowKit

theorem cl1In (x a b : Int) (r : Bool) (w : World) (h : decide (a ≤ x ∧ x ≤ b) = r) :
    Calls Try.prog 25 #[.int .i64 x, .int .i64 a, .int .i64 b] w fun e w' => e = .returned (.bool r) ∧ w' = w := by
  cases r with
  | true =>
    have h1 := of_decide_eq_true h
    exact (l1In_yes x a b w h1.1 h1.2).mono fun e w' k => ⟨k.1, k.2.symm⟩
  | false => exact (l1In_no x a b w (of_decide_eq_false h)).mono fun e w' k => ⟨k.1, k.2.symm⟩

end Go.Proofs.Ytpldjihajclblaa

/-
  Slices of strings: one that reads as a list, one of the call's own; what the laws' own szStringS, toStringS and eqStringS do. By an AI agent.
-/
namespace Go.Proofs.Ytpldjihajclblaa
open Go.RowKit
set_option linter.unusedVariables false

/-- a slice whose elements are the strings of a list -/
def InS (w : World) (a : Option Addr) (l : List Str) : Prop :=
  0 < l.length → ∃ b off, a = some ⟨b, off, none⟩ ∧ b < w.heap.size ∧ ∀ j x, l[j]? = some x → w.cell? ⟨b, off + j, none⟩ = some (encStr x)

/-- a slice of the call's own -/
def OwnS (w : World) (base : Nat) (v : Value) (l : List Str) : Prop := w.ownsRow base 9 1 v l.length (l.map encStr)

theorem info_str : (Try.prog.info? 9).map (fun i => (i.zero, i.size, i.bytes)) = some (some (.string ⟨#[]⟩), 1, 16) := by kernel_rfl

theorem InS.keep {w w' : World} {a : Option Addr} {l : List Str} (h : InS w a l) (hs : w.heap.size ≤ w'.heap.size) (hk : ∀ b off, a = some ⟨b, off, none⟩ → b < w.heap.size → w'.heap[b]? = w.heap[b]?) : InS w' a l := by
  intro h0
  obtain ⟨b, off, ha, hb, hc⟩ := h h0
  exact ⟨b, off, ha, Nat.lt_of_lt_of_le hb hs, fun j x hj => (World.cell?_of_block (hk b off ha hb)).trans (hc j x hj)⟩
theorem InS.below {w w' : World} {a : Option Addr} {l : List Str} (h : InS w a l) (hb : Below w.heap.size w w') : InS w' a l :=
  h.keep hb.size fun b _ _ hlt => hb.block b hlt
theorem InS.alloc {w : World} {a : Option Addr} {l : List Str} (h : InS w a l) (o : Obj) : InS (w.alloc o) a l := h.below ((Below.refl _ _).alloc (Nat.le_refl _) o)

theorem OwnS.shape {w : World} {base : Nat} {v : Value} {l : List Str} (h : OwnS w base v l) : ∃ a cap, v = .slice a l.length cap := by
  rcases h.2 with ⟨rfl, h0⟩ | ⟨g, cap, cur, rfl, _⟩
  · exact ⟨none, 0, by rw [h0]⟩
  · exact ⟨_, _, rfl⟩
theorem OwnS.inS {w : World} {base : Nat} {a : Option Addr} {n cap : Nat} {l : List Str} (h : OwnS w base (.slice a n cap) l) : InS w a l := by
  intro h0
  rcases h.2 with ⟨_, h1⟩ | ⟨g, cap', cur, hv, hb, hg, _, _, _, ht⟩
  · omega
  · simp only [Value.slice.injEq] at hv
    obtain ⟨rfl, -, -⟩ := hv
    refine ⟨g, 0, rfl, (Array.getElem?_eq_some_iff.1 hg).1, fun j x hj => ?_⟩
    obtain ⟨hlt, he⟩ := List.getElem?_eq_some_iff.1 hj
    rw [Nat.zero_add, cell_of_row w g j cur _ (0, 0) hg, ← Array.getElem?_toList]
    have h2 : (cur.toList.take (l.length * 1))[j]? = (l.map encStr)[j]? := by rw [ht]
    rw [List.getElem?_take_of_lt (by omega)] at h2
    rw [h2]
    simp [he, hlt]
theorem OwnS.len_le {w : World} {base : Nat} {v : Value} {l : List Str} (h : OwnS w base v l) : l.length ≤ maxLen := by
  rcases h.2 with ⟨_, h1⟩ | ⟨g, cap', cur, hv, hb, hg, h2, h3, _, ht⟩
  · omega
  · omega
theorem OwnS.alloc {w : World} {base : Nat} {v : Value} {l : List Str} (h : OwnS w base v l) (o : Obj) : OwnS (w.alloc o) base v l := World.ownsRow.alloc h o
theorem OwnS.below {w w' : World} {base : Nat} {v : Value} {l : List Str} (h : OwnS w base v l) (hb : Below w.heap.size w w') : OwnS w' base v l :=
  World.ownsRow.kept h (row := none) ⟨hb.os, hb.tape, hb.output, hb.size, fun i hi _ => hb.block i hi⟩ (by cases hv : v.ownBlock <;> simp)
theorem OwnS.mono {w : World} {base base' : Nat} {v : Value} {l : List Str} (h : OwnS w base v l) (hb : base' ≤ base) : OwnS w base' v l := by
  refine ⟨h.1, ?_⟩
  rcases h.2 with hn | ⟨g, cap', cur, hv, hbg, rest⟩
  · exact .inl hn
  · exact .inr ⟨g, cap', cur, hv, Nat.le_trans hb hbg, rest⟩
theorem OwnS.nil (w : World) (base : Nat) : OwnS w base (.slice none 0 0) [] := World.ownsRow_nil _ _ _ _
theorem OwnS.made (w : World) (base : Nat) (cur : Array Value) (cap : Nat) (hb : base ≤ w.heap.size) (hm : cap ≤ maxLen) (hs : cur.size = cap) :
    OwnS (w.alloc (.cells cur 9)) base (.slice (some ⟨w.heap.size, 0, none⟩) 0 cap) [] :=
  World.ownsRow_made w cur cap hb hm (by omega)

/-- a slice of the call's own is handed back -/
def GivesS (w : World) (l : List Str) (e : Ending) (w' : World) : Prop :=
  ∃ a cap, e = .returned (.slice a l.length cap) ∧ OwnS w' w.heap.size (.slice a l.length cap) l ∧ Below w.heap.size w w'

theorem GivesS.mk {w w' : World} {v : Value} {l : List Str} (h : OwnS w' w.heap.size v l) (hb : Below w.heap.size w w') : GivesS w l (.returned v) w' := by
  obtain ⟨a, cap, rfl⟩ := h.shape
  exact ⟨a, cap, rfl, h, hb⟩

/-- the values and letters of a list -/
def szT (l : List Str) (k : Nat) : Nat := l.length + ((l.take k).map List.length).sum
def szL (l : List Str) : Nat := szT l l.length
theorem szT_succ {l : List Str} {k : Nat} {x : Str} (h : l[k]? = some x) : szT l (k + 1) = szT l k + x.length := by
  obtain ⟨hlt, he⟩ := List.getElem?_eq_some_iff.1 h
  unfold szT
  rw [List.take_succ_eq_append_getElem hlt, he]
  simp
  omega
theorem szT_le {l : List Str} {j k : Nat} (h : j ≤ k) : szT l j ≤ szT l k := by
  obtain ⟨d, rfl⟩ : ∃ d, k = j + d := ⟨k - j, by omega⟩
  unfold szT
  rw [List.take_add]
  simp
theorem szL_len (l : List Str) : l.length ≤ szL l := by unfold szL szT; omega
theorem szL_mem {l : List Str} {x : Str} (h : x ∈ l) : x.length ≤ szL l := by
  obtain ⟨k, hk⟩ := List.getElem?_of_mem h
  have h1 := szT_succ hk
  have h2 := szT_le (l := l) (show k + 1 ≤ l.length from (List.getElem?_eq_some_iff.1 hk).1)
  unfold szL
  omega

theorem take_snoc' {l : List Str} {k : Nat} {x : Str} (h : l[k]? = some x) : l.take (k + 1) = l.take k ++ [x] := by
  obtain ⟨hlt, he⟩ := List.getElem?_eq_some_iff.1 h
  rw [List.take_succ_eq_append_getElem hlt, he]

/-- a string of the list, with its bytes apart -/
theorem ret_int {k : IntKind} {a b : Int} (h : a = b) : Ending.returned (.int k a) = .returned (.int k b) := by rw [h]

theorem str_at {l : List Str} {k : Nat} (h : k < l.length) : ∃ (x : Str) (s : ByteArray), l[k]? = some x ∧ s.data.toList = x ∧ encStr x = .string s ∧ s.size = x.length := by
  refine ⟨l[k], ⟨l[k].toArray⟩, List.getElem?_eq_getElem h, by simp, rfl, ?_⟩
  simp [ByteArray.size]

/-- what is left of 'left', or -1 -/
def szR (l : List Str) (left : Nat) : Int := if szL l ≤ left then (left : Int) - (szL l : Int) else -1
theorem szR_yes {l : List Str} {left : Nat} (h : szL l ≤ left) : szR l left = ((left - szL l : Nat) : Int) := by unfold szR; rw [if_pos h]; omega
theorem szR_no {l : List Str} {left : Nat} (h : ¬ szL l ≤ left) : szR l left = -1 := by unfold szR; rw [if_neg h]

/-- an argument of moderate size -/
def Sm (w : World) (a : Option Addr) (l : List Str) (c : Nat) : Prop := InS w a l ∧ (a = none → c = 0) ∧ l.length ≤ c ∧ l.length ≤ 4000000 ∧ ∀ x ∈ l, x.length ≤ 1048576
theorem Sm.below {w w' : World} {a : Option Addr} {l : List Str} {c : Nat} (h : Sm w a l c) (hb : Below w.heap.size w w') : Sm w' a l c := ⟨h.1.below hb, h.2⟩
theorem sz_len {l : List Str} (hs : szL l ≤ 1048576) : l.length ≤ 4000000 := by have := szL_len l; omega
theorem sz_mem {l : List Str} (hs : szL l ≤ 1048576) : ∀ x ∈ l, x.length ≤ 1048576 := fun x hx => by have := szL_mem hx; omega
theorem Sm.ml {w : World} {a : Option Addr} {l : List Str} {c : Nat} (h : Sm w a l c) : l.length ≤ maxLen := by have := h.2.2.2.1; unfold maxLen; omega
theorem OwnS.none_cap {w : World} {base : Nat} {a : Option Addr} {n cap : Nat} {l : List Str} (h : OwnS w base (.slice a n cap) l) : a = none → cap = 0 := by
  intro e
  rcases h.2 with ⟨hv, h1⟩ | ⟨g, cap', cur, hv, _⟩
  · simp only [Value.slice.injEq] at hv
    exact hv.2.2
  · simp only [Value.slice.injEq] at hv
    rw [e] at hv
    cases hv.1
theorem OwnS.cap_ge {w : World} {base : Nat} {a : Option Addr} {n cap : Nat} {l : List Str} (h : OwnS w base (.slice a n cap) l) : l.length ≤ cap := by
  rcases h.2 with ⟨hv, h1⟩ | ⟨g, cap', cur, hv, _, _, h2, _⟩
  · omega
  · simp only [Value.slice.injEq] at hv
    omega

/-- an argument of a law -/
def ArgS (w : World) (a : Option Addr) (l : List Str) : Prop := InS w a l ∧ l.length ≤ maxLen ∧ ∀ x ∈ l, x.length ≤ maxLen

theorem argS_of {w : World} {x : Addr} {l c : Nat} {ss : List ByteArray} (hl : l ≤ c) (hm : c ≤ maxLen) (hz : ss.length = c)
    (hcell : ∀ i, i < ss.length → w.cell? (x.add i) = some (.string (ss.getD i ByteArray.empty))) (hw : ∀ s ∈ ss, s.size ≤ maxLen) : ∃ L : List Str, l = L.length ∧ ArgS w (some x) L := by
  refine ⟨(ss.take l).map (·.data.toList), by simp; omega, fun h0 => ?_, by simp; omega, fun y hy => ?_⟩
  · simp at h0
    obtain ⟨b, off, spot⟩ := x
    have hspot : spot = none := by simpa [Addr.add] using World.cell?_spot (hcell 0 (by omega))
    subst hspot
    refine ⟨b, off, rfl, ?_, fun j y hj => ?_⟩
    · exact World.block_lt_of_cell? w _ (hcell 0 (by omega))
    · obtain ⟨hlt, he⟩ := List.getElem?_eq_some_iff.1 hj
      simp at hlt
      have h1 := hcell j (by omega)
      have h2 : (⟨b, off, none⟩ : Addr).add j = ⟨b, off + j, none⟩ := by unfold Addr.add; split <;> simp_all
      rw [h2] at h1
      rw [h1]
      simp only [List.getElem_map, List.getElem_take] at he
      rw [← he, List.getD, List.getElem?_eq_getElem (by omega)]
      rfl
  · obtain ⟨s, hs, rfl⟩ := List.mem_map.1 hy
    have := hw s (List.mem_of_mem_take hs)
    simpa using this

/-- a slice of the call's own, in blocks from lo on and below hi -/
def OwnH (w : World) (lo hi : Nat) (v : Value) (l : List Str) : Prop := OwnS w lo v l ∧ ∀ k, v.ownBlock = some k → k < hi
theorem OwnH.of {w w' : World} {a : Option Addr} {cap : Nat} {l : List Str} (h : OwnS w' w.heap.size (.slice a l.length cap) l) : OwnH w' w.heap.size w'.heap.size (.slice a l.length cap) l :=
  ⟨h, fun k hk => (World.ownsRow.lt h k hk).2⟩
theorem OwnH.below {w w' : World} {lo hi : Nat} {v : Value} {l : List Str} (h : OwnH w lo hi v l) (hb : Below w.heap.size w w') : OwnH w' lo hi v l := ⟨h.1.below hb, h.2⟩
theorem OwnH.inS {w : World} {lo hi : Nat} {a : Option Addr} {n cap : Nat} {l : List Str} (h : OwnH w lo hi (.slice a n cap) l) : InS w a l := h.1.inS
theorem OwnS.sm {w : World} {base : Nat} {a : Option Addr} {n cap : Nat} {l : List Str} (h : OwnS w base (.slice a n cap) l) (h1 : l.length ≤ 4000000) (h2 : ∀ x ∈ l, x.length ≤ 1048576) : Sm w a l cap := ⟨h.inS, h.none_cap, h.cap_ge, h1, h2⟩
theorem OwnH.sm {w : World} {lo hi : Nat} {a : Option Addr} {n cap : Nat} {l : List Str} (h : OwnH w lo hi (.slice a n cap) l) (h1 : l.length ≤ 4000000) (h2 : ∀ x ∈ l, x.length ≤ 1048576) : Sm w a l cap := h.1.sm h1 h2
/-- what is written into one slice leaves another as it was -/
theorem OwnH.other {w w' : World} {lo hi lo' hi' : Nat} {v u : Value} {l : List Str} (h : OwnH w lo hi v l) (hg : w.grownBy w' u.ownBlock) (hu : ∀ k, u.ownBlock = some k → lo' ≤ k ∧ k < hi') (hd : hi ≤ lo' ∨ hi' ≤ lo) : OwnH w' lo hi v l := by
  refine ⟨World.ownsRow.kept h.1 hg ?_, h.2⟩
  cases hv : v.ownBlock with
  | none => exact .inl rfl
  | some k =>
    refine .inr fun e => ?_
    have h1 := (World.ownsRow.lt h.1 k hv).1
    have h2 := h.2 k hv
    have h3 := hu k e.symm
    omega
theorem OwnH.row {w : World} {lo hi : Nat} {v : Value} {l : List Str} (h : OwnH w lo hi v l) : ∀ k, v.ownBlock = some k → lo ≤ k ∧ k < hi := fun k hk => ⟨(World.ownsRow.lt h.1 k hk).1, h.2 k hk⟩
theorem below_row {w0 w w' : World} {lo hi : Nat} {v : Value} {l : List Str} (hb : Below w0.heap.size w0 w) (h : OwnH w lo hi v l) (hg : w.grownBy w' v.ownBlock) (hlo : w0.heap.size ≤ lo) : Below w0.heap.size w0 w' :=
  hb.grown hg hb.size fun k hk => Nat.le_trans hlo (h.row k hk).1

end Go.Proofs.Ytpldjihajclblaa

/-
  What spec.EncodeVarint and impl.EncodeVarint answer, for every integer. By an AI agent.
-/
namespace Go.Proofs.Ytpldjihajclblaa
open Go.RowKit
set_option linter.unusedVariables false

def strOf (l : List UInt8) : ByteArray := ⟨l.toArray⟩

theorem ret_str {a b : ByteArray} (h : a = b) : Ending.returned (.string a) = .returned (.string b) := by rw [h]

theorem strOf_append (l r : List UInt8) : strOf l ++ strOf r = strOf (l ++ r) := by
  apply ByteArray.ext
  simp [strOf]

theorem strOf_size (l : List UInt8) : (strOf l).size = l.length := by simp [strOf, ByteArray.size]

end Go.Proofs.Ytpldjihajclblaa

/-
  What the laws' own toStringS, eqStringS, markText, markStringS and heldStringS do, and spec.EqualTokens. By an AI agent.
-/
namespace Go.Proofs.Ytpldjihajclblaa
open Go.RowKit
set_option linter.unusedVariables false

theorem quiet_below (B : Nat) (w : World) (n : Nat) : Below B w (w.drewN n) := ⟨rfl, rfl, rfl, Nat.le_refl _, fun _ _ => rfl⟩

/-- the first k strings are copied, the rest is empty -/
def fillV (l : List Str) (k : Nat) : List Value := (l.take k).map encStr ++ List.replicate (l.length - k) (.string ⟨#[]⟩)
theorem fill_zero (l : List Str) : fillV l 0 = List.replicate l.length (.string ⟨#[]⟩) := by simp [fillV]
theorem fill_all (l : List Str) : fillV l l.length = l.map encStr := by simp [fillV]
theorem fill_len {l : List Str} {k : Nat} (h : k < l.length) : ((l.take k).map encStr).length = k := by
  rw [List.length_map, List.length_take]; omega
theorem fill_at {l : List Str} {k : Nat} (h : k < l.length) : (fillV l k)[k]? = some (.string ⟨#[]⟩) := by
  unfold fillV
  rw [List.getElem?_append_right (by rw [fill_len h]; omega), fill_len h, Nat.sub_self, List.getElem?_replicate, if_pos (by omega)]
theorem fill_set {l : List Str} {k : Nat} {x : Str} (h : l[k]? = some x) : (fillV l k).set k (encStr x) = fillV l (k + 1) := by
  obtain ⟨hlt, he⟩ := List.getElem?_eq_some_iff.1 h
  have e1 : l.length - k = (l.length - (k + 1)) + 1 := by omega
  unfold fillV
  rw [List.set_append_right _ _ (by rw [fill_len hlt]; omega), fill_len hlt, Nat.sub_self, e1, List.replicate_succ, List.take_succ_eq_append_getElem hlt, he, List.set_cons_zero]
  simp

end Go.Proofs.Ytpldjihajclblaa

/-
  What the laws' own toIntS and eqIntS do; an argument of a law that is a slice of integers. By an AI agent.
-/
namespace Go.Proofs.Ytpldjihajclblaa
open Go.RowKit
set_option linter.unusedVariables false

theorem info_i64 : (Try.prog.info? 3).map (fun i => (i.zero, i.size, i.bytes)) = some (some (.int .i64 0), 1, 8) := by kernel_rfl

def encI (z : Int) : Value := .int .i64 z
/-- the first k numbers are copied, the rest is 0 -/
def fillI (l : List Int) (k : Nat) : List Value := (l.take k).map encI ++ List.replicate (l.length - k) (.int .i64 0)
theorem filli_zero (l : List Int) : fillI l 0 = List.replicate l.length (.int .i64 0) := by simp [fillI]
theorem filli_all (l : List Int) : fillI l l.length = l.map encI := by simp [fillI]
theorem filli_len {l : List Int} {k : Nat} (h : k < l.length) : ((l.take k).map encI).length = k := by
  rw [List.length_map, List.length_take]; omega
theorem filli_at {l : List Int} {k : Nat} (h : k < l.length) : (fillI l k)[k]? = some (.int .i64 0) := by
  unfold fillI
  rw [List.getElem?_append_right (by rw [filli_len h]; omega), filli_len h, Nat.sub_self, List.getElem?_replicate, if_pos (by omega)]
theorem filli_set {l : List Int} {k : Nat} {x : Int} (h : l[k]? = some x) : (fillI l k).set k (encI x) = fillI l (k + 1) := by
  obtain ⟨hlt, he⟩ := List.getElem?_eq_some_iff.1 h
  have e1 : l.length - k = (l.length - (k + 1)) + 1 := by omega
  unfold fillI
  rw [List.set_append_right _ _ (by rw [filli_len hlt]; omega), filli_len hlt, Nat.sub_self, e1, List.replicate_succ, List.take_succ_eq_append_getElem hlt, he, List.set_cons_zero]
  simp

/-- a slice of integers of the call's own -/
def OwnI (w : World) (base : Nat) (v : Value) (l : List Int) : Prop := w.ownsRow base 3 1 v l.length (l.map encI)

theorem OwnI.inI {w : World} {base : Nat} {a : Option Addr} {n cap : Nat} {l : List Int} (h : OwnI w base (.slice a n cap) l) : InI w a l := by
  intro h0
  rcases h.2 with ⟨_, h1⟩ | ⟨g, cap', cur, hv, hb, hg, _, _, _, ht⟩
  · omega
  · simp only [Value.slice.injEq] at hv
    obtain ⟨rfl, -, -⟩ := hv
    refine ⟨g, 0, rfl, (Array.getElem?_eq_some_iff.1 hg).1, fun j x hj => ?_⟩
    obtain ⟨hlt, he⟩ := List.getElem?_eq_some_iff.1 hj
    rw [Nat.zero_add, cell_of_row w g j cur _ (0, 0) hg, ← Array.getElem?_toList]
    have h2 : (cur.toList.take (l.length * 1))[j]? = (l.map encI)[j]? := by rw [ht]
    rw [List.getElem?_take_of_lt (by omega)] at h2
    rw [h2]
    simp [he, hlt, encI]

theorem OwnI.shape {w : World} {base : Nat} {v : Value} {l : List Int} (h : OwnI w base v l) : ∃ a cap, v = .slice a l.length cap := by
  rcases h.2 with ⟨rfl, h0⟩ | ⟨g, cap, cur, rfl, _⟩
  · exact ⟨none, 0, by rw [h0]⟩
  · exact ⟨_, _, rfl⟩
theorem OwnI.alloc {w : World} {base : Nat} {v : Value} {l : List Int} (h : OwnI w base v l) (o : Obj) : OwnI (w.alloc o) base v l := World.ownsRow.alloc h o
theorem OwnI.made (w : World) (base : Nat) (cur : Array Value) (cap : Nat) (hb : base ≤ w.heap.size) (hm : cap ≤ maxLen) (hs : cur.size = cap) :
    OwnI (w.alloc (.cells cur 3)) base (.slice (some ⟨w.heap.size, 0, none⟩) 0 cap) [] :=
  World.ownsRow_made w cur cap hb hm (by omega)

/-- append of one integer, which lies in a new block of one cell -/
theorem append_i {ops : Array Oper} {rest : List Oper} {o : Oper} {a : Act} {Q : Exit → Act → World → Prop} {w0 : World} (hgd : o.guard = none) (s y : Operand)
    (ho : o.op = .call { callee := .builtin .append, args := #[s, y], argTypes := #[28, 28] })
    (base : Nat) (v : Value) (l : List Int) (x : Int) (hown : OwnI w0 base v l) (hs : a.eval s = v)
    (hy : a.eval y = .slice (some ⟨w0.heap.size, 0, none⟩) 1 1) (hlen : l.length ≤ 4000000) (hbase : base ≤ w0.heap.size)
    (h : ∀ v' w', OwnI w' base v' (l ++ [x]) → w0.grownBy w' v.ownBlock → (v'.ownBlock = v.ownBlock ∨ v'.ownBlock = some (w0.heap.size + 1)) → wpList Try.prog ops Q rest (a.put o.dst v') w') :
    wpList Try.prog ops Q (o :: rest) a (w0.alloc (.cells #[.int .i64 x] 3)) := by
  obtain ⟨i0, hi, hz0, hz1, hz2⟩ := info_parts info_i64
  refine wpList_append_own_at _ hgd s y 28 ho base 3 i0 (.int .i64 0) 1 8 Try.underlying28 hi hz0 hz1 hz2 rfl (by decide) v l.length (l.map encI) hs (World.ownsRow.alloc hown _)
    ⟨w0.heap.size, 0, none⟩ 1 1 [.int .i64 x] hy rfl (cell_one_new _ _ _) ?_ (by unfold maxLen; omega) (by omega) (by simp; omega) ?_
  · intro u hu
    simp at hu
    subst hu
    rfl
  · intro v' w' h2 h3 _ h5
    refine h v' w' ?_ ((World.grownBy_alloc w0 _ _).trans h3) (by rcases h5 with e | e; exact .inl e; exact .inr (by rw [e]; simp))
    have e1 : (l ++ [x]).length = l.length + 1 := by simp
    have e2 : (l ++ [x]).map encI = l.map encI ++ [.int .i64 x] := by simp [encI]
    unfold OwnI
    rw [e1, e2]
    exact h2

/-- two slices of integers of the call's own, in different blocks -/
def PairI (w : World) (base : Nat) (u v : Value) (l m : List Int) : Prop := OwnI w base u l ∧ OwnI w base v m ∧ ∀ k, u.ownBlock = some k → v.ownBlock ≠ some k
theorem PairI.swap {w : World} {base : Nat} {u v : Value} {l m : List Int} (h : PairI w base u v l m) : PairI w base v u m l := ⟨h.2.1, h.1, fun k hk e => h.2.2 k e hk⟩
theorem PairI.alloc {w : World} {base : Nat} {u v : Value} {l m : List Int} (h : PairI w base u v l m) (o : Obj) : PairI (w.alloc o) base u v l m := ⟨h.1.alloc o, h.2.1.alloc o, h.2.2⟩
theorem PairI.keptc {w w' : World} {base c : Nat} {u v : Value} {l m : List Int} (h : PairI w base u v l m) (hg : w.grownBy w' (some c)) (hc : c < base) : PairI w' base u v l m := by
  refine ⟨World.ownsRow.kept h.1 hg (.inr fun e => ?_), World.ownsRow.kept h.2.1 hg (.inr fun e => ?_), h.2.2⟩
  · have := (World.ownsRow.lt h.1 c e).1; omega
  · have := (World.ownsRow.lt h.2.1 c e).1; omega
theorem PairI.first {w w' : World} {base : Nat} {u v u' : Value} {l m l' : List Int} (h : PairI w base u v l m) (ho : OwnI w' base u' l') (hg : w.grownBy w' u.ownBlock) (hat : u'.ownBlock = u.ownBlock ∨ u'.ownBlock = some (w.heap.size + 1)) : PairI w' base u' v l' m := by
  refine ⟨ho, World.ownsRow.kept h.2.1 hg ?_, fun k hk e => ?_⟩
  · cases hv : v.ownBlock with
    | none => exact .inl rfl
    | some k => exact .inr fun e => h.2.2 k e.symm hv
  · rcases hat with e1 | e1
    · exact h.2.2 k (by rw [← e1]; exact hk) e
    · rw [e1] at hk
      injection hk with hk
      have := (World.ownsRow.lt h.2.1 k e).2
      omega
theorem PairI.below {w w' : World} {base : Nat} {u v : Value} {l m : List Int} (h : PairI w base u v l m) (hb : base ≤ w.heap.size) (hg : w.grownBy w' u.ownBlock) : Below base w w' :=
  (Below.refl base w).grown hg hb (fun k hk => (World.ownsRow.lt h.1 k hk).1)

/-- a slice that reads as the list is handed back -/
def GivesI (w : World) (l : List Int) (e : Ending) (w' : World) : Prop := ∃ a cap, e = .returned (.slice a l.length cap) ∧ InI w' a l ∧ Below w.heap.size w w'

theorem quiet_i (B : Nat) (w : World) (n : Nat) : Below B w (w.drewN n) := ⟨rfl, rfl, rfl, Nat.le_refl _, fun _ _ => rfl⟩

/-- an argument of a law -/
def ArgI (w : World) (a : Option Addr) (l : List Int) : Prop := InI w a l ∧ l.length ≤ maxLen

theorem ArgI.inI {w : World} {a : Option Addr} {l : List Int} (h : ArgI w a l) : InI w a l := h.1
theorem argI_of {w : World} {x : Addr} {l c : Nat} {zs : List Int} (hl : l ≤ c) (hm : c ≤ maxLen) (hz : zs.length = c)
    (hcell : ∀ i, i < zs.length → w.cell? (x.add i) = some (.int .i64 (zs.getD i 0))) : ∃ L : List Int, l = L.length ∧ ArgI w (some x) L := by
  refine ⟨zs.take l, by simp; omega, fun h0 => ?_, by simp; omega⟩
  simp at h0
  obtain ⟨b, off, spot⟩ := x
  have hspot : spot = none := by simpa [Addr.add] using World.cell?_spot (hcell 0 (by omega))
  subst hspot
  refine ⟨b, off, rfl, ?_, fun j y hj => ?_⟩
  · exact World.block_lt_of_cell? w _ (hcell 0 (by omega))
  · obtain ⟨hlt, he⟩ := List.getElem?_eq_some_iff.1 hj
    simp at hlt
    have h1 := hcell j (by omega)
    have h2 : (⟨b, off, none⟩ : Addr).add j = ⟨b, off + j, none⟩ := by unfold Addr.add; split <;> simp_all
    rw [h2] at h1
    rw [h1]
    simp only [List.getElem_take] at he
    rw [← he, List.getD, List.getElem?_eq_getElem (by omega)]
    rfl

end Go.Proofs.Ytpldjihajclblaa

/-
  What the laws' own markIntS and heldIntS do; a slice of integers of the call's own in a span of blocks. By an AI agent.
-/
namespace Go.Proofs.Ytpldjihajclblaa
open Go.RowKit
set_option linter.unusedVariables false

theorem OwnI.below {w w' : World} {base : Nat} {v : Value} {l : List Int} (h : OwnI w base v l) (hb : Below w.heap.size w w') : OwnI w' base v l :=
  World.ownsRow.kept h (row := none) ⟨hb.os, hb.tape, hb.output, hb.size, fun i hi _ => hb.block i hi⟩ (by cases hv : v.ownBlock <;> simp)
theorem OwnI.mono {w : World} {base base' : Nat} {v : Value} {l : List Int} (h : OwnI w base v l) (hb : base' ≤ base) : OwnI w base' v l := by
  refine ⟨h.1, ?_⟩
  rcases h.2 with hn | ⟨g, cap', cur, hv, hbg, rest⟩
  · exact .inl hn
  · exact .inr ⟨g, cap', cur, hv, Nat.le_trans hb hbg, rest⟩
theorem OwnI.nil (w : World) (base : Nat) : OwnI w base (.slice none 0 0) [] := World.ownsRow_nil _ _ _ _

/-- a slice of the call's own, in blocks from lo on and below hi -/
def OwnJ (w : World) (lo hi : Nat) (v : Value) (l : List Int) : Prop := OwnI w lo v l ∧ ∀ k, v.ownBlock = some k → k < hi
theorem OwnJ.of {w w' : World} {a : Option Addr} {cap n : Nat} {l : List Int} (h : OwnI w' w.heap.size (.slice a n cap) l) : OwnJ w' w.heap.size w'.heap.size (.slice a n cap) l :=
  ⟨h, fun k hk => (World.ownsRow.lt h k hk).2⟩
theorem OwnJ.below {w w' : World} {lo hi : Nat} {v : Value} {l : List Int} (h : OwnJ w lo hi v l) (hb : Below w.heap.size w w') : OwnJ w' lo hi v l := ⟨h.1.below hb, h.2⟩
theorem OwnJ.inI {w : World} {lo hi : Nat} {a : Option Addr} {n cap : Nat} {l : List Int} (h : OwnJ w lo hi (.slice a n cap) l) : InI w a l := h.1.inI
/-- what is written into one slice leaves another as it was -/
theorem OwnJ.other {w w' : World} {lo hi lo' hi' : Nat} {v u : Value} {l : List Int} (h : OwnJ w lo hi v l) (hg : w.grownBy w' u.ownBlock) (hu : ∀ k, u.ownBlock = some k → lo' ≤ k ∧ k < hi') (hd : hi ≤ lo' ∨ hi' ≤ lo) : OwnJ w' lo hi v l := by
  refine ⟨World.ownsRow.kept h.1 hg ?_, h.2⟩
  cases hv : v.ownBlock with
  | none => exact .inl rfl
  | some k =>
    refine .inr fun e => ?_
    have h1 := (World.ownsRow.lt h.1 k hv).1
    have h2 := h.2 k hv
    have h3 := hu k e.symm
    omega
theorem OwnJ.row {w : World} {lo hi : Nat} {v : Value} {l : List Int} (h : OwnJ w lo hi v l) : ∀ k, v.ownBlock = some k → lo ≤ k ∧ k < hi := fun k hk => ⟨(World.ownsRow.lt h.1 k hk).1, h.2 k hk⟩
theorem below_rowj {w0 w w' : World} {lo hi : Nat} {v : Value} {l : List Int} (hb : Below w0.heap.size w0 w) (h : OwnJ w lo hi v l) (hg : w.grownBy w' v.ownBlock) (hlo : w0.heap.size ≤ lo) : Below w0.heap.size w0 w' :=
  hb.grown hg hb.size fun k hk => Nat.le_trans hlo (h.row k hk).1

def marksI (k n : Nat) : List Int := (List.range n).map fun i => ((k + i : Nat) : Int)
theorem marksI_length (k n : Nat) : (marksI k n).length = n := by simp [marksI]
theorem marksI_at {k n j : Nat} (h : j < n) : (marksI k n)[j]? = some ((k + j : Nat) : Int) := by simp [marksI, h]
theorem marksI_succ (k n : Nat) : marksI k (n + 1) = marksI k n ++ [((k + n : Nat) : Int)] := by simp [marksI, List.range_succ]
/-- the first k are marked -/
def markW (l : List Int) (k0 k : Nat) : List Value := (marksI k0 k).map encI ++ (l.drop k).map encI
theorem markW_zero (l : List Int) (k0 : Nat) : markW l k0 0 = l.map encI := by simp [markW, marksI]
theorem markW_all (l : List Int) (k0 : Nat) : markW l k0 l.length = (marksI k0 l.length).map encI := by simp [markW]
theorem markW_at {l : List Int} {k0 k : Nat} {x : Int} (h : l[k]? = some x) : (markW l k0 k)[k]? = some (encI x) := by
  unfold markW
  rw [List.getElem?_append_right (by simp [marksI_length]), List.length_map, marksI_length, Nat.sub_self, List.getElem?_map, List.getElem?_drop, Nat.add_zero, h]
  rfl
theorem markW_set {l : List Int} {k0 k : Nat} (hlt : k < l.length) : (markW l k0 k).set k (encI ((k0 + k : Nat) : Int)) = markW l k0 (k + 1) := by
  unfold markW
  rw [List.set_append_right _ _ (by simp [marksI_length]), List.length_map, marksI_length, Nat.sub_self, List.drop_eq_getElem_cons hlt, List.map_cons, List.set_cons_zero, marksI_succ]
  simp
theorem owni_at {w : World} {base : Nat} {a : Option Addr} {n cap : Nat} {xs : List Value} (h : w.ownsRow base 3 1 (.slice a n cap) n xs) (h0 : 0 < n) : ∃ g, a = some ⟨g, 0, none⟩ ∧ g < w.heap.size := by
  rcases h.2 with ⟨_, h1⟩ | ⟨g, cap', cur, hv, hb, hg, _⟩
  · omega
  · simp only [Value.slice.injEq] at hv
    exact ⟨g, hv.1, (Array.getElem?_eq_some_iff.1 hg).1⟩
theorem grownI_trans {a b d : World} {r : Option Nat} (h1 : a.grownBy b r) (h2 : b.grownBy d r) : a.grownBy d r :=
  ⟨h2.os.trans h1.os, h2.tape.trans h1.tape, h2.output.trans h1.output, Nat.le_trans h1.size h2.size, fun k hk hne => (h2.block k (Nat.lt_of_lt_of_le hk h1.size) hne).trans (h1.block k hk hne)⟩

end Go.Proofs.Ytpldjihajclblaa

/-
  A block of cells that the call stores into; a row of least costs in it. By an AI agent.
-/
namespace Go.Proofs.Ytpldjihajclblaa
open Go.RowKit
set_option linter.unusedVariables false

/-- block g holds the cells cs of type t -/
def BlkV (w : World) (g : Nat) (t : TypeId) (cs : Array Value) : Prop := w.heap[g]? = some (.cells cs t (0, 0))

theorem BlkV.cell {w : World} {g : Nat} {t : TypeId} {cs : Array Value} (h : BlkV w g t cs) (i : Nat) : w.cell? ⟨g, i, none⟩ = cs[i]? := cell_of_row w g i cs t (0, 0) h
theorem BlkV.frozen {w : World} {g : Nat} {t : TypeId} {cs : Array Value} (h : BlkV w g t cs) (i : Nat) : w.frozen? ⟨g, i, none⟩ = false := by
  unfold BlkV at h
  simp [World.frozen?, h]
theorem BlkV.lt {w : World} {g : Nat} {t : TypeId} {cs : Array Value} (h : BlkV w g t cs) : g < w.heap.size := (Array.getElem?_eq_some_iff.1 h).1
theorem BlkV.new (w : World) (t : TypeId) (cs : Array Value) : BlkV (w.alloc (.cells cs t)) w.heap.size t cs := heap_alloc_new w _
theorem BlkV.set_ {w : World} {g : Nat} {t : TypeId} {cs : Array Value} (h : BlkV w g t cs) (i : Nat) (u : Value) : BlkV (w.setCell ⟨g, i, none⟩ u) g t (cs.setIfInBounds i u) := by
  unfold BlkV at h ⊢
  simp [World.setCell, Array.getElem?_modify, h]
theorem BlkV.row {w : World} {g : Nat} {t : TypeId} {cs : Array Value} (h : BlkV w g t cs) (cs' : Array Value) : BlkV (w.setRow g cs') g t cs' := setRow_heap w g cs cs' t (0, 0) h
theorem BlkV.grown {w w' : World} {g : Nat} {t : TypeId} {cs : Array Value} {row : Option Nat} (h : BlkV w g t cs) (hg : w.grownBy w' row) (hne : some g ≠ row) : BlkV w' g t cs := (hg.block g h.lt hne).trans h
theorem BlkV.n {w : World} {g : Nat} {t : TypeId} {cs : Array Value} (h : BlkV w g t cs) (k : Nat) : BlkV (w.drewN k) g t cs := h
theorem BlkV.alloc {w : World} {g : Nat} {t : TypeId} {cs : Array Value} (h : BlkV w g t cs) (o : Obj) : BlkV (w.alloc o) g t cs := h.grown (World.grownBy_alloc w o none) (by simp)
theorem BlkV.below {w w' : World} {g : Nat} {t : TypeId} {cs : Array Value} (h : BlkV w g t cs) (hb : Below w.heap.size w w') : BlkV w' g t cs := (hb.block g h.lt).trans h

theorem egrown_set (w : World) (g i : Nat) (u : Value) : w.grownBy (w.setCell ⟨g, i, none⟩ u) (some g) :=
  ⟨rfl, rfl, rfl, by simp [World.setCell], fun k _ hne => by
    have : k ≠ g := fun e => hne (by rw [e])
    simp [World.setCell, Array.getElem?_modify, Ne.symm this]⟩
theorem egrown_row (w : World) (g : Nat) (cs : Array Value) : w.grownBy (w.setRow g cs) (some g) :=
  ⟨rfl, rfl, rfl, by simp, fun k _ hne => setRow_other w g k cs (fun e => hne (by rw [e]))⟩
theorem egrown_n {a b : World} {row : Option Nat} (h : a.grownBy b row) (n : Nat) : a.grownBy (b.drewN n) row := ⟨h.os, h.tape, h.output, h.size, h.block⟩

theorem belowN {base : Nat} {w w' : World} (h : Below base w w') (n : Nat) : Below base w (w'.drewN n) := ⟨h.os, h.tape, h.output, h.size, h.block⟩
theorem below_grown {base g : Nat} {w0 w w' : World} (h : Below base w0 w) (hg : w.grownBy w' (some g)) (hb : base ≤ g) (hs : base ≤ w.heap.size) : Below base w0 w' :=
  h.grown hg hs (fun k hk => by cases hk; exact hb)

theorem toNat_lt_maxLen {n : Nat} (h : n ≤ 100000) : n ≤ maxLen := by unfold maxLen; omega

def intC (n : Nat) : Value := .int .i64 (n : Int)

/-- the row of A at o, filled from k on; ahead of k the costs behind a byte that is kept or replaced -/
def FillAt (sw : Bool) (A B : List UInt8) (cs0 cs : Array Value) (o k : Nat) : Prop :=
  cs.size = cs0.size ∧ (∀ q, k ≤ q → q ≤ B.length → cs[o + q]? = some (intC (lev sw A (B.drop q)))) ∧
    (∀ q, q < k → cs[o + q]? = some (intC (lev sw A.tail (B.drop (q + 1))))) ∧ ∀ p, p < o ∨ o + B.length + 1 ≤ p → cs[p]? = cs0[p]?

theorem set_at {cs : Array Value} {p : Nat} {u : Value} (h : p < cs.size) : (cs.setIfInBounds p u)[p]? = some u := by
  rw [Array.getElem?_setIfInBounds]; simp [h]
theorem set_ne {cs : Array Value} {p q : Nat} {u : Value} (h : p ≠ q) : (cs.setIfInBounds p u)[q]? = cs[q]? := by
  rw [Array.getElem?_setIfInBounds]; simp [h]

theorem FillAt.set {sw : Bool} {A B : List UInt8} {cs0 cs : Array Value} {o k : Nat} (h : FillAt sw A B cs0 cs o (k + 1)) (hk : k ≤ B.length) (hs : o + B.length < cs0.size) {u : Value} (hu : u = intC (lev sw A (B.drop k))) :
    FillAt sw A B cs0 (cs.setIfInBounds (o + k) u) o k := by
  obtain ⟨h1, h2, h3, h4⟩ := h
  refine ⟨by simp [h1], fun q hq hqB => ?_, fun q hq => ?_, fun p hp => ?_⟩
  · by_cases e : k = q
    · subst e
      rw [set_at (by rw [h1]; omega), hu]
    · rw [set_ne (by omega)]
      exact h2 q (by omega) hqB
  · rw [set_ne (by omega)]
    exact h3 q (by omega)
  · rw [set_ne (by omega)]
    exact h4 p hp
theorem FillAt.same {sw : Bool} {A B : List UInt8} {cs0 cs : Array Value} {o k : Nat} (h : FillAt sw A B cs0 cs o (k + 1)) (hk : k ≤ B.length) (hu : lev sw A.tail (B.drop (k + 1)) = lev sw A (B.drop k)) :
    FillAt sw A B cs0 cs o k := by
  obtain ⟨h1, h2, h3, h4⟩ := h
  refine ⟨h1, fun q hq hqB => ?_, fun q hq => h3 q (by omega), h4⟩
  by_cases e : k = q
  · subst e
    rw [h3 k (by omega), hu]
  · exact h2 q (by omega) hqB
/-- a store at k that is stored over again: the cells of the row are open there -/
def FillOpen (sw : Bool) (A B : List UInt8) (cs0 cs : Array Value) (o k : Nat) (m : Nat) : Prop :=
  FillAt sw A B cs0 (cs.setIfInBounds (o + k) (intC (lev sw A (B.drop k)))) o k ∧ cs.size = cs0.size ∧ cs[o + k]? = some (intC m)

theorem FillAt.opens {sw : Bool} {A B : List UInt8} {cs0 cs : Array Value} {o k : Nat} (h : FillAt sw A B cs0 cs o (k + 1)) (hk : k ≤ B.length) (hs : o + B.length < cs0.size) :
    FillOpen sw A B cs0 cs o k (lev sw A.tail (B.drop (k + 1))) := ⟨h.set hk hs rfl, h.1, h.2.2.1 k (by omega)⟩
theorem FillOpen.set {sw : Bool} {A B : List UInt8} {cs0 cs : Array Value} {o k m : Nat} (h : FillOpen sw A B cs0 cs o k m) (hs : o + k < cs0.size) {u : Value} {m' : Nat} (hu : u = intC m') :
    FillOpen sw A B cs0 (cs.setIfInBounds (o + k) u) o k m' := by
  obtain ⟨h1, h2, h3⟩ := h
  refine ⟨?_, by simp [h2], ?_⟩
  · rw [Array.setIfInBounds_setIfInBounds]
    exact h1
  · rw [set_at (by rw [h2]; exact hs), hu]
theorem FillOpen.far {sw : Bool} {A B : List UInt8} {cs0 cs : Array Value} {o k m : Nat} (h : FillOpen sw A B cs0 cs o k m) (hk : k ≤ B.length) {p : Nat} (hp : o + B.length + 1 ≤ p) : cs[p]? = cs0[p]? := by
  rw [← h.1.2.2.2 p (.inr hp), set_ne (by omega)]
theorem FillOpen.shut {sw : Bool} {A B : List UInt8} {cs0 cs : Array Value} {o k m : Nat} (h : FillOpen sw A B cs0 cs o k m) (hs : o + k < cs0.size) (hm : m = lev sw A (B.drop k)) : FillAt sw A B cs0 cs o k := by
  obtain ⟨h1, h2, h3⟩ := h
  subst hm
  have hlt : o + k < cs.size := by rw [h2]; exact hs
  have e : cs.setIfInBounds (o + k) (intC (lev sw A (B.drop k))) = cs := by
    apply Array.ext_getElem?
    intro p
    by_cases e : o + k = p
    · subst e
      rw [set_at hlt, h3]
    · rw [set_ne e]
  rw [e] at h1
  exact h1

/-- the cells behind copy(row, below[1:]) -/
theorem copied (cs0 : Array Value) (o W : Nat) (hW : 1 ≤ W) (hs : o + 2 * W ≤ cs0.size) : ∃ (l : List Value) (cs1 : Array Value), l.length = W - 1 ∧ (∀ q, q < W - 1 → l[q]? = cs0[o + W + (1 + q)]?) ∧
    cs1 = (cs0.toList.take o ++ l ++ cs0.toList.drop (o + l.length)).toArray ∧ cs1.size = cs0.size ∧ (∀ q, q < W - 1 → cs1[o + q]? = cs0[o + W + (1 + q)]?) ∧
    ∀ p, p < o ∨ o + (W - 1) ≤ p → cs1[p]? = cs0[p]? := by
  have hlen : cs0.toList.length = cs0.size := by simp
  refine ⟨(cs0.toList.drop (o + W + 1)).take (W - 1), _, by simp; omega, fun q hq => ?_, rfl, ?_, fun q hq => ?_, fun p hp => ?_⟩
  · rw [List.getElem?_take_of_lt hq, List.getElem?_drop, Array.getElem?_toList]
    congr 1; omega
  · simp; omega
  · rw [List.getElem?_toArray, List.append_assoc, List.getElem?_append_right (by simp; omega)]
    have e : o + q - (cs0.toList.take o).length = q := by simp; omega
    rw [e, List.getElem?_append_left (by simp; omega), List.getElem?_take_of_lt hq, List.getElem?_drop, Array.getElem?_toList]
    congr 1; omega
  · rw [List.getElem?_toArray]
    rcases hp with hp | hp
    · rw [List.append_assoc, List.getElem?_append_left (by simp; omega), List.getElem?_take_of_lt hp, Array.getElem?_toList]
    · have e2 : ((cs0.toList.drop (o + W + 1)).take (W - 1)).length = W - 1 := by simp; omega
      have e1 : (cs0.toList.take o ++ (cs0.toList.drop (o + W + 1)).take (W - 1)).length = o + (W - 1) := by rw [List.length_append, e2]; simp; omega
      rw [List.getElem?_append_right (by rw [e1]; exact hp), e1, List.getElem?_drop, e2, Array.getElem?_toList]
      congr 1; omega

/-- copy(row, below[1:]) -/
theorem run_copied (w : World) (gc o W : Nat) (src : Addr) (cs0 : Array Value) (l : List Value) (cs1 : Array Value) (hB : BlkV w gc 3 cs0) (hl : l.length = W - 1) (hW : 1 ≤ W) (hs : o + 2 * W ≤ cs0.size)
    (hsrc : ∀ q, q < W - 1 → ∃ n, l[q]? = some (intC n) ∧ w.cell? (src.add q) = some (intC n)) (h1 : cs1 = (cs0.toList.take o ++ l ++ cs0.toList.drop (o + l.length)).toArray) :
    ∃ w2, (Builtin.copy_ #[28, 28] 3 #[.slice (some ⟨gc, o, none⟩) W W, .slice (some src) (W - 1) (W - 1)]).run Try.prog w = .ok (goInt l.length) w2 ∧ BlkV w2 gc 3 cs1 ∧ w.grownBy w2 (some gc) := by
  refine ⟨_, run_copy_row Try.prog w 28 28 3 3 gc o W W src (W - 1) (W - 1) cs0 3 l Try.underlying28 (by kernel_rfl) hB ?_ ?_ ?_ ?_, ?_, ?_⟩
  · rw [hl]
    exact (Nat.min_eq_left (by omega)).symm
  · intro j v hv
    obtain ⟨n, e1, e2⟩ := hsrc j (by rw [← hl]; exact (List.getElem?_eq_some_iff.1 hv).1)
    rw [e2, ← e1, hv]
  · rw [hl]; omega
  · intro v hv
    obtain ⟨j, hj⟩ := List.getElem?_of_mem hv
    obtain ⟨n, e1, e2⟩ := hsrc j (by rw [← hl]; exact (List.getElem?_eq_some_iff.1 hj).1)
    rw [hj] at e1
    cases e1
    rfl
  · rw [h1]; exact hB.row _
  · rw [← h1]; exact egrown_row _ _ _

/-- what lies below the row -/
def BelowAt (sw : Bool) (A B : List UInt8) (cs : Array Value) (o : Nat) : Prop :=
  o + 2 * (B.length + 1) ≤ cs.size ∧ (∀ q, q ≤ B.length → cs[o + (B.length + 1) + q]? = some (intC (lev sw A.tail (B.drop q)))) ∧
    (1 < A.length → o + 3 * (B.length + 1) ≤ cs.size ∧ ∀ q, q ≤ B.length → cs[o + 2 * (B.length + 1) + q]? = some (intC (lev sw A.tail.tail (B.drop q))))

theorem BelowAt.fill {sw : Bool} {A B : List UInt8} {cs0 cs : Array Value} {o k : Nat} (h : BelowAt sw A B cs0 o) (hf : FillAt sw A B cs0 cs o k) : BelowAt sw A B cs o := by
  obtain ⟨h1, h2, h3⟩ := h
  obtain ⟨f1, f2, f3, f4⟩ := hf
  refine ⟨by rw [f1]; exact h1, fun q hq => ?_, fun hA => ⟨by rw [f1]; exact (h3 hA).1, fun q hq => ?_⟩⟩
  · rw [f4 _ (.inr (by omega))]; exact h2 q hq
  · rw [f4 _ (.inr (by omega))]; exact (h3 hA).2 q hq

end Go.Proofs.Ytpldjihajclblaa

/-
  Rows of the call's own of any elements: what is read of them, what is kept; blocks of two and of three cells. By an AI agent.
-/
namespace Go.Proofs.Ytpldjihajclblaa
open Go.RowKit
set_option linter.unusedVariables false

/-- what is written into the blocks from lo on and below hi alone -/
structure Chg (w w' : World) (lo hi : Nat) : Prop where
  os : w'.os = w.os
  tape : w'.tape = w.tape
  output : w'.output = w.output
  size : w.heap.size ≤ w'.heap.size
  block : ∀ k, k < w.heap.size → ¬ (lo ≤ k ∧ k < hi) → w'.heap[k]? = w.heap[k]?
theorem Chg.refl (w : World) (lo hi : Nat) : Chg w w lo hi := ⟨rfl, rfl, rfl, Nat.le_refl _, fun _ _ _ => rfl⟩
theorem Chg.grown {w w1 w2 : World} {lo hi : Nat} {r : Option Nat} (h : Chg w w1 lo hi) (hg : w1.grownBy w2 r) (hr : ∀ k, r = some k → lo ≤ k ∧ k < hi) : Chg w w2 lo hi :=
  ⟨hg.os.trans h.os, hg.tape.trans h.tape, hg.output.trans h.output, Nat.le_trans h.size hg.size, fun k hk hn => (hg.block k (Nat.lt_of_lt_of_le hk h.size) (fun e => hn (hr k e.symm))).trans (h.block k hk hn)⟩
theorem below_chg {w0 w w' : World} {lo hi : Nat} (hb : Below w0.heap.size w0 w) (h : Chg w w' lo hi) (hlo : w0.heap.size ≤ lo) : Below w0.heap.size w0 w' :=
  ⟨h.os.trans hb.os, h.tape.trans hb.tape, h.output.trans hb.output, Nat.le_trans hb.size h.size, fun k hk => (h.block k (Nat.lt_of_lt_of_le hk hb.size) (by omega)).trans (hb.block k hk)⟩
theorem row_chg {w w' : World} {lo hi base : Nat} {e : TypeId} {size n : Nat} {v : Value} {xs : List Value} (h : w.ownsRow base e size v n xs) (hc : Chg w w' lo hi) (hn : ∀ k, v.ownBlock = some k → ¬ (lo ≤ k ∧ k < hi)) : w'.ownsRow base e size v n xs := by
  refine ⟨h.1, ?_⟩
  rcases h.2 with h1 | ⟨g, cap, cur, rfl, hb, hg, rest⟩
  · exact .inl h1
  · exact .inr ⟨g, cap, cur, rfl, hb, (hc.block g (Array.getElem?_eq_some_iff.1 hg).1 (hn g rfl)).trans hg, rest⟩
theorem OwnH.chg {w w' : World} {lo hi lo' hi' : Nat} {v : Value} {l : List Str} (h : OwnH w lo hi v l) (hc : Chg w w' lo' hi') (hd : hi ≤ lo' ∨ hi' ≤ lo) : OwnH w' lo hi v l :=
  ⟨row_chg h.1 hc fun k hk => by have := h.row k hk; omega, h.2⟩
theorem cell_own {w : World} {base : Nat} {e : TypeId} {a : Option Addr} {n cap : Nat} {xs : List Value} (h : w.ownsRow base e 1 (.slice a n cap) n xs) (h0 : 0 < n) : ∃ g, a = some ⟨g, 0, none⟩ ∧ base ≤ g ∧ g < w.heap.size ∧ ∀ j u, xs[j]? = some u → w.cell? ⟨g, 0 + j, none⟩ = some u := by
  rcases h.2 with ⟨_, h1⟩ | ⟨g, cap', cur, hv, hb, hg, _, _, _, ht⟩
  · omega
  · simp only [Value.slice.injEq] at hv
    refine ⟨g, hv.1, hb, (Array.getElem?_eq_some_iff.1 hg).1, fun j u hj => ?_⟩
    have hlt := (List.getElem?_eq_some_iff.1 hj).1
    rw [h.1] at hlt
    rw [Nat.zero_add, cell_of_row w g j cur _ (0, 0) hg, ← Array.getElem?_toList]
    have h2 : (cur.toList.take (n * 1))[j]? = xs[j]? := by rw [ht]
    rw [List.getElem?_take_of_lt hlt] at h2
    rw [h2, hj]

theorem row_mono {w : World} {base base' : Nat} {e : TypeId} {size n : Nat} {v : Value} {xs : List Value} (h : w.ownsRow base e size v n xs) (hb : base' ≤ base) : w.ownsRow base' e size v n xs := by
  refine ⟨h.1, ?_⟩
  rcases h.2 with hn | ⟨g, cap', cur, hv, hbg, rest⟩
  · exact .inl hn
  · exact .inr ⟨g, cap', cur, hv, Nat.le_trans hb hbg, rest⟩
theorem rowX_none {w : World} {base : Nat} {e : TypeId} {size : Nat} {a : Option Addr} {n cap : Nat} {xs : List Value} (h : w.ownsRow base e size (.slice a n cap) n xs) : a = none → cap = 0 := by
  intro e
  rcases h.2 with ⟨hv, h1⟩ | ⟨g, cap', cur, hv, _⟩
  · simp only [Value.slice.injEq] at hv
    exact hv.2.2
  · simp only [Value.slice.injEq] at hv
    rw [e] at hv
    cases hv.1
theorem rowX_cap {w : World} {base : Nat} {e : TypeId} {size : Nat} {a : Option Addr} {n cap : Nat} {xs : List Value} (h : w.ownsRow base e size (.slice a n cap) n xs) : n ≤ cap := by
  rcases h.2 with ⟨hv, h1⟩ | ⟨g, cap', cur, hv, _, _, h2, _⟩
  · omega
  · simp only [Value.slice.injEq] at hv
    omega
theorem rowX_at {w : World} {base : Nat} {e : TypeId} {size : Nat} {a : Option Addr} {n cap : Nat} {xs : List Value} (h : w.ownsRow base e size (.slice a n cap) n xs) (h0 : 0 < n) : ∃ g, a = some ⟨g, 0, none⟩ ∧ base ≤ g ∧ g < w.heap.size ∧ ∀ (j : Nat) (u : Value), xs[j]? = some u → w.cell? ⟨g, 0 + j, none⟩ = some u := by
  rcases h.2 with ⟨_, h1⟩ | ⟨g, cap', cur, hv, hb, hg, _, _, _, ht⟩
  · omega
  · simp only [Value.slice.injEq] at hv
    refine ⟨g, hv.1, hb, (Array.getElem?_eq_some_iff.1 hg).1, fun j u hj => ?_⟩
    have hlt := (List.getElem?_eq_some_iff.1 hj).1
    rw [h.1] at hlt
    rw [Nat.zero_add, cell_of_row w g j cur _ (0, 0) hg, ← Array.getElem?_toList]
    have h2 : (cur.toList.take (n * size))[j]? = xs[j]? := by rw [ht]
    rw [List.getElem?_take_of_lt hlt] at h2
    rw [h2, hj]

theorem BlkV.two0 {w : World} {g : Nat} {t : TypeId} {a b : Value} (h : BlkV w g t #[a, b]) : w.cell? ⟨g, 0, none⟩ = some a := h.cell 0
theorem BlkV.two1 {w : World} {g : Nat} {t : TypeId} {a b : Value} (h : BlkV w g t #[a, b]) : w.cell? ⟨g, 1, none⟩ = some b := h.cell 1
theorem BlkV.three0 {w : World} {g : Nat} {t : TypeId} {a b c : Value} (h : BlkV w g t #[a, b, c]) : w.cell? ⟨g, 0, none⟩ = some a := h.cell 0
theorem BlkV.three1 {w : World} {g : Nat} {t : TypeId} {a b c : Value} (h : BlkV w g t #[a, b, c]) : w.cell? ⟨g, 1, none⟩ = some b := h.cell 1
theorem BlkV.three2 {w : World} {g : Nat} {t : TypeId} {a b c : Value} (h : BlkV w g t #[a, b, c]) : w.cell? ⟨g, 2, none⟩ = some c := h.cell 2
theorem BlkV.other {w : World} {g : Nat} {t : TypeId} {cs : Array Value} (h : BlkV w g t cs) (p : Addr) (u : Value) (hne : g ≠ p.block) : BlkV (w.setCell p u) g t cs := (Below.heap_setCell w p u g hne).trans h
theorem BlkV.new_ (w : World) (t : TypeId) (cs : Array Value) (g : Nat) (hg : w.heap.size = g) : BlkV (w.alloc (.cells cs t)) g t cs := by subst hg; exact BlkV.new w t cs
theorem row_setCell {w : World} {base : Nat} {e : TypeId} {size n : Nat} {v : Value} {xs : List Value} (h : w.ownsRow base e size v n xs) (p : Addr) (u : Value) (hp : p.block < base) : (w.setCell p u).ownsRow base e size v n xs := by
  refine World.ownsRow.kept (w' := w.setCell p u) h (row := some p.block) ⟨rfl, rfl, rfl, by simp [World.setCell], fun i hi hne => Below.heap_setCell w p u i (fun e => hne (by rw [e]))⟩ ?_
  cases hv : v.ownBlock with
  | none => exact .inl rfl
  | some k =>
    refine .inr fun e => ?_
    have h1 := (World.ownsRow.lt h k hv).1
    simp only [Option.some.injEq] at e
    omega
theorem gap2_at {p : List Value} {k : Nat} {y0 y1 : Value} {r : List Value} (h : p.length = k * 2) : (p ++ y0 :: y1 :: r)[k * 2]? = some y0 ∧ (p ++ y0 :: y1 :: r)[k * 2 + 1]? = some y1 := by
  constructor
  · rw [List.getElem?_append_right (by omega), h, Nat.sub_self]; rfl
  · rw [List.getElem?_append_right (by omega), h, show k * 2 + 1 - k * 2 = 1 by omega]; rfl
theorem gap2_set {p : List Value} {k : Nat} {y0 y1 u0 u1 : Value} {r : List Value} (h : p.length = k * 2) : ((p ++ y0 :: y1 :: r).set (k * 2) u0).set (k * 2 + 1) u1 = (p ++ [u0, u1]) ++ r := by
  rw [List.set_append_right _ _ (by omega), h, Nat.sub_self, List.set_append_right _ _ (by omega), h, show k * 2 + 1 - k * 2 = 1 by omega]
  simp
theorem gap2_rest {p rest : List Value} {k n : Nat} (h : (p ++ rest).length = n * 2) (hp : p.length = k * 2) (hk : k < n) : ∃ y0 y1 r, rest = y0 :: y1 :: r := by
  rw [List.length_append, hp] at h
  match rest, h with
  | [], h => simp at h; omega
  | [_], h => simp at h; omega
  | y0 :: y1 :: r, _ => exact ⟨y0, y1, r, rfl⟩

theorem row_keptO {w w' : World} {base : Nat} {e : TypeId} {size n : Nat} {v : Value} {xs : List Value} {r : Option Nat} (h : w.ownsRow base e size v n xs) (hg : w.grownBy w' r) (hn : ∀ k, r = some k → v.ownBlock ≠ some k) : w'.ownsRow base e size v n xs := by
  refine World.ownsRow.kept h hg ?_
  cases hv : v.ownBlock with
  | none => exact .inl rfl
  | some k => exact .inr fun e => hn k e.symm hv
theorem Chg.trans {w w1 w2 : World} {lo hi : Nat} (h : Chg w w1 lo hi) (h' : Chg w1 w2 lo hi) : Chg w w2 lo hi :=
  ⟨h'.os.trans h.os, h'.tape.trans h.tape, h'.output.trans h.output, Nat.le_trans h.size h'.size, fun k hk hn => (h'.block k (Nat.lt_of_lt_of_le hk h.size) hn).trans (h.block k hk hn)⟩
theorem row_block {w w' : World} {base : Nat} {e : TypeId} {size n : Nat} {v : Value} {xs : List Value} (h : w.ownsRow base e size v n xs) (hb : ∀ k, v.ownBlock = some k → w'.heap[k]? = w.heap[k]?) : w'.ownsRow base e size v n xs := by
  refine ⟨h.1, ?_⟩
  rcases h.2 with h1 | ⟨g, cap, cur, rfl, hbg, hg, rest⟩
  · exact .inl h1
  · exact .inr ⟨g, cap, cur, rfl, hbg, (hb g rfl).trans hg, rest⟩

theorem row_kept {w w' : World} {base : Nat} {v : Value} {l : List Str} {g : Nat} (h : OwnS w base v l) (hg : w.grownBy w' (some g)) (hn : ∀ k, v.ownBlock = some k → k ≠ g) : OwnS w' base v l := by
  refine World.ownsRow.kept h hg ?_
  cases hv : v.ownBlock with
  | none => exact .inl rfl
  | some k => exact .inr fun e => hn k hv (by injection e)
theorem snoc_at {α : Type} {vs : List α} {u x : α} {j : Nat} (h : (vs ++ [u])[j]? = some x) : vs[j]? = some x ∨ (j = vs.length ∧ x = u) := by
  rcases Nat.lt_or_ge j vs.length with hlt | hge
  · rw [List.getElem?_append_left hlt] at h; exact .inl h
  · rw [List.getElem?_append_right hge] at h
    have : j - vs.length = 0 := by have := (List.getElem?_eq_some_iff.1 h).1; simp at this; omega
    rw [this] at h
    simp at h
    exact .inr ⟨by omega, h.symm⟩
theorem ss_row_at {vs rest : List Value} {k n : Nat} (h : (vs ++ rest).length = n) (hv : vs.length = k) (hk : k < n) : ∃ y r, rest = y :: r ∧ (vs ++ y :: r)[k]? = some y ∧ ∀ u, (vs ++ y :: r).set k u = (vs ++ [u]) ++ r := by
  match rest, h with
  | [], h => simp at h; omega
  | y :: r, _ =>
    refine ⟨y, r, rfl, ?_, fun u => ?_⟩
    · rw [List.getElem?_append_right (by omega), hv, Nat.sub_self]; rfl
    · rw [List.set_append_right _ _ (by omega), hv, Nat.sub_self, List.set_cons_zero]; simp

theorem two_cells (w : World) (x y : Value) (T : TypeId) : ∀ j u, [x, y][j]? = some u → (w.alloc (.cells #[x, y] T)).cell? ((⟨w.heap.size, 0, none⟩ : Addr).add j) = some u := by
  intro j u hj
  match j, hj with
  | 0, hj => simp at hj; subst hj; simp [go_sem, Addr.add]
  | 1, hj => simp at hj; subst hj; simp [go_sem, Addr.add]
/-- what is written into blocks that are newer changes nothing -/
theorem Chg.high {w w1 w2 : World} {lo hi : Nat} {r : Option Nat} (h : Chg w w1 lo hi) (hg : w1.grownBy w2 r) (hr : ∀ k, r = some k → (lo ≤ k ∧ k < hi) ∨ w.heap.size ≤ k) : Chg w w2 lo hi :=
  ⟨hg.os.trans h.os, hg.tape.trans h.tape, hg.output.trans h.output, Nat.le_trans h.size hg.size, fun k hk hn => (hg.block k (Nat.lt_of_lt_of_le hk h.size) (fun e => by rcases hr k e.symm with h1 | h1; exact hn h1; omega)).trans (h.block k hk hn)⟩
theorem Chg.belowR {w w1 w2 : World} {lo hi : Nat} (h : Chg w w1 lo hi) (hb : Below w1.heap.size w1 w2) : Chg w w2 lo hi :=
  ⟨hb.os.trans h.os, hb.tape.trans h.tape, hb.output.trans h.output, Nat.le_trans h.size hb.size, fun k hk hn => (hb.block k (Nat.lt_of_lt_of_le hk h.size)).trans (h.block k hk hn)⟩

end Go.Proofs.Ytpldjihajclblaa

/-
  A world behind a draw, a world behind a new block. By an AI agent.
-/
namespace Go.Proofs.Ytpldjihajclblaa
open Go.RowKit

theorem undrew {w w' : World} (h : Below w.drew.heap.size w.drew w') : Below w.heap.size w w' := ⟨h.os, h.tape, h.output, h.size, h.block⟩
theorem below_new {w w' : World} {o : Obj} (h : Below (w.alloc o).heap.size (w.alloc o) w') : Below w.heap.size w w' := ((Below.refl _ _).alloc (Nat.le_refl _) o).trans (h.mono (by simp))
theorem wrap_one : IntKind.i64.wrap 1 = 1 := by decide

end Go.Proofs.Ytpldjihajclblaa

/-
  Two strings compared; a string that is empty or not. By an AI agent.
-/
namespace Go.Proofs.Ytpldjihajclblaa
open Go.RowKit

theorem dsize (t : ByteArray) : t.data.toList.length = t.size := by simp
theorem sames {a b : ByteArray} (h : a ≠ b) : (a.toList == b.toList) = false := by
  rw [ByteArray.toList_eq, ByteArray.toList_eq]
  simp
  intro e
  exact h (ByteArray.ext e)
theorem empt {s : ByteArray} (h : s.size = 0) : s = ⟨#[]⟩ := by
  apply ByteArray.ext
  apply Array.ext'
  exact List.eq_nil_of_length_eq_zero (by simpa using h)
theorem fulls {s : ByteArray} (h : ¬ s.size = 0) : (s.toList == ([] : List UInt8)) = false ∧ s.toList.isEmpty = false := by
  rw [ByteArray.toList_eq]
  have h1 : s.data.toList ≠ [] := fun e => h (by rw [← dsize, e]; rfl)
  cases h2 : s.data.toList with
  | nil => exact absurd h2 h1
  | cons a b => exact ⟨rfl, rfl⟩
theorem empties {s : ByteArray} (h : s.size = 0) : (s.toList == ([] : List UInt8)) = true ∧ s.toList.isEmpty = true := by
  rw [empt h, ByteArray.toList_eq]
  exact ⟨rfl, rfl⟩

end Go.Proofs.Ytpldjihajclblaa

/-
  Chapter 5's numbers: spec.l5Good, MinOverlap and LengthBounds on both sides, the quotients in thousandths. By an AI agent.
-/
namespace Go.Proofs.Ytpldjihajclblaa
open Go.RowKit
set_option linter.unusedVariables false

/-- a size from 0 to 1000, a threshold from 1 to 1000 -/
def okS (x : Int) : Bool := decide (0 ≤ x) && decide (x ≤ 1000)
def okT (x : Int) : Bool := decide (1 ≤ x) && decide (x ≤ 1000)
theorem okS_yes {x : Int} (h : okS x = true) : 0 ≤ x ∧ x ≤ 1000 := by simpa [okS] using h
theorem okS_no {x : Int} (h : okS x = false) : ¬ (0 ≤ x ∧ x ≤ 1000) := fun k => by simp [okS, k.1, k.2] at h
theorem okT_yes {x : Int} (h : okT x = true) : 1 ≤ x ∧ x ≤ 1000 := by simpa [okT] using h
theorem okT_no {x : Int} (h : okT x = false) : ¬ (1 ≤ x ∧ x ≤ 1000) := fun k => by simp [okT, k.1, k.2] at h
theorem sret_bool {a b : Bool} (h : a = b) : Ending.returned (.bool a) = .returned (.bool b) := by rw [h]
theorem sret_int {k : IntKind} {a b : Int} (h : a = b) : Ending.returned (.int k a) = .returned (.int k b) := by rw [h]

set_option maxRecDepth 100000 in
theorem threshold_is (x : Int) (b : Bool) (w : World) (hb : okT x = b) :
    Calls Try.prog 52 #[.int .i64 x] w fun e w' => e = .returned (.bool b) ∧ w' = w := by
  have HB := Lib.hid hb
  clear hb
  by_cases h1 : 1 ≤ x
  · by_cases h2 : x ≤ 1000
    · go_enter Try.func52, Try.ntmps52
      go_wp2
      go_ret
      exact ⟨sret_bool (by rw [← HB.out]; simp [okT, h1, h2]), rfl⟩
    · go_enter Try.func52, Try.ntmps52
      go_wp2
      go_ret
      exact ⟨sret_bool (by rw [← HB.out]; simp [okT, h1, h2]), rfl⟩
  · go_enter Try.func52, Try.ntmps52
    go_wp2
    go_ret
    exact ⟨sret_bool (by rw [← HB.out]; simp [okT]; intro _; omega), rfl⟩

theorem l1In_any (x a b : Int) (r : Bool) (w : World) (h : decide (a ≤ x ∧ x ≤ b) = r) :
    Calls Try.prog 25 #[.int .i64 x, .int .i64 a, .int .i64 b] w fun e w' => e = .returned (.bool r) ∧ w' = w := by
  cases r with
  | true =>
    have h1 := of_decide_eq_true h
    exact (l1In_yes x a b w h1.1 h1.2).mono fun e w' k => ⟨k.1, k.2.symm⟩
  | false => exact (l1In_no x a b w (of_decide_eq_false h)).mono fun e w' k => ⟨k.1, k.2.symm⟩
theorem okS_dec (x : Int) : decide (0 ≤ x ∧ x ≤ 1000) = okS x := by unfold okS; by_cases h1 : 0 ≤ x <;> by_cases h2 : x ≤ 1000 <;> simp [h1, h2]
theorem okT_dec (x : Int) : decide (1 ≤ x ∧ x ≤ 1000) = okT x := by unfold okT; by_cases h1 : 1 ≤ x <;> by_cases h2 : x ≤ 1000 <;> simp [h1, h2]

def goodR (x y t : Int) : Bool := okS x && (okS y && okT t)

/-- the least overlap -/
def moR (x y t : Int) : Int := (t * (x + y) + 999 + t) / (1000 + t)

theorem mul_range {a b m n : Int} (h1 : 0 ≤ a) (h2 : a ≤ m) (h3 : 0 ≤ b) (h4 : b ≤ n) : 0 ≤ a * b ∧ a * b ≤ m * n := by
  refine ⟨Int.mul_nonneg h1 h3, ?_⟩
  calc a * b ≤ m * b := Int.mul_le_mul_of_nonneg_right h2 h3
    _ ≤ m * n := Int.mul_le_mul_of_nonneg_left h4 (by omega)
theorem wrap_of {p : Int} (h1 : 0 ≤ p) (h2 : p ≤ 3000000) : IntKind.i64.wrap p = p := IntWalk.i64_in p (by omega)
theorem sret_two {a b c d : Int} (h1 : a = c) (h2 : b = d) : Ending.returned (.tuple #[.int .i64 a, .int .i64 b]) = .returned (.tuple #[.int .i64 c, .int .i64 d]) := by rw [h1, h2]
theorem quo_range {m d : Int} (h1 : 0 ≤ m) (h2 : 1 ≤ d) : 0 ≤ m / d ∧ m / d ≤ m := ⟨Int.ediv_nonneg h1 (by omega), Int.ediv_le_self d h1⟩

/-- the bounds of a size -/
def lbLo (x t : Int) : Int := (x * t + 999) / 1000
def lbHi (x t : Int) : Int := x * 1000 / t

end Go.Proofs.Ytpldjihajclblaa

/-
  A region that draws its order, whose loads are taken first under a condition S on the world, and whose LAST operation (number n, which waits for all others) writes one of the cells that S names: S is not asked behind it. By an AI agent.
-/
namespace Go.Proofs.Ytpldjihajclblaa
open Go

variable {P : Program} {ops : Array Oper} {Q : Exit → Act → World → Prop} {md : Region.Mode} {S : World → Prop} {n : Nat}

/-- whichever comes up comes up; behind each but the last S holds -/
def anyE (P : Program) (md : Region.Mode) (ops : Array Oper) (Q : Exit → Act → World → Prop) (S : World → Prop) (n : Nat) : Nat → Array Bool → Act → World → Prop
  | 0, L, a, w => Region.ready md ops L = [] ∧ Q .normal a w
  | f + 1, L, a, w => (Region.ready md ops L = [] → Q .normal a w) ∧ ∀ i ∈ Region.ready md ops L, wpOp P ops Q i (fun a' w' => (i ≠ n → S w') ∧ anyE P md ops Q S n f (L.setIfInBounds i true) a' w') a w

theorem anyE_any : ∀ (f : Nat) (L : Array Bool) (a : Act) (w : World), anyE P md ops Q S n f L a w → wpAny P md ops Q f L a w
  | 0, _, _, _, h => h
  | f + 1, _, _, _, h => ⟨h.1, fun i hi => wpOp_mono (fun a' w' h' => anyE_any f _ a' w' h'.2) (h.2 i hi)⟩

/-- one that waits for i is not ready before i has come up -/
theorem not_ready {i j : Nat} {L : Array Bool} {oj : Oper} (hj : j ∈ Region.ready md ops L) (ho : ops[j]? = some oj) (hi : i ∈ Region.ready md ops L) : ∀ x ∈ oj.after, Region.binds md x = true → x.on ≠ i := by
  intro x hx hb he
  obtain ⟨_, o, ho', hall⟩ := mem_ready.1 hj
  rw [ho] at ho'
  obtain rfl := Option.some.inj ho'
  have h1 := hall x hx hb
  have h0 := (mem_ready.1 hi).1
  rw [he] at h1
  by_cases hs : i < L.size
  · simp [hs] at h0 h1
    rw [h0] at h1
    cases h1
  · simp [Array.getElem?_eq_none (Nat.le_of_not_lt hs)] at h1

/-- what is listed lists what it waits for -/
def Closed (md : Region.Mode) (ops : Array Oper) (L : Array Bool) : Prop := ∀ j oj, L.getD j false = true → ops[j]? = some oj → ∀ x ∈ oj.after, Region.binds md x = true → L.getD x.on false = true
def closedB (md : Region.Mode) (ops : Array Oper) (L : Array Bool) : Bool :=
  (List.range ops.size).all fun j => !(L.getD j false) || (match ops[j]? with
    | some oj => oj.after.all fun x => !(Region.binds md x) || L.getD x.on false
    | none => true)
theorem closed_of {L : Array Bool} (h : closedB md ops L = true) : Closed md ops L := by
  intro j oj hj ho x hx hb
  have hlt := (Array.getElem?_eq_some_iff.1 ho).1
  have h1 := List.all_eq_true.1 h j (List.mem_range.2 hlt)
  rw [hj, ho] at h1
  have h3 : oj.after.all (fun x => !(Region.binds md x) || L.getD x.on false) = true := by simpa only [Bool.not_true, Bool.false_or] using h1
  have h2 := Array.all_eq_true'.1 h3 x hx
  rw [hb] at h2
  simpa only [Bool.not_true, Bool.false_or] using h2
theorem closed_set {L : Array Bool} {j : Nat} (hc : Closed md ops L) (hj : j ∈ Region.ready md ops L) : Closed md ops (L.setIfInBounds j true) := by
  intro k ok hk ho x hx hb
  refine getD_set_true ?_
  obtain ⟨_, oj, hoj, hall⟩ := mem_ready.1 hj
  by_cases hjk : j = k
  · subst hjk
    rw [ho] at hoj
    obtain rfl := Option.some.inj hoj
    exact hall x hx hb
  · rw [getD_set_ne false hjk] at hk
    exact hc k ok hk ho x hx hb
/-- j waits for i, by way of others -/
def ancB (md : Region.Mode) (ops : Array Oper) : Nat → Nat → Nat → Bool
  | 0, _, _ => false
  | f + 1, j, i => match ops[j]? with
    | some oj => oj.after.any fun x => Region.binds md x && (x.on == i || ancB md ops f x.on i)
    | none => false
theorem anc_step {f j i : Nat} (h : ancB md ops (f + 1) j i = true) : ∃ oj, ops[j]? = some oj ∧ ∃ x ∈ oj.after, Region.binds md x = true ∧ (x.on = i ∨ ancB md ops f x.on i = true) := by
  unfold ancB at h
  split at h
  · rename_i oj hj
    obtain ⟨x, hx, hb⟩ := Array.any_eq_true'.1 h
    simp only [Bool.and_eq_true, Bool.or_eq_true, beq_iff_eq] at hb
    exact ⟨oj, hj, x, hx, hb.1, hb.2⟩
  · cases h
theorem anc_listed {L : Array Bool} (hc : Closed md ops L) : ∀ (f j i : Nat), ancB md ops f j i = true → L.getD j false = true → L.getD i false = true
  | 0, _, _, h, _ => by cases h
  | f + 1, j, i, h, hl => by
    obtain ⟨oj, hj, x, hx, hb, h1⟩ := anc_step h
    have h2 := hc j oj hl hj x hx hb
    rcases h1 with h1 | h1
    · rw [← h1]; exact h2
    · exact anc_listed hc f _ _ h1 h2
theorem anc_ready {L : Array Bool} (hc : Closed md ops L) {f j i : Nat} (h : ancB md ops f j i = true) (hr : j ∈ Region.ready md ops L) : L.getD i false = true := by
  cases f with
  | zero => cases h
  | succ f =>
    obtain ⟨oj, hj, x, hx, hb, h1⟩ := anc_step h
    obtain ⟨_, o, ho, hall⟩ := mem_ready.1 hr
    rw [hj] at ho
    obtain rfl := Option.some.inj ho
    have h2 := hall x hx hb
    rcases h1 with h1 | h1
    · rw [← h1]; exact h2
    · exact anc_listed hc f _ _ h1 h2

theorem anyE_first {i m : Nat} {oi : Oper} {v : Value} (hi : ops[i]? = some oi) (hsel : ∀ (j : Nat) (o : Oper) cs b, ops[j]? = some o → o.op ≠ .select cs b) (hQ : ∀ c a w, Q (.panic c) (a.put oi.dst v) w → Q (.panic c) a w)
    (hn : ancB md ops m n i = true) : ∀ (f : Nat) (L : Array Bool) (a : Act) (w : World), Closed md ops L →
    (∀ j oj, ops[j]? = some oj → j ≠ i → L.getD j true = false → (∀ x ∈ oj.after, Region.binds md x = true → x.on ≠ i) → oi.apart ops oj = true) →
    i ∈ Region.ready md ops L → YieldsIf P ops S oi v a → S w → anyE P md ops Q S n f (L.setIfInBounds i true) (a.put oi.dst v) w → anyE P md ops Q S n (f + 1) L a w
  | f, L, a, w, hc, hap, hr, hy, hS, H => by
    refine ⟨fun h0 => (by rw [h0] at hr; cases hr), fun j hj => ?_⟩
    by_cases hji : j = i
    · subst hji
      exact hy.wpOp hi hS ⟨fun _ => hS, H⟩
    cases f with
    | zero =>
      have h1 := ready_mono hj hji
      rw [H.1] at h1
      cases h1
    | succ f =>
      obtain ⟨hun, oj, hoj, -⟩ := mem_ready.1 hj
      have hno := not_ready hj hoj hr
      have hjn : j ≠ n := fun e => by
        subst e
        have h1 := anc_ready hc hn hj
        rw [getD_both (mem_ready.1 hr).1] at h1
        cases h1
      have hap' : ∀ k ok, ops[k]? = some ok → k ≠ i → (L.setIfInBounds j true).getD k true = false → (∀ x ∈ ok.after, Region.binds md x = true → x.on ≠ i) → oi.apart ops ok = true := fun k ok hk hki hku hkx => by
        by_cases hjk : j = k
        · subst hjk
          exact hap j ok hk hki hun hkx
        · rw [getD_set_ne true hjk] at hku
          exact hap k ok hk hki hku hkx
      have h2 := wpOp_putIf hoj (hap j oj hoj hji hun hno) (fun cs b => hsel i oi cs b hi) (fun cs b => hsel j oj cs b hoj) hQ hy (H.2 j (ready_mono hj hji))
      refine wpOp_mono (fun a' w' h3 => ?_) h2
      have hS' := h3.2.1 hjn
      refine ⟨fun _ => hS', anyE_first hi hsel hQ hn f _ a' w' (closed_set hc hj) hap' (ready_mono hr (Ne.symm hji)) h3.1 hS' ?_⟩
      rw [Array.setIfInBounds_comm _ _ hji]
      exact h3.2.2

theorem anyE_take {i : Nat} {oi : Oper} {v : Value} {f : Nat} {L : Array Bool} {a : Act} {w : World} (hi : ops[i]? = some oi) (hs : Region.noSelect ops = true) (hf : Region.free md ops L i = true) (hr : (Region.ready md ops L).contains i = true) (hn : ancB md ops ops.size n i = true) (hc : closedB md ops L = true)
    (hQ : ∀ c a w, Q (.panic c) (a.put oi.dst v) w → Q (.panic c) a w) (hy : YieldsIf P ops S oi v a) (hS : S w) (h : anyE P md ops Q S n f (L.setIfInBounds i true) (a.put oi.dst v) w) : anyE P md ops Q S n (f + 1) L a w :=
  anyE_first hi (Region.noSelect_spec hs) hQ hn f L a w (closed_of hc) (Region.free_spec hi hf) (by simpa using hr) hy hS h

theorem anyE_all {rs : List Nat} {f : Nat} {L : Array Bool} {a : Act} {w : World} (hr : Region.ready md ops L = rs) (hne : rs ≠ []) (h : ∀ i ∈ rs, wpOp P ops Q i (fun a' w' => (i ≠ n → S w') ∧ anyE P md ops Q S n f (L.setIfInBounds i true) a' w') a w) : anyE P md ops Q S n (f + 1) L a w :=
  ⟨fun h0 => absurd (hr ▸ h0) hne, hr ▸ h⟩
theorem anyE_one {i : Nat} {f : Nat} {L : Array Bool} {a : Act} {w : World} (hr : Region.ready md ops L = [i]) (h : wpOp P ops Q i (fun a' w' => (i ≠ n → S w') ∧ anyE P md ops Q S n f (L.setIfInBounds i true) a' w') a w) : anyE P md ops Q S n (f + 1) L a w :=
  anyE_all hr (by simp) (fun j hj => by simp at hj; subst hj; exact h)
theorem anyE_two {i j : Nat} {f : Nat} {L : Array Bool} {a : Act} {w : World} (hr : Region.ready md ops L = [i, j]) (h1 : wpOp P ops Q i (fun a' w' => (i ≠ n → S w') ∧ anyE P md ops Q S n f (L.setIfInBounds i true) a' w') a w)
    (h2 : wpOp P ops Q j (fun a' w' => (j ≠ n → S w') ∧ anyE P md ops Q S n f (L.setIfInBounds j true) a' w') a w) : anyE P md ops Q S n (f + 1) L a w :=
  anyE_all hr (by simp) (fun k hk => by simp at hk; rcases hk with rfl | rfl; exact h1; exact h2)
theorem anyE_step {i : Nat} {o : Oper} {f : Nat} {L : Array Bool} {a : Act} {w : World} (ho : ops[i]? = some o)
    (h : ∀ K' : Act → World → Prop, Shut (∀ a w, (i ≠ n → S w) → ((i ≠ n → S w) → anyE P md ops Q S n f (L.setIfInBounds i true) a w) → K' a w) → if Region.wanted o (yielded ops a.tmps) = true then Oper.wp P o a w K' Q else K' (a.put o.dst undef) w) :
    wpOp P ops Q i (fun a' w' => (i ≠ n → S w') ∧ anyE P md ops Q S n f (L.setIfInBounds i true) a' w') a w :=
  wpOp_step ho fun K' hK => h K' fun a w hS hW => hK a w ⟨hS, hW hS⟩
theorem anyE_done {L : Array Bool} {a : Act} {w : World} (hr : Region.ready md ops L = []) (h : Q .normal a w) : ∀ f, anyE P md ops Q S n f L a w
  | 0 => ⟨hr, h⟩
  | _ + 1 => ⟨fun _ => h, by rw [hr]; simp⟩
theorem wp_region_E {id : Nat} {a : Act} {w : World} (n : Nat) (hm : P.follows .mixedOrders = true) (hS : S w.drew) (h : S w.drew → anyE P .any ops Q S n ops.size (Array.replicate ops.size false) a w.drew) : (Code.region id ops true).wp P Q a w :=
  wp_region_any hm (anyE_any _ _ _ _ (h hS))

end Go.Proofs.Ytpldjihajclblaa

