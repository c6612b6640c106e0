/-
  Texts laid together: Draw, Draw1, Draw2, NumDraw, SetDraw, RecDraw, RecDraw2, RecDraw3, RecDraw4, LawCode. By an AI agent.
-/
import Derived.Test.YtebddnjccmaimaaGreatDoorGMem
import Derived.BigQuiet
import Derived.Deep.QuietTactic
import Derived.Laws.BitsLemmas
import Derived.Deep.RegionWith
import Derived.Test.YtebddnjccmaimaaGreatDoorGSet
import Derived.Lib.AppendZeros
import Derived.Test.YtebddnjccmaimaaGreatDoorRecV
import Derived.Deep.RegionHeld3
import Derived.Deep.RegionLaw
/-
  What the cursor of spec (l1New, l1Byte, l1Below, l1PickInt) does: some numbers within their bounds; nothing but the cursor is written. By an AI agent.
-/
namespace Go.Proofs.YtebddnjccmaimaaGreatDoor
open Go.RowKit
set_option linter.unusedVariables false

/-- the cursor's block -/
def CurB (w : World) (c : Nat) (A : Option Addr) (len cap i : Nat) (h : Int) : Prop :=
  w.heap[c]? = some (.cells #[.slice A len cap, .int .i64 i, .int .i64 h] 93 (0, 0))

/-- the bytes that the cursor reads lie below block B -/
def CodeAt (w : World) (B : Nat) (A : Option Addr) (len : Nat) : Prop :=
  len ≤ 1048576 ∧ (0 < len → ∃ b off, A = some ⟨b, off, none⟩ ∧ b < B ∧ ∀ j, j < len → ∃ z : Int, 0 ≤ z ∧ z ≤ 255 ∧ w.cell? ⟨b, off + j, none⟩ = some (.int .u8 z))

def Cur (w : World) (B c : Nat) : Prop := B ≤ c ∧ ∃ A len cap i h, i ≤ len ∧ CurB w c A len cap i h ∧ CodeAt w B A len

theorem CurB.cell {w : World} {c : Nat} {A : Option Addr} {len cap i : Nat} {h : Int} (hc : CurB w c A len cap i h) (k : Nat) : w.cell? ⟨c, k, none⟩ = (#[Value.slice A len cap, .int .i64 i, .int .i64 h] : Array Value)[k]? :=
  cell_of_row w c k _ 93 (0, 0) hc
theorem CurB.frozen {w : World} {c : Nat} {A : Option Addr} {len cap i : Nat} {h : Int} (hc : CurB w c A len cap i h) (k : Nat) : w.frozen? ⟨c, k, none⟩ = false := by
  unfold CurB at hc
  simp [World.frozen?, hc]
theorem CurB.set1 {w : World} {c : Nat} {A : Option Addr} {len cap i : Nat} {h : Int} (hc : CurB w c A len cap i h) (j : Nat) : CurB (w.setCell ⟨c, 1, none⟩ (.int .i64 j)) c A len cap j h := by
  unfold CurB at hc ⊢
  simp [World.setCell, Array.getElem?_modify, hc]
theorem CurB.set2 {w : World} {c : Nat} {A : Option Addr} {len cap i : Nat} {h : Int} (hc : CurB w c A len cap i h) (h' : Int) : CurB (w.setCell ⟨c, 2, none⟩ (.int .i64 h')) c A len cap i h' := by
  unfold CurB at hc ⊢
  simp [World.setCell, Array.getElem?_modify, hc]
theorem CurB.lt {w : World} {c : Nat} {A : Option Addr} {len cap i : Nat} {h : Int} (hc : CurB w c A len cap i h) : c < w.heap.size := by
  rcases Nat.lt_or_ge c w.heap.size with hlt | hge
  · exact hlt
  · unfold CurB at hc; rw [Array.getElem?_eq_none hge] at hc; cases hc

theorem CodeAt.keep {w w' : World} {B : Nat} {A : Option Addr} {len : Nat} (h : CodeAt w B A len) (hk : ∀ k, k < B → w'.heap[k]? = w.heap[k]?) : CodeAt w' B A len := by
  refine ⟨h.1, fun h0 => ?_⟩
  obtain ⟨b, off, hA, hb, hz⟩ := h.2 h0
  refine ⟨b, off, hA, hb, fun j hj => ?_⟩
  obtain ⟨z, h1, h2, h3⟩ := hz j hj
  exact ⟨z, h1, h2, by rw [World.cell?_of_block (hk b hb)]; exact h3⟩

theorem Cur.lt {w : World} {B c : Nat} (h : Cur w B c) : c < w.heap.size := by
  obtain ⟨_, _, _, _, _, _, _, hc, _⟩ := h
  exact hc.lt
theorem Cur.alloc {w : World} {B c : Nat} (h : Cur w B c) (o : Obj) : Cur (w.alloc o) B c := by
  have hlt := h.lt
  obtain ⟨hB, A, len, cap, i, hh, hi, hc, hcode⟩ := h
  exact ⟨hB, A, len, cap, i, hh, hi, (Below.heap_alloc w o c hlt).trans hc, hcode.keep fun k hk => Below.heap_alloc w o k (by omega)⟩
/-- writes to other blocks leave the cursor alone -/
theorem Cur.below {w w' : World} {B c B' : Nat} (h : Cur w B c) (hb : Below B' w w') (hc' : c < B') : Cur w' B c := by
  obtain ⟨hB, A, len, cap, i, hh, hi, hc, hcode⟩ := h
  exact ⟨hB, A, len, cap, i, hh, hi, (hb.block c hc').trans hc, hcode.keep fun k hk => hb.block k (by omega)⟩

theorem and255 (a : Int) : 0 ≤ bits .and .i64 a 255 ∧ bits .and .i64 a 255 ≤ 255 := by
  have h : ((BitVec.ofInt 64 a) &&& (BitVec.ofInt 64 255)).toNat ≤ 255 := by
    rw [BitVec.toNat_and]
    exact Nat.and_le_right
  have e : bits .and .i64 a 255 = (((BitVec.ofInt 64 a) &&& (BitVec.ofInt 64 255)).toNat : Int) := by
    show IntKind.i64.wrap ((((BitVec.ofInt 64 a) &&& (BitVec.ofInt 64 255)).toNat : Nat) : Int) = _
    exact IntWalk.i64_in _ (by omega)
  rw [e]
  omega

theorem grown_set (w : World) (c k : Nat) (u : Value) : w.grownBy (w.setCell ⟨c, k, none⟩ u) (some c) :=
  ⟨rfl, rfl, rfl, by simp [World.setCell], fun j _ hne => Below.heap_setCell w ⟨c, k, none⟩ u j (fun e => hne (by rw [e]))⟩
theorem grown_trans {a b d : World} {c : Nat} (h1 : a.grownBy b (some c)) (h2 : b.grownBy d (some c)) : a.grownBy d (some c) :=
  ⟨h2.os.trans h1.os, h2.tape.trans h1.tape, h2.output.trans h1.output, Nat.le_trans h1.size h2.size, fun k hk hne => (h2.block k (Nat.lt_of_lt_of_le hk h1.size) hne).trans (h1.block k hk hne)⟩
theorem grown_drewN {a b : World} {c : Nat} (h : a.grownBy b (some c)) (n : Nat) : a.grownBy (b.drewN n) (some c) := ⟨h.os, h.tape, h.output, h.size, h.block⟩
theorem CurB.drewN {w : World} {c : Nat} {A : Option Addr} {len cap i : Nat} {h : Int} (hc : CurB w c A len cap i h) (n : Nat) : CurB (w.drewN n) c A len cap i h := hc

def SomeByte (w : World) (B c : Nat) (e : Ending) (w' : World) : Prop := ∃ x : Int, e = .returned (.int .i64 x) ∧ 0 ≤ x ∧ x ≤ 255 ∧ Cur w' B c ∧ w.grownBy w' (some c)

set_option maxRecDepth 100000 in
set_option maxHeartbeats 1000000 in
theorem l1Byte_any (B c : Nat) (w : World) (hcur : Cur w B c) : Calls Tryz.prog 103 #[.pointer (some ⟨c, 0, none⟩)] w (SomeByte w B c) := by
  obtain ⟨hB, A, len, cap, i, h, hi, hc, hcode⟩ := hcur
  have HC := Lib.hid hc
  have HCODE := Lib.hid hcode
  have c0 : w.cell? ⟨c, 0, none⟩ = some (.slice A len cap) := hc.cell 0
  have c1 : w.cell? ⟨c, 1, none⟩ = some (.int .i64 i) := hc.cell 1
  have c2 : w.cell? ⟨c, 2, none⟩ = some (.int .i64 h) := hc.cell 2
  have f1 := hc.frozen 1
  have f2 := hc.frozen 2
  clear hc hcode
  by_cases hlt : i < len
  · obtain ⟨b, off, rfl, hb, hz⟩ := HCODE.out.2 (by omega)
    obtain ⟨z, z0, z1, hcell⟩ := hz i hlt
    clear hz
    have hlen := HCODE.out.1
    have hcell2 : ∀ v, (w.setCell ⟨c, 2, none⟩ v).cell? ⟨b, off + i, none⟩ = some (.int .u8 z) := fun v => by
      rw [World.cell?_setCell_other w _ _ v (fun e => by have h := congrArg Addr.block e; simp only at h; omega)]
      exact hcell
    go_enter Tryz.func103, Tryz.ntmps103
    go_wp2
    go_quiet (fail)
    go_wp2
    go_quiet (fail)
    go_wp2
    go_quiet (fail)
    go_wp2
    go_ret
    refine ⟨_, rfl, (and255 _).1, (and255 _).2, ⟨hB, _, len, cap, i + 1, _, by omega, (((HC.out.set2 _).set1 (i + 1))), ?_⟩, ?_⟩
    · exact HCODE.out.keep fun k hk => (Below.heap_setCell _ ⟨c, 1, none⟩ _ k (by simp; omega)).trans (Below.heap_setCell w ⟨c, 2, none⟩ _ k (by simp; omega))
    · exact grown_trans (grown_drewN (grown_set w c 2 _) _) (grown_set _ c 1 _)
  · go_enter Tryz.func103, Tryz.ntmps103
    go_wp2
    go_quiet (fail)
    go_wp2
    go_quiet (fail)
    go_wp2
    go_ret
    refine ⟨_, rfl, (and255 _).1, (and255 _).2, ⟨hB, A, len, cap, i, _, hi, HC.out.set2 _, ?_⟩, ?_⟩
    · exact HCODE.out.keep fun k hk => Below.heap_setCell w ⟨c, 2, none⟩ _ k (by simp; omega)
    · exact grown_drewN (grown_drewN (grown_set w c 2 _) _) _

theorem SomeByte.mk {w w' : World} {B c : Nat} {e : Ending} (h : SomeByte w B c e w') : ∃ x : Int, e = .returned (.int .i64 x) ∧ 0 ≤ x ∧ x ≤ 255 ∧ Cur w' B c ∧ w.grownBy w' (some c) := h

def SomeBelow (w : World) (B c : Nat) (n : Int) (e : Ending) (w' : World) : Prop := ∃ x : Int, e = .returned (.int .i64 x) ∧ 0 ≤ x ∧ x < n ∧ Cur w' B c ∧ w.grownBy w' (some c)

set_option maxRecDepth 100000 in
set_option maxHeartbeats 1000000 in
theorem l1Below_small (B c : Nat) (n : Int) (w : World) (hcur : Cur w B c) (h0 : 0 < n) (h1 : n ≤ 256) : Calls Tryz.prog 78 #[.pointer (some ⟨c, 0, none⟩), .int .i64 n] w (SomeBelow w B c n) := by
  have HC := Lib.hid hcur
  clear hcur
  go_enter Tryz.func78, Tryz.ntmps78
  go_wp2_with (go_at_call 103; (refine (l1Byte_any B c _ HC.out).mono ?_); rintro e w1 ⟨x, rfl, hx0, hx1, hc1, hg1⟩; have HC1 := Lib.hid hc1; have HG1 := Lib.hid hg1; clear hc1 hg1)
  go_ret
  exact ⟨_, rfl, Int.emod_nonneg _ (by omega), Int.emod_lt_of_pos _ h0, HC1.out, HG1.out⟩

set_option maxRecDepth 100000 in
set_option maxHeartbeats 1000000 in
theorem l1Below_large (B c : Nat) (n : Int) (w : World) (hcur : Cur w B c) (h0 : 256 < n) (h1 : n ≤ 4611686018427387904) : Calls Tryz.prog 78 #[.pointer (some ⟨c, 0, none⟩), .int .i64 n] w (SomeBelow w B c n) := by
  have HC := Lib.hid hcur
  have HG := Lib.hid (show 0 < n by omega)
  clear hcur
  go_enter Tryz.func78, Tryz.ntmps78
  go_wp2_with (go_at_call 103; (refine (l1Byte_any B c _ HC.out).mono ?_); rintro e w1 ⟨x1, rfl, hx0, hx1, hc1, hg1⟩; refine Hid.out ?_)
  refine Lib.hid ?_
  have HC1 := Lib.hid hc1
  have HG1 := Lib.hid hg1
  clear hc1 hg1
  go_wp2_with (go_at_call 103; (refine (l1Byte_any B c _ HC1.out).mono ?_); rintro e w2 ⟨x2, rfl, hy0, hy1, hc2, hg2⟩; refine Hid.out ?_)
  refine Lib.hid ?_
  have HC2 := Lib.hid hc2
  have HG2 := Lib.hid (grown_trans HG1.out hg2)
  clear hc2 hg2
  go_wp2_with (go_at_call 103; (refine (l1Byte_any B c _ HC2.out).mono ?_); rintro e w3 ⟨x3, rfl, hz0, hz1, hc3, hg3⟩; refine Hid.out ?_)
  refine Lib.hid ?_
  have HC3 := Lib.hid hc3
  have HG3 := Lib.hid (grown_trans HG2.out hg3)
  clear hc3 hg3
  go_wp2_with (go_at_call 103; (refine (l1Byte_any B c _ HC3.out).mono ?_); rintro e w4 ⟨x4, rfl, hu0, hu1, hc4, hg4⟩; refine Hid.out ?_)
  refine Lib.hid ?_
  have HC4 := Lib.hid hc4
  have HG4 := Lib.hid (grown_trans HG3.out hg4)
  clear hc4 hg4
  go_wp2
  go_ret
  exact ⟨_, rfl, Int.emod_nonneg _ (by have := HG.out; omega), Int.emod_lt_of_pos _ HG.out, HC4.out, HG4.out⟩

theorem l1Below_any (B c : Nat) (n : Int) (w : World) (hcur : Cur w B c) (h0 : 0 < n) (h1 : n ≤ 4611686018427387904) : Calls Tryz.prog 78 #[.pointer (some ⟨c, 0, none⟩), .int .i64 n] w (SomeBelow w B c n) := by
  by_cases h : n ≤ 256
  · exact l1Below_small B c n w hcur h0 h
  · exact l1Below_large B c n w hcur (by omega) h1

def SomeInt (w : World) (B c : Nat) (e : Ending) (w' : World) : Prop := ∃ x : Int, e = .returned (.int .i64 x) ∧ -9223372036854775808 ≤ x ∧ x ≤ 9223372036854775807 ∧ Cur w' B c ∧ w.grownBy w' (some c)

set_option maxRecDepth 100000 in
set_option maxHeartbeats 1000000 in
theorem l1PickInt_any (B c g n : Nat) (w : World) (hcur : Cur w B c) (hn : 0 < n) (hn2 : n ≤ 65536) (hg : g ≠ c)
    (hl : ∀ j, j < n → ∃ z : Int, -9223372036854775808 ≤ z ∧ z ≤ 9223372036854775807 ∧ w.cell? ⟨g, j, none⟩ = some (.int .i64 z)) :
    Calls Tryz.prog 44 #[.pointer (some ⟨c, 0, none⟩), .slice (some ⟨g, 0, none⟩) n n] w (SomeInt w B c) := by
  have HC := Lib.hid hcur
  have HL := Lib.hid hl
  clear hcur hl
  go_enter Tryz.func44, Tryz.ntmps44
  go_wp2_with (go_at_call 78; (refine (l1Below_any B c _ _ HC.out (by omega) (by omega)).mono ?_); rintro e w1 ⟨x, rfl, hx0, hx1, hc1, hg1⟩; refine Hid.out ?_)
  refine Lib.hid ?_
  obtain ⟨k, rfl⟩ := Int.eq_ofNat_of_zero_le hx0
  obtain ⟨z, hz0, hz1, hcell⟩ := HL.out k (by omega)
  have hcell1 : w1.cell? ⟨g, k, none⟩ = some (.int .i64 z) := hg1.cell hcell (by simpa using hg)
  have HC1 := Lib.hid hc1
  have HG1 := Lib.hid hg1
  clear hc1 hg1
  go_wp2
  go_ret
  exact ⟨_, rfl, hz0, hz1, HC1.out, HG1.out⟩

end Go.Proofs.YtebddnjccmaimaaGreatDoor

/-
  What the drawing functions of chapter 1 (l1New, l1Num, l1Text, DrawEncodeVarint, DrawEncodeHex, DrawEncodeFixed) hand back: some numbers and texts within their bounds. By an AI agent.
-/
namespace Go.Proofs.YtebddnjccmaimaaGreatDoor
open Go.RowKit
set_option linter.unusedVariables false

def SomeCur (w : World) (e : Ending) (w' : World) : Prop := ∃ c, e = .returned (.pointer (some ⟨c, 0, none⟩)) ∧ Cur w' w.heap.size c ∧ Below w.heap.size w w'

set_option maxRecDepth 100000 in
set_option maxHeartbeats 1000000 in
theorem l1New_any (A : Option Addr) (len cap : Nat) (w : World) (hcode : CodeAt w w.heap.size A len) : Calls Tryz.prog 42 #[.slice A len cap] w (SomeCur w) := by
  have HCODE := Lib.hid hcode
  have hlen : (len : Int) ≤ 1048576 := by have := hcode.1; omega
  clear hcode
  go_enter Tryz.func42, Tryz.ntmps42
  go_wp2
  go_loop [3, 4] (fun h i => ∃ (k : Nat) (x : Int), k ≤ len ∧ k ≤ 4000 ∧ i = .int .i64 k ∧ h = .int .i64 x) (fun _ i => 4000 - (intOf i).toNat)
  case atStart => exact ⟨0, _, Nat.zero_le _, by omega, rfl, rfl⟩
  case round =>
    obtain ⟨k, x, hk, hk4, rfl, rfl⟩ := hrel
    by_cases hlt : k < len ∧ k < 4000
    · obtain ⟨h1, h2⟩ := hlt
      obtain ⟨b, off, rfl, hb, hz⟩ := HCODE.out.2 (by omega)
      obtain ⟨z, z0, z1, hcell⟩ := hz k h1
      clear hz
      go_wp2
      go_round
      case rel => exact ⟨k + 1, _, by omega, by omega, by go_num, rfl⟩
      case measure => simp [intOf]; omega
    · have hex : ¬ k < len ∨ ¬ k < 4000 := by omega
      clear hlt
      rcases hex with hex | hex
      all_goals go_wp2
      all_goals go_ret
      all_goals refine ⟨w.heap.size, rfl, ⟨Nat.le_refl _, A, len, cap, 0, _, Nat.zero_le _, heap_alloc_new w _, HCODE.out.keep fun j hj => Below.heap_alloc w _ j hj⟩, (Below.refl _ _).alloc (Nat.le_refl _) _⟩

theorem lit_cells (w : World) (l : List Int) (hr : ∀ z ∈ l, -9223372036854775808 ≤ z ∧ z ≤ 9223372036854775807) : ∀ j, j < l.length → ∃ z : Int, -9223372036854775808 ≤ z ∧ z ≤ 9223372036854775807 ∧
    (w.alloc (.cells (l.map (Value.int .i64)).toArray 3)).cell? ⟨w.heap.size, j, none⟩ = some (.int .i64 z) := by
  intro j hj
  refine ⟨l[j], (hr _ (List.getElem_mem hj)).1, (hr _ (List.getElem_mem hj)).2, ?_⟩
  rw [World.cell?_alloc_at _ _ _ _ rfl]
  simp [hj]

theorem grown_alloc (w : World) (o : Obj) (c : Nat) : w.grownBy (w.alloc o) (some c) := World.grownBy_alloc w o _

theorem OwnB.kept {w w' : World} {base c : Nat} {v : Value} {l : List UInt8} (h : OwnB w base v l) (hg : w.grownBy w' (some c)) (hc : c < base) : OwnB w' base v l := by
  refine World.ownsRow.kept h hg (.inr fun e => ?_)
  have := (World.ownsRow.lt h c e).1
  omega

theorem grown_below {a b d : World} {c : Nat} (h1 : a.grownBy b (some c)) (h2 : Below a.heap.size b d) : a.grownBy d (some c) :=
  ⟨h2.os.trans h1.os, h2.tape.trans h1.tape, h2.output.trans h1.output, Nat.le_trans h1.size h2.size, fun k hk hne => (h2.block k hk).trans (h1.block k hk hne)⟩

def SomeText (w : World) (B c : Nat) (most : Nat) (e : Ending) (w' : World) : Prop := ∃ l : List UInt8, e = .returned (.string (strOf l)) ∧ l.length ≤ most ∧ Cur w' B c ∧ w.grownBy w' (some c)

end Go.Proofs.YtebddnjccmaimaaGreatDoor

/-
  What the drawing functions of chapter 2 (l1Pick, l1Spoil, l2Name, l2Text) hand back: some texts within their bounds; nothing but the cursor is written. By an AI agent.
-/
namespace Go.Proofs.YtebddnjccmaimaaGreatDoor
open Go.RowKit
set_option linter.unusedVariables false

def SomeStr (w : World) (B c m : Nat) (e : Ending) (w' : World) : Prop := ∃ s : ByteArray, e = .returned (.string s) ∧ s.size ≤ m ∧ Cur w' B c ∧ w.grownBy w' (some c)

theorem lit_strs (w : World) (l : List ByteArray) (m : Nat) (hr : ∀ s ∈ l, s.size ≤ m) : ∀ j, j < l.length → ∃ s : ByteArray, s.size ≤ m ∧ (w.alloc (.cells (l.map Value.string).toArray 9)).cell? ⟨w.heap.size, j, none⟩ = some (.string s) := by
  intro j hj
  refine ⟨l[j], hr _ (List.getElem_mem hj), ?_⟩
  rw [World.cell?_alloc_at _ _ _ _ rfl]
  simp [hj]

set_option maxRecDepth 100000 in
set_option maxHeartbeats 1000000 in
theorem l1Pick_any (B c g n m : Nat) (w : World) (hcur : Cur w B c) (hn : 0 < n) (hn2 : n ≤ 65536) (hg : g ≠ c)
    (hl : ∀ j, j < n → ∃ s : ByteArray, s.size ≤ m ∧ w.cell? ⟨g, j, none⟩ = some (.string s)) :
    Calls Tryz.prog 105 #[.pointer (some ⟨c, 0, none⟩), .slice (some ⟨g, 0, none⟩) n n] w (SomeStr w B c m) := by
  have HC := Lib.hid hcur
  have HL := Lib.hid hl
  clear hcur hl
  go_enter Tryz.func105, Tryz.ntmps105
  go_wp2_with (go_at_call 78; (refine (l1Below_any B c _ _ HC.out (by omega) (by omega)).mono ?_); rintro e w1 ⟨x, rfl, hx0, hx1, hc1, hg1⟩; refine Hid.out ?_)
  refine Lib.hid ?_
  obtain ⟨k, rfl⟩ := Int.eq_ofNat_of_zero_le hx0
  obtain ⟨s, hs, hcell⟩ := HL.out k (by omega)
  have hcell1 : w1.cell? ⟨g, k, none⟩ = some (.string s) := hg1.cell hcell (by simpa using hg)
  have HC1 := Lib.hid hc1
  have HG1 := Lib.hid hg1
  clear hc1 hg1
  go_wp2
  go_ret
  exact ⟨s, rfl, hs, HC1.out, HG1.out⟩

set_option maxRecDepth 100000 in
set_option maxHeartbeats 2000000 in
theorem l2Name_any (B c : Nat) (w : World) (hcur : Cur w B c) : Calls Tryz.prog 131 #[.pointer (some ⟨c, 0, none⟩)] w (SomeStr w B c 40) := by
  have HC := Lib.hid hcur
  have HLT := Lib.hid hcur.lt
  clear hcur
  go_enter Tryz.func131, Tryz.ntmps131
  go_wp2_with (go_at_call 105; (refine (l1Pick_any B c w.heap.size 10 6 _ (HC.out.alloc _) (by omega) (by omega) (by have := HLT.out; omega) (lit_strs w [⟨#[97, 110, 110, 97]⟩, ⟨#[65, 110, 110, 97]⟩, ⟨#[97, 110, 110]⟩, ⟨#[106, 111, 104, 110]⟩, ⟨#[74, 111, 110]⟩, ⟨#[109, 97, 114, 105, 97]⟩, ⟨#[77, 97, 114, 121]⟩, ⟨#[112, 101, 116, 101, 114]⟩, ⟨#[79, 39, 78, 101, 105, 108]⟩, ⟨#[108, 105]⟩] 6 (by decide))).mono ?_); rintro e w1 ⟨s1, rfl, hs1, hc1, hg1⟩; refine Hid.out ?_)
  refine Lib.hid ?_
  have HC1 := Lib.hid hc1
  have HG1 := Lib.hid (grown_trans (grown_alloc w _ c) hg1)
  have HL1 := Lib.hid hc1.lt
  clear hc1 hg1
  go_wp2_with (go_at_call 105; (refine (l1Pick_any B c w1.heap.size 9 10 _ (HC1.out.alloc _) (by omega) (by omega) (by have := HL1.out; omega) (lit_strs w1 [⟨#[115, 109, 105, 116, 104]⟩, ⟨#[83, 109, 121, 116, 104]⟩, ⟨#[115, 99, 104, 109, 105, 100, 116]⟩, ⟨#[106, 111, 110, 101, 115]⟩, ⟨#[74, 111, 110, 97, 115]⟩, ⟨#[108, 101, 101]⟩, ⟨#[100, 101, 32, 108, 97, 32, 67, 114, 117, 122]⟩, ⟨#[109, 105, 108, 108, 101, 114]⟩, ⟨#[77, 117, 108, 108, 101, 114]⟩] 10 (by decide))).mono ?_); rintro e w2 ⟨s2, rfl, hs2, hc2, hg2⟩; refine Hid.out ?_)
  refine Lib.hid ?_
  have HC2 := Lib.hid hc2
  have HG2 := Lib.hid (grown_trans HG1.out (grown_trans (grown_alloc w1 _ c) hg2))
  clear hc2 hg2
  go_wp2_with (go_at_call 78; (refine (l1Below_any B c _ _ HC2.out (by omega) (by omega)).mono ?_); rintro e w3 ⟨x, rfl, hx0, hx1, hc3, hg3⟩; refine Hid.out ?_)
  refine Lib.hid ?_
  have HC3 := Lib.hid hc3
  have HG3 := Lib.hid (grown_trans HG2.out hg3)
  have HL3 := Lib.hid hc3.lt
  clear hc3 hg3
  have hcase : x = 0 ∨ x = 1 ∨ x = 2 ∨ 2 < x := by omega
  rcases hcase with rfl | rfl | rfl | hx
  · go_wp2
    go_ret
    exact ⟨_, rfl, by simp only [ByteArray.size_append]; have e : (⟨#[44, 32]⟩ : ByteArray).size = 2 := rfl; omega, HC3.out, HG3.out⟩
  · go_wp2_with (go_at_call 105; (refine (l1Pick_any B c w3.heap.size 3 2 _ (HC3.out.alloc _) (by omega) (by omega) (by have := HL3.out; omega) (lit_strs w3 [⟨#[97, 46]⟩, ⟨#[66]⟩, ⟨#[106]⟩] 2 (by decide))).mono ?_); rintro e w4 ⟨s4, rfl, hs4, hc4, hg4⟩; refine Hid.out ?_)
    refine Lib.hid ?_
    have HC4 := Lib.hid hc4
    have HG4 := Lib.hid (grown_trans HG3.out (grown_trans (grown_alloc w3 _ c) hg4))
    clear hc4 hg4
    go_wp2
    go_ret
    exact ⟨_, rfl, by simp only [ByteArray.size_append]; have e : (⟨#[32]⟩ : ByteArray).size = 1 := rfl; omega, HC4.out, HG4.out⟩
  · go_wp2
    go_ret
    exact ⟨s1, rfl, by omega, HC3.out, HG3.out⟩
  · have e0 : (x == 0) = false := by simp; omega
    have e1 : (x == 1) = false := by simp; omega
    have e2 : (x == 2) = false := by simp; omega
    go_wp2
    go_ret
    exact ⟨_, rfl, by simp only [ByteArray.size_append]; have e : (⟨#[32]⟩ : ByteArray).size = 1 := rfl; omega, HC3.out, HG3.out⟩

theorem ext_le (s : ByteArray) (a b : Nat) : (s.extract a b).size ≤ s.size := by rw [ByteArray.size_extract]; omega
theorem u8_lo (z : Int) : 0 ≤ IntKind.u8.wrap z := by rw [IntKind.wrap_u8]; omega
theorem u8_hi (z : Int) : IntKind.u8.wrap z ≤ 255 := by rw [IntKind.wrap_u8]; omega
theorem one_size (x : UInt8) : (⟨#[x]⟩ : ByteArray).size = 1 := rfl

end Go.Proofs.YtebddnjccmaimaaGreatDoor

/-
  What the drawing functions of chapter 7 hand back: some numbers, some texts, two lists of integers; nothing that existed is written. By an AI agent.
-/
namespace Go.Proofs.YtebddnjccmaimaaGreatDoor
open Go.RowKit
set_option linter.unusedVariables false

theorem ngrown_end {w w' w2 : World} {c : Nat} (h : Below w.heap.size w w') (hg : w'.grownBy w2 (some c)) (hc : w.heap.size ≤ c) : Below w.heap.size w w2 :=
  h.grown hg h.size (fun k hk => by injection hk with hk; omega)

def DrawnNums (w : World) (e : Ending) (w' : World) : Prop := ∃ a b s : Int, e = .returned (.tuple #[.int .i64 a, .int .i64 b, .int .i64 s]) ∧ Below w.heap.size w w'
def DrawnTwoS (w : World) (e : Ending) (w' : World) : Prop := ∃ s t : ByteArray, e = .returned (.tuple #[.string s, .string t]) ∧ s.size ≤ 17 ∧ t.size ≤ 17 ∧ Below w.heap.size w w'
def DrawnOneS (w : World) (e : Ending) (w' : World) : Prop := ∃ s : ByteArray, e = .returned (.string s) ∧ s.size ≤ 5 ∧ Below w.heap.size w w'
def DrawnInts (w : World) (e : Ending) (w' : World) : Prop := ∃ (a1 a2 : Option Addr) (c1 c2 : Nat) (l m : List Int), e = .returned (.tuple #[.slice a1 l.length c1, .slice a2 m.length c2]) ∧ InI w' a1 l ∧ InI w' a2 m ∧ l.length ≤ 6 ∧ m.length ≤ 6 ∧ Below w.heap.size w w'

set_option maxRecDepth 100000 in
set_option maxHeartbeats 1000000 in
theorem l7Phone_any (B c : Nat) (w : World) (hcur : Cur w B c) : Calls Tryz.prog 132 #[.pointer (some ⟨c, 0, none⟩)] w (SomeStr w B c 17) := by
  have HC := Lib.hid hcur
  have HLT := Lib.hid hcur.lt
  clear hcur
  go_enter Tryz.func132, Tryz.ntmps132
  go_wp2_with (go_at_call 105; (refine (l1Pick_any B c w.heap.size 11 17 _ (HC.out.alloc _) (by omega) (by omega) (by have := HLT.out; omega) (lit_strs w [⟨#[53, 53, 53, 32, 49, 50, 51, 52]⟩, ⟨#[43, 49, 32, 53, 53, 53, 45, 49, 50, 51, 52]⟩, ⟨#[49, 53, 53, 53, 49, 50, 51, 52]⟩, ⟨#[53, 53, 53, 49, 50, 51, 52]⟩, ⟨#[49, 50, 51, 52]⟩, ⟨#[50, 51, 52]⟩, ⟨#[]⟩, ⟨#[53, 53, 53, 45, 57, 57, 57, 57]⟩, ⟨#[48, 48, 52, 52, 32, 50, 48, 32, 55, 57, 52, 54, 32, 48, 48, 49, 56]⟩, ⟨#[55, 57, 52, 54, 32, 48, 48, 49, 56]⟩, ⟨#[120]⟩] 17 (by decide))).mono ?_); rintro e w1 ⟨s1, rfl, hs1, hc1, hg1⟩; refine Hid.out ?_)
  refine Lib.hid ?_
  have HC1 := Lib.hid hc1
  have HG1 := Lib.hid (grown_trans (grown_alloc w _ c) hg1)
  clear hc1 hg1
  go_wp2
  go_ret
  exact ⟨s1, rfl, hs1, HC1.out, HG1.out⟩

theorem two_new (w : World) : PairI ((w.alloc (.cells #[] 3)).alloc (.cells #[] 3)) w.heap.size (.slice (some ⟨w.heap.size, 0, none⟩) 0 0) (.slice (some ⟨w.heap.size + 1, 0, none⟩) 0 0) [] [] := by
  have h1 := (OwnI.made w w.heap.size #[] 0 (Nat.le_refl _) (Nat.zero_le _) rfl).alloc (.cells #[] 3)
  have h2 := OwnI.made (w.alloc (.cells #[] 3)) w.heap.size #[] 0 (by simp) (Nat.zero_le _) rfl
  rw [show (w.alloc (.cells #[] 3)).heap.size = w.heap.size + 1 by simp] at h2
  refine ⟨h1, h2, fun k hk e => ?_⟩
  simp [Value.ownBlock] at hk e
  omega

theorem drawn_of {w w' : World} {base : Nat} {u v : Value} {l m : List Int} (hp : PairI w' base u v l m) (hl : l.length ≤ 6) (hm : m.length ≤ 6) (hb : Below w.heap.size w w') : DrawnInts w (.returned (.tuple #[u, v])) w' := by
  obtain ⟨a1, c1, rfl⟩ := hp.1.shape
  obtain ⟨a2, c2, rfl⟩ := hp.2.1.shape
  exact ⟨a1, a2, c1, c2, l, m, rfl, hp.1.inI, hp.2.1.inI, hl, hm, hb⟩
theorem below_alloc {B : Nat} {w w' : World} (h : Below B w w') (o : Obj) (hB : B ≤ w.heap.size) : Below B w (w'.alloc o) := h.alloc (Nat.le_trans hB h.size) o

end Go.Proofs.YtebddnjccmaimaaGreatDoor

/-
  What spec.l1Once, l3Set, l3Any and the drawing functions over two lists of strings hand back. By an AI agent.
-/
namespace Go.Proofs.YtebddnjccmaimaaGreatDoor
open Go.RowKit
set_option linter.unusedVariables false

theorem own_keptc {w w' : World} {base c : Nat} {v : Value} {l : List Str} (h : OwnS w base v l) (hg : w.grownBy w' (some c)) (hc : c < base) : OwnS w' base v l := by
  refine World.ownsRow.kept h hg (.inr fun e => ?_)
  have := (World.ownsRow.lt h c e).1
  omega
theorem below_own {w0 w w' : World} {v : Value} {l : List Str} (ho : OwnS w w0.heap.size v l) (hs : w0.heap.size ≤ w.heap.size) (hg : w.grownBy w' v.ownBlock) : Below w0.heap.size w w' :=
  (Below.refl _ _).grown hg hs (fun k hk => (World.ownsRow.lt ho k hk).1)

def SomeBool (w : World) (B c : Nat) (e : Ending) (w' : World) : Prop := ∃ b : Bool, e = .returned (.bool b) ∧ Cur w' B c ∧ w.grownBy w' (some c)
def SomeSet (w : World) (B c m : Nat) (e : Ending) (w' : World) : Prop := ∃ (a : Option Addr) (cap : Nat) (l : List Str), e = .returned (.slice a l.length cap) ∧ OwnS w' w.heap.size (.slice a l.length cap) l ∧ l.length ≤ m ∧ (∀ x ∈ l, x.length ≤ 10) ∧ Cur w' B c ∧ w.grownBy w' (some c)

set_option maxRecDepth 100000 in
theorem l1Once_any (B c : Nat) (n : Int) (w : World) (hcur : Cur w B c) (h0 : 0 < n) (h1 : n ≤ 4611686018427387904) : Calls Tryz.prog 80 #[.pointer (some ⟨c, 0, none⟩), .int .i64 n] w (SomeBool w B c) := by
  have HC := Lib.hid hcur
  clear hcur
  go_enter Tryz.func80, Tryz.ntmps80
  go_wp2_with (go_at_call 78; (refine (l1Below_any B c _ _ HC.out h0 h1).mono ?_); rintro e w1 ⟨x, rfl, hx0, hx1, hc1, hg1⟩; have HC1 := Lib.hid hc1; have HG1 := Lib.hid hg1; clear hc1 hg1)
  go_ret
  exact ⟨_, rfl, HC1.out, HG1.out⟩

theorem put_small {l : List Str} {x : Str} (h : ∀ y ∈ l, y.length ≤ 10) (hx : x.length ≤ 10) : ∀ y ∈ putL false l x, y.length ≤ 10 := by
  intro y hy
  rcases (putL_mem false x y l).1 hy with rfl | hy
  · exact hx
  · exact h y hy

/-- two lists of strings are handed back -/
def DrawnSets (w : World) (e : Ending) (w' : World) : Prop := ∃ (a1 a2 : Option Addr) (c1 c2 : Nat) (l1 l2 : List Str), e = .returned (.tuple #[.slice a1 l1.length c1, .slice a2 l2.length c2]) ∧ Sm w' a1 l1 c1 ∧ Sm w' a2 l2 c2 ∧ l1.length ≤ 7 ∧ l2.length ≤ 7 ∧ Below w.heap.size w w'

end Go.Proofs.YtebddnjccmaimaaGreatDoor

/-
  What spec draws of records: l8Fields, l8Record, l8Any, l8Copy, l8Two, DrawPairFeatures. By an AI agent.
-/
namespace Go.Proofs.YtebddnjccmaimaaGreatDoor
open Go.RowKit
set_option linter.unusedVariables false

theorem gset {w w' : World} {row : Option Nat} (h : w.grownBy w' row) (p : Addr) (v : Value) (hp : w.heap.size ≤ p.block) : w.grownBy (w'.setCell p v) row :=
  ⟨h.os, h.tape, h.output, by simp [World.setCell]; exact h.size, fun k hk hne => (Below.heap_setCell w' p v k (by omega)).trans (h.block k hk hne)⟩
theorem cset {w : World} {B c : Nat} (h : Cur w B c) (p : Addr) (v : Value) (hp : c < p.block) : Cur (w.setCell p v) B c := by
  obtain ⟨hB, A, len, cap, i, hh, hi, hc, hcode⟩ := h
  exact ⟨hB, A, len, cap, i, hh, hi, (Below.heap_setCell w p v c (by omega)).trans hc, hcode.keep fun k hk => Below.heap_setCell w p v k (by omega)⟩
theorem galloc {w w' : World} {row : Option Nat} (h : w.grownBy w' row) (o : Obj) : w.grownBy (w'.alloc o) row :=
  ⟨h.os, h.tape, h.output, by simp; exact Nat.le_succ_of_le h.size, fun k hk hne => (Below.heap_alloc w' o k (Nat.lt_of_lt_of_le hk h.size)).trans (h.block k hk hne)⟩
theorem gtrans {a b d : World} {r : Option Nat} (h1 : a.grownBy b r) (h2 : b.grownBy d r) : a.grownBy d r :=
  ⟨h2.os.trans h1.os, h2.tape.trans h1.tape, h2.output.trans h1.output, Nat.le_trans h1.size h2.size, fun k hk hne => (h2.block k (Nat.lt_of_lt_of_le hk h1.size) hne).trans (h1.block k hk hne)⟩
theorem RecB.kept {ty : TypeId} {w w' : World} {g : Nat} {s k v : Int} {V : Value} {c : Nat} (h : RecB ty w g s k v V) (hg : w.grownBy w' (some c)) (hne : g ≠ c) : RecB ty w' g s k v V := (hg.block g h.lt (by simpa using hne)).trans h
theorem gdrew {w w' : World} {r : Option Nat} (h : w.drew.grownBy w' r) : w.grownBy w' r := ⟨h.os, h.tape, h.output, h.size, h.block⟩
def F4 (f0 f1 f2 f3 : ByteArray) : Array Value := #[.string f0, .string f1, .string f2, .string f3]
def Z4 (f0 f1 f2 f3 : ByteArray) : Prop := f0.size ≤ 40 ∧ f1.size ≤ 40 ∧ f2.size ≤ 40 ∧ f3.size ≤ 40

/-- four fields are handed back -/
def SomeFields (w : World) (B c : Nat) (e : Ending) (w' : World) : Prop :=
  ∃ g f0 f1 f2 f3, e = .returned (.slice (some ⟨g, 0, none⟩) 4 4) ∧ BlkV w' g 9 (F4 f0 f1 f2 f3) ∧ Z4 f0 f1 f2 f3 ∧ w.heap.size ≤ g ∧ Cur w' B c ∧ w.grownBy w' (some c)

set_option maxRecDepth 100000 in
set_option maxHeartbeats 1600000 in
theorem l8Fields_any (B c : Nat) (w : World) (hcur : Cur w B c) : Calls Tryz.prog 104 #[.pointer (some ⟨c, 0, none⟩)] w (SomeFields w B c) := by
  have HC := Lib.hid hcur
  clear hcur
  go_enter Tryz.func104, Tryz.ntmps104
  go_wp2_with (go_at_call 131; (refine (l2Name_any B c _ HC.out).mono ?_); rintro e w1 ⟨s0, rfl, hs0, hc1, hg1⟩; refine Hid.out ?_)
  have HC1 := Lib.hid hc1
  have HG1 := Lib.hid hg1
  have HL1 := Lib.hid hc1.lt
  clear hc1 hg1
  refine Lib.hid ?_
  go_wp2_with (go_at_call 105; (refine (l1Pick_any B c w1.heap.size 7 8 _ (HC1.out.alloc _) (by omega) (by omega) (by have := HL1.out; omega) (lit_strs w1 [⟨#[80, 97, 114, 105, 115]⟩, ⟨#[112, 97, 114, 105, 115]⟩, ⟨#[76, 111, 110, 100, 111, 110]⟩, ⟨#[78, 101, 119, 32, 89, 111, 114, 107]⟩, ⟨#[110, 101, 119, 45, 121, 111, 114, 107]⟩, ⟨#[]⟩, ⟨#[82, 111, 109, 101]⟩] 8 (by decide))).mono ?_); rintro e w2 ⟨s1, rfl, hs1, hc2, hg2⟩; refine Hid.out ?_)
  have HC2 := Lib.hid hc2
  have HG2 := Lib.hid (grown_trans HG1.out (grown_trans (grown_alloc w1 _ c) hg2))
  have HL2 := Lib.hid hc2.lt
  clear hc2 hg2
  refine Lib.hid ?_
  go_wp2_with (go_at_call 105; (refine (l1Pick_any B c w2.heap.size 6 4 _ (HC2.out.alloc _) (by omega) (by omega) (by have := HL2.out; omega) (lit_strs w2 [⟨#[49, 57, 56, 48]⟩, ⟨#[49, 57, 56, 49]⟩, ⟨#[49, 57, 56, 53]⟩, ⟨#[]⟩, ⟨#[49, 57, 57, 48]⟩, ⟨#[120]⟩] 4 (by decide))).mono ?_); rintro e w3 ⟨s2, rfl, hs2, hc3, hg3⟩; refine Hid.out ?_)
  have HC3 := Lib.hid hc3
  have HG3 := Lib.hid (grown_trans HG2.out (grown_trans (grown_alloc w2 _ c) hg3))
  clear hc3 hg3
  refine Lib.hid ?_
  go_wp2_with (go_at_call 132; (refine (l7Phone_any B c _ HC3.out).mono ?_); rintro e w4 ⟨s3, rfl, hs3, hc4, hg4⟩; refine Hid.out ?_)
  have HC4 := Lib.hid (hc4.alloc (.cells #[.string s0, .string s1, .string s2, .string s3] 9))
  have HG4 := Lib.hid (galloc (grown_trans HG3.out hg4) (.cells #[.string s0, .string s1, .string s2, .string s3] 9))
  have HZ4 := Lib.hid (grown_trans HG3.out hg4).size
  clear hc4 hg4
  refine Lib.hid ?_
  go_wp2
  go_ret
  exact ⟨_, s0, s1, s2, s3, rfl, BlkV.new _ _ _, ⟨hs0, by omega, by omega, by omega⟩, HZ4.out, HC4.out, HG4.out⟩

/-- a record with four fields is handed back -/
def SomeRec4 (w : World) (B c : Nat) (e : Ending) (w' : World) : Prop :=
  ∃ s k v g f0 f1 f2 f3, e = .returned (.agg #[.int .i64 s, .int .i64 k, .int .i64 v, .slice (some ⟨g, 0, none⟩) 4 4]) ∧ BlkV w' g 9 (F4 f0 f1 f2 f3) ∧ Z4 f0 f1 f2 f3 ∧ w.heap.size ≤ g ∧ Cur w' B c ∧ w.grownBy w' (some c)

set_option maxRecDepth 100000 in
set_option maxHeartbeats 1600000 in
theorem l8Record_any (B c : Nat) (w : World) (hcur : Cur w B c) : Calls Tryz.prog 79 #[.pointer (some ⟨c, 0, none⟩)] w (SomeRec4 w B c) := by
  have HLT := Lib.hid hcur.lt
  have HC := Lib.hid (hcur.alloc (.cells #[.int .i64 0, .int .i64 0, .int .i64 0, .slice none 0 0] 37))
  have HG := Lib.hid (galloc (World.grownBy.refl w (some c)) (.cells #[.int .i64 0, .int .i64 0, .int .i64 0, .slice none 0 0] 37))
  have HR := Lib.hid (RecB.new 37 w _ 0 0 0 (.slice none 0 0) rfl)
  clear hcur
  go_enter Tryz.func79, Tryz.ntmps79
  go_wp2_with (go_at_call 78; (refine (l1Below_any B c _ _ HC.out (by omega) (by omega)).mono ?_); rintro e w1 ⟨x, rfl, hx0, hx1, hc, hg⟩; refine Hid.out ?_)
  have HC1 := Lib.hid hc
  have HG1 := Lib.hid (grown_trans HG.out hg)
  have HR1 := Lib.hid (HR.out.kept hg (by have := HLT.out; omega))
  clear hc hg
  refine Lib.hid ?_
  go_wp2_with (go_at_call 78; (refine (l1Below_any B c _ _ HC1.out (by omega) (by omega)).mono ?_); rintro e w2 ⟨y, rfl, hy0, hy1, hc, hg⟩; refine Hid.out ?_)
  have HC2 := Lib.hid hc
  have HG2 := Lib.hid (grown_trans HG1.out hg)
  have HR2 := Lib.hid (HR1.out.kept hg (by have := HLT.out; omega))
  clear hc hg
  refine Lib.hid ?_
  go_wp2_with (go_at_call 78; (refine (l1Below_any B c _ _ HC2.out (by omega) (by omega)).mono ?_); rintro e w3 ⟨z, rfl, hz0, hz1, hc, hg⟩; refine Hid.out ?_)
  have HC3 := Lib.hid hc
  have HG3 := Lib.hid (grown_trans HG2.out hg)
  have HR3 := Lib.hid (HR2.out.kept hg (by have := HLT.out; omega))
  clear hc hg
  refine Lib.hid ?_
  go_wp2_with (go_at_call 104; (refine (l8Fields_any B c _ HC3.out).mono ?_); rintro e w4 ⟨g, f0, f1, f2, f3, rfl, hb, hz, hgl, hc, hg⟩; refine Hid.out ?_)
  have HC4 := Lib.hid hc
  have HG4 := Lib.hid (grown_trans HG3.out hg)
  have HR4 := Lib.hid (HR3.out.kept hg (by have := HLT.out; omega))
  have HBK := Lib.hid hb
  have HGL := Lib.hid (show w.heap.size < g from Nat.lt_of_lt_of_le HR3.out.lt hgl)
  have q0 := HR4.out.c0
  have q1 := HR4.out.c1
  have q2 := HR4.out.c2
  have q3 := HR4.out.c3
  have k0 := HR4.out.frozen 0
  have k1 := HR4.out.frozen 1
  have k2 := HR4.out.frozen 2
  have k3 := HR4.out.frozen 3
  clear hc hg hb hgl
  refine Lib.hid ?_
  go_wp2
  have hlt := HLT.out
  have hgl := HGL.out
  have u := (((HR4.out.set0 x).set1 (1 + y)).set2 (1 + z)).set3 (.slice (some ⟨g, 0, none⟩) 4 4)
  have e0 := u.c0
  have e1 := u.c1
  have e2 := u.c2
  have e3 := u.c3
  refine bodyPost_ret (v := .agg #[.int .i64 x, .int .i64 (1 + y), .int .i64 (1 + z), .slice (some ⟨g, 0, none⟩) 4 4]) (by simp [results, Tryz.results79, go_sem, e0, e1, e2, e3]) rfl ⟨x, 1 + y, 1 + z, g, f0, f1, f2, f3, rfl, ?_, hz, by omega, ?_, ?_⟩
  · exact (((HBK.out.other _ _ (by simp; omega)).other _ _ (by simp; omega)).other _ _ (by simp; omega)).other _ _ (by simp; omega)
  · exact cset (cset (cset (cset HC4.out _ _ (by simp; omega)) _ _ (by simp; omega)) _ _ (by simp; omega)) _ _ (by simp; omega)
  · exact gset (gset (gset (gset HG4.out _ _ (by simp)) _ _ (by simp)) _ _ (by simp)) _ _ (by simp)

theorem f4_in {w : World} {g : Nat} {f0 f1 f2 f3 : ByteArray} (h : BlkV w g 9 (F4 f0 f1 f2 f3)) : InS w (some ⟨g, 0, none⟩) [f0.data.toList, f1.data.toList, f2.data.toList, f3.data.toList] := by
  refine fun _ => ⟨g, 0, rfl, h.lt, fun j x hj => ?_⟩
  rw [Nat.zero_add, h.cell j]
  unfold F4
  match j, hj with
  | 0, hj => simp at hj; subst hj; rfl
  | 1, hj => simp at hj; subst hj; rfl
  | 2, hj => simp at hj; subst hj; rfl
  | 3, hj => simp at hj; subst hj; rfl
theorem f4_in1 {w : World} {g : Nat} {f0 f1 f2 f3 : ByteArray} (h : BlkV w g 9 (F4 f0 f1 f2 f3)) : InS w (some ⟨g, 1, none⟩) [f1.data.toList, f2.data.toList, f3.data.toList] := by
  refine fun _ => ⟨g, 1, rfl, h.lt, fun j x hj => ?_⟩
  rw [h.cell (1 + j)]
  unfold F4
  match j, hj with
  | 0, hj => simp at hj; subst hj; rfl
  | 1, hj => simp at hj; subst hj; rfl
  | 2, hj => simp at hj; subst hj; rfl
theorem f4_small {f0 f1 f2 f3 : ByteArray} (h : Z4 f0 f1 f2 f3) : ∀ x ∈ [f0.data.toList, f1.data.toList, f2.data.toList, f3.data.toList], x.length ≤ 40 := by
  have k : ∀ t : ByteArray, t.data.toList.length = t.size := fun t => by simp
  intro x hx
  simp only [List.mem_cons, List.not_mem_nil, or_false] at hx
  rcases hx with rfl | rfl | rfl | rfl
  · rw [k]; exact h.1
  · rw [k]; exact h.2.1
  · rw [k]; exact h.2.2.1
  · rw [k]; exact h.2.2.2
theorem f4_small1 {f0 f1 f2 f3 : ByteArray} (h : Z4 f0 f1 f2 f3) : ∀ x ∈ [f1.data.toList, f2.data.toList, f3.data.toList], x.length ≤ 40 := fun x hx => f4_small h x (List.mem_cons_of_mem _ hx)
theorem lit_ints (w : World) (l : List Int) (hr : ∀ z ∈ l, -9223372036854775808 ≤ z ∧ z ≤ 9223372036854775807) : ∀ j, j < l.length → ∃ z : Int, -9223372036854775808 ≤ z ∧ z ≤ 9223372036854775807 ∧ (w.alloc (.cells (l.map (fun z => Value.int .i64 z)).toArray 3)).cell? ⟨w.heap.size, j, none⟩ = some (.int .i64 z) := by
  intro j hj
  have h := hr _ (List.getElem_mem hj)
  refine ⟨l[j], h.1, h.2, ?_⟩
  rw [World.cell?_alloc_at _ _ _ _ rfl]
  simp [hj]

/-- a record is handed back, its fields in new memory -/
def SomeRec (w : World) (B c : Nat) (e : Ending) (w' : World) : Prop :=
  ∃ s k v a cp l, e = .returned (.agg #[.int .i64 s, .int .i64 k, .int .i64 v, .slice a l.length cp]) ∧ Sm w' a l cp ∧ (∀ b q t, a = some ⟨b, q, t⟩ → w.heap.size ≤ b) ∧ Cur w' B c ∧ w.grownBy w' (some c)
theorem smrec {w : World} {a : Option Addr} {l : List Str} {cp : Nat} (h : InS w a l) (ha : a ≠ none) (hc : l.length ≤ cp) (hl : l.length ≤ 4) (hx : ∀ x ∈ l, x.length ≤ 40) : Sm w a l cp :=
  ⟨h, fun e => absurd e ha, hc, by omega, fun x hm => by have := hx x hm; omega⟩

set_option maxRecDepth 100000 in
set_option maxHeartbeats 6400000 in
theorem l8Any_any (B c : Nat) (w : World) (hcur : Cur w B c) : Calls Tryz.prog 81 #[.pointer (some ⟨c, 0, none⟩)] w (SomeRec w B c) := by
  have HLT := Lib.hid hcur.lt
  have HC := Lib.hid (hcur.alloc (.cells #[.int .i64 0, .int .i64 0, .int .i64 0, .slice none 0 0] 37))
  have HG := Lib.hid (galloc (World.grownBy.refl w (some c)) (.cells #[.int .i64 0, .int .i64 0, .int .i64 0, .slice none 0 0] 37))
  have HR := Lib.hid (RecB.new 37 w _ 0 0 0 (.slice none 0 0) rfl)
  clear hcur
  go_enter Tryz.func81, Tryz.ntmps81
  go_wp2_with (go_at_call 79; (refine (l8Record_any B c _ HC.out).mono ?_); rintro e w1 ⟨s, k, v, g, f0, f1, f2, f3, rfl, hb, hz, hgl, hc, hg⟩; refine Hid.out ?_)
  have HGL := Lib.hid (show w.heap.size < g from Nat.lt_of_lt_of_le HR.out.lt hgl)
  have HGL2 := Lib.hid (show g < w1.heap.size from hb.lt)
  have HC1 := Lib.hid (hc.alloc (.cells #[.int .i64 s, .int .i64 k, .int .i64 v, .slice (some ⟨g, 0, none⟩) 4 4] 37))
  have HG1 := Lib.hid (galloc (grown_trans HG.out hg) (.cells #[.int .i64 s, .int .i64 k, .int .i64 v, .slice (some ⟨g, 0, none⟩) 4 4] 37))
  have HR1 := Lib.hid ((HR.out.kept hg (by have := HLT.out; omega)).alloc (.cells #[.int .i64 s, .int .i64 k, .int .i64 v, .slice (some ⟨g, 0, none⟩) 4 4] 37))
  have HB1 := Lib.hid (hb.alloc (.cells #[.int .i64 s, .int .i64 k, .int .i64 v, .slice (some ⟨g, 0, none⟩) 4 4] 37))
  have HX1 := Lib.hid (RecB.new 37 w1 _ s k v (.slice (some ⟨g, 0, none⟩) 4 4) rfl)
  clear hb hgl hc hg
  refine Lib.hid ?_
  go_wp2_with (go_at_call 78; (refine (l1Below_any B c _ _ HC1.out (by omega) (by omega)).mono ?_); rintro e w2 ⟨x, rfl, hx0, hx1, hc, hg⟩; refine Hid.out ?_)
  have hlt := HLT.out
  have hgl := HGL.out
  have hgl2 := HGL2.out
  have HC2 := Lib.hid hc
  have HL2 := Lib.hid hc.lt
  have HG2 := Lib.hid (grown_trans HG1.out hg)
  have HR2 := Lib.hid (HR1.out.kept hg (by omega))
  have HB2 := Lib.hid (show BlkV w2 g 9 (F4 f0 f1 f2 f3) from HB1.out.grown hg (by intro e; injection e with e; omega))
  have HX2 := Lib.hid (HX1.out.kept hg (by omega))
  clear hc hg
  obtain ⟨m, hm⟩ : ∃ m, w1.heap.size = m := ⟨_, rfl⟩
  rw [hm] at HX2 hgl2
  rw [hm]
  have hgm : w.heap.size < m := by omega
  clear hm
  have hway : x = 0 ∨ x = 1 ∨ x = 2 ∨ x = 3 ∨ x = 4 ∨ 4 < x := by omega
  rcases hway with rfl | rfl | rfl | rfl | rfl | hx5
  · refine Lib.hid ?_
    go_wp2_with (go_at_call 44; (refine (l1PickInt_any B c w2.heap.size 2 _ (HC2.out.alloc _) (by omega) (by omega) (by have := HL2.out; omega) (lit_ints w2 [-1, 4] (by decide))).mono ?_); rintro e w3 ⟨z, rfl, hz0, hz1, hc, hg⟩; refine Hid.out ?_)
    have hg0 := grown_trans (grown_alloc w2 (.cells (([-1, 4] : List Int).map (fun z => Value.int .i64 z)).toArray 3) c) hg
    have HC3 := Lib.hid hc
    have HG3 := Lib.hid (grown_trans HG2.out hg0)
    have HR3 := Lib.hid (HR2.out.kept hg0 (by omega))
    have HB3 := Lib.hid (show BlkV w3 g 9 (F4 f0 f1 f2 f3) from HB2.out.grown hg0 (by intro e; injection e with e; omega))
    have HX3 := Lib.hid (HX2.out.kept hg0 (by omega))
    have HX4 := Lib.hid (HX3.out.set0 z)
    have HR4 := Lib.hid (HR3.out.other ⟨m, 0, none⟩ (.int .i64 z) (by simp; omega))
    have o0 := HX3.out.c0
    have p0 := HX3.out.frozen 0
    clear hc hg hg0
    have q0 := (HR4.out).c0
    have q1 := (HR4.out).c1
    have q2 := (HR4.out).c2
    have q3 := (HR4.out).c3
    have k0 := (HR4.out).frozen 0
    have k1 := (HR4.out).frozen 1
    have k2 := (HR4.out).frozen 2
    have k3 := (HR4.out).frozen 3
    have m0 := (HX4.out).c0
    have m1 := (HX4.out).c1
    have m2 := (HX4.out).c2
    have m3 := (HX4.out).c3
    have n0 := (HX4.out).frozen 0
    have n1 := (HX4.out).frozen 1
    have n2 := (HX4.out).frozen 2
    have n3 := (HX4.out).frozen 3
    refine Lib.hid ?_
    go_wp2
    have u := ((((HR4.out).set0 (z)).set1 (k)).set2 (v)).set3 (.slice (some ⟨g, 0, none⟩) 4 4)
    have e0 := u.c0
    have e1 := u.c1
    have e2 := u.c2
    have e3 := u.c3
    refine bodyPost_ret (v := .agg #[.int .i64 (z), .int .i64 (k), .int .i64 (v), .slice (some ⟨g, 0, none⟩) 4 4]) (by simp [results, Tryz.results81, go_sem, e0, e1, e2, e3]) rfl ⟨_, _, _, _, _, [f0.data.toList, f1.data.toList, f2.data.toList, f3.data.toList], rfl, ?_, ?_, ?_, ?_⟩
    · exact smrec (f4_in (((((HB3.out.other ⟨m, 0, none⟩ (.int .i64 z) (by simp; omega)).other _ _ (by simp; omega)).other _ _ (by simp; omega)).other _ _ (by simp; omega)).other _ _ (by simp; omega))) (by simp) (by simp) (by simp) (f4_small hz)
    · intro b q t hq; injection hq with hq; injection hq with hq; omega
    · exact cset (cset (cset (cset (cset HC3.out ⟨m, 0, none⟩ (.int .i64 z) (by simp; omega)) _ _ (by simp; omega)) _ _ (by simp; omega)) _ _ (by simp; omega)) _ _ (by simp; omega)
    · exact gset (gset (gset (gset (gset HG3.out ⟨m, 0, none⟩ (.int .i64 z) (by simp; omega)) _ _ (by simp)) _ _ (by simp)) _ _ (by simp)) _ _ (by simp)
  · refine Lib.hid ?_
    go_wp2_with (go_at_call 44; (refine (l1PickInt_any B c w2.heap.size 3 _ (HC2.out.alloc _) (by omega) (by omega) (by have := HL2.out; omega) (lit_ints w2 [0, 99, 100] (by decide))).mono ?_); rintro e w3 ⟨z, rfl, hz0, hz1, hc, hg⟩; refine Hid.out ?_)
    have hg0 := grown_trans (grown_alloc w2 (.cells (([0, 99, 100] : List Int).map (fun z => Value.int .i64 z)).toArray 3) c) hg
    have HC3 := Lib.hid hc
    have HG3 := Lib.hid (grown_trans HG2.out hg0)
    have HR3 := Lib.hid (HR2.out.kept hg0 (by omega))
    have HB3 := Lib.hid (show BlkV w3 g 9 (F4 f0 f1 f2 f3) from HB2.out.grown hg0 (by intro e; injection e with e; omega))
    have HX3 := Lib.hid (HX2.out.kept hg0 (by omega))
    have HX4 := Lib.hid (HX3.out.set1 z)
    have HR4 := Lib.hid (HR3.out.other ⟨m, 1, none⟩ (.int .i64 z) (by simp; omega))
    have o1 := HX3.out.c1
    have p1 := HX3.out.frozen 1
    clear hc hg hg0
    have q0 := (HR4.out).c0
    have q1 := (HR4.out).c1
    have q2 := (HR4.out).c2
    have q3 := (HR4.out).c3
    have k0 := (HR4.out).frozen 0
    have k1 := (HR4.out).frozen 1
    have k2 := (HR4.out).frozen 2
    have k3 := (HR4.out).frozen 3
    have m0 := (HX4.out).c0
    have m1 := (HX4.out).c1
    have m2 := (HX4.out).c2
    have m3 := (HX4.out).c3
    have n0 := (HX4.out).frozen 0
    have n1 := (HX4.out).frozen 1
    have n2 := (HX4.out).frozen 2
    have n3 := (HX4.out).frozen 3
    refine Lib.hid ?_
    go_wp2
    have u := ((((HR4.out).set0 (s)).set1 (z)).set2 (v)).set3 (.slice (some ⟨g, 0, none⟩) 4 4)
    have e0 := u.c0
    have e1 := u.c1
    have e2 := u.c2
    have e3 := u.c3
    refine bodyPost_ret (v := .agg #[.int .i64 (s), .int .i64 (z), .int .i64 (v), .slice (some ⟨g, 0, none⟩) 4 4]) (by simp [results, Tryz.results81, go_sem, e0, e1, e2, e3]) rfl ⟨_, _, _, _, _, [f0.data.toList, f1.data.toList, f2.data.toList, f3.data.toList], rfl, ?_, ?_, ?_, ?_⟩
    · exact smrec (f4_in (((((HB3.out.other ⟨m, 1, none⟩ (.int .i64 z) (by simp; omega)).other _ _ (by simp; omega)).other _ _ (by simp; omega)).other _ _ (by simp; omega)).other _ _ (by simp; omega))) (by simp) (by simp) (by simp) (f4_small hz)
    · intro b q t hq; injection hq with hq; injection hq with hq; omega
    · exact cset (cset (cset (cset (cset HC3.out ⟨m, 1, none⟩ (.int .i64 z) (by simp; omega)) _ _ (by simp; omega)) _ _ (by simp; omega)) _ _ (by simp; omega)) _ _ (by simp; omega)
    · exact gset (gset (gset (gset (gset HG3.out ⟨m, 1, none⟩ (.int .i64 z) (by simp; omega)) _ _ (by simp)) _ _ (by simp)) _ _ (by simp)) _ _ (by simp)
  · refine Lib.hid ?_
    go_wp2_with (go_at_call 44; (refine (l1PickInt_any B c w2.heap.size 3 _ (HC2.out.alloc _) (by omega) (by omega) (by have := HL2.out; omega) (lit_ints w2 [0, 999, 1000] (by decide))).mono ?_); rintro e w3 ⟨z, rfl, hz0, hz1, hc, hg⟩; refine Hid.out ?_)
    have hg0 := grown_trans (grown_alloc w2 (.cells (([0, 999, 1000] : List Int).map (fun z => Value.int .i64 z)).toArray 3) c) hg
    have HC3 := Lib.hid hc
    have HG3 := Lib.hid (grown_trans HG2.out hg0)
    have HR3 := Lib.hid (HR2.out.kept hg0 (by omega))
    have HB3 := Lib.hid (show BlkV w3 g 9 (F4 f0 f1 f2 f3) from HB2.out.grown hg0 (by intro e; injection e with e; omega))
    have HX3 := Lib.hid (HX2.out.kept hg0 (by omega))
    have HX4 := Lib.hid (HX3.out.set2 z)
    have HR4 := Lib.hid (HR3.out.other ⟨m, 2, none⟩ (.int .i64 z) (by simp; omega))
    have o2 := HX3.out.c2
    have p2 := HX3.out.frozen 2
    clear hc hg hg0
    have q0 := (HR4.out).c0
    have q1 := (HR4.out).c1
    have q2 := (HR4.out).c2
    have q3 := (HR4.out).c3
    have k0 := (HR4.out).frozen 0
    have k1 := (HR4.out).frozen 1
    have k2 := (HR4.out).frozen 2
    have k3 := (HR4.out).frozen 3
    have m0 := (HX4.out).c0
    have m1 := (HX4.out).c1
    have m2 := (HX4.out).c2
    have m3 := (HX4.out).c3
    have n0 := (HX4.out).frozen 0
    have n1 := (HX4.out).frozen 1
    have n2 := (HX4.out).frozen 2
    have n3 := (HX4.out).frozen 3
    refine Lib.hid ?_
    go_wp2
    have u := ((((HR4.out).set0 (s)).set1 (k)).set2 (z)).set3 (.slice (some ⟨g, 0, none⟩) 4 4)
    have e0 := u.c0
    have e1 := u.c1
    have e2 := u.c2
    have e3 := u.c3
    refine bodyPost_ret (v := .agg #[.int .i64 (s), .int .i64 (k), .int .i64 (z), .slice (some ⟨g, 0, none⟩) 4 4]) (by simp [results, Tryz.results81, go_sem, e0, e1, e2, e3]) rfl ⟨_, _, _, _, _, [f0.data.toList, f1.data.toList, f2.data.toList, f3.data.toList], rfl, ?_, ?_, ?_, ?_⟩
    · exact smrec (f4_in (((((HB3.out.other ⟨m, 2, none⟩ (.int .i64 z) (by simp; omega)).other _ _ (by simp; omega)).other _ _ (by simp; omega)).other _ _ (by simp; omega)).other _ _ (by simp; omega))) (by simp) (by simp) (by simp) (f4_small hz)
    · intro b q t hq; injection hq with hq; injection hq with hq; omega
    · exact cset (cset (cset (cset (cset HC3.out ⟨m, 2, none⟩ (.int .i64 z) (by simp; omega)) _ _ (by simp; omega)) _ _ (by simp; omega)) _ _ (by simp; omega)) _ _ (by simp; omega)
    · exact gset (gset (gset (gset (gset HG3.out ⟨m, 2, none⟩ (.int .i64 z) (by simp; omega)) _ _ (by simp)) _ _ (by simp)) _ _ (by simp)) _ _ (by simp)
  · have HX4 := Lib.hid (HX2.out.set3 (.slice (some ⟨g, 1, none⟩) 3 3))
    have HR4 := Lib.hid (HR2.out.other ⟨m, 3, none⟩ (.slice (some ⟨g, 1, none⟩) 3 3) (by simp; omega))
    have o3 := HX2.out.c3
    have p3 := HX2.out.frozen 3
    have q0 := (HR4.out).c0
    have q1 := (HR4.out).c1
    have q2 := (HR4.out).c2
    have q3 := (HR4.out).c3
    have k0 := (HR4.out).frozen 0
    have k1 := (HR4.out).frozen 1
    have k2 := (HR4.out).frozen 2
    have k3 := (HR4.out).frozen 3
    have m0 := (HX4.out).c0
    have m1 := (HX4.out).c1
    have m2 := (HX4.out).c2
    have m3 := (HX4.out).c3
    have n0 := (HX4.out).frozen 0
    have n1 := (HX4.out).frozen 1
    have n2 := (HX4.out).frozen 2
    have n3 := (HX4.out).frozen 3
    refine Lib.hid ?_
    go_wp2
    have u := ((((HR4.out).set0 (s)).set1 (k)).set2 (v)).set3 (.slice (some ⟨g, 1, none⟩) 3 3)
    have e0 := u.c0
    have e1 := u.c1
    have e2 := u.c2
    have e3 := u.c3
    refine bodyPost_ret (v := .agg #[.int .i64 (s), .int .i64 (k), .int .i64 (v), .slice (some ⟨g, 1, none⟩) 3 3]) (by simp [results, Tryz.results81, go_sem, e0, e1, e2, e3]) rfl ⟨_, _, _, _, _, [f1.data.toList, f2.data.toList, f3.data.toList], rfl, ?_, ?_, ?_, ?_⟩
    · exact smrec (f4_in1 (((((HB2.out.other ⟨m, 3, none⟩ (.slice (some ⟨g, 1, none⟩) 3 3) (by simp; omega)).other _ _ (by simp; omega)).other _ _ (by simp; omega)).other _ _ (by simp; omega)).other _ _ (by simp; omega))) (by simp) (by simp) (by simp) (f4_small1 hz)
    · intro b q t hq; injection hq with hq; injection hq with hq; omega
    · exact cset (cset (cset (cset (cset HC2.out ⟨m, 3, none⟩ (.slice (some ⟨g, 1, none⟩) 3 3) (by simp; omega)) _ _ (by simp; omega)) _ _ (by simp; omega)) _ _ (by simp; omega)) _ _ (by simp; omega)
    · exact gset (gset (gset (gset (gset HG2.out ⟨m, 3, none⟩ (.slice (some ⟨g, 1, none⟩) 3 3) (by simp; omega)) _ _ (by simp)) _ _ (by simp)) _ _ (by simp)) _ _ (by simp)
  · have hne : (some g) ≠ (some c) := by intro e; injection e with e; omega
    have x3 := HX2.out.c3
    have xa := (HX2.out.alloc (.cells (([⟨#[97, 124, 98]⟩, ⟨#[97, 59, 98]⟩, ⟨#[10]⟩, ⟨#[]⟩] : List ByteArray).map Value.string).toArray 9)).c3
    refine Lib.hid ?_
    go_wp2_with (fail)
    go_region_held3 (fun w' => w'.cell? ⟨m, 3, none⟩ = some (.slice (some ⟨g, 0, none⟩) 4 4))
      (first | exact y4 | exact y3 | exact xa | exact x3)
      (first | (go_at_call 105; (with_reducible refine (l1Pick_any B c w2.heap.size 4 3 _ ?_ (by omega) (by omega) (by have := HL2.out; omega) ?_).mono ?_); exact HC2.out.alloc _; exact lit_strs w2 [⟨#[97, 124, 98]⟩, ⟨#[97, 59, 98]⟩, ⟨#[10]⟩, ⟨#[]⟩] 3 (by decide); rintro e w3 ⟨t, rfl, ht, hc, hg⟩; have hg0 := grown_trans (grown_alloc w2 (.cells (([⟨#[97, 124, 98]⟩, ⟨#[97, 59, 98]⟩, ⟨#[10]⟩, ⟨#[]⟩] : List ByteArray).map Value.string).toArray 9) c) (gdrew hg); have HC3 := Lib.hid hc; have HG3 := Lib.hid (grown_trans HG2.out hg0); have HR3 := Lib.hid (HR2.out.kept hg0 (by omega)); have HB3 := Lib.hid (show BlkV w3 g 9 (F4 f0 f1 f2 f3) from HB2.out.grown hg0 hne); have HX3 := Lib.hid (HX2.out.kept hg0 (by omega)); have y3 := HX3.out.c3; have y4 := (HX3.out.other ⟨g, 0, none⟩ (.string t) (by simp; omega)).c3; have b0 := HB3.out.cell 0; have b1 := HB3.out.frozen 0; simp only [F4, List.getElem?_toArray, List.getElem?_cons_zero] at b0; clear hc hg hg0))
    all_goals
      have HZN := Lib.hid (show Z4 t f1 f2 f3 from ⟨by omega, hz.2⟩)
      have HX4 := Lib.hid (HX3.out.other ⟨g, 0, none⟩ (.string t) (by simp; omega))
      have HR4 := Lib.hid (HR3.out.other ⟨g, 0, none⟩ (.string t) (by simp; omega))
      have HB4 := Lib.hid (show BlkV (w3.setCell ⟨g, 0, none⟩ (.string t)) g 9 (F4 t f1 f2 f3) from HB3.out.set_ 0 (.string t))
      have q0 := (HR4.out).c0
      have q1 := (HR4.out).c1
      have q2 := (HR4.out).c2
      have q3 := (HR4.out).c3
      have k0 := (HR4.out).frozen 0
      have k1 := (HR4.out).frozen 1
      have k2 := (HR4.out).frozen 2
      have k3 := (HR4.out).frozen 3
      have m0 := (HX4.out).c0
      have m1 := (HX4.out).c1
      have m2 := (HX4.out).c2
      have m3 := (HX4.out).c3
      have n0 := (HX4.out).frozen 0
      have n1 := (HX4.out).frozen 1
      have n2 := (HX4.out).frozen 2
      have n3 := (HX4.out).frozen 3
      go_wp2
      clear hz
      have hz := HZN.out
      have u := ((((HR4.out).set0 (s)).set1 (k)).set2 (v)).set3 (.slice (some ⟨g, 0, none⟩) 4 4)
      have e0 := u.c0
      have e1 := u.c1
      have e2 := u.c2
      have e3 := u.c3
      refine bodyPost_ret (v := .agg #[.int .i64 (s), .int .i64 (k), .int .i64 (v), .slice (some ⟨g, 0, none⟩) 4 4]) (by simp [results, Tryz.results81, go_sem, e0, e1, e2, e3]) rfl ⟨_, _, _, _, _, [t.data.toList, f1.data.toList, f2.data.toList, f3.data.toList], rfl, ?_, ?_, ?_, ?_⟩
      · exact smrec (f4_in (((((HB4.out).other _ _ (by simp; omega)).other _ _ (by simp; omega)).other _ _ (by simp; omega)).other _ _ (by simp; omega))) (by simp) (by simp) (by simp) (f4_small hz)
      · intro b q t hq; injection hq with hq; injection hq with hq; omega
      · exact cset (cset (cset (cset (cset HC3.out ⟨g, 0, none⟩ (.string t) (by simp; omega)) _ _ (by simp; omega)) _ _ (by simp; omega)) _ _ (by simp; omega)) _ _ (by simp; omega)
      · exact gset (gset (gset (gset (gset HG3.out ⟨g, 0, none⟩ (.string t) (by simp; omega)) _ _ (by simp)) _ _ (by simp)) _ _ (by simp)) _ _ (by simp)
  · have z0 : (x == 0) = false := by simp; omega
    have z1 : (x == 1) = false := by simp; omega
    have z2 : (x == 2) = false := by simp; omega
    have z3 : (x == 3) = false := by simp; omega
    have z4 : (x == 4) = false := by simp; omega
    have q0 := (HR2.out).c0
    have q1 := (HR2.out).c1
    have q2 := (HR2.out).c2
    have q3 := (HR2.out).c3
    have k0 := (HR2.out).frozen 0
    have k1 := (HR2.out).frozen 1
    have k2 := (HR2.out).frozen 2
    have k3 := (HR2.out).frozen 3
    have m0 := (HX2.out).c0
    have m1 := (HX2.out).c1
    have m2 := (HX2.out).c2
    have m3 := (HX2.out).c3
    have n0 := (HX2.out).frozen 0
    have n1 := (HX2.out).frozen 1
    have n2 := (HX2.out).frozen 2
    have n3 := (HX2.out).frozen 3
    refine Lib.hid ?_
    go_wp2
    have u := ((((HR2.out).set0 (s)).set1 (k)).set2 (v)).set3 (.slice (some ⟨g, 0, none⟩) 4 4)
    have e0 := u.c0
    have e1 := u.c1
    have e2 := u.c2
    have e3 := u.c3
    refine bodyPost_ret (v := .agg #[.int .i64 (s), .int .i64 (k), .int .i64 (v), .slice (some ⟨g, 0, none⟩) 4 4]) (by simp [results, Tryz.results81, go_sem, e0, e1, e2, e3]) rfl ⟨_, _, _, _, _, [f0.data.toList, f1.data.toList, f2.data.toList, f3.data.toList], rfl, ?_, ?_, ?_, ?_⟩
    · exact smrec (f4_in (((((HB2.out).other _ _ (by simp; omega)).other _ _ (by simp; omega)).other _ _ (by simp; omega)).other _ _ (by simp; omega))) (by simp) (by simp) (by simp) (f4_small hz)
    · intro b q t hq; injection hq with hq; injection hq with hq; omega
    · exact cset (cset (cset (cset (HC2.out) _ _ (by simp; omega)) _ _ (by simp; omega)) _ _ (by simp; omega)) _ _ (by simp; omega)
    · exact gset (gset (gset (gset (HG2.out) _ _ (by simp)) _ _ (by simp)) _ _ (by simp)) _ _ (by simp)

end Go.Proofs.YtebddnjccmaimaaGreatDoor

/-
  What spec draws of two records: l8Copy, l8Two, DrawPairFeatures. By an AI agent.
-/
namespace Go.Proofs.YtebddnjccmaimaaGreatDoor
open Go.RowKit
set_option linter.unusedVariables false

theorem Sm.alloc {w : World} {a : Option Addr} {l : List Str} {c : Nat} (h : Sm w a l c) (o : Obj) : Sm (w.alloc o) a l c := h.below ((Below.refl _ _).alloc (Nat.le_refl _) o)
theorem Sm.kept {w w' : World} {a : Option Addr} {l : List Str} {cp c base : Nat} (h : Sm w a l cp) (ha : ∀ b q t, a = some ⟨b, q, t⟩ → base ≤ b) (hc : c < base) (hg : w.grownBy w' (some c)) : Sm w' a l cp :=
  ⟨h.1.keep hg.size (fun b off e hb => hg.block b hb (by have := ha b off none e; intro e2; injection e2 with e2; omega)), h.2⟩
theorem Sm.set_ {w : World} {a : Option Addr} {l : List Str} {cp base : Nat} (h : Sm w a l cp) (ha : ∀ b q t, a = some ⟨b, q, t⟩ → base ≤ b) (p : Addr) (v : Value) (hp : p.block < base) : Sm (w.setCell p v) a l cp :=
  ⟨h.1.keep (by simp [World.setCell]) (fun b off e hb => Below.heap_setCell w p v b (by have := ha b off none e; omega)), h.2⟩
theorem cells8 {ty ty' : TypeId} {w : World} {g q : Nat} {s k v s' k' v' : Int} {V V' : Value} (h : RecB ty w g s k v V) (h' : RecB ty' w q s' k' v' V') :
    w.cell? ⟨g, 0, none⟩ = some (.int .i64 s) ∧ w.cell? ⟨g, 1, none⟩ = some (.int .i64 k) ∧ w.cell? ⟨g, 2, none⟩ = some (.int .i64 v) ∧ w.cell? ⟨g, 3, none⟩ = some V ∧
    w.cell? ⟨q, 0, none⟩ = some (.int .i64 s') ∧ w.cell? ⟨q, 1, none⟩ = some (.int .i64 k') ∧ w.cell? ⟨q, 2, none⟩ = some (.int .i64 v') ∧ w.cell? ⟨q, 3, none⟩ = some V' := ⟨h.c0, h.c1, h.c2, h.c3, h'.c0, h'.c1, h'.c2, h'.c3⟩
theorem Sm.drew {w : World} {a : Option Addr} {l : List Str} {c : Nat} (h : Sm w a l c) : Sm w.drew a l c := h
theorem gdr {w w' : World} {r : Option Nat} (h : w.grownBy w' r) : w.grownBy w'.drew r := ⟨h.os, h.tape, h.output, h.size, h.block⟩
theorem RecB.drew {ty : TypeId} {w : World} {g : Nat} {s k v : Int} {V : Value} (h : RecB ty w g s k v V) : RecB ty w.drew g s k v V := h
theorem cells4 {ty : TypeId} {w : World} {g : Nat} {s k v : Int} {V : Value} (h : RecB ty w g s k v V) : w.cell? ⟨g, 0, none⟩ = some (.int .i64 s) ∧ w.cell? ⟨g, 1, none⟩ = some (.int .i64 k) ∧ w.cell? ⟨g, 2, none⟩ = some (.int .i64 v) ∧ w.cell? ⟨g, 3, none⟩ = some V := ⟨h.c0, h.c1, h.c2, h.c3⟩
/-- a record is stored whole -/
def put4 (w : World) (q : Nat) (s k v : Int) (V : Value) : World := (((w.setCell ⟨q, 0, none⟩ (.int .i64 s)).setCell ⟨q, 1, none⟩ (.int .i64 k)).setCell ⟨q, 2, none⟩ (.int .i64 v)).setCell ⟨q, 3, none⟩ V
theorem RecB.put4 {ty : TypeId} {w : World} {q : Nat} {s k v s' k' v' : Int} {V V' : Value} (h : RecB ty w q s k v V) : RecB ty (put4 w q s' k' v' V') q s' k' v' V' := (((h.set0 s').set1 k').set2 v').set3 V'
theorem RecB.past4 {ty : TypeId} {w : World} {g q : Nat} {s k v s' k' v' : Int} {V V' : Value} (h : RecB ty w g s k v V) (hn : g ≠ q) : RecB ty (Go.Proofs.YtebddnjccmaimaaGreatDoor.put4 w q s' k' v' V') g s k v V := (((h.other _ _ hn).other _ _ hn).other _ _ hn).other _ _ hn
theorem Sm.past4 {w : World} {a : Option Addr} {l : List Str} {cp base q : Nat} {s k v : Int} {V : Value} (h : Sm w a l cp) (ha : ∀ b q t, a = some ⟨b, q, t⟩ → base ≤ b) (hp : q < base) : Sm (put4 w q s k v V) a l cp :=
  (((h.set_ ha _ _ hp).set_ ha _ _ hp).set_ ha _ _ hp).set_ ha _ _ hp
theorem cpast4 {w : World} {B c q : Nat} {s k v : Int} {V : Value} (h : Cur w B c) (hp : c < q) : Cur (put4 w q s k v V) B c := cset (cset (cset (cset h _ _ hp) _ _ hp) _ _ hp) _ _ hp
theorem gpast4 {w w' : World} {row : Option Nat} {q : Nat} {s k v : Int} {V : Value} (h : w.grownBy w' row) (hp : w.heap.size ≤ q) : w.grownBy (put4 w' q s k v V) row := gset (gset (gset (gset h _ _ hp) _ _ hp) _ _ hp) _ _ hp
theorem bpast4 {B : Nat} {w w' : World} {q : Nat} {s k v : Int} {V : Value} (h : Below B w w') (hp : B ≤ q) : Below B w (put4 w' q s k v V) := (((h.setCell hp _).setCell hp _).setCell hp _).setCell hp _

theorem Sm.set_ne {w : World} {a : Option Addr} {l : List Str} {cp : Nat} (h : Sm w a l cp) (p : Addr) (v : Value) (ha : ∀ b q t, a = some ⟨b, q, t⟩ → b ≠ p.block) : Sm (w.setCell p v) a l cp :=
  ⟨h.1.keep (by simp [World.setCell]) (fun b off e hb => Below.heap_setCell w p v b (ha b off none e)), h.2⟩
theorem first_at {l : List Str} (h : 0 < l.length) : (l.map encStr)[0]? = some (encStr l[0]) := by
  rw [List.getElem?_map, List.getElem?_eq_getElem h]; rfl
theorem own_first {w : World} {base g cap : Nat} {l : List Str} (h : OwnS w base (.slice (some ⟨g, 0, none⟩) l.length cap) l) (t : ByteArray) : OwnS (w.setCell ⟨g, 0, none⟩ (.string t)) base (.slice (some ⟨g, 0, none⟩) l.length cap) (l.set 0 t.data.toList) := by
  have h1 := (World.ownsRow.stored h 0 (.string t)).1
  unfold OwnS
  rw [List.length_set, List.map_set]
  exact h1
theorem sm_first {w w' : World} {base g n cap : Nat} {a : Option Addr} {l : List Str} {t : ByteArray} (h : OwnS w base (.slice (some ⟨g, 0, none⟩) n cap) (l.set 0 t.data.toList)) (hs : Sm w' a l cap) (ht : t.size ≤ 40) : Sm w (some ⟨g, 0, none⟩) (l.set 0 t.data.toList) cap := by
  have hl := hs.2.2.2.1
  have hc := hs.2.2.1
  refine ⟨h.inS, by simp, by rw [List.length_set]; exact hc, by rw [List.length_set]; exact hl, fun x hx => ?_⟩
  rcases List.mem_or_eq_of_mem_set hx with hx | rfl
  · exact hs.2.2.2.2 x hx
  · have : t.data.toList.length = t.size := by simp
    omega
theorem code_more {w w' : World} {A : Option Addr} {len : Nat} (h : CodeAt w w.heap.size A len) (hb : Below w.heap.size w w') : CodeAt w' w'.heap.size A len := by
  have h1 := h.keep (w' := w') (fun k hk => hb.block k hk)
  refine ⟨h1.1, fun h0 => ?_⟩
  obtain ⟨b, off, hA, hlt, hz⟩ := h1.2 h0
  exact ⟨b, off, hA, Nat.lt_of_lt_of_le hlt hb.size, hz⟩

end Go.Proofs.YtebddnjccmaimaaGreatDoor

/-
  What spec.l8Two draws. By an AI agent.
-/
namespace Go.Proofs.YtebddnjccmaimaaGreatDoor
open Go.RowKit
set_option linter.unusedVariables false

/-- two records are handed back -/
def SomeTwo (w : World) (B c : Nat) (e : Ending) (w' : World) : Prop :=
  ∃ s k v a cp l s' k' v' a' cp' l', e = .returned (.tuple #[.agg #[.int .i64 s, .int .i64 k, .int .i64 v, .slice a l.length cp], .agg #[.int .i64 s', .int .i64 k', .int .i64 v', .slice a' l'.length cp']]) ∧
    Sm w' a l cp ∧ Sm w' a' l' cp' ∧ (∀ b q t, a = some ⟨b, q, t⟩ → w.heap.size + 2 ≤ b) ∧ (∀ b q t, a' = some ⟨b, q, t⟩ → w.heap.size + 2 ≤ b) ∧ w.grownBy w' (some c)

end Go.Proofs.YtebddnjccmaimaaGreatDoor

/-
  What spec.DrawPairFeatures draws. By an AI agent.
-/
namespace Go.Proofs.YtebddnjccmaimaaGreatDoor
open Go.RowKit
set_option linter.unusedVariables false

/-- two records are handed back, the memory below as it was -/
def DrawnTwoR (w : World) (e : Ending) (w' : World) : Prop :=
  ∃ s k v a cp l s' k' v' a' cp' l', e = .returned (.tuple #[.agg #[.int .i64 s, .int .i64 k, .int .i64 v, .slice a l.length cp], .agg #[.int .i64 s', .int .i64 k', .int .i64 v', .slice a' l'.length cp']]) ∧
    Sm w' a l cp ∧ Sm w' a' l' cp' ∧ Below w.heap.size w w'

end Go.Proofs.YtebddnjccmaimaaGreatDoor

/-
  The argument of a named law: a slice of bytes that came in; laws.big. By an AI agent.
-/
namespace Go.Proofs.YtebddnjccmaimaaGreatDoor
open Go.RowKit
set_option linter.unusedVariables false

/-- a slice of integers that came in: nil, or a row of 'cap' cells, the numbers 'zs', each fitting its kind -/
def IsRow (k : IntKind) (w : World) (a : Option Addr) (len cap : Nat) (zs : List Int) : Prop :=
  (a = none ∧ len = 0 ∧ cap = 0 ∧ zs = []) ∨
  ∃ x, a = some x ∧ len ≤ cap ∧ cap ≤ maxLen ∧ zs.length = cap ∧ (∀ i, i < zs.length → w.cell? (x.add i) = some (.int k (zs.getD i 0))) ∧ ∀ n ∈ zs, (Lit.int k n).wf = true

theorem codeAt_of {w : World} {a : Option Addr} {len cap : Nat} {zs : List Int} (h : IsRow .u8 w a len cap zs) (hl : len ≤ 1048576) : CodeAt w w.heap.size a len := by
  refine ⟨hl, fun h0 => ?_⟩
  rcases h with ⟨rfl, rfl, rfl, rfl⟩ | ⟨x, rfl, hlc, hm, hz, hc, hwf⟩
  · omega
  · obtain ⟨b, off, spot⟩ := x
    have hc0 := hc 0 (by omega)
    have hspot : spot = none := by simpa [Addr.add] using World.cell?_spot hc0
    subst hspot
    have hlt : b < w.heap.size := by
      have := World.block_lt_of_cell? w _ hc0
      simpa [Addr.add] using this
    refine ⟨b, off, rfl, hlt, fun j hj => ⟨zs.getD j 0, ?_, ?_, ?_⟩⟩
    · have hw := hwf (zs.getD j 0) (by rw [List.getD_eq_getElem?_getD, List.getElem?_eq_getElem (by omega)]; simp)
      simp [Lit.wf, IntKind.min, IntKind.max, IntKind.signed, IntKind.bits] at hw ⊢
      omega
    · have hw := hwf (zs.getD j 0) (by rw [List.getD_eq_getElem?_getD, List.getElem?_eq_getElem (by omega)]; simp)
      simp [Lit.wf, IntKind.min, IntKind.max, IntKind.signed, IntKind.bits] at hw ⊢
      omega
    · have e : (⟨b, off, none⟩ : Addr).add j = ⟨b, off + j, none⟩ := by unfold Addr.add; split <;> simp_all
      rw [← e]
      exact hc j (by omega)

theorem big_no (A : Option Addr) (len cap : Nat) (w : World) (h : (len : Int) ≤ 1048576) : Calls Tryz.prog 10 #[.slice A len cap] w fun e w' => e = .returned (.bool false) ∧ w = w' := by
  have hd : decide (1048576 < (len : Int)) = false := by simp; omega
  go_enter Tryz.func10, Tryz.ntmps10
  go_wp2
  go_ret
  exact ⟨rfl, rfl⟩

theorem big_yes (A : Option Addr) (len cap : Nat) (w : World) (h : 1048576 < (len : Int)) : Calls Tryz.prog 10 #[.slice A len cap] w fun e w' => e = .returned (.bool true) ∧ w = w' := by
  have hd : decide (1048576 < (len : Int)) = true := by simp; omega
  go_enter Tryz.func10, Tryz.ntmps10
  go_wp2
  go_ret
  exact ⟨rfl, rfl⟩

end Go.Proofs.YtebddnjccmaimaaGreatDoor

