/-
  Texts laid together: Draw, Draw1, Draw2, RowI, PlainGrd, MonH. By an AI agent.
-/
import Derived.Test.YtpmfabpnjacegaaGreatDoorGQ2
import Derived.BigQuiet
import Derived.Deep.QuietTactic
import Derived.Laws.BitsLemmas
import Derived.Test.YtpmfabpnjacegaaGreatDoorGQ10
import Derived.Test.YtpmfabpnjacegaaGreatDoorGQ3
import Derived.Deep.RegionWith
import Derived.Test.YtpmfabpnjacegaaGreatDoorGQ6
import Derived.Deep.AppendLies
import Derived.Deep.RegionHeld3
import Derived.Test.YtpmfabpnjacegaaGreatDoorGQ1
/-
  What the cursor of spec (l1New, l1Byte, l1Below, l1PickInt) does: some numbers within their bounds; nothing but the cursor is written. By an AI agent.
-/
namespace Go.Proofs.YtpmfabpnjacegaaGreatDoor
open Go.RowKit
set_option linter.unusedVariables false

/-- the cursor's block -/
def CurB (w : World) (c : Nat) (A : Option Addr) (len cap i : Nat) (h : Int) : Prop :=
  w.heap[c]? = some (.cells #[.slice A len cap, .int .i64 i, .int .i64 h] 93 (0, 0))

/-- the bytes that the cursor reads lie below block B -/
def CodeAt (w : World) (B : Nat) (A : Option Addr) (len : Nat) : Prop :=
  len ≤ 1048576 ∧ (0 < len → ∃ b off, A = some ⟨b, off, none⟩ ∧ b < B ∧ ∀ j, j < len → ∃ z : Int, 0 ≤ z ∧ z ≤ 255 ∧ w.cell? ⟨b, off + j, none⟩ = some (.int .u8 z))

def Cur (w : World) (B c : Nat) : Prop := B ≤ c ∧ ∃ A len cap i h, i ≤ len ∧ CurB w c A len cap i h ∧ CodeAt w B A len

theorem CurB.cell {w : World} {c : Nat} {A : Option Addr} {len cap i : Nat} {h : Int} (hc : CurB w c A len cap i h) (k : Nat) : w.cell? ⟨c, k, none⟩ = (#[Value.slice A len cap, .int .i64 i, .int .i64 h] : Array Value)[k]? :=
  cell_of_row w c k _ 93 (0, 0) hc
theorem CurB.frozen {w : World} {c : Nat} {A : Option Addr} {len cap i : Nat} {h : Int} (hc : CurB w c A len cap i h) (k : Nat) : w.frozen? ⟨c, k, none⟩ = false := by
  unfold CurB at hc
  simp [World.frozen?, hc]
theorem CurB.set1 {w : World} {c : Nat} {A : Option Addr} {len cap i : Nat} {h : Int} (hc : CurB w c A len cap i h) (j : Nat) : CurB (w.setCell ⟨c, 1, none⟩ (.int .i64 j)) c A len cap j h := by
  unfold CurB at hc ⊢
  simp [World.setCell, Array.getElem?_modify, hc]
theorem CurB.set2 {w : World} {c : Nat} {A : Option Addr} {len cap i : Nat} {h : Int} (hc : CurB w c A len cap i h) (h' : Int) : CurB (w.setCell ⟨c, 2, none⟩ (.int .i64 h')) c A len cap i h' := by
  unfold CurB at hc ⊢
  simp [World.setCell, Array.getElem?_modify, hc]
theorem CurB.lt {w : World} {c : Nat} {A : Option Addr} {len cap i : Nat} {h : Int} (hc : CurB w c A len cap i h) : c < w.heap.size := by
  rcases Nat.lt_or_ge c w.heap.size with hlt | hge
  · exact hlt
  · unfold CurB at hc; rw [Array.getElem?_eq_none hge] at hc; cases hc

theorem CodeAt.keep {w w' : World} {B : Nat} {A : Option Addr} {len : Nat} (h : CodeAt w B A len) (hk : ∀ k, k < B → w'.heap[k]? = w.heap[k]?) : CodeAt w' B A len := by
  refine ⟨h.1, fun h0 => ?_⟩
  obtain ⟨b, off, hA, hb, hz⟩ := h.2 h0
  refine ⟨b, off, hA, hb, fun j hj => ?_⟩
  obtain ⟨z, h1, h2, h3⟩ := hz j hj
  exact ⟨z, h1, h2, by rw [World.cell?_of_block (hk b hb)]; exact h3⟩

theorem Cur.lt {w : World} {B c : Nat} (h : Cur w B c) : c < w.heap.size := by
  obtain ⟨_, _, _, _, _, _, _, hc, _⟩ := h
  exact hc.lt
theorem Cur.alloc {w : World} {B c : Nat} (h : Cur w B c) (o : Obj) : Cur (w.alloc o) B c := by
  have hlt := h.lt
  obtain ⟨hB, A, len, cap, i, hh, hi, hc, hcode⟩ := h
  exact ⟨hB, A, len, cap, i, hh, hi, (Below.heap_alloc w o c hlt).trans hc, hcode.keep fun k hk => Below.heap_alloc w o k (by omega)⟩
/-- writes to other blocks leave the cursor alone -/
theorem Cur.below {w w' : World} {B c B' : Nat} (h : Cur w B c) (hb : Below B' w w') (hc' : c < B') : Cur w' B c := by
  obtain ⟨hB, A, len, cap, i, hh, hi, hc, hcode⟩ := h
  exact ⟨hB, A, len, cap, i, hh, hi, (hb.block c hc').trans hc, hcode.keep fun k hk => hb.block k (by omega)⟩

theorem and255 (a : Int) : 0 ≤ bits .and .i64 a 255 ∧ bits .and .i64 a 255 ≤ 255 := by
  have h : ((BitVec.ofInt 64 a) &&& (BitVec.ofInt 64 255)).toNat ≤ 255 := by
    rw [BitVec.toNat_and]
    exact Nat.and_le_right
  have e : bits .and .i64 a 255 = (((BitVec.ofInt 64 a) &&& (BitVec.ofInt 64 255)).toNat : Int) := by
    show IntKind.i64.wrap ((((BitVec.ofInt 64 a) &&& (BitVec.ofInt 64 255)).toNat : Nat) : Int) = _
    exact IntWalk.i64_in _ (by omega)
  rw [e]
  omega

theorem grown_set (w : World) (c k : Nat) (u : Value) : w.grownBy (w.setCell ⟨c, k, none⟩ u) (some c) :=
  ⟨rfl, rfl, rfl, by simp [World.setCell], fun j _ hne => Below.heap_setCell w ⟨c, k, none⟩ u j (fun e => hne (by rw [e]))⟩
theorem grown_trans {a b d : World} {c : Nat} (h1 : a.grownBy b (some c)) (h2 : b.grownBy d (some c)) : a.grownBy d (some c) :=
  ⟨h2.os.trans h1.os, h2.tape.trans h1.tape, h2.output.trans h1.output, Nat.le_trans h1.size h2.size, fun k hk hne => (h2.block k (Nat.lt_of_lt_of_le hk h1.size) hne).trans (h1.block k hk hne)⟩
theorem grown_drewN {a b : World} {c : Nat} (h : a.grownBy b (some c)) (n : Nat) : a.grownBy (b.drewN n) (some c) := ⟨h.os, h.tape, h.output, h.size, h.block⟩
theorem CurB.drewN {w : World} {c : Nat} {A : Option Addr} {len cap i : Nat} {h : Int} (hc : CurB w c A len cap i h) (n : Nat) : CurB (w.drewN n) c A len cap i h := hc

def SomeByte (w : World) (B c : Nat) (e : Ending) (w' : World) : Prop := ∃ x : Int, e = .returned (.int .i64 x) ∧ 0 ≤ x ∧ x ≤ 255 ∧ Cur w' B c ∧ w.grownBy w' (some c)

set_option maxRecDepth 100000 in
set_option maxHeartbeats 1000000 in
theorem l1Byte_any (B c : Nat) (w : World) (hcur : Cur w B c) : Calls Tryz.prog 82 #[.pointer (some ⟨c, 0, none⟩)] w (SomeByte w B c) := by
  obtain ⟨hB, A, len, cap, i, h, hi, hc, hcode⟩ := hcur
  have HC := Lib.hid hc
  have HCODE := Lib.hid hcode
  have c0 : w.cell? ⟨c, 0, none⟩ = some (.slice A len cap) := hc.cell 0
  have c1 : w.cell? ⟨c, 1, none⟩ = some (.int .i64 i) := hc.cell 1
  have c2 : w.cell? ⟨c, 2, none⟩ = some (.int .i64 h) := hc.cell 2
  have f1 := hc.frozen 1
  have f2 := hc.frozen 2
  clear hc hcode
  by_cases hlt : i < len
  · obtain ⟨b, off, rfl, hb, hz⟩ := HCODE.out.2 (by omega)
    obtain ⟨z, z0, z1, hcell⟩ := hz i hlt
    clear hz
    have hlen := HCODE.out.1
    have hcell2 : ∀ v, (w.setCell ⟨c, 2, none⟩ v).cell? ⟨b, off + i, none⟩ = some (.int .u8 z) := fun v => by
      rw [World.cell?_setCell_other w _ _ v (fun e => by have h := congrArg Addr.block e; simp only at h; omega)]
      exact hcell
    go_enter Tryz.func82, Tryz.ntmps82
    go_wp2
    go_quiet (fail)
    go_wp2
    go_quiet (fail)
    go_wp2
    go_quiet (fail)
    go_wp2
    go_ret
    refine ⟨_, rfl, (and255 _).1, (and255 _).2, ⟨hB, _, len, cap, i + 1, _, by omega, (((HC.out.set2 _).set1 (i + 1))), ?_⟩, ?_⟩
    · exact HCODE.out.keep fun k hk => (Below.heap_setCell _ ⟨c, 1, none⟩ _ k (by simp; omega)).trans (Below.heap_setCell w ⟨c, 2, none⟩ _ k (by simp; omega))
    · exact grown_trans (grown_drewN (grown_set w c 2 _) _) (grown_set _ c 1 _)
  · go_enter Tryz.func82, Tryz.ntmps82
    go_wp2
    go_quiet (fail)
    go_wp2
    go_quiet (fail)
    go_wp2
    go_ret
    refine ⟨_, rfl, (and255 _).1, (and255 _).2, ⟨hB, A, len, cap, i, _, hi, HC.out.set2 _, ?_⟩, ?_⟩
    · exact HCODE.out.keep fun k hk => Below.heap_setCell w ⟨c, 2, none⟩ _ k (by simp; omega)
    · exact grown_drewN (grown_drewN (grown_set w c 2 _) _) _

theorem SomeByte.mk {w w' : World} {B c : Nat} {e : Ending} (h : SomeByte w B c e w') : ∃ x : Int, e = .returned (.int .i64 x) ∧ 0 ≤ x ∧ x ≤ 255 ∧ Cur w' B c ∧ w.grownBy w' (some c) := h

def SomeBelow (w : World) (B c : Nat) (n : Int) (e : Ending) (w' : World) : Prop := ∃ x : Int, e = .returned (.int .i64 x) ∧ 0 ≤ x ∧ x < n ∧ Cur w' B c ∧ w.grownBy w' (some c)

set_option maxRecDepth 100000 in
set_option maxHeartbeats 1000000 in
theorem l1Below_small (B c : Nat) (n : Int) (w : World) (hcur : Cur w B c) (h0 : 0 < n) (h1 : n ≤ 256) : Calls Tryz.prog 53 #[.pointer (some ⟨c, 0, none⟩), .int .i64 n] w (SomeBelow w B c n) := by
  have HC := Lib.hid hcur
  clear hcur
  go_enter Tryz.func53, Tryz.ntmps53
  go_wp2_with (go_at_call 82; (refine (l1Byte_any B c _ HC.out).mono ?_); rintro e w1 ⟨x, rfl, hx0, hx1, hc1, hg1⟩; have HC1 := Lib.hid hc1; have HG1 := Lib.hid hg1; clear hc1 hg1)
  go_ret
  exact ⟨_, rfl, Int.emod_nonneg _ (by omega), Int.emod_lt_of_pos _ h0, HC1.out, HG1.out⟩

set_option maxRecDepth 100000 in
set_option maxHeartbeats 1000000 in
theorem l1Below_large (B c : Nat) (n : Int) (w : World) (hcur : Cur w B c) (h0 : 256 < n) (h1 : n ≤ 4611686018427387904) : Calls Tryz.prog 53 #[.pointer (some ⟨c, 0, none⟩), .int .i64 n] w (SomeBelow w B c n) := by
  have HC := Lib.hid hcur
  have HG := Lib.hid (show 0 < n by omega)
  clear hcur
  go_enter Tryz.func53, Tryz.ntmps53
  go_wp2_with (go_at_call 82; (refine (l1Byte_any B c _ HC.out).mono ?_); rintro e w1 ⟨x1, rfl, hx0, hx1, hc1, hg1⟩; refine Hid.out ?_)
  refine Lib.hid ?_
  have HC1 := Lib.hid hc1
  have HG1 := Lib.hid hg1
  clear hc1 hg1
  go_wp2_with (go_at_call 82; (refine (l1Byte_any B c _ HC1.out).mono ?_); rintro e w2 ⟨x2, rfl, hy0, hy1, hc2, hg2⟩; refine Hid.out ?_)
  refine Lib.hid ?_
  have HC2 := Lib.hid hc2
  have HG2 := Lib.hid (grown_trans HG1.out hg2)
  clear hc2 hg2
  go_wp2_with (go_at_call 82; (refine (l1Byte_any B c _ HC2.out).mono ?_); rintro e w3 ⟨x3, rfl, hz0, hz1, hc3, hg3⟩; refine Hid.out ?_)
  refine Lib.hid ?_
  have HC3 := Lib.hid hc3
  have HG3 := Lib.hid (grown_trans HG2.out hg3)
  clear hc3 hg3
  go_wp2_with (go_at_call 82; (refine (l1Byte_any B c _ HC3.out).mono ?_); rintro e w4 ⟨x4, rfl, hu0, hu1, hc4, hg4⟩; refine Hid.out ?_)
  refine Lib.hid ?_
  have HC4 := Lib.hid hc4
  have HG4 := Lib.hid (grown_trans HG3.out hg4)
  clear hc4 hg4
  go_wp2
  go_ret
  exact ⟨_, rfl, Int.emod_nonneg _ (by have := HG.out; omega), Int.emod_lt_of_pos _ HG.out, HC4.out, HG4.out⟩

theorem l1Below_any (B c : Nat) (n : Int) (w : World) (hcur : Cur w B c) (h0 : 0 < n) (h1 : n ≤ 4611686018427387904) : Calls Tryz.prog 53 #[.pointer (some ⟨c, 0, none⟩), .int .i64 n] w (SomeBelow w B c n) := by
  by_cases h : n ≤ 256
  · exact l1Below_small B c n w hcur h0 h
  · exact l1Below_large B c n w hcur (by omega) h1

def SomeInt (w : World) (B c : Nat) (e : Ending) (w' : World) : Prop := ∃ x : Int, e = .returned (.int .i64 x) ∧ -9223372036854775808 ≤ x ∧ x ≤ 9223372036854775807 ∧ Cur w' B c ∧ w.grownBy w' (some c)

set_option maxRecDepth 100000 in
set_option maxHeartbeats 1000000 in
theorem l1PickInt_any (B c g n : Nat) (w : World) (hcur : Cur w B c) (hn : 0 < n) (hn2 : n ≤ 65536) (hg : g ≠ c)
    (hl : ∀ j, j < n → ∃ z : Int, -9223372036854775808 ≤ z ∧ z ≤ 9223372036854775807 ∧ w.cell? ⟨g, j, none⟩ = some (.int .i64 z)) :
    Calls Tryz.prog 54 #[.pointer (some ⟨c, 0, none⟩), .slice (some ⟨g, 0, none⟩) n n] w (SomeInt w B c) := by
  have HC := Lib.hid hcur
  have HL := Lib.hid hl
  clear hcur hl
  go_enter Tryz.func54, Tryz.ntmps54
  go_wp2_with (go_at_call 53; (refine (l1Below_any B c _ _ HC.out (by omega) (by omega)).mono ?_); rintro e w1 ⟨x, rfl, hx0, hx1, hc1, hg1⟩; refine Hid.out ?_)
  refine Lib.hid ?_
  obtain ⟨k, rfl⟩ := Int.eq_ofNat_of_zero_le hx0
  obtain ⟨z, hz0, hz1, hcell⟩ := HL.out k (by omega)
  have hcell1 : w1.cell? ⟨g, k, none⟩ = some (.int .i64 z) := hg1.cell hcell (by simpa using hg)
  have HC1 := Lib.hid hc1
  have HG1 := Lib.hid hg1
  clear hc1 hg1
  go_wp2
  go_ret
  exact ⟨_, rfl, hz0, hz1, HC1.out, HG1.out⟩

end Go.Proofs.YtpmfabpnjacegaaGreatDoor

/-
  What the drawing functions of chapter 1 (l1New, l1Num, l1Text, DrawEncodeVarint, DrawEncodeHex, DrawEncodeFixed) hand back: some numbers and texts within their bounds. By an AI agent.
-/
namespace Go.Proofs.YtpmfabpnjacegaaGreatDoor
open Go.RowKit
set_option linter.unusedVariables false

def SomeCur (w : World) (e : Ending) (w' : World) : Prop := ∃ c, e = .returned (.pointer (some ⟨c, 0, none⟩)) ∧ Cur w' w.heap.size c ∧ Below w.heap.size w w'

set_option maxRecDepth 100000 in
set_option maxHeartbeats 1000000 in
theorem l1New_any (A : Option Addr) (len cap : Nat) (w : World) (hcode : CodeAt w w.heap.size A len) : Calls Tryz.prog 22 #[.slice A len cap] w (SomeCur w) := by
  have HCODE := Lib.hid hcode
  have hlen : (len : Int) ≤ 1048576 := by have := hcode.1; omega
  clear hcode
  go_enter Tryz.func22, Tryz.ntmps22
  go_wp2
  go_loop [3, 4] (fun h i => ∃ (k : Nat) (x : Int), k ≤ len ∧ k ≤ 4000 ∧ i = .int .i64 k ∧ h = .int .i64 x) (fun _ i => 4000 - (intOf i).toNat)
  case atStart => exact ⟨0, _, Nat.zero_le _, by omega, rfl, rfl⟩
  case round =>
    obtain ⟨k, x, hk, hk4, rfl, rfl⟩ := hrel
    by_cases hlt : k < len ∧ k < 4000
    · obtain ⟨h1, h2⟩ := hlt
      obtain ⟨b, off, rfl, hb, hz⟩ := HCODE.out.2 (by omega)
      obtain ⟨z, z0, z1, hcell⟩ := hz k h1
      clear hz
      go_wp2
      go_round
      case rel => exact ⟨k + 1, _, by omega, by omega, by go_num, rfl⟩
      case measure => simp [intOf]; omega
    · have hex : ¬ k < len ∨ ¬ k < 4000 := by omega
      clear hlt
      rcases hex with hex | hex
      all_goals go_wp2
      all_goals go_ret
      all_goals refine ⟨w.heap.size, rfl, ⟨Nat.le_refl _, A, len, cap, 0, _, Nat.zero_le _, heap_alloc_new w _, HCODE.out.keep fun j hj => Below.heap_alloc w _ j hj⟩, (Below.refl _ _).alloc (Nat.le_refl _) _⟩

theorem lit_cells (w : World) (l : List Int) (hr : ∀ z ∈ l, -9223372036854775808 ≤ z ∧ z ≤ 9223372036854775807) : ∀ j, j < l.length → ∃ z : Int, -9223372036854775808 ≤ z ∧ z ≤ 9223372036854775807 ∧
    (w.alloc (.cells (l.map (Value.int .i64)).toArray 3)).cell? ⟨w.heap.size, j, none⟩ = some (.int .i64 z) := by
  intro j hj
  refine ⟨l[j], (hr _ (List.getElem_mem hj)).1, (hr _ (List.getElem_mem hj)).2, ?_⟩
  rw [World.cell?_alloc_at _ _ _ _ rfl]
  simp [hj]

theorem grown_alloc (w : World) (o : Obj) (c : Nat) : w.grownBy (w.alloc o) (some c) := World.grownBy_alloc w o _

theorem OwnB.kept {w w' : World} {base c : Nat} {v : Value} {l : List UInt8} (h : OwnB w base v l) (hg : w.grownBy w' (some c)) (hc : c < base) : OwnB w' base v l := by
  refine World.ownsRow.kept h hg (.inr fun e => ?_)
  have := (World.ownsRow.lt h c e).1
  omega

theorem grown_below {a b d : World} {c : Nat} (h1 : a.grownBy b (some c)) (h2 : Below a.heap.size b d) : a.grownBy d (some c) :=
  ⟨h2.os.trans h1.os, h2.tape.trans h1.tape, h2.output.trans h1.output, Nat.le_trans h1.size h2.size, fun k hk hne => (h2.block k hk).trans (h1.block k hk hne)⟩

def SomeText (w : World) (B c : Nat) (most : Nat) (e : Ending) (w' : World) : Prop := ∃ l : List UInt8, e = .returned (.string (strOf l)) ∧ l.length ≤ most ∧ Cur w' B c ∧ w.grownBy w' (some c)

end Go.Proofs.YtpmfabpnjacegaaGreatDoor

/-
  What the drawing functions of chapter 2 (l1Pick, l1Spoil, l2Name, l2Text) hand back: some texts within their bounds; nothing but the cursor is written. By an AI agent.
-/
namespace Go.Proofs.YtpmfabpnjacegaaGreatDoor
open Go.RowKit
set_option linter.unusedVariables false

def SomeStr (w : World) (B c m : Nat) (e : Ending) (w' : World) : Prop := ∃ s : ByteArray, e = .returned (.string s) ∧ s.size ≤ m ∧ Cur w' B c ∧ w.grownBy w' (some c)

theorem lit_strs (w : World) (l : List ByteArray) (m : Nat) (hr : ∀ s ∈ l, s.size ≤ m) : ∀ j, j < l.length → ∃ s : ByteArray, s.size ≤ m ∧ (w.alloc (.cells (l.map Value.string).toArray 9)).cell? ⟨w.heap.size, j, none⟩ = some (.string s) := by
  intro j hj
  refine ⟨l[j], hr _ (List.getElem_mem hj), ?_⟩
  rw [World.cell?_alloc_at _ _ _ _ rfl]
  simp [hj]

set_option maxRecDepth 100000 in
set_option maxHeartbeats 1000000 in
theorem l1Pick_any (B c g n m : Nat) (w : World) (hcur : Cur w B c) (hn : 0 < n) (hn2 : n ≤ 65536) (hg : g ≠ c)
    (hl : ∀ j, j < n → ∃ s : ByteArray, s.size ≤ m ∧ w.cell? ⟨g, j, none⟩ = some (.string s)) :
    Calls Tryz.prog 105 #[.pointer (some ⟨c, 0, none⟩), .slice (some ⟨g, 0, none⟩) n n] w (SomeStr w B c m) := by
  have HC := Lib.hid hcur
  have HL := Lib.hid hl
  clear hcur hl
  go_enter Tryz.func105, Tryz.ntmps105
  go_wp2_with (go_at_call 53; (refine (l1Below_any B c _ _ HC.out (by omega) (by omega)).mono ?_); rintro e w1 ⟨x, rfl, hx0, hx1, hc1, hg1⟩; refine Hid.out ?_)
  refine Lib.hid ?_
  obtain ⟨k, rfl⟩ := Int.eq_ofNat_of_zero_le hx0
  obtain ⟨s, hs, hcell⟩ := HL.out k (by omega)
  have hcell1 : w1.cell? ⟨g, k, none⟩ = some (.string s) := hg1.cell hcell (by simpa using hg)
  have HC1 := Lib.hid hc1
  have HG1 := Lib.hid hg1
  clear hc1 hg1
  go_wp2
  go_ret
  exact ⟨s, rfl, hs, HC1.out, HG1.out⟩

theorem ext_le (s : ByteArray) (a b : Nat) : (s.extract a b).size ≤ s.size := by rw [ByteArray.size_extract]; omega
theorem u8_lo (z : Int) : 0 ≤ IntKind.u8.wrap z := by rw [IntKind.wrap_u8]; omega
theorem u8_hi (z : Int) : IntKind.u8.wrap z ≤ 255 := by rw [IntKind.wrap_u8]; omega
theorem one_size (x : UInt8) : (⟨#[x]⟩ : ByteArray).size = 1 := rfl

end Go.Proofs.YtpmfabpnjacegaaGreatDoor

/-
  Slices of slices of integers of the call's own, grown by append. By an AI agent.
-/
namespace Go.Proofs.YtpmfabpnjacegaaGreatDoor
open Go.RowKit
set_option linter.unusedVariables false

theorem info_row : (Tryz.prog.info? 27).map (fun i => (i.zero, i.size, i.bytes)) = some (some (.slice none 0 0), 1, 24) := by kernel_rfl

/-- a slice that reads as a list of lists -/
def InII (w : World) (a : Option Addr) (ls : List (List Int)) : Prop :=
  0 < ls.length → ∃ b, a = some ⟨b, 0, none⟩ ∧ b < w.heap.size ∧ ∀ j l, ls[j]? = some l → ∃ a' c', w.cell? ⟨b, j, none⟩ = some (.slice a' l.length c') ∧ (a' = none → c' = 0) ∧ l.length ≤ c' ∧ InI w a' l
theorem InII.below {w w' : World} {a : Option Addr} {ls : List (List Int)} (h : InII w a ls) (hb : Below w.heap.size w w') : InII w' a ls := by
  intro h0
  obtain ⟨b, ha, hlt, hc⟩ := h h0
  refine ⟨b, ha, Nat.lt_of_lt_of_le hlt hb.size, fun j l hj => ?_⟩
  obtain ⟨a', c', h1, h2, h3, h4⟩ := hc j l hj
  exact ⟨a', c', (World.cell?_of_block (hb.block b hlt)).trans h1, h2, h3, h4.below hb⟩

structure RowsI (w : World) (lo : Nat) (v : Value) (vs : List Value) (ls : List (List Int)) : Prop where
  len : vs.length = ls.length
  out : w.ownsRow lo 27 1 v ls.length vs
  row : ∀ (j : Nat) (u : Value) (l : List Int), vs[j]? = some u → ls[j]? = some l → OwnI w lo u l
  apart : ∀ (j : Nat) (u : Value) (k : Nat), vs[j]? = some u → u.ownBlock = some k → v.ownBlock ≠ some k
theorem RowsI.below {w w' : World} {lo : Nat} {v : Value} {vs : List Value} {ls : List (List Int)} (h : RowsI w lo v vs ls) (hb : Below w.heap.size w w') : RowsI w' lo v vs ls :=
  ⟨h.len, World.ownsRow.kept h.out (row := none) ⟨hb.os, hb.tape, hb.output, hb.size, fun i hi _ => hb.block i hi⟩ (by cases hv : v.ownBlock <;> simp), fun j u l h1 h2 => (h.row j u l h1 h2).below hb, h.apart⟩
theorem RowsI.mono {w : World} {lo lo' : Nat} {v : Value} {vs : List Value} {ls : List (List Int)} (h : RowsI w lo v vs ls) (hl : lo' ≤ lo) : RowsI w lo' v vs ls := ⟨h.len, row_mono h.out hl, fun j u l h1 h2 => (h.row j u l h1 h2).mono hl, h.apart⟩
theorem RowsI.inII {w : World} {lo : Nat} {a : Option Addr} {cap : Nat} {vs : List Value} {ls : List (List Int)} (h : RowsI w lo (.slice a ls.length cap) vs ls) : InII w a ls := by
  intro h0
  obtain ⟨g, rfl, _, hg, hc⟩ := cell_own h.out h0
  refine ⟨g, rfl, hg, fun j l hj => ?_⟩
  have hlt := (List.getElem?_eq_some_iff.1 hj).1
  have hv : vs[j]? = some (vs[j]'(by rw [h.len]; exact hlt)) := List.getElem?_eq_getElem _
  have ho := h.row j _ l hv hj
  obtain ⟨a', c', e⟩ := ho.shape
  have hcell := hc j _ hv
  rw [e] at ho hcell
  rw [Nat.zero_add] at hcell
  exact ⟨a', c', hcell, rowX_none ho, rowX_cap ho, ho.inI⟩
theorem RowsI.shape {w : World} {lo : Nat} {v : Value} {vs : List Value} {ls : List (List Int)} (h : RowsI w lo v vs ls) : ∃ a cap, v = .slice a ls.length cap := by
  rcases h.out.2 with ⟨rfl, h0⟩ | ⟨g, cap, cur, rfl, _⟩
  · exact ⟨none, 0, by rw [h0]⟩
  · exact ⟨_, _, rfl⟩
theorem RowsI.nil (w : World) (lo : Nat) : RowsI w lo (.slice none 0 0) [] [] := ⟨rfl, World.ownsRow_nil _ _ _ _, fun j u l h => by simp at h, fun j u k h => by simp at h⟩
/-- one slice more -/
theorem RowsI.snoc {w w1 w2 w3 : World} {lo g : Nat} {v v' u : Value} {vs : List Value} {ls : List (List Int)} {l : List Int} (h : RowsI w lo v vs ls) (hlo : lo ≤ w.heap.size) (h1 : Below w.heap.size w w1) (hu : OwnI w1 w.heap.size u l) (h2 : Below w1.heap.size w1 w2) (hg : w2.grownBy w3 v.ownBlock)
    (ho : w3.ownsRow lo 27 1 v' (ls.length + 1) (vs ++ [u])) (hv' : v'.ownBlock = some g) (hat : v.ownBlock = some g ∨ g = w2.heap.size) : RowsI w3 lo v' (vs ++ [u]) (ls ++ [l]) := by
  have h3 := (h.below h1).below h2
  have hvl : ∀ k, v.ownBlock = some k → k < w.heap.size := fun k hk => (World.ownsRow.lt h.out k hk).2
  have hul := fun k hk => World.ownsRow.lt (hu.below h2) k hk
  have hul1 := fun k hk => World.ownsRow.lt hu k hk
  refine ⟨by simp [h.len], by simpa using ho, fun j z m hj hm => ?_, fun j z k hj hk e => ?_⟩
  · rcases snoc_at hj with hj1 | ⟨rfl, rfl⟩
    · have hjl : j < ls.length := by have := (List.getElem?_eq_some_iff.1 hj1).1; have := h.len; omega
      rw [List.getElem?_append_left hjl] at hm
      have h4 := h3.row j z m hj1 hm
      refine World.ownsRow.kept h4 hg ?_
      cases hz : z.ownBlock with
      | none => exact .inl rfl
      | some k => exact .inr fun e => h.apart j z k hj1 hz e.symm
    · rw [h.len, List.getElem?_append_right (Nat.le_refl _), Nat.sub_self] at hm
      simp at hm
      subst hm
      refine World.ownsRow.kept ((hu.below h2).mono hlo) hg ?_
      cases hz : z.ownBlock with
      | none => exact .inl rfl
      | some k => exact .inr fun e => by have := hvl k e.symm; have := (hul k hz).1; omega
  · rw [hv'] at e
    injection e with e
    subst e
    rcases snoc_at hj with hj1 | ⟨rfl, rfl⟩
    · have hjl : j < ls.length := by have := (List.getElem?_eq_some_iff.1 hj1).1; have := h.len; omega
      have h5 := (World.ownsRow.lt (h3.row j z _ hj1 (List.getElem?_eq_getElem hjl)) _ hk).2
      rcases hat with h6 | h6
      · exact h.apart j z _ hj1 hk h6
      · omega
    · have h5 := hul1 _ hk
      rcases hat with h6 | h6
      · have := hvl _ h6; omega
      · have := h2.size; omega

/-- append of one integer to a slice of the call's own: the new slice under a name -/
theorem step_oneI {ops : Array Oper} {o : Oper} {a : Act} {w : World} {K : Act → World → Prop} {Q : Exit → Act → World → Prop} {E : Prop}
    (hg : o.guard = none) (s x : Operand) (hop : o.op = Op.call { callee := Callee.builtin Builtin.append, args := #[s, x], argTypes := #[27, 27] })
    (base : Nat) (v : Value) (l F : List Int) (n : Nat) (y : Int) (hs : a.eval s = v) (ad : Option Addr) (hx : a.eval x = .slice ad 1 1) (hF : l ++ [y] = F) (hn : F.length = n)
    (hown : OwnI w base v l) (hin : InI w ad [y]) (hne : ad ≠ none) (hsz : l.length + 1 ≤ 9000000) (hbase : base ≤ w.heap.size)
    (hK : ∀ a' c' w', OwnI w' base (.slice a' n c') F → w.grownBy w' v.ownBlock → K (a.put o.dst (.slice a' n c')) w') :
    if Region.wanted o (yielded ops a.tmps) = true then Oper.wp Tryz.prog o a w K Q else E := by
  refine step_appI hg s x hop base v l hs ad 1 1 [y] hx rfl hown hin (fun e => absurd e hne) hsz hbase fun v' w' h1 h2 => ?_
  rw [hF] at h1
  obtain ⟨a', c', rfl⟩ := h1.shape
  rw [hn] at h1 ⊢
  exact hK a' c' w' h1 h2

/-- the lists are handed back -/
def GivesII (w : World) (ls : List (List Int)) (e : Ending) (w' : World) : Prop :=
  ∃ a cap vs, e = .returned (.slice a ls.length cap) ∧ RowsI w' w.heap.size (.slice a ls.length cap) vs ls ∧ Below w.heap.size w w'

end Go.Proofs.YtpmfabpnjacegaaGreatDoor

/-
  The grid of vectors, feature by feature, in plain lists. By an AI agent.
-/
namespace Go.Proofs.YtpmfabpnjacegaaGreatDoor
open Go.RowKit
set_option linter.unusedVariables false

def gridT (R : List (List TS)) (n : Nat) : List (List Int) := ((levs R).take n).foldl growV [[]]
theorem levs_len (R : List (List TS)) : (levs R).length = 6 := by simp [levs]
theorem levs_at (R : List (List TS)) {n : Nat} (hn : n < 6) : (levs R)[n]? = some (levR R n) := by simp [levs, hn]
theorem gridT_all (R : List (List TS)) : gridT R 6 = gridV (levs R) := by unfold gridT gridV; rw [List.take_of_length_le (by rw [levs_len]; exact Nat.le_refl _)]
theorem gridT_succ (R : List (List TS)) {n : Nat} (hn : n < 6) : gridT R (n + 1) = growV (gridT R n) (levR R n) := by
  unfold gridT
  rw [take_one (levs_at R hn), List.foldl_append]
  rfl
theorem growV_len (vs : List (List Int)) (l : List Int) : (growV vs l).length = vs.length * l.length := by
  unfold growV
  rw [List.length_flatMap]
  simp
  induction vs with
  | nil => simp
  | cons f vs ih => simp [ih, Nat.succ_mul]; omega
theorem growV_snoc {vs : List (List Int)} {l : List Int} {i : Nat} {f : List Int} (h : vs[i]? = some f) : growV (vs.take (i + 1)) l = growV (vs.take i) l ++ l.map fun x => f ++ [x] := by
  unfold growV
  rw [take_one h, List.flatMap_append]
  simp
/-- behind some of the levels of vector i -/
def growK (vs : List (List Int)) (l : List Int) (i : Nat) (f : List Int) (k : Nat) : List (List Int) := growV (vs.take i) l ++ (l.take k).map fun x => f ++ [x]
theorem growK_zero (vs : List (List Int)) (l : List Int) (i : Nat) (f : List Int) : growK vs l i f 0 = growV (vs.take i) l := by simp [growK]
theorem growK_succ {vs : List (List Int)} {l : List Int} {i k : Nat} {f : List Int} {x : Int} (h : l[k]? = some x) : growK vs l i f (k + 1) = growK vs l i f k ++ [f ++ [x]] := by
  unfold growK
  rw [take_one h]
  simp
theorem growK_all {vs : List (List Int)} {l : List Int} {i : Nat} {f : List Int} (h : vs[i]? = some f) : growK vs l i f l.length = growV (vs.take (i + 1)) l := by
  unfold growK
  rw [growV_snoc h, List.take_length]
theorem growK_lt {vs : List (List Int)} {l : List Int} {i k : Nat} {f : List Int} (h : i < vs.length) (hv : vs.length ≤ 100000) (hl : l.length ≤ 10) : (growK vs l i f k).length ≤ 1000000 := by
  unfold growK
  rw [List.length_append, growV_len, List.length_map, List.length_take, List.length_take]
  have h1 : min i vs.length * l.length ≤ 99999 * 10 := Nat.mul_le_mul (by omega) hl
  omega
theorem growK_len {vs : List (List Int)} {l : List Int} {i k : Nat} {f : List Int} (h : i < vs.length) (hv : vs.length ≤ 1000000) (hl : l.length ≤ 10) : (growK vs l i f k).length ≤ 10000000 := by
  unfold growK
  rw [List.length_append, growV_len, List.length_map, List.length_take, List.length_take]
  have h1 : min i vs.length * l.length ≤ 1000000 * 9 ∨ min i vs.length * l.length ≤ 999999 * 10 := by
    right
    exact Nat.mul_le_mul (by omega) hl
  omega
theorem flat_le {R : List (List TS)} (h : vsB R = true) : R.flatten.length ≤ 9 := by
  have h1 := (vs_len h).2
  have h2 : ∀ l ∈ R, l.length ≤ 3 := fun l hl => (vr_len (vs_rule h hl)).2
  have : ∀ (S : List (List TS)), (∀ l ∈ S, l.length ≤ 3) → S.flatten.length ≤ 3 * S.length := by
    intro S
    induction S with
    | nil => simp
    | cons x S ih =>
      intro hS
      have h3 := ih (fun l hl => hS l (List.mem_cons_of_mem _ hl))
      have h4 := hS x (List.mem_cons_self ..)
      rw [List.flatten_cons, List.length_append, List.length_cons]
      omega
  have := this R h2
  omega
theorem levR_len {R : List (List TS)} (h : vsB R = true) (n : Int) : (levR R n).length ≤ 10 := by
  have h1 := levF_len R.flatten n
  have h2 := flat_le h
  unfold levR
  omega
theorem gridT_len {R : List (List TS)} (h : vsB R = true) : ∀ (n : Nat), n ≤ 6 → (gridT R n).length ≤ 10 ^ n
  | 0, _ => by simp [gridT]
  | n + 1, hn => by
    rw [gridT_succ R (by omega), growV_len, Nat.pow_succ]
    exact Nat.mul_le_mul (gridT_len h n (by omega)) (levR_len h n)
theorem gridT_le {R : List (List TS)} (h : vsB R = true) {n : Nat} (hn : n ≤ 6) : (gridT R n).length ≤ 1000000 :=
  Nat.le_trans (gridT_len h n hn) (Nat.le_trans (Nat.pow_le_pow_right (by decide) hn) (by decide))
theorem gridT_lt {R : List (List TS)} (h : vsB R = true) {n : Nat} (hn : n < 6) : (gridT R n).length ≤ 100000 :=
  Nat.le_trans (gridT_len h n (by omega)) (Nat.le_trans (Nat.pow_le_pow_right (by decide) (show n ≤ 5 by omega)) (by decide))
theorem gridT_rows {R : List (List TS)} : ∀ (n : Nat), n ≤ 6 → ∀ f ∈ gridT R n, f.length = n
  | 0, _ => by intro f hf; simp [gridT] at hf; simp [hf]
  | n + 1, hn => by
    intro f hf
    rw [gridT_succ R (by omega)] at hf
    unfold growV at hf
    obtain ⟨g, hg, hf⟩ := List.mem_flatMap.1 hf
    obtain ⟨x, _, rfl⟩ := List.mem_map.1 hf
    rw [List.length_append, gridT_rows n (by omega) g hg]
    rfl

end Go.Proofs.YtpmfabpnjacegaaGreatDoor

/-
  Helpers for violations of monotonicity: a copy of a list of integers, a store into it, an element of a slice of slices. By an AI agent.
-/
namespace Go.Proofs.YtpmfabpnjacegaaGreatDoor
open Go.RowKit
set_option linter.unusedVariables false

/-- append of a slice that reads as a list of integers -/
theorem append_l {ops : Array Oper} {rest : List Oper} {o : Oper} {a : Act} {Q : Exit → Act → World → Prop} {W : World} (hgd : o.guard = none) (s y : Operand)
    (ho : o.op = .call { callee := .builtin .append, args := #[s, y], argTypes := #[27, 27] })
    (base : Nat) (v : Value) (l ms F : List Int) (ad : Addr) (c n : Nat) (hF : l ++ ms = F) (hown : OwnI W base v l) (hs : a.eval s = v)
    (hy : a.eval y = .slice (some ad) n c) (hn : n = ms.length) (hin : InI W (some ad) ms) (h0 : 0 < ms.length) (hlen : l.length + ms.length ≤ 9000000) (hbase : base ≤ W.heap.size)
    (h : ∀ a' c' w', OwnI w' base (.slice a' F.length c') F → W.grownBy w' v.ownBlock → wpList Tryz.prog ops Q rest (a.put o.dst (.slice a' F.length c')) w') :
    wpList Tryz.prog ops Q (o :: rest) a W := by
  obtain ⟨i0, hi, hz0, hz1, hz2⟩ := info_parts info_i64
  subst hn
  refine wpList_append_own _ hgd s y 27 ho base 3 i0 (.int .i64 0) 1 8 Tryz.underlying27 hi hz0 hz1 hz2 rfl (by decide) v l.length (l.map encI) hs hown
    ad ms.length c (ms.map encI) hy (by simp) (fun j u hj => by
        rw [List.getElem?_map] at hj
        cases hx : ms[j]? with
        | none => rw [hx] at hj; cases hj
        | some x =>
          rw [hx] at hj
          obtain ⟨b, off, e, _, hc⟩ := hin h0
          obtain rfl : ad = ⟨b, off, none⟩ := Option.some.inj e
          have h2 : (⟨b, off, none⟩ : Addr).add j = ⟨b, off + j, none⟩ := by unfold Addr.add; split <;> simp_all
          rw [h2, hc j x hx]
          exact hj) (by intro u hu; obtain ⟨x, _, rfl⟩ := List.mem_map.1 hu; rfl) (by unfold maxLen; omega) (by omega) hbase ?_
  intro v' w' h2 h3 _
  have h4 : OwnI w' base v' (l ++ ms) := by
    unfold OwnI
    rw [List.length_append, List.map_append]
    exact h2
  rw [hF] at h4
  obtain ⟨a', c', rfl⟩ := h4.shape
  exact h a' c' w' h4 h3

/-- a store into a slice of the call's own -/
theorem OwnI.set {w : World} {base g n cap : Nat} {l : List Int} (h : OwnI w base (.slice (some ⟨g, 0, none⟩) n cap) l) (j : Nat) (x : Int) :
    OwnI (w.setCell ⟨g, j, none⟩ (.int .i64 x)) base (.slice (some ⟨g, 0, none⟩) n cap) (l.set j x) ∧ w.grownBy (w.setCell ⟨g, j, none⟩ (.int .i64 x)) (some g) := by
  obtain ⟨a', c', e⟩ := h.shape
  injection e with e1 e2 e3
  subst e2
  have hs := World.ownsRow.stored h j (encI x)
  refine ⟨?_, hs.2⟩
  unfold OwnI
  rw [List.length_set, List.map_set]
  exact hs.1
theorem OwnI.cellI {w : World} {base g n cap : Nat} {l : List Int} (h : OwnI w base (.slice (some ⟨g, 0, none⟩) n cap) l) {j : Nat} (hj : j < l.length) : w.cell? ⟨g, j, none⟩ = some (.int .i64 (l.getD j 0)) ∧ w.frozen? ⟨g, j, none⟩ = false := by
  obtain ⟨a', c', e⟩ := h.shape
  injection e with e1 e2 e3
  subst e2
  refine ⟨?_, World.ownsRow.frozenAt h j⟩
  rw [World.ownsRow.cellAt h j (by omega), List.getElem?_map, List.getElem?_eq_getElem hj, List.getD_eq_getElem?_getD, List.getElem?_eq_getElem hj]
  rfl

/-- an element of a slice of slices -/
theorem RowsI.at_ {w : World} {lo : Nat} {a : Option Addr} {cap : Nat} {vs : List Value} {ls : List (List Int)} {j : Nat} {l : List Int} (h : RowsI w lo (.slice a ls.length cap) vs ls) (hj : ls[j]? = some l) : ∃ b a' c', a = some ⟨b, 0, none⟩ ∧ b < w.heap.size ∧ w.cell? ⟨b, j, none⟩ = some (.slice a' l.length c') ∧ OwnI w lo (.slice a' l.length c') l := by
  have hlt := (List.getElem?_eq_some_iff.1 hj).1
  obtain ⟨g, rfl, _, hg, hc⟩ := cell_own h.out (by omega)
  have hv : vs[j]? = some (vs[j]'(by rw [h.len]; exact hlt)) := List.getElem?_eq_getElem _
  have ho := h.row j _ l hv hj
  obtain ⟨a', c', e⟩ := ho.shape
  have hcell := hc j _ hv
  rw [e] at ho hcell
  rw [Nat.zero_add] at hcell
  exact ⟨g, a', c', rfl, hg, hcell, ho⟩

/-- two vectors, and whether they are a violation, are handed back -/
def GivesVm (w : World) (A B : List Int) (s : Bool) (e : Ending) (w' : World) : Prop :=
  ∃ a1 c1 a2 c2, e = .returned (.tuple #[.slice a1 A.length c1, .slice a2 B.length c2, .bool s]) ∧ PairI w' w.heap.size (.slice a1 A.length c1) (.slice a2 B.length c2) A B ∧ Below w.heap.size w w'
theorem vret {a b : Value} {c d : Value} {p q : Value} (h1 : a = b) (h2 : c = d) (h3 : p = q) : Ending.returned (.tuple #[a, c, p]) = .returned (.tuple #[b, d, q]) := by rw [h1, h2, h3]
theorem two_nil (w : World) (base : Nat) (hb : base ≤ w.heap.size) : PairI ((w.alloc (.cells #[] 3)).alloc (.cells #[] 3)) base (.slice (some ⟨w.heap.size, 0, none⟩) 0 0) (.slice (some ⟨w.heap.size + 1, 0, none⟩) 0 0) [] [] := by
  refine ⟨(OwnI.made w base #[] 0 hb (Nat.zero_le _) rfl).alloc _, ?_, fun k hk e => ?_⟩
  · have h := OwnI.made (w.alloc (.cells #[] 3)) base #[] 0 (by simp; omega) (Nat.zero_le _) rfl
    simpa using h
  · simp [Value.ownBlock] at hk e
    omega

end Go.Proofs.YtpmfabpnjacegaaGreatDoor

