/-
  Texts laid together: Draw, Draw1, Draw2, SetDraw. By an AI agent.
-/
import Derived.Test.YthjbekgognfiiaaGreatJ1
import Derived.BigQuiet
import Derived.Deep.QuietTactic
import Derived.Laws.BitsLemmas
import Derived.Deep.RegionWith
import Derived.Test.YthjbekgognfiiaaGreatJ4
import Derived.Lib.AppendZeros
/-
  What the cursor of spec (l1New, l1Byte, l1Below, l1PickInt) does: some numbers within their bounds; nothing but the cursor is written. By an AI agent.
-/
namespace Go.Proofs.YthjbekgognfiiaaGreat
open Go.RowKit
set_option linter.unusedVariables false

/-- the cursor's block -/
def CurB (w : World) (c : Nat) (A : Option Addr) (len cap i : Nat) (h : Int) : Prop :=
  w.heap[c]? = some (.cells #[.slice A len cap, .int .i64 i, .int .i64 h] 96 (0, 0))

/-- the bytes that the cursor reads lie below block B -/
def CodeAt (w : World) (B : Nat) (A : Option Addr) (len : Nat) : Prop :=
  len ≤ 1048576 ∧ (0 < len → ∃ b off, A = some ⟨b, off, none⟩ ∧ b < B ∧ ∀ j, j < len → ∃ z : Int, 0 ≤ z ∧ z ≤ 255 ∧ w.cell? ⟨b, off + j, none⟩ = some (.int .u8 z))

def Cur (w : World) (B c : Nat) : Prop := B ≤ c ∧ ∃ A len cap i h, i ≤ len ∧ CurB w c A len cap i h ∧ CodeAt w B A len

theorem CurB.cell {w : World} {c : Nat} {A : Option Addr} {len cap i : Nat} {h : Int} (hc : CurB w c A len cap i h) (k : Nat) : w.cell? ⟨c, k, none⟩ = (#[Value.slice A len cap, .int .i64 i, .int .i64 h] : Array Value)[k]? :=
  cell_of_row w c k _ 96 (0, 0) hc
theorem CurB.frozen {w : World} {c : Nat} {A : Option Addr} {len cap i : Nat} {h : Int} (hc : CurB w c A len cap i h) (k : Nat) : w.frozen? ⟨c, k, none⟩ = false := by
  unfold CurB at hc
  simp [World.frozen?, hc]
theorem CurB.set1 {w : World} {c : Nat} {A : Option Addr} {len cap i : Nat} {h : Int} (hc : CurB w c A len cap i h) (j : Nat) : CurB (w.setCell ⟨c, 1, none⟩ (.int .i64 j)) c A len cap j h := by
  unfold CurB at hc ⊢
  simp [World.setCell, Array.getElem?_modify, hc]
theorem CurB.set2 {w : World} {c : Nat} {A : Option Addr} {len cap i : Nat} {h : Int} (hc : CurB w c A len cap i h) (h' : Int) : CurB (w.setCell ⟨c, 2, none⟩ (.int .i64 h')) c A len cap i h' := by
  unfold CurB at hc ⊢
  simp [World.setCell, Array.getElem?_modify, hc]
theorem CurB.lt {w : World} {c : Nat} {A : Option Addr} {len cap i : Nat} {h : Int} (hc : CurB w c A len cap i h) : c < w.heap.size := by
  rcases Nat.lt_or_ge c w.heap.size with hlt | hge
  · exact hlt
  · unfold CurB at hc; rw [Array.getElem?_eq_none hge] at hc; cases hc

theorem CodeAt.keep {w w' : World} {B : Nat} {A : Option Addr} {len : Nat} (h : CodeAt w B A len) (hk : ∀ k, k < B → w'.heap[k]? = w.heap[k]?) : CodeAt w' B A len := by
  refine ⟨h.1, fun h0 => ?_⟩
  obtain ⟨b, off, hA, hb, hz⟩ := h.2 h0
  refine ⟨b, off, hA, hb, fun j hj => ?_⟩
  obtain ⟨z, h1, h2, h3⟩ := hz j hj
  exact ⟨z, h1, h2, by rw [World.cell?_of_block (hk b hb)]; exact h3⟩

theorem Cur.lt {w : World} {B c : Nat} (h : Cur w B c) : c < w.heap.size := by
  obtain ⟨_, _, _, _, _, _, _, hc, _⟩ := h
  exact hc.lt
theorem Cur.alloc {w : World} {B c : Nat} (h : Cur w B c) (o : Obj) : Cur (w.alloc o) B c := by
  have hlt := h.lt
  obtain ⟨hB, A, len, cap, i, hh, hi, hc, hcode⟩ := h
  exact ⟨hB, A, len, cap, i, hh, hi, (Below.heap_alloc w o c hlt).trans hc, hcode.keep fun k hk => Below.heap_alloc w o k (by omega)⟩
/-- writes to other blocks leave the cursor alone -/
theorem Cur.below {w w' : World} {B c B' : Nat} (h : Cur w B c) (hb : Below B' w w') (hc' : c < B') : Cur w' B c := by
  obtain ⟨hB, A, len, cap, i, hh, hi, hc, hcode⟩ := h
  exact ⟨hB, A, len, cap, i, hh, hi, (hb.block c hc').trans hc, hcode.keep fun k hk => hb.block k (by omega)⟩

theorem and255 (a : Int) : 0 ≤ bits .and .i64 a 255 ∧ bits .and .i64 a 255 ≤ 255 := by
  have h : ((BitVec.ofInt 64 a) &&& (BitVec.ofInt 64 255)).toNat ≤ 255 := by
    rw [BitVec.toNat_and]
    exact Nat.and_le_right
  have e : bits .and .i64 a 255 = (((BitVec.ofInt 64 a) &&& (BitVec.ofInt 64 255)).toNat : Int) := by
    show IntKind.i64.wrap ((((BitVec.ofInt 64 a) &&& (BitVec.ofInt 64 255)).toNat : Nat) : Int) = _
    exact IntWalk.i64_in _ (by omega)
  rw [e]
  omega

theorem grown_set (w : World) (c k : Nat) (u : Value) : w.grownBy (w.setCell ⟨c, k, none⟩ u) (some c) :=
  ⟨rfl, rfl, rfl, by simp [World.setCell], fun j _ hne => Below.heap_setCell w ⟨c, k, none⟩ u j (fun e => hne (by rw [e]))⟩
theorem grown_trans {a b d : World} {c : Nat} (h1 : a.grownBy b (some c)) (h2 : b.grownBy d (some c)) : a.grownBy d (some c) :=
  ⟨h2.os.trans h1.os, h2.tape.trans h1.tape, h2.output.trans h1.output, Nat.le_trans h1.size h2.size, fun k hk hne => (h2.block k (Nat.lt_of_lt_of_le hk h1.size) hne).trans (h1.block k hk hne)⟩
theorem grown_drewN {a b : World} {c : Nat} (h : a.grownBy b (some c)) (n : Nat) : a.grownBy (b.drewN n) (some c) := ⟨h.os, h.tape, h.output, h.size, h.block⟩
theorem CurB.drewN {w : World} {c : Nat} {A : Option Addr} {len cap i : Nat} {h : Int} (hc : CurB w c A len cap i h) (n : Nat) : CurB (w.drewN n) c A len cap i h := hc

def SomeByte (w : World) (B c : Nat) (e : Ending) (w' : World) : Prop := ∃ x : Int, e = .returned (.int .i64 x) ∧ 0 ≤ x ∧ x ≤ 255 ∧ Cur w' B c ∧ w.grownBy w' (some c)

set_option maxRecDepth 100000 in
set_option maxHeartbeats 1000000 in
theorem l1Byte_any (B c : Nat) (w : World) (hcur : Cur w B c) : Calls Tryz.prog 99 #[.pointer (some ⟨c, 0, none⟩)] w (SomeByte w B c) := by
  obtain ⟨hB, A, len, cap, i, h, hi, hc, hcode⟩ := hcur
  have HC := Lib.hid hc
  have HCODE := Lib.hid hcode
  have c0 : w.cell? ⟨c, 0, none⟩ = some (.slice A len cap) := hc.cell 0
  have c1 : w.cell? ⟨c, 1, none⟩ = some (.int .i64 i) := hc.cell 1
  have c2 : w.cell? ⟨c, 2, none⟩ = some (.int .i64 h) := hc.cell 2
  have f1 := hc.frozen 1
  have f2 := hc.frozen 2
  clear hc hcode
  by_cases hlt : i < len
  · obtain ⟨b, off, rfl, hb, hz⟩ := HCODE.out.2 (by omega)
    obtain ⟨z, z0, z1, hcell⟩ := hz i hlt
    clear hz
    have hlen := HCODE.out.1
    have hcell2 : ∀ v, (w.setCell ⟨c, 2, none⟩ v).cell? ⟨b, off + i, none⟩ = some (.int .u8 z) := fun v => by
      rw [World.cell?_setCell_other w _ _ v (fun e => by have h := congrArg Addr.block e; simp only at h; omega)]
      exact hcell
    go_enter Tryz.func99, Tryz.ntmps99
    go_wp2
    go_quiet (fail)
    go_wp2
    go_quiet (fail)
    go_wp2
    go_quiet (fail)
    go_wp2
    go_ret
    refine ⟨_, rfl, (and255 _).1, (and255 _).2, ⟨hB, _, len, cap, i + 1, _, by omega, (((HC.out.set2 _).set1 (i + 1))), ?_⟩, ?_⟩
    · exact HCODE.out.keep fun k hk => (Below.heap_setCell _ ⟨c, 1, none⟩ _ k (by simp; omega)).trans (Below.heap_setCell w ⟨c, 2, none⟩ _ k (by simp; omega))
    · exact grown_trans (grown_drewN (grown_set w c 2 _) _) (grown_set _ c 1 _)
  · go_enter Tryz.func99, Tryz.ntmps99
    go_wp2
    go_quiet (fail)
    go_wp2
    go_quiet (fail)
    go_wp2
    go_ret
    refine ⟨_, rfl, (and255 _).1, (and255 _).2, ⟨hB, A, len, cap, i, _, hi, HC.out.set2 _, ?_⟩, ?_⟩
    · exact HCODE.out.keep fun k hk => Below.heap_setCell w ⟨c, 2, none⟩ _ k (by simp; omega)
    · exact grown_drewN (grown_drewN (grown_set w c 2 _) _) _

theorem SomeByte.mk {w w' : World} {B c : Nat} {e : Ending} (h : SomeByte w B c e w') : ∃ x : Int, e = .returned (.int .i64 x) ∧ 0 ≤ x ∧ x ≤ 255 ∧ Cur w' B c ∧ w.grownBy w' (some c) := h

def SomeBelow (w : World) (B c : Nat) (n : Int) (e : Ending) (w' : World) : Prop := ∃ x : Int, e = .returned (.int .i64 x) ∧ 0 ≤ x ∧ x < n ∧ Cur w' B c ∧ w.grownBy w' (some c)

set_option maxRecDepth 100000 in
set_option maxHeartbeats 1000000 in
theorem l1Below_small (B c : Nat) (n : Int) (w : World) (hcur : Cur w B c) (h0 : 0 < n) (h1 : n ≤ 256) : Calls Tryz.prog 62 #[.pointer (some ⟨c, 0, none⟩), .int .i64 n] w (SomeBelow w B c n) := by
  have HC := Lib.hid hcur
  clear hcur
  go_enter Tryz.func62, Tryz.ntmps62
  go_wp2_with (go_at_call 99; (refine (l1Byte_any B c _ HC.out).mono ?_); rintro e w1 ⟨x, rfl, hx0, hx1, hc1, hg1⟩; have HC1 := Lib.hid hc1; have HG1 := Lib.hid hg1; clear hc1 hg1)
  go_ret
  exact ⟨_, rfl, Int.emod_nonneg _ (by omega), Int.emod_lt_of_pos _ h0, HC1.out, HG1.out⟩

set_option maxRecDepth 100000 in
set_option maxHeartbeats 1000000 in
theorem l1Below_large (B c : Nat) (n : Int) (w : World) (hcur : Cur w B c) (h0 : 256 < n) (h1 : n ≤ 4611686018427387904) : Calls Tryz.prog 62 #[.pointer (some ⟨c, 0, none⟩), .int .i64 n] w (SomeBelow w B c n) := by
  have HC := Lib.hid hcur
  have HG := Lib.hid (show 0 < n by omega)
  clear hcur
  go_enter Tryz.func62, Tryz.ntmps62
  go_wp2_with (go_at_call 99; (refine (l1Byte_any B c _ HC.out).mono ?_); rintro e w1 ⟨x1, rfl, hx0, hx1, hc1, hg1⟩; refine Hid.out ?_)
  refine Lib.hid ?_
  have HC1 := Lib.hid hc1
  have HG1 := Lib.hid hg1
  clear hc1 hg1
  go_wp2_with (go_at_call 99; (refine (l1Byte_any B c _ HC1.out).mono ?_); rintro e w2 ⟨x2, rfl, hy0, hy1, hc2, hg2⟩; refine Hid.out ?_)
  refine Lib.hid ?_
  have HC2 := Lib.hid hc2
  have HG2 := Lib.hid (grown_trans HG1.out hg2)
  clear hc2 hg2
  go_wp2_with (go_at_call 99; (refine (l1Byte_any B c _ HC2.out).mono ?_); rintro e w3 ⟨x3, rfl, hz0, hz1, hc3, hg3⟩; refine Hid.out ?_)
  refine Lib.hid ?_
  have HC3 := Lib.hid hc3
  have HG3 := Lib.hid (grown_trans HG2.out hg3)
  clear hc3 hg3
  go_wp2_with (go_at_call 99; (refine (l1Byte_any B c _ HC3.out).mono ?_); rintro e w4 ⟨x4, rfl, hu0, hu1, hc4, hg4⟩; refine Hid.out ?_)
  refine Lib.hid ?_
  have HC4 := Lib.hid hc4
  have HG4 := Lib.hid (grown_trans HG3.out hg4)
  clear hc4 hg4
  go_wp2
  go_ret
  exact ⟨_, rfl, Int.emod_nonneg _ (by have := HG.out; omega), Int.emod_lt_of_pos _ HG.out, HC4.out, HG4.out⟩

theorem l1Below_any (B c : Nat) (n : Int) (w : World) (hcur : Cur w B c) (h0 : 0 < n) (h1 : n ≤ 4611686018427387904) : Calls Tryz.prog 62 #[.pointer (some ⟨c, 0, none⟩), .int .i64 n] w (SomeBelow w B c n) := by
  by_cases h : n ≤ 256
  · exact l1Below_small B c n w hcur h0 h
  · exact l1Below_large B c n w hcur (by omega) h1

def SomeInt (w : World) (B c : Nat) (e : Ending) (w' : World) : Prop := ∃ x : Int, e = .returned (.int .i64 x) ∧ -9223372036854775808 ≤ x ∧ x ≤ 9223372036854775807 ∧ Cur w' B c ∧ w.grownBy w' (some c)

set_option maxRecDepth 100000 in
set_option maxHeartbeats 1000000 in
theorem l1PickInt_any (B c g n : Nat) (w : World) (hcur : Cur w B c) (hn : 0 < n) (hn2 : n ≤ 65536) (hg : g ≠ c)
    (hl : ∀ j, j < n → ∃ z : Int, -9223372036854775808 ≤ z ∧ z ≤ 9223372036854775807 ∧ w.cell? ⟨g, j, none⟩ = some (.int .i64 z)) :
    Calls Tryz.prog 41 #[.pointer (some ⟨c, 0, none⟩), .slice (some ⟨g, 0, none⟩) n n] w (SomeInt w B c) := by
  have HC := Lib.hid hcur
  have HL := Lib.hid hl
  clear hcur hl
  go_enter Tryz.func41, Tryz.ntmps41
  go_wp2_with (go_at_call 62; (refine (l1Below_any B c _ _ HC.out (by omega) (by omega)).mono ?_); rintro e w1 ⟨x, rfl, hx0, hx1, hc1, hg1⟩; refine Hid.out ?_)
  refine Lib.hid ?_
  obtain ⟨k, rfl⟩ := Int.eq_ofNat_of_zero_le hx0
  obtain ⟨z, hz0, hz1, hcell⟩ := HL.out k (by omega)
  have hcell1 : w1.cell? ⟨g, k, none⟩ = some (.int .i64 z) := hg1.cell hcell (by simpa using hg)
  have HC1 := Lib.hid hc1
  have HG1 := Lib.hid hg1
  clear hc1 hg1
  go_wp2
  go_ret
  exact ⟨_, rfl, hz0, hz1, HC1.out, HG1.out⟩

end Go.Proofs.YthjbekgognfiiaaGreat

/-
  What the drawing functions of chapter 1 (l1New, l1Num, l1Text, DrawEncodeVarint, DrawEncodeHex, DrawEncodeFixed) hand back: some numbers and texts within their bounds. By an AI agent.
-/
namespace Go.Proofs.YthjbekgognfiiaaGreat
open Go.RowKit
set_option linter.unusedVariables false

def SomeCur (w : World) (e : Ending) (w' : World) : Prop := ∃ c, e = .returned (.pointer (some ⟨c, 0, none⟩)) ∧ Cur w' w.heap.size c ∧ Below w.heap.size w w'

set_option maxRecDepth 100000 in
set_option maxHeartbeats 1000000 in
theorem l1New_any (A : Option Addr) (len cap : Nat) (w : World) (hcode : CodeAt w w.heap.size A len) : Calls Tryz.prog 27 #[.slice A len cap] w (SomeCur w) := by
  have HCODE := Lib.hid hcode
  have hlen : (len : Int) ≤ 1048576 := by have := hcode.1; omega
  clear hcode
  go_enter Tryz.func27, Tryz.ntmps27
  go_wp2
  go_loop [3, 4] (fun h i => ∃ (k : Nat) (x : Int), k ≤ len ∧ k ≤ 4000 ∧ i = .int .i64 k ∧ h = .int .i64 x) (fun _ i => 4000 - (intOf i).toNat)
  case atStart => exact ⟨0, _, Nat.zero_le _, by omega, rfl, rfl⟩
  case round =>
    obtain ⟨k, x, hk, hk4, rfl, rfl⟩ := hrel
    by_cases hlt : k < len ∧ k < 4000
    · obtain ⟨h1, h2⟩ := hlt
      obtain ⟨b, off, rfl, hb, hz⟩ := HCODE.out.2 (by omega)
      obtain ⟨z, z0, z1, hcell⟩ := hz k h1
      clear hz
      go_wp2
      go_round
      case rel => exact ⟨k + 1, _, by omega, by omega, by go_num, rfl⟩
      case measure => simp [intOf]; omega
    · have hex : ¬ k < len ∨ ¬ k < 4000 := by omega
      clear hlt
      rcases hex with hex | hex
      all_goals go_wp2
      all_goals go_ret
      all_goals refine ⟨w.heap.size, rfl, ⟨Nat.le_refl _, A, len, cap, 0, _, Nat.zero_le _, heap_alloc_new w _, HCODE.out.keep fun j hj => Below.heap_alloc w _ j hj⟩, (Below.refl _ _).alloc (Nat.le_refl _) _⟩

theorem lit_cells (w : World) (l : List Int) (hr : ∀ z ∈ l, -9223372036854775808 ≤ z ∧ z ≤ 9223372036854775807) : ∀ j, j < l.length → ∃ z : Int, -9223372036854775808 ≤ z ∧ z ≤ 9223372036854775807 ∧
    (w.alloc (.cells (l.map (Value.int .i64)).toArray 3)).cell? ⟨w.heap.size, j, none⟩ = some (.int .i64 z) := by
  intro j hj
  refine ⟨l[j], (hr _ (List.getElem_mem hj)).1, (hr _ (List.getElem_mem hj)).2, ?_⟩
  rw [World.cell?_alloc_at _ _ _ _ rfl]
  simp [hj]

theorem grown_alloc (w : World) (o : Obj) (c : Nat) : w.grownBy (w.alloc o) (some c) := World.grownBy_alloc w o _

theorem OwnB.kept {w w' : World} {base c : Nat} {v : Value} {l : List UInt8} (h : OwnB w base v l) (hg : w.grownBy w' (some c)) (hc : c < base) : OwnB w' base v l := by
  refine World.ownsRow.kept h hg (.inr fun e => ?_)
  have := (World.ownsRow.lt h c e).1
  omega

theorem grown_below {a b d : World} {c : Nat} (h1 : a.grownBy b (some c)) (h2 : Below a.heap.size b d) : a.grownBy d (some c) :=
  ⟨h2.os.trans h1.os, h2.tape.trans h1.tape, h2.output.trans h1.output, Nat.le_trans h1.size h2.size, fun k hk hne => (h2.block k hk).trans (h1.block k hk hne)⟩

def SomeText (w : World) (B c : Nat) (most : Nat) (e : Ending) (w' : World) : Prop := ∃ l : List UInt8, e = .returned (.string (strOf l)) ∧ l.length ≤ most ∧ Cur w' B c ∧ w.grownBy w' (some c)

end Go.Proofs.YthjbekgognfiiaaGreat

/-
  What the drawing functions of chapter 2 (l1Pick, l1Spoil, l2Name, l2Text) hand back: some texts within their bounds; nothing but the cursor is written. By an AI agent.
-/
namespace Go.Proofs.YthjbekgognfiiaaGreat
open Go.RowKit
set_option linter.unusedVariables false

def SomeStr (w : World) (B c m : Nat) (e : Ending) (w' : World) : Prop := ∃ s : ByteArray, e = .returned (.string s) ∧ s.size ≤ m ∧ Cur w' B c ∧ w.grownBy w' (some c)

theorem lit_strs (w : World) (l : List ByteArray) (m : Nat) (hr : ∀ s ∈ l, s.size ≤ m) : ∀ j, j < l.length → ∃ s : ByteArray, s.size ≤ m ∧ (w.alloc (.cells (l.map Value.string).toArray 9)).cell? ⟨w.heap.size, j, none⟩ = some (.string s) := by
  intro j hj
  refine ⟨l[j], hr _ (List.getElem_mem hj), ?_⟩
  rw [World.cell?_alloc_at _ _ _ _ rfl]
  simp [hj]

set_option maxRecDepth 100000 in
set_option maxHeartbeats 1000000 in
theorem l1Pick_any (B c g n m : Nat) (w : World) (hcur : Cur w B c) (hn : 0 < n) (hn2 : n ≤ 65536) (hg : g ≠ c)
    (hl : ∀ j, j < n → ∃ s : ByteArray, s.size ≤ m ∧ w.cell? ⟨g, j, none⟩ = some (.string s)) :
    Calls Tryz.prog 65 #[.pointer (some ⟨c, 0, none⟩), .slice (some ⟨g, 0, none⟩) n n] w (SomeStr w B c m) := by
  have HC := Lib.hid hcur
  have HL := Lib.hid hl
  clear hcur hl
  go_enter Tryz.func65, Tryz.ntmps65
  go_wp2_with (go_at_call 62; (refine (l1Below_any B c _ _ HC.out (by omega) (by omega)).mono ?_); rintro e w1 ⟨x, rfl, hx0, hx1, hc1, hg1⟩; refine Hid.out ?_)
  refine Lib.hid ?_
  obtain ⟨k, rfl⟩ := Int.eq_ofNat_of_zero_le hx0
  obtain ⟨s, hs, hcell⟩ := HL.out k (by omega)
  have hcell1 : w1.cell? ⟨g, k, none⟩ = some (.string s) := hg1.cell hcell (by simpa using hg)
  have HC1 := Lib.hid hc1
  have HG1 := Lib.hid hg1
  clear hc1 hg1
  go_wp2
  go_ret
  exact ⟨s, rfl, hs, HC1.out, HG1.out⟩

theorem ext_le (s : ByteArray) (a b : Nat) : (s.extract a b).size ≤ s.size := by rw [ByteArray.size_extract]; omega
theorem u8_lo (z : Int) : 0 ≤ IntKind.u8.wrap z := by rw [IntKind.wrap_u8]; omega
theorem u8_hi (z : Int) : IntKind.u8.wrap z ≤ 255 := by rw [IntKind.wrap_u8]; omega
theorem one_size (x : UInt8) : (⟨#[x]⟩ : ByteArray).size = 1 := rfl

end Go.Proofs.YthjbekgognfiiaaGreat

/-
  What spec.l1Once, l3Set, l3Any and the drawing functions over two lists of strings hand back. By an AI agent.
-/
namespace Go.Proofs.YthjbekgognfiiaaGreat
open Go.RowKit
set_option linter.unusedVariables false

theorem own_keptc {w w' : World} {base c : Nat} {v : Value} {l : List Str} (h : OwnS w base v l) (hg : w.grownBy w' (some c)) (hc : c < base) : OwnS w' base v l := by
  refine World.ownsRow.kept h hg (.inr fun e => ?_)
  have := (World.ownsRow.lt h c e).1
  omega
theorem below_own {w0 w w' : World} {v : Value} {l : List Str} (ho : OwnS w w0.heap.size v l) (hs : w0.heap.size ≤ w.heap.size) (hg : w.grownBy w' v.ownBlock) : Below w0.heap.size w w' :=
  (Below.refl _ _).grown hg hs (fun k hk => (World.ownsRow.lt ho k hk).1)

def SomeBool (w : World) (B c : Nat) (e : Ending) (w' : World) : Prop := ∃ b : Bool, e = .returned (.bool b) ∧ Cur w' B c ∧ w.grownBy w' (some c)
def SomeSet (w : World) (B c m : Nat) (e : Ending) (w' : World) : Prop := ∃ (a : Option Addr) (cap : Nat) (l : List Str), e = .returned (.slice a l.length cap) ∧ OwnS w' w.heap.size (.slice a l.length cap) l ∧ l.length ≤ m ∧ (∀ x ∈ l, x.length ≤ 10) ∧ Cur w' B c ∧ w.grownBy w' (some c)

set_option maxRecDepth 100000 in
theorem l1Once_any (B c : Nat) (n : Int) (w : World) (hcur : Cur w B c) (h0 : 0 < n) (h1 : n ≤ 4611686018427387904) : Calls Tryz.prog 64 #[.pointer (some ⟨c, 0, none⟩), .int .i64 n] w (SomeBool w B c) := by
  have HC := Lib.hid hcur
  clear hcur
  go_enter Tryz.func64, Tryz.ntmps64
  go_wp2_with (go_at_call 62; (refine (l1Below_any B c _ _ HC.out h0 h1).mono ?_); rintro e w1 ⟨x, rfl, hx0, hx1, hc1, hg1⟩; have HC1 := Lib.hid hc1; have HG1 := Lib.hid hg1; clear hc1 hg1)
  go_ret
  exact ⟨_, rfl, HC1.out, HG1.out⟩

theorem put_small {l : List Str} {x : Str} (h : ∀ y ∈ l, y.length ≤ 10) (hx : x.length ≤ 10) : ∀ y ∈ putL false l x, y.length ≤ 10 := by
  intro y hy
  rcases (putL_mem false x y l).1 hy with rfl | hy
  · exact hx
  · exact h y hy

set_option maxRecDepth 100000 in
set_option maxHeartbeats 2000000 in
theorem l3Set_any (B c : Nat) (w : World) (hcur : Cur w B c) : Calls Tryz.prog 63 #[.pointer (some ⟨c, 0, none⟩)] w (SomeSet w B c 6) := by
  have HC := Lib.hid hcur
  have HLT := Lib.hid hcur.lt
  clear hcur
  go_enter Tryz.func63, Tryz.ntmps63
  go_wp2_with (go_at_call 62; (refine (l1Below_any B c _ _ (HC.out.alloc _) (by omega) (by omega)).mono ?_); rintro e w1 ⟨x, rfl, hx0, hx1, hc1, hg1⟩; refine Hid.out ?_)
  refine Lib.hid ?_
  obtain ⟨n, rfl⟩ := Int.eq_ofNat_of_zero_le hx0
  have HC1 := Lib.hid hc1
  have HG1 := Lib.hid (grown_trans (grown_alloc w _ c) hg1)
  have HO1 := Lib.hid (own_keptc (own_new w w.heap.size w.heap.size rfl (Nat.le_refl _)) hg1 HLT.out)
  have hn : n ≤ 6 := by omega
  clear hc1 hg1 hx0 hx1
  go_wp2
  go_loopw [3, 4] (fun v i wr => ∃ (k : Nat) (a : Option Addr) (cap : Nat) (l : List Str), i = .int .i64 k ∧ v = .slice a l.length cap ∧ k + l.length ≤ 6 ∧ (∀ x ∈ l, x.length ≤ 10) ∧ OwnS wr w.heap.size (.slice a l.length cap) l ∧ Cur wr B c ∧ w.grownBy wr (some c)) (fun _ i _ => (intOf i).toNat)
  case atStart => exact ⟨n, _, _, [], rfl, rfl, hn, by simp, HO1.out, HC1.out, HG1.out⟩
  case round =>
    clear HC1 HG1 HO1
    obtain ⟨k, a, cap, l, rfl, rfl, hk, hx, hown, hcur, hg⟩ := hrel
    have HX := Lib.hid hx
    have HOWN := Lib.hid hown
    have HCU := Lib.hid hcur
    have HCL := Lib.hid hcur.lt
    have HG := Lib.hid hg
    clear hx hown hcur hg
    by_cases hlt : 0 < k
    · obtain ⟨j, rfl⟩ : ∃ j, k = j + 1 := ⟨k - 1, by omega⟩
      go_wp2_with (first
        | (go_at_call 65; (refine (l1Pick_any B c wr.heap.size 9 5 _ (HCU.out.alloc _) (by omega) (by omega) (by have := HCL.out; omega) (lit_strs wr [⟨#[97]⟩, ⟨#[98]⟩, ⟨#[99]⟩, ⟨#[100]⟩, ⟨#[101]⟩, ⟨#[97, 110, 110]⟩, ⟨#[108, 101, 101]⟩, ⟨#[115, 109, 105, 116, 104]⟩, ⟨#[57]⟩] 5 (by decide))).mono ?_); rintro e w2 ⟨s, rfl, hs, hc2, hg2⟩; have HS := Lib.hid hs; have HC2 := Lib.hid hc2; have HG2 := Lib.hid (grown_trans HG.out (grown_trans (grown_alloc wr _ c) hg2)); have HO2 := Lib.hid (own_keptc (HOWN.out.alloc _) hg2 HLT.out); clear hs hc2 hg2)
        | (go_at_call 100; (refine (put_any false w.heap.size a cap l s s.data.toList _ (by omega) HO2.out HG2.out.size rfl).mono ?_); rintro e w3 ⟨a3, c3, rfl, ho3, hb3⟩; have HO3 := Lib.hid ho3; have HB3 := Lib.hid hb3; clear ho3 hb3))
      go_roundw
      case rel =>
        refine ⟨j, a3, c3, putL false l s.data.toList, by go_num, rfl, ?_, put_small HX.out ?_, HO3.out, HC2.out.below HB3.out HC2.out.lt, grown_below HG2.out (HB3.out.mono HG2.out.size)⟩
        · have := putL_length false s.data.toList l
          omega
        · have h1 : s.data.toList.length = s.size := Array.length_toList
          have := HS.out
          omega
      case measure => simp [intOf]
    · obtain rfl : k = 0 := by omega
      go_wp2
      go_ret
      exact ⟨a, cap, l, rfl, HOWN.out, by omega, HX.out, HCU.out, HG.out⟩

set_option maxRecDepth 100000 in
set_option maxHeartbeats 2000000 in
theorem l3Any_any (B c : Nat) (w : World) (hcur : Cur w B c) : Calls Tryz.prog 29 #[.pointer (some ⟨c, 0, none⟩)] w (SomeSet w B c 7) := by
  have HC := Lib.hid hcur
  have HLT := Lib.hid hcur.lt
  clear hcur
  go_enter Tryz.func29, Tryz.ntmps29
  go_wp2_with (go_at_call 63; (refine (l3Set_any B c _ HC.out).mono ?_); rintro e w1 ⟨a, cap, l, rfl, ho1, hl1, hx1, hc1, hg1⟩; refine Hid.out ?_)
  refine Lib.hid ?_
  have HO1 := Lib.hid ho1
  have HX1 := Lib.hid hx1
  have HC1 := Lib.hid hc1
  have HG1 := Lib.hid hg1
  clear ho1 hx1 hc1 hg1
  go_wp2_with (go_at_call 64; (refine (l1Once_any B c _ _ HC1.out (by omega) (by omega)).mono ?_); rintro e w2 ⟨b, rfl, hc2, hg2⟩; refine Hid.out ?_)
  refine Lib.hid ?_
  have HC2 := Lib.hid hc2
  have HL2 := Lib.hid hc2.lt
  have HG2 := Lib.hid (grown_trans HG1.out hg2)
  have HO2 := Lib.hid (own_keptc HO1.out hg2 HLT.out)
  clear hc2 hg2
  cases b
  · go_wp2
    go_ret
    exact ⟨a, cap, l, rfl, HO2.out, by omega, HX1.out, HC2.out, HG2.out⟩
  · go_wp2_with (go_at_call 65; (refine (l1Pick_any B c w2.heap.size 5 3 _ (HC2.out.alloc _) (by omega) (by omega) (by have := HL2.out; omega) (lit_strs w2 [⟨#[]⟩, ⟨#[65]⟩, ⟨#[97]⟩, ⟨#[97, 32, 98]⟩, ⟨#[122, 122]⟩] 3 (by decide))).mono ?_); rintro e w3 ⟨s, rfl, hs, hc3, hg3⟩; refine Hid.out ?_)
    refine Lib.hid ?_
    have HS := Lib.hid hs
    have HC3 := Lib.hid hc3
    have HG3 := Lib.hid (grown_trans HG2.out (grown_trans (grown_alloc w2 _ c) hg3))
    have HO3 := Lib.hid (own_keptc (HO2.out.alloc _) hg3 HLT.out)
    clear hs hc3 hg3
    obtain ⟨v', w4, hrun, ho, hgr⟩ := run_app 28 w.heap.size (.slice a l.length cap) l (w3.alloc (.cells #[.string s] 9)) (HO3.out.alloc _) (some ⟨w3.heap.size, 0, none⟩) 1 [s.data.toList]
      (in_one w3 w3.heap.size s _ rfl rfl) nofun (by simp; omega) (by have := HG3.out.size; simp; omega)
    obtain ⟨a', c', rfl⟩ := ho.shape
    have HRUN := Lib.hid hrun
    have HO := Lib.hid ho
    have HB := Lib.hid (below_own (w0 := w) (HO3.out.alloc (.cells #[.string s] 9)) (by have := HG3.out.size; simp; omega) hgr)
    have HC4 := Lib.hid ((HC3.out.alloc (.cells #[.string s] 9)).below HB.out HLT.out)
    have HG4 := Lib.hid (grown_below (grown_trans HG3.out (grown_alloc w3 (.cells #[.string s] 9) c)) HB.out)
    clear hrun ho hgr
    go_wp2_with (at_builtin; refine Lib.wpList_append_run _ rfl _ _ _ _ rfl _ _ rfl rfl _ _ HRUN.out ?_)
    go_ret
    refine ⟨a', c', l ++ [s.data.toList], by rw [List.length_append]; rfl, HO.out, by simp; omega, fun x hx => ?_, HC4.out, HG4.out⟩
    rcases List.mem_append.1 hx with hx | hx
    · exact HX1.out x hx
    · rw [List.mem_singleton.1 hx]
      have h1 : s.data.toList.length = s.size := Array.length_toList
      have := HS.out
      omega

/-- two lists of strings are handed back -/
def DrawnSets (w : World) (e : Ending) (w' : World) : Prop := ∃ (a1 a2 : Option Addr) (c1 c2 : Nat) (l1 l2 : List Str), e = .returned (.tuple #[.slice a1 l1.length c1, .slice a2 l2.length c2]) ∧ Sm w' a1 l1 c1 ∧ Sm w' a2 l2 c2 ∧ l1.length ≤ 7 ∧ l2.length ≤ 7 ∧ Below w.heap.size w w'

end Go.Proofs.YthjbekgognfiiaaGreat

