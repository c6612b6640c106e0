/-
  Texts laid together: Draw, Draw1, Draw2, Put, Put2, SetDraw, LawCode, SameI, NFold. By an AI agent.
-/
import Derived.Test.YtpldjihajclblaaGMem
import Derived.BigQuiet
import Derived.Deep.QuietTactic
import Derived.Laws.BitsLemmas
import Derived.Deep.RegionWith
import Derived.WalkLawsBesides
import Derived.Deep.RegionLaw
import Derived.Lib.AppendZeros
import Derived.Test.YtpldjihajclblaaGPlain
import Derived.Lib.Strings
import Derived.Lib.OthersKept
/-
  What the cursor of spec (l1New, l1Byte, l1Below, l1PickInt) does: some numbers within their bounds; nothing but the cursor is written. By an AI agent.
-/
namespace Go.Proofs.Ytpldjihajclblaa
open Go.RowKit
set_option linter.unusedVariables false

/-- the cursor's block -/
def CurB (w : World) (c : Nat) (A : Option Addr) (len cap i : Nat) (h : Int) : Prop :=
  w.heap[c]? = some (.cells #[.slice A len cap, .int .i64 i, .int .i64 h] 60 (0, 0))

/-- the bytes that the cursor reads lie below block B -/
def CodeAt (w : World) (B : Nat) (A : Option Addr) (len : Nat) : Prop :=
  len ≤ 1048576 ∧ (0 < len → ∃ b off, A = some ⟨b, off, none⟩ ∧ b < B ∧ ∀ j, j < len → ∃ z : Int, 0 ≤ z ∧ z ≤ 255 ∧ w.cell? ⟨b, off + j, none⟩ = some (.int .u8 z))

def Cur (w : World) (B c : Nat) : Prop := B ≤ c ∧ ∃ A len cap i h, i ≤ len ∧ CurB w c A len cap i h ∧ CodeAt w B A len

theorem CurB.cell {w : World} {c : Nat} {A : Option Addr} {len cap i : Nat} {h : Int} (hc : CurB w c A len cap i h) (k : Nat) : w.cell? ⟨c, k, none⟩ = (#[Value.slice A len cap, .int .i64 i, .int .i64 h] : Array Value)[k]? :=
  cell_of_row w c k _ 60 (0, 0) hc
theorem CurB.frozen {w : World} {c : Nat} {A : Option Addr} {len cap i : Nat} {h : Int} (hc : CurB w c A len cap i h) (k : Nat) : w.frozen? ⟨c, k, none⟩ = false := by
  unfold CurB at hc
  simp [World.frozen?, hc]
theorem CurB.set1 {w : World} {c : Nat} {A : Option Addr} {len cap i : Nat} {h : Int} (hc : CurB w c A len cap i h) (j : Nat) : CurB (w.setCell ⟨c, 1, none⟩ (.int .i64 j)) c A len cap j h := by
  unfold CurB at hc ⊢
  simp [World.setCell, Array.getElem?_modify, hc]
theorem CurB.set2 {w : World} {c : Nat} {A : Option Addr} {len cap i : Nat} {h : Int} (hc : CurB w c A len cap i h) (h' : Int) : CurB (w.setCell ⟨c, 2, none⟩ (.int .i64 h')) c A len cap i h' := by
  unfold CurB at hc ⊢
  simp [World.setCell, Array.getElem?_modify, hc]
theorem CurB.lt {w : World} {c : Nat} {A : Option Addr} {len cap i : Nat} {h : Int} (hc : CurB w c A len cap i h) : c < w.heap.size := by
  rcases Nat.lt_or_ge c w.heap.size with hlt | hge
  · exact hlt
  · unfold CurB at hc; rw [Array.getElem?_eq_none hge] at hc; cases hc

theorem CodeAt.keep {w w' : World} {B : Nat} {A : Option Addr} {len : Nat} (h : CodeAt w B A len) (hk : ∀ k, k < B → w'.heap[k]? = w.heap[k]?) : CodeAt w' B A len := by
  refine ⟨h.1, fun h0 => ?_⟩
  obtain ⟨b, off, hA, hb, hz⟩ := h.2 h0
  refine ⟨b, off, hA, hb, fun j hj => ?_⟩
  obtain ⟨z, h1, h2, h3⟩ := hz j hj
  exact ⟨z, h1, h2, by rw [World.cell?_of_block (hk b hb)]; exact h3⟩

theorem Cur.lt {w : World} {B c : Nat} (h : Cur w B c) : c < w.heap.size := by
  obtain ⟨_, _, _, _, _, _, _, hc, _⟩ := h
  exact hc.lt
theorem Cur.alloc {w : World} {B c : Nat} (h : Cur w B c) (o : Obj) : Cur (w.alloc o) B c := by
  have hlt := h.lt
  obtain ⟨hB, A, len, cap, i, hh, hi, hc, hcode⟩ := h
  exact ⟨hB, A, len, cap, i, hh, hi, (Below.heap_alloc w o c hlt).trans hc, hcode.keep fun k hk => Below.heap_alloc w o k (by omega)⟩
/-- writes to other blocks leave the cursor alone -/
theorem Cur.below {w w' : World} {B c B' : Nat} (h : Cur w B c) (hb : Below B' w w') (hc' : c < B') : Cur w' B c := by
  obtain ⟨hB, A, len, cap, i, hh, hi, hc, hcode⟩ := h
  exact ⟨hB, A, len, cap, i, hh, hi, (hb.block c hc').trans hc, hcode.keep fun k hk => hb.block k (by omega)⟩

theorem and255 (a : Int) : 0 ≤ bits .and .i64 a 255 ∧ bits .and .i64 a 255 ≤ 255 := by
  have h : ((BitVec.ofInt 64 a) &&& (BitVec.ofInt 64 255)).toNat ≤ 255 := by
    rw [BitVec.toNat_and]
    exact Nat.and_le_right
  have e : bits .and .i64 a 255 = (((BitVec.ofInt 64 a) &&& (BitVec.ofInt 64 255)).toNat : Int) := by
    show IntKind.i64.wrap ((((BitVec.ofInt 64 a) &&& (BitVec.ofInt 64 255)).toNat : Nat) : Int) = _
    exact IntWalk.i64_in _ (by omega)
  rw [e]
  omega

theorem grown_set (w : World) (c k : Nat) (u : Value) : w.grownBy (w.setCell ⟨c, k, none⟩ u) (some c) :=
  ⟨rfl, rfl, rfl, by simp [World.setCell], fun j _ hne => Below.heap_setCell w ⟨c, k, none⟩ u j (fun e => hne (by rw [e]))⟩
theorem grown_trans {a b d : World} {c : Nat} (h1 : a.grownBy b (some c)) (h2 : b.grownBy d (some c)) : a.grownBy d (some c) :=
  ⟨h2.os.trans h1.os, h2.tape.trans h1.tape, h2.output.trans h1.output, Nat.le_trans h1.size h2.size, fun k hk hne => (h2.block k (Nat.lt_of_lt_of_le hk h1.size) hne).trans (h1.block k hk hne)⟩
theorem grown_drewN {a b : World} {c : Nat} (h : a.grownBy b (some c)) (n : Nat) : a.grownBy (b.drewN n) (some c) := ⟨h.os, h.tape, h.output, h.size, h.block⟩
theorem CurB.drewN {w : World} {c : Nat} {A : Option Addr} {len cap i : Nat} {h : Int} (hc : CurB w c A len cap i h) (n : Nat) : CurB (w.drewN n) c A len cap i h := hc

def SomeByte (w : World) (B c : Nat) (e : Ending) (w' : World) : Prop := ∃ x : Int, e = .returned (.int .i64 x) ∧ 0 ≤ x ∧ x ≤ 255 ∧ Cur w' B c ∧ w.grownBy w' (some c)

set_option maxRecDepth 100000 in
set_option maxHeartbeats 1000000 in
theorem l1Byte_any (B c : Nat) (w : World) (hcur : Cur w B c) : Calls Try.prog 47 #[.pointer (some ⟨c, 0, none⟩)] w (SomeByte w B c) := by
  obtain ⟨hB, A, len, cap, i, h, hi, hc, hcode⟩ := hcur
  have HC := Lib.hid hc
  have HCODE := Lib.hid hcode
  have c0 : w.cell? ⟨c, 0, none⟩ = some (.slice A len cap) := hc.cell 0
  have c1 : w.cell? ⟨c, 1, none⟩ = some (.int .i64 i) := hc.cell 1
  have c2 : w.cell? ⟨c, 2, none⟩ = some (.int .i64 h) := hc.cell 2
  have f1 := hc.frozen 1
  have f2 := hc.frozen 2
  clear hc hcode
  by_cases hlt : i < len
  · obtain ⟨b, off, rfl, hb, hz⟩ := HCODE.out.2 (by omega)
    obtain ⟨z, z0, z1, hcell⟩ := hz i hlt
    clear hz
    have hlen := HCODE.out.1
    have hcell2 : ∀ v, (w.setCell ⟨c, 2, none⟩ v).cell? ⟨b, off + i, none⟩ = some (.int .u8 z) := fun v => by
      rw [World.cell?_setCell_other w _ _ v (fun e => by have h := congrArg Addr.block e; simp only at h; omega)]
      exact hcell
    go_enter Try.func47, Try.ntmps47
    go_wp2
    go_quiet (fail)
    go_wp2
    go_quiet (fail)
    go_wp2
    go_quiet (fail)
    go_wp2
    go_ret
    refine ⟨_, rfl, (and255 _).1, (and255 _).2, ⟨hB, _, len, cap, i + 1, _, by omega, (((HC.out.set2 _).set1 (i + 1))), ?_⟩, ?_⟩
    · exact HCODE.out.keep fun k hk => (Below.heap_setCell _ ⟨c, 1, none⟩ _ k (by simp; omega)).trans (Below.heap_setCell w ⟨c, 2, none⟩ _ k (by simp; omega))
    · exact grown_trans (grown_drewN (grown_set w c 2 _) _) (grown_set _ c 1 _)
  · go_enter Try.func47, Try.ntmps47
    go_wp2
    go_quiet (fail)
    go_wp2
    go_quiet (fail)
    go_wp2
    go_ret
    refine ⟨_, rfl, (and255 _).1, (and255 _).2, ⟨hB, A, len, cap, i, _, hi, HC.out.set2 _, ?_⟩, ?_⟩
    · exact HCODE.out.keep fun k hk => Below.heap_setCell w ⟨c, 2, none⟩ _ k (by simp; omega)
    · exact grown_drewN (grown_drewN (grown_set w c 2 _) _) _

theorem SomeByte.mk {w w' : World} {B c : Nat} {e : Ending} (h : SomeByte w B c e w') : ∃ x : Int, e = .returned (.int .i64 x) ∧ 0 ≤ x ∧ x ≤ 255 ∧ Cur w' B c ∧ w.grownBy w' (some c) := h

def SomeBelow (w : World) (B c : Nat) (n : Int) (e : Ending) (w' : World) : Prop := ∃ x : Int, e = .returned (.int .i64 x) ∧ 0 ≤ x ∧ x < n ∧ Cur w' B c ∧ w.grownBy w' (some c)

set_option maxRecDepth 100000 in
set_option maxHeartbeats 1000000 in
theorem l1Below_small (B c : Nat) (n : Int) (w : World) (hcur : Cur w B c) (h0 : 0 < n) (h1 : n ≤ 256) : Calls Try.prog 29 #[.pointer (some ⟨c, 0, none⟩), .int .i64 n] w (SomeBelow w B c n) := by
  have HC := Lib.hid hcur
  clear hcur
  go_enter Try.func29, Try.ntmps29
  go_wp2_with (go_at_call 47; (refine (l1Byte_any B c _ HC.out).mono ?_); rintro e w1 ⟨x, rfl, hx0, hx1, hc1, hg1⟩; have HC1 := Lib.hid hc1; have HG1 := Lib.hid hg1; clear hc1 hg1)
  go_ret
  exact ⟨_, rfl, Int.emod_nonneg _ (by omega), Int.emod_lt_of_pos _ h0, HC1.out, HG1.out⟩

set_option maxRecDepth 100000 in
set_option maxHeartbeats 1000000 in
theorem l1Below_large (B c : Nat) (n : Int) (w : World) (hcur : Cur w B c) (h0 : 256 < n) (h1 : n ≤ 4611686018427387904) : Calls Try.prog 29 #[.pointer (some ⟨c, 0, none⟩), .int .i64 n] w (SomeBelow w B c n) := by
  have HC := Lib.hid hcur
  have HG := Lib.hid (show 0 < n by omega)
  clear hcur
  go_enter Try.func29, Try.ntmps29
  go_wp2_with (go_at_call 47; (refine (l1Byte_any B c _ HC.out).mono ?_); rintro e w1 ⟨x1, rfl, hx0, hx1, hc1, hg1⟩; refine Hid.out ?_)
  refine Lib.hid ?_
  have HC1 := Lib.hid hc1
  have HG1 := Lib.hid hg1
  clear hc1 hg1
  go_wp2_with (go_at_call 47; (refine (l1Byte_any B c _ HC1.out).mono ?_); rintro e w2 ⟨x2, rfl, hy0, hy1, hc2, hg2⟩; refine Hid.out ?_)
  refine Lib.hid ?_
  have HC2 := Lib.hid hc2
  have HG2 := Lib.hid (grown_trans HG1.out hg2)
  clear hc2 hg2
  go_wp2_with (go_at_call 47; (refine (l1Byte_any B c _ HC2.out).mono ?_); rintro e w3 ⟨x3, rfl, hz0, hz1, hc3, hg3⟩; refine Hid.out ?_)
  refine Lib.hid ?_
  have HC3 := Lib.hid hc3
  have HG3 := Lib.hid (grown_trans HG2.out hg3)
  clear hc3 hg3
  go_wp2_with (go_at_call 47; (refine (l1Byte_any B c _ HC3.out).mono ?_); rintro e w4 ⟨x4, rfl, hu0, hu1, hc4, hg4⟩; refine Hid.out ?_)
  refine Lib.hid ?_
  have HC4 := Lib.hid hc4
  have HG4 := Lib.hid (grown_trans HG3.out hg4)
  clear hc4 hg4
  go_wp2
  go_ret
  exact ⟨_, rfl, Int.emod_nonneg _ (by have := HG.out; omega), Int.emod_lt_of_pos _ HG.out, HC4.out, HG4.out⟩

theorem l1Below_any (B c : Nat) (n : Int) (w : World) (hcur : Cur w B c) (h0 : 0 < n) (h1 : n ≤ 4611686018427387904) : Calls Try.prog 29 #[.pointer (some ⟨c, 0, none⟩), .int .i64 n] w (SomeBelow w B c n) := by
  by_cases h : n ≤ 256
  · exact l1Below_small B c n w hcur h0 h
  · exact l1Below_large B c n w hcur (by omega) h1

def SomeInt (w : World) (B c : Nat) (e : Ending) (w' : World) : Prop := ∃ x : Int, e = .returned (.int .i64 x) ∧ -9223372036854775808 ≤ x ∧ x ≤ 9223372036854775807 ∧ Cur w' B c ∧ w.grownBy w' (some c)

set_option maxRecDepth 100000 in
set_option maxHeartbeats 1000000 in
theorem l1PickInt_any (B c g n : Nat) (w : World) (hcur : Cur w B c) (hn : 0 < n) (hn2 : n ≤ 65536) (hg : g ≠ c)
    (hl : ∀ j, j < n → ∃ z : Int, -9223372036854775808 ≤ z ∧ z ≤ 9223372036854775807 ∧ w.cell? ⟨g, j, none⟩ = some (.int .i64 z)) :
    Calls Try.prog 33 #[.pointer (some ⟨c, 0, none⟩), .slice (some ⟨g, 0, none⟩) n n] w (SomeInt w B c) := by
  have HC := Lib.hid hcur
  have HL := Lib.hid hl
  clear hcur hl
  go_enter Try.func33, Try.ntmps33
  go_wp2_with (go_at_call 29; (refine (l1Below_any B c _ _ HC.out (by omega) (by omega)).mono ?_); rintro e w1 ⟨x, rfl, hx0, hx1, hc1, hg1⟩; refine Hid.out ?_)
  refine Lib.hid ?_
  obtain ⟨k, rfl⟩ := Int.eq_ofNat_of_zero_le hx0
  obtain ⟨z, hz0, hz1, hcell⟩ := HL.out k (by omega)
  have hcell1 : w1.cell? ⟨g, k, none⟩ = some (.int .i64 z) := hg1.cell hcell (by simpa using hg)
  have HC1 := Lib.hid hc1
  have HG1 := Lib.hid hg1
  clear hc1 hg1
  go_wp2
  go_ret
  exact ⟨_, rfl, hz0, hz1, HC1.out, HG1.out⟩

end Go.Proofs.Ytpldjihajclblaa

/-
  What the drawing functions of chapter 1 (l1New, l1Num, l1Text, DrawEncodeVarint, DrawEncodeHex, DrawEncodeFixed) hand back: some numbers and texts within their bounds. By an AI agent.
-/
namespace Go.Proofs.Ytpldjihajclblaa
open Go.RowKit
set_option linter.unusedVariables false

def SomeCur (w : World) (e : Ending) (w' : World) : Prop := ∃ c, e = .returned (.pointer (some ⟨c, 0, none⟩)) ∧ Cur w' w.heap.size c ∧ Below w.heap.size w w'

set_option maxRecDepth 100000 in
set_option maxHeartbeats 1000000 in
theorem l1New_any (A : Option Addr) (len cap : Nat) (w : World) (hcode : CodeAt w w.heap.size A len) : Calls Try.prog 17 #[.slice A len cap] w (SomeCur w) := by
  have HCODE := Lib.hid hcode
  have hlen : (len : Int) ≤ 1048576 := by have := hcode.1; omega
  clear hcode
  go_enter Try.func17, Try.ntmps17
  go_wp2
  go_loop [3, 4] (fun h i => ∃ (k : Nat) (x : Int), k ≤ len ∧ k ≤ 4000 ∧ i = .int .i64 k ∧ h = .int .i64 x) (fun _ i => 4000 - (intOf i).toNat)
  case atStart => exact ⟨0, _, Nat.zero_le _, by omega, rfl, rfl⟩
  case round =>
    obtain ⟨k, x, hk, hk4, rfl, rfl⟩ := hrel
    by_cases hlt : k < len ∧ k < 4000
    · obtain ⟨h1, h2⟩ := hlt
      obtain ⟨b, off, rfl, hb, hz⟩ := HCODE.out.2 (by omega)
      obtain ⟨z, z0, z1, hcell⟩ := hz k h1
      clear hz
      go_wp2
      go_round
      case rel => exact ⟨k + 1, _, by omega, by omega, by go_num, rfl⟩
      case measure => simp [intOf]; omega
    · have hex : ¬ k < len ∨ ¬ k < 4000 := by omega
      clear hlt
      rcases hex with hex | hex
      all_goals go_wp2
      all_goals go_ret
      all_goals refine ⟨w.heap.size, rfl, ⟨Nat.le_refl _, A, len, cap, 0, _, Nat.zero_le _, heap_alloc_new w _, HCODE.out.keep fun j hj => Below.heap_alloc w _ j hj⟩, (Below.refl _ _).alloc (Nat.le_refl _) _⟩

theorem lit_cells (w : World) (l : List Int) (hr : ∀ z ∈ l, -9223372036854775808 ≤ z ∧ z ≤ 9223372036854775807) : ∀ j, j < l.length → ∃ z : Int, -9223372036854775808 ≤ z ∧ z ≤ 9223372036854775807 ∧
    (w.alloc (.cells (l.map (Value.int .i64)).toArray 3)).cell? ⟨w.heap.size, j, none⟩ = some (.int .i64 z) := by
  intro j hj
  refine ⟨l[j], (hr _ (List.getElem_mem hj)).1, (hr _ (List.getElem_mem hj)).2, ?_⟩
  rw [World.cell?_alloc_at _ _ _ _ rfl]
  simp [hj]

theorem grown_alloc (w : World) (o : Obj) (c : Nat) : w.grownBy (w.alloc o) (some c) := World.grownBy_alloc w o _

theorem OwnB.kept {w w' : World} {base c : Nat} {v : Value} {l : List UInt8} (h : OwnB w base v l) (hg : w.grownBy w' (some c)) (hc : c < base) : OwnB w' base v l := by
  refine World.ownsRow.kept h hg (.inr fun e => ?_)
  have := (World.ownsRow.lt h c e).1
  omega

theorem grown_below {a b d : World} {c : Nat} (h1 : a.grownBy b (some c)) (h2 : Below a.heap.size b d) : a.grownBy d (some c) :=
  ⟨h2.os.trans h1.os, h2.tape.trans h1.tape, h2.output.trans h1.output, Nat.le_trans h1.size h2.size, fun k hk hne => (h2.block k hk).trans (h1.block k hk hne)⟩

def SomeText (w : World) (B c : Nat) (most : Nat) (e : Ending) (w' : World) : Prop := ∃ l : List UInt8, e = .returned (.string (strOf l)) ∧ l.length ≤ most ∧ Cur w' B c ∧ w.grownBy w' (some c)

end Go.Proofs.Ytpldjihajclblaa

/-
  What the drawing functions of chapter 2 (l1Pick, l1Spoil, l2Name, l2Text) hand back: some texts within their bounds; nothing but the cursor is written. By an AI agent.
-/
namespace Go.Proofs.Ytpldjihajclblaa
open Go.RowKit
set_option linter.unusedVariables false

def SomeStr (w : World) (B c m : Nat) (e : Ending) (w' : World) : Prop := ∃ s : ByteArray, e = .returned (.string s) ∧ s.size ≤ m ∧ Cur w' B c ∧ w.grownBy w' (some c)

theorem lit_strs (w : World) (l : List ByteArray) (m : Nat) (hr : ∀ s ∈ l, s.size ≤ m) : ∀ j, j < l.length → ∃ s : ByteArray, s.size ≤ m ∧ (w.alloc (.cells (l.map Value.string).toArray 9)).cell? ⟨w.heap.size, j, none⟩ = some (.string s) := by
  intro j hj
  refine ⟨l[j], hr _ (List.getElem_mem hj), ?_⟩
  rw [World.cell?_alloc_at _ _ _ _ rfl]
  simp [hj]

set_option maxRecDepth 100000 in
set_option maxHeartbeats 1000000 in
theorem l1Pick_any (B c g n m : Nat) (w : World) (hcur : Cur w B c) (hn : 0 < n) (hn2 : n ≤ 65536) (hg : g ≠ c)
    (hl : ∀ j, j < n → ∃ s : ByteArray, s.size ≤ m ∧ w.cell? ⟨g, j, none⟩ = some (.string s)) :
    Calls Try.prog 60 #[.pointer (some ⟨c, 0, none⟩), .slice (some ⟨g, 0, none⟩) n n] w (SomeStr w B c m) := by
  have HC := Lib.hid hcur
  have HL := Lib.hid hl
  clear hcur hl
  go_enter Try.func60, Try.ntmps60
  go_wp2_with (go_at_call 29; (refine (l1Below_any B c _ _ HC.out (by omega) (by omega)).mono ?_); rintro e w1 ⟨x, rfl, hx0, hx1, hc1, hg1⟩; refine Hid.out ?_)
  refine Lib.hid ?_
  obtain ⟨k, rfl⟩ := Int.eq_ofNat_of_zero_le hx0
  obtain ⟨s, hs, hcell⟩ := HL.out k (by omega)
  have hcell1 : w1.cell? ⟨g, k, none⟩ = some (.string s) := hg1.cell hcell (by simpa using hg)
  have HC1 := Lib.hid hc1
  have HG1 := Lib.hid hg1
  clear hc1 hg1
  go_wp2
  go_ret
  exact ⟨s, rfl, hs, HC1.out, HG1.out⟩

theorem ext_le (s : ByteArray) (a b : Nat) : (s.extract a b).size ≤ s.size := by rw [ByteArray.size_extract]; omega
theorem u8_lo (z : Int) : 0 ≤ IntKind.u8.wrap z := by rw [IntKind.wrap_u8]; omega
theorem u8_hi (z : Int) : IntKind.u8.wrap z ≤ 255 := by rw [IntKind.wrap_u8]; omega
theorem one_size (x : UInt8) : (⟨#[x]⟩ : ByteArray).size = 1 := rfl

end Go.Proofs.Ytpldjihajclblaa

/-
  What spec.l3Put does: one string more in an ascending list of the call's own. By an AI agent.
-/
namespace Go.Proofs.Ytpldjihajclblaa
open Go.RowKit
set_option linter.unusedVariables false

theorem less_is : ∀ (x y : List UInt8), Op.bytesLess x y = decide (x < y)
  | [], [] => by simp [Op.bytesLess]
  | _ :: _, [] => by simp [Op.bytesLess]
  | [], _ :: _ => by simp [Op.bytesLess]
  | a :: x, b :: y => by
    rw [Op.bytesLess, less_is x y]
    simp only [List.cons_lt_cons_iff]
    by_cases h1 : a < b <;> by_cases h2 : a = b <;> by_cases h3 : x < y <;> simp [h1, h2, h3]
theorem less_yes {x y : Str} {s t : ByteArray} (hs : s.data.toList = x) (ht : t.data.toList = y) (h : x < y) : Op.bytesLess s.toList t.toList = true := by
  rw [less_is, ByteArray.toList_eq, ByteArray.toList_eq, hs, ht]
  exact decide_eq_true h
theorem less_no {x y : Str} {s t : ByteArray} (hs : s.data.toList = x) (ht : t.data.toList = y) (h : ¬ x < y) : Op.bytesLess s.toList t.toList = false := by
  rw [less_is, ByteArray.toList_eq, ByteArray.toList_eq, hs, ht]
  exact decide_eq_false h
theorem str_ne3 {x y : Str} {s t : ByteArray} (hs : s.data.toList = x) (ht : t.data.toList = y) (h : x ≠ y) : (s.toList == t.toList) = false := by
  rw [ByteArray.toList_eq, ByteArray.toList_eq, hs, ht]
  simpa using h
theorem str_eq3 {x y : Str} {s t : ByteArray} (hs : s.data.toList = x) (ht : t.data.toList = y) (h : x = y) : s = t := by
  have h2 : s.data.toList = t.data.toList := by rw [hs, ht, h]
  exact ByteArray.ext (Array.toList_inj.1 h2)

/-- append of a slice that reads as a list to a slice of the call's own -/
theorem run_app (ty : TypeId) (base : Nat) (v : Value) (l : List Str) (w : World) (hown : OwnS w base v l) (a : Option Addr) (c : Nat) (ms : List Str) (hin : InS w a ms) (hn : a = none → c = 0) (hsz : l.length + ms.length ≤ 9000000) (hbase : base ≤ w.heap.size) :
    ∃ v' w', (Builtin.append_ #[88, 88] ty #[v, .slice a ms.length c]).run Try.prog w = .ok v' w' ∧ OwnS w' base v' (l ++ ms) ∧ w.grownBy w' v.ownBlock := by
  obtain ⟨i0, hi, hz0, hz1, hz2⟩ := info_parts info_str
  have e1 : (l ++ ms).length = l.length + ms.length := by simp
  have e2 : (l ++ ms).map encStr = l.map encStr ++ ms.map encStr := by simp
  cases a with
  | none =>
    obtain rfl : ms = [] := by
      rcases Nat.eq_zero_or_pos ms.length with h | h
      · exact List.eq_nil_of_length_eq_zero h
      · obtain ⟨_, _, h2, _⟩ := hin h
        cases h2
    rw [hn rfl]
    refine ⟨v, w, run_append_owned_none (P := Try.prog) (w := w) base 88 ty 9 i0 1 Try.underlying88 hi v l.length (l.map encStr) hown, ?_, World.grownBy.refl _ _⟩
    rw [List.append_nil]
    exact hown
  | some ad =>
    obtain ⟨v', w', h1, h2, h3, -⟩ := run_append_own (P := Try.prog) w base 88 ty 9 i0 (.string ⟨#[]⟩) 1 16 Try.underlying88 hi hz0 hz1 hz2 rfl (by decide) v l.length (l.map encStr) hown
      ad ms.length c (ms.map encStr) (by simp) (fun j u hj => by
        rw [List.getElem?_map] at hj
        cases hx : ms[j]? with
        | none => rw [hx] at hj; cases hj
        | some x =>
          rw [hx] at hj
          have hlt := (List.getElem?_eq_some_iff.1 hx).1
          obtain ⟨b, off, e, _, hc⟩ := hin (by omega)
          obtain rfl : ad = ⟨b, off, none⟩ := Option.some.inj e
          have h2 : (⟨b, off, none⟩ : Addr).add j = ⟨b, off + j, none⟩ := by unfold Addr.add; split <;> simp_all
          rw [h2, hc j x hx]
          exact hj) (by intro u hu; obtain ⟨x, _, rfl⟩ := List.mem_map.1 hu; rfl) (by unfold maxLen; omega) (by omega) hbase
    refine ⟨v', w', h1, ?_, h3⟩
    unfold OwnS
    rw [e1, e2]
    exact h2

theorem step_app {ops : Array Oper} {o : Oper} {a : Act} {w : World} {K : Act → World → Prop} {Q : Exit → Act → World → Prop} {E : Prop}
    (hg : o.guard = none) (s x : Operand) (hop : o.op = Op.call { callee := Callee.builtin Builtin.append, args := #[s, x], argTypes := #[88, 88] })
    (base : Nat) (v : Value) (l : List Str) (hs : a.eval s = v) (ad : Option Addr) (m c : Nat) (ms : List Str) (hx : a.eval x = .slice ad m c) (hm : m = ms.length)
    (hown : OwnS w base v l) (hin : InS w ad ms) (hn : ad = none → c = 0) (hsz : l.length + ms.length ≤ 9000000) (hbase : base ≤ w.heap.size)
    (hK : ∀ v' w', OwnS w' base v' (l ++ ms) → w.grownBy w' v.ownBlock → K (a.put o.dst v') w') :
    if Region.wanted o (yielded ops a.tmps) = true then Oper.wp Try.prog o a w K Q else E := by
  subst hm
  rw [if_pos (by simp [Region.wanted, hg])]
  obtain ⟨v', w', hrun, h1, h2⟩ := run_app o.type base v l w hown ad c ms hin hn hsz hbase
  unfold Oper.wp
  simp [execOp, hop, resolve, invoke, builtin, hs, hx, hrun, Result.andThen]
  exact hK v' w' h1 h2

theorem own_new (w : World) (base g : Nat) (hg : w.heap.size = g) (hb : base ≤ g) : OwnS (w.alloc (.cells #[] 9)) base (.slice (some ⟨g, 0, none⟩) 0 0) [] := by
  subst hg
  exact OwnS.made w base #[] 0 hb (Nat.zero_le _) rfl
theorem in_one (w : World) (g : Nat) (t : ByteArray) (y : Str) (hg : w.heap.size = g) (ht : t.data.toList = y) : InS (w.alloc (.cells #[.string t] 9)) (some ⟨g, 0, none⟩) [y] := by
  subst hg
  intro _
  refine ⟨w.heap.size, 0, rfl, by simp, fun j x hj => ?_⟩
  cases j with
  | zero =>
    simp at hj
    subst hj
    rw [World.cell?_alloc_at _ _ _ _ rfl]
    subst ht
    rfl
  | succ j => simp at hj
theorem InS.grown {w w' : World} {a : Option Addr} {l : List Str} {r : Option Nat} (h : InS w a l) (hg : w.grownBy w' r) (hne : ∀ b off, a = some ⟨b, off, none⟩ → some b ≠ r) : InS w' a l :=
  h.keep hg.size fun b off ha hb => hg.block b hb (hne b off ha)
theorem InS.take' {w : World} {a : Option Addr} {l : List Str} (h : InS w a l) (k : Nat) : InS w a (l.take k) := by
  intro h0
  obtain ⟨b', off', e, hb, hc⟩ := h (by rw [List.length_take] at h0; omega)
  refine ⟨b', off', e, hb, fun j x hj => hc j x ?_⟩
  rw [List.getElem?_take] at hj
  split at hj
  · exact hj
  · cases hj
theorem InS.drop {w : World} {b off : Nat} {l : List Str} (h : InS w (some ⟨b, off, none⟩) l) (k : Nat) : InS w (some ⟨b, off + k, none⟩) (l.drop k) := by
  intro h0
  obtain ⟨b', off', e, hb, hc⟩ := h (by rw [List.length_drop] at h0; omega)
  obtain ⟨rfl, rfl⟩ : b = b' ∧ off = off' := by simpa using e
  refine ⟨b, off + k, rfl, hb, fun j x hj => ?_⟩
  rw [List.getElem?_drop] at hj
  rw [Nat.add_assoc]
  exact hc (k + j) x hj

theorem InS.drop0 {w : World} {b : Nat} {l : List Str} (h : InS w (some ⟨b, 0, none⟩) l) (k : Nat) : InS w (some ⟨b, k, none⟩) (l.drop k) := by
  have h2 := h.drop k
  rw [Nat.zero_add] at h2
  exact h2

/-- what is handed back: a slice of the caller's own -/
def PutsS (w : World) (base : Nat) (l : List Str) (e : Ending) (w' : World) : Prop :=
  ∃ a cap, e = .returned (.slice a l.length cap) ∧ OwnS w' base (.slice a l.length cap) l ∧ Below w.heap.size w w'
theorem PutsS.mk {w w' : World} {base : Nat} {v : Value} {l : List Str} (h : OwnS w' base v l) (hb : Below w.heap.size w w') : PutsS w base l (.returned v) w' := by
  obtain ⟨a, cap, rfl⟩ := h.shape
  exact ⟨a, cap, rfl, h, hb⟩
theorem grown_old {w0 w w' : World} {v : Value} {l : List Str} (hb : Below w0.heap.size w0 w) (hg : w.grownBy w' v.ownBlock) (ho : OwnS w w0.heap.size v l) : Below w0.heap.size w0 w' :=
  hb.grown hg hb.size fun k hk => (World.ownsRow.lt ho k hk).1

end Go.Proofs.Ytpldjihajclblaa

/-
  What spec.l3Put does, at any ascending list of the call's own. By an AI agent.
-/
namespace Go.Proofs.Ytpldjihajclblaa
open Go.RowKit
set_option linter.unusedVariables false
set_option linter.unusedSimpArgs false

theorem InS.empty (w : World) (a : Option Addr) {l : List Str} (h : l.length = 0) : InS w a l := fun h0 => absurd h0 (by omega)

end Go.Proofs.Ytpldjihajclblaa

/-
  What spec.l1Once, l3Set, l3Any and the drawing functions over two lists of strings hand back. By an AI agent.
-/
namespace Go.Proofs.Ytpldjihajclblaa
open Go.RowKit
set_option linter.unusedVariables false

theorem own_keptc {w w' : World} {base c : Nat} {v : Value} {l : List Str} (h : OwnS w base v l) (hg : w.grownBy w' (some c)) (hc : c < base) : OwnS w' base v l := by
  refine World.ownsRow.kept h hg (.inr fun e => ?_)
  have := (World.ownsRow.lt h c e).1
  omega
theorem below_own {w0 w w' : World} {v : Value} {l : List Str} (ho : OwnS w w0.heap.size v l) (hs : w0.heap.size ≤ w.heap.size) (hg : w.grownBy w' v.ownBlock) : Below w0.heap.size w w' :=
  (Below.refl _ _).grown hg hs (fun k hk => (World.ownsRow.lt ho k hk).1)

def SomeBool (w : World) (B c : Nat) (e : Ending) (w' : World) : Prop := ∃ b : Bool, e = .returned (.bool b) ∧ Cur w' B c ∧ w.grownBy w' (some c)
def SomeSet (w : World) (B c m : Nat) (e : Ending) (w' : World) : Prop := ∃ (a : Option Addr) (cap : Nat) (l : List Str), e = .returned (.slice a l.length cap) ∧ OwnS w' w.heap.size (.slice a l.length cap) l ∧ l.length ≤ m ∧ (∀ x ∈ l, x.length ≤ 10) ∧ Cur w' B c ∧ w.grownBy w' (some c)

set_option maxRecDepth 100000 in
theorem l1Once_any (B c : Nat) (n : Int) (w : World) (hcur : Cur w B c) (h0 : 0 < n) (h1 : n ≤ 4611686018427387904) : Calls Try.prog 49 #[.pointer (some ⟨c, 0, none⟩), .int .i64 n] w (SomeBool w B c) := by
  have HC := Lib.hid hcur
  clear hcur
  go_enter Try.func49, Try.ntmps49
  go_wp2_with (go_at_call 29; (refine (l1Below_any B c _ _ HC.out h0 h1).mono ?_); rintro e w1 ⟨x, rfl, hx0, hx1, hc1, hg1⟩; have HC1 := Lib.hid hc1; have HG1 := Lib.hid hg1; clear hc1 hg1)
  go_ret
  exact ⟨_, rfl, HC1.out, HG1.out⟩

theorem put_small {l : List Str} {x : Str} (h : ∀ y ∈ l, y.length ≤ 10) (hx : x.length ≤ 10) : ∀ y ∈ putL false l x, y.length ≤ 10 := by
  intro y hy
  rcases (putL_mem false x y l).1 hy with rfl | hy
  · exact hx
  · exact h y hy

/-- two lists of strings are handed back -/
def DrawnSets (w : World) (e : Ending) (w' : World) : Prop := ∃ (a1 a2 : Option Addr) (c1 c2 : Nat) (l1 l2 : List Str), e = .returned (.tuple #[.slice a1 l1.length c1, .slice a2 l2.length c2]) ∧ Sm w' a1 l1 c1 ∧ Sm w' a2 l2 c2 ∧ l1.length ≤ 7 ∧ l2.length ≤ 7 ∧ Below w.heap.size w w'

end Go.Proofs.Ytpldjihajclblaa

/-
  The argument of a named law: a slice of bytes that came in; laws.big. By an AI agent.
-/
namespace Go.Proofs.Ytpldjihajclblaa
open Go.RowKit
set_option linter.unusedVariables false

/-- a slice of integers that came in: nil, or a row of 'cap' cells, the numbers 'zs', each fitting its kind -/
def IsRow (k : IntKind) (w : World) (a : Option Addr) (len cap : Nat) (zs : List Int) : Prop :=
  (a = none ∧ len = 0 ∧ cap = 0 ∧ zs = []) ∨
  ∃ x, a = some x ∧ len ≤ cap ∧ cap ≤ maxLen ∧ zs.length = cap ∧ (∀ i, i < zs.length → w.cell? (x.add i) = some (.int k (zs.getD i 0))) ∧ ∀ n ∈ zs, (Lit.int k n).wf = true

theorem codeAt_of {w : World} {a : Option Addr} {len cap : Nat} {zs : List Int} (h : IsRow .u8 w a len cap zs) (hl : len ≤ 1048576) : CodeAt w w.heap.size a len := by
  refine ⟨hl, fun h0 => ?_⟩
  rcases h with ⟨rfl, rfl, rfl, rfl⟩ | ⟨x, rfl, hlc, hm, hz, hc, hwf⟩
  · omega
  · obtain ⟨b, off, spot⟩ := x
    have hc0 := hc 0 (by omega)
    have hspot : spot = none := by simpa [Addr.add] using World.cell?_spot hc0
    subst hspot
    have hlt : b < w.heap.size := by
      have := World.block_lt_of_cell? w _ hc0
      simpa [Addr.add] using this
    refine ⟨b, off, rfl, hlt, fun j hj => ⟨zs.getD j 0, ?_, ?_, ?_⟩⟩
    · have hw := hwf (zs.getD j 0) (by rw [List.getD_eq_getElem?_getD, List.getElem?_eq_getElem (by omega)]; simp)
      simp [Lit.wf, IntKind.min, IntKind.max, IntKind.signed, IntKind.bits] at hw ⊢
      omega
    · have hw := hwf (zs.getD j 0) (by rw [List.getD_eq_getElem?_getD, List.getElem?_eq_getElem (by omega)]; simp)
      simp [Lit.wf, IntKind.min, IntKind.max, IntKind.signed, IntKind.bits] at hw ⊢
      omega
    · have e : (⟨b, off, none⟩ : Addr).add j = ⟨b, off + j, none⟩ := by unfold Addr.add; split <;> simp_all
      rw [← e]
      exact hc j (by omega)

theorem big_no (A : Option Addr) (len cap : Nat) (w : World) (h : (len : Int) ≤ 1048576) : Calls Try.prog 4 #[.slice A len cap] w fun e w' => e = .returned (.bool false) ∧ w = w' := by
  have hd : decide (1048576 < (len : Int)) = false := by simp; omega
  go_enter Try.func4, Try.ntmps4
  go_wp2
  go_ret
  exact ⟨rfl, rfl⟩

theorem big_yes (A : Option Addr) (len cap : Nat) (w : World) (h : 1048576 < (len : Int)) : Calls Try.prog 4 #[.slice A len cap] w fun e w' => e = .returned (.bool true) ∧ w = w' := by
  have hd : decide (1048576 < (len : Int)) = true := by simp; omega
  go_enter Try.func4, Try.ntmps4
  go_wp2
  go_ret
  exact ⟨rfl, rfl⟩

end Go.Proofs.Ytpldjihajclblaa

/-
  What laws.sameInts answers. By an AI agent.
-/
namespace Go.Proofs.Ytpldjihajclblaa
open Go.RowKit
set_option linter.unusedVariables false

set_option maxRecDepth 100000 in
theorem same_ints (a1 a2 : Option Addr) (c1 c2 : Nat) (l : List Int) (w : World) (hl : l.length ≤ maxLen) (h1 : InI w a1 l) (h2 : InI w a2 l) :
    Calls Try.prog 8 #[.slice a1 l.length c1, .slice a2 l.length c2] w fun e w' => e = .returned (.bool true) ∧ Below w.heap.size w w' := by
  unfold maxLen at hl
  have H1 := Lib.hid h1
  have H2 := Lib.hid h2
  clear h1 h2
  go_enter Try.func8, Try.ntmps8
  go_wp2
  go_loopw [5] (fun i wr => ∃ k n : Nat, k ≤ l.length ∧ i = .int .i64 k ∧ wr = w.drewN n) (fun i _ => l.length - (intOf i).toNat)
  case atStart => exact ⟨0, 0, Nat.zero_le _, rfl, rfl⟩
  case round =>
    obtain ⟨k, n, hk, rfl, rfl⟩ := hrel
    by_cases hlt : k < l.length
    · obtain ⟨b1, o1, rfl, hb1, hc1⟩ := H1.out (by omega)
      obtain ⟨b2, o2, rfl, hb2, hc2⟩ := H2.out (by omega)
      obtain ⟨x, hx⟩ : ∃ x, l[k]? = some x := ⟨_, List.getElem?_eq_getElem hlt⟩
      have hcell1 : w.cell? ⟨b1, o1 + k, none⟩ = some (.int .i64 x) := hc1 k x hx
      have hcell2 : w.cell? ⟨b2, o2 + k, none⟩ = some (.int .i64 x) := hc2 k x hx
      clear hc1 hc2 hx
      go_wp2
      go_quiet (fail)
      go_wp2
      go_roundw
      case rel => exact ⟨k + 1, _, by omega, by go_num, rfl⟩
      case measure => simp [intOf]; omega
    · obtain rfl : k = l.length := by omega
      go_wp2
      go_ret
      exact ⟨rfl, quiet_i _ _ _⟩

end Go.Proofs.Ytpldjihajclblaa

/-
  What spec.FoldCase and impl.FoldCase answer, for every string of at most 2^20 bytes; the walk of laws.FnExactFoldCase. By an AI agent.
-/
namespace Go.Proofs.Ytpldjihajclblaa
open Go.RowKit
set_option linter.unusedVariables false

def nstr (l : List UInt8) : ByteArray := ⟨l.toArray⟩
theorem nret_str {a b : ByteArray} (h : a = b) : Ending.returned (.string a) = .returned (.string b) := by rw [h]
theorem nret_bool {a b : Bool} (h : a = b) : Ending.returned (.bool a) = .returned (.bool b) := by rw [h]
theorem nstr_list (l : List UInt8) : (nstr l).data.toList = l := by simp [nstr]
theorem nstr_size (l : List UInt8) : (nstr l).size = l.length := by simp [nstr, ByteArray.size]
theorem nstr_data (s : ByteArray) : nstr s.data.toList = s := by cases s; simp [nstr]

theorem fbyte_at? (s : ByteArray) (k : Nat) (h : k < s.size) : s.data.toList[k]? = some s[k] := by
  rw [List.getElem?_eq_getElem (by simpa using h)]
  rfl

theorem ftake_snoc (s : ByteArray) (k : Nat) (h : k < s.size) : s.data.toList.take (k + 1) = s.data.toList.take k ++ [s[k]] := by
  rw [List.take_succ_eq_append_getElem (by simpa using h)]; rfl

theorem ftake_all (s : ByteArray) : s.data.toList.take s.size = s.data.toList := List.take_of_length_le (by simp)

theorem fold_take (s : ByteArray) (k : Nat) (h : k < s.size) : foldL (s.data.toList.take (k + 1)) = foldL (s.data.toList.take k) ++ [foldB s[k]] := by
  rw [ftake_snoc s k h, foldL_snoc]

theorem byte_of_nat (c : UInt8) : UInt8.ofNat ((c.toNat : Int)).toNat = c := by
  rw [Int.toNat_natCast]
  exact UInt8.ofNat_toNat

/-- block g holds the bytes l and behind them the cells z; the run-time's mark lies behind the last one -/
def BlkF (w : World) (g : Nat) (z : List Value) (l : List UInt8) : Prop := w.heap[g]? = some (.cells (Lib.byteCells l ++ z).toArray 5 (l.length + z.length, l.length + z.length + 1))

theorem BlkF.cell {w : World} {g : Nat} {z : List Value} {l : List UInt8} (h : BlkF w g z l) {i : Nat} (hi : i < l.length) : w.cell? ⟨g, i, none⟩ = some (.int .u8 (l[i].toNat : Int)) := by
  rw [cell_of_row w g i _ 5 _ h]
  rw [List.getElem?_toArray, List.getElem?_append_left (by simpa [Lib.byteCells] using hi)]
  simp [Lib.byteCells, hi]

theorem BlkF.frozen {w : World} {g : Nat} {z : List Value} {l : List UInt8} (h : BlkF w g z l) {i : Nat} (hi : i < l.length) : w.frozen? ⟨g, i, none⟩ = false := by
  unfold BlkF at h
  simp [World.frozen?, h]
  omega

theorem BlkF.set_ {w : World} {g : Nat} {z : List Value} {l : List UInt8} (h : BlkF w g z l) {i : Nat} (hi : i < l.length) (b : UInt8) (x : Int) (hx : x = b.toNat) : BlkF (w.setCell ⟨g, i, none⟩ (.int .u8 x)) g z (l.set i b) := by
  subst hx
  unfold BlkF at h ⊢
  have e : Lib.byteCells (l.set i b) = (Lib.byteCells l).set i (.int .u8 b.toNat) := by simp [Lib.byteCells, List.map_set]
  have hi2 : i < (Lib.byteCells l).length := by simpa [Lib.byteCells] using hi
  rw [e, List.length_set, ← List.set_append_left _ _ hi2]
  simp [World.setCell, Array.getElem?_modify, h]

theorem BlkF.convert {w : World} {g cap m : Nat} {z : List Value} {l : List UInt8} (h : BlkF w g z l) (hm : l.length = m) :
    (convert 22 9 (.slice (some ⟨g, 0, none⟩) m cap)).run Try.prog w = .ok (.string (nstr l)) w := by
  subst hm
  refine run_convert_bytes_back (P := Try.prog) w 22 9 5 ⟨g, 0, none⟩ cap l Try.underlying22 Try.underlying5 Try.underlying9 (fun j hj => ?_)
  have e : (⟨g, 0, none⟩ : Addr).add j = ⟨g, j, none⟩ := by unfold Addr.add; split <;> simp_all
  rw [e, h.cell hj]

/-- []byte(s) -/
theorem bytes_of_string (w : World) (s : ByteArray) : ∃ (cap : Nat) (z : List Value) (w' : World),
    (convert 9 22 (.string s)).run Try.prog w = .ok (.slice (some ⟨w.heap.size, 0, none⟩) s.size cap) w' ∧ BlkF w' w.heap.size z s.data.toList ∧ Below w.heap.size w w' := by
  refine ⟨_, List.replicate (grownCap w s.size 0 5 - s.size) (Value.int .u8 0), _, run_bytes_of_string w 9 22 5 s Try.underlying9 Try.underlying22 Try.underlying5, ?_, ?_⟩
  · have e : bytesRow s (grownCap w s.size 0 5) = (Lib.byteCells s.data.toList ++ List.replicate (grownCap w s.size 0 5 - s.size) (Value.int .u8 0)).toArray := by
      apply Array.toList_inj.1
      simp [bytesRow, Lib.byteCells]
    unfold BlkF
    rw [e]
    have e2 : ∀ o : Obj, (w.drew.alloc o).heap[w.heap.size]? = some o := fun o => heap_alloc_new w.drew o
    rw [e2]
    simp [Lib.byteCells]
  · exact ((Below.refl _ _).drew).alloc (by simp) _

theorem foldK_set (s : ByteArray) (k : Nat) (h : k < s.size) :
    foldL (s.data.toList.take (k + 1)) ++ s.data.toList.drop (k + 1) = (foldL (s.data.toList.take k) ++ s.data.toList.drop k).set k (foldB s[k]) := by
  have hl : k < s.data.toList.length := by simpa using h
  have e : (foldL (s.data.toList.take k)).length = k := by rw [foldL_length, List.length_take]; omega
  rw [fold_take s k h, List.drop_eq_getElem_cons hl, List.set_append_right _ _ (by omega), e, Nat.sub_self, List.set_cons_zero, List.append_assoc]
  rfl

theorem foldK_at (s : ByteArray) (k : Nat) (h : k < s.size) (h2 : k < (foldL (s.data.toList.take k) ++ s.data.toList.drop k).length) :
    (foldL (s.data.toList.take k) ++ s.data.toList.drop k)[k] = s[k] := by
  have hl : k < s.data.toList.length := by simpa using h
  have e : (foldL (s.data.toList.take k)).length = k := by rw [foldL_length, List.length_take]; omega
  rw [List.getElem_append_right (by omega)]
  simp only [e, Nat.sub_self, List.getElem_drop, Nat.add_zero]
  rfl

theorem foldK_length (s : ByteArray) (k : Nat) (h : k ≤ s.size) : (foldL (s.data.toList.take k) ++ s.data.toList.drop k).length = s.size := by
  rw [List.length_append, foldL_length, List.length_take, List.length_drop]
  simp
  omega

end Go.Proofs.Ytpldjihajclblaa

