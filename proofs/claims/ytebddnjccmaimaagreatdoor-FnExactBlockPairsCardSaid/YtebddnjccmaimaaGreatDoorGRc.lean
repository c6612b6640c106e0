/-
  Texts laid together: RcS, RcT, RcU, RcO. By an AI agent.
-/
import Derived.Test.YtebddnjccmaimaaGreatDoorGMem
import Derived.Test.YtebddnjccmaimaaGreatDoorRecV
import Derived.Deep.Slices
import Derived.Deep.SlicePairs
import Derived.Lib.SmallJoins
import Derived.SliceStrings
import Derived.OpenShut
import Derived.ShutString
/-
  Slices of records: one that reads as a list, one of the call's own. By an AI agent.
-/
namespace Go.Proofs.YtebddnjccmaimaaGreatDoor
open Go.RowKit
set_option linter.unusedVariables false

/-- a record: source, key, version; its fields -/
abbrev RC := (Int × Int × Int) × List Str
/-- an element of a slice of the call's own: the record, and the value of its fields -/
abbrev XR := RC × Value
def encR (p : XR) : List Value := [.int .i64 p.1.1.1, .int .i64 p.1.1.2.1, .int .i64 p.1.1.2.2, p.2]
def flatR (q : List XR) : List Value := q.flatMap encR
def recsR (q : List XR) : List RC := q.map Prod.fst
theorem recsR_len (q : List XR) : (recsR q).length = q.length := by simp [recsR]
theorem flatR_cons (x : XR) (q : List XR) : flatR (x :: q) = .int .i64 x.1.1.1 :: .int .i64 x.1.1.2.1 :: .int .i64 x.1.1.2.2 :: x.2 :: flatR q := by simp [flatR, encR]
theorem flatR_append (q r : List XR) : flatR (q ++ r) = flatR q ++ flatR r := by simp [flatR]
theorem flatR_snoc (q : List XR) (x : XR) : flatR (q ++ [x]) = flatR q ++ encR x := by simp [flatR]
theorem flatR_len (q : List XR) : (flatR q).length = q.length * 4 := by
  induction q with
  | nil => rfl
  | cons x l ih =>
    rw [flatR_cons]
    simp only [List.length_cons, ih]
    omega
theorem flatR_at : ∀ {q : List XR} {j : Nat} {x : XR}, q[j]? = some x → (flatR q)[j * 4]? = some (.int .i64 x.1.1.1) ∧ (flatR q)[j * 4 + 1]? = some (.int .i64 x.1.1.2.1) ∧ (flatR q)[j * 4 + 2]? = some (.int .i64 x.1.1.2.2) ∧ (flatR q)[j * 4 + 3]? = some x.2
  | [], j, x, h => by simp at h
  | y :: l, j, x, h => by
    rw [flatR_cons]
    cases j with
    | zero =>
      simp at h
      subst h
      exact ⟨rfl, rfl, rfl, rfl⟩
    | succ j =>
      have h1 : l[j]? = some x := by simpa using h
      have h2 := flatR_at h1
      rw [show (j + 1) * 4 = j * 4 + 1 + 1 + 1 + 1 by omega]
      exact h2

/-- a slice whose elements are the records of a list -/
def InRc (w : World) (a : Option Addr) (S : List RC) : Prop :=
  0 < S.length → ∃ b off, a = some ⟨b, off, none⟩ ∧ b < w.heap.size ∧ ∀ j x, S[j]? = some x → ∃ a' c', w.cell? ⟨b, off + j * 4, none⟩ = some (.int .i64 x.1.1) ∧ w.cell? ⟨b, off + j * 4 + 1, none⟩ = some (.int .i64 x.1.2.1) ∧ w.cell? ⟨b, off + j * 4 + 2, none⟩ = some (.int .i64 x.1.2.2) ∧ w.cell? ⟨b, off + j * 4 + 3, none⟩ = some (.slice a' x.2.length c') ∧ (a' = none → c' = 0) ∧ x.2.length ≤ c' ∧ InS w a' x.2
theorem InRc.below {w w' : World} {a : Option Addr} {S : List RC} (h : InRc w a S) (hb : Below w.heap.size w w') : InRc w' a S := by
  intro h0
  obtain ⟨b, off, ha, hlt, hc⟩ := h h0
  have hk := hb.block b hlt
  refine ⟨b, off, ha, Nat.lt_of_lt_of_le hlt hb.size, fun j x hj => ?_⟩
  obtain ⟨a', c', h1, h2, h2', h2'', h3, h4, h5⟩ := hc j x hj
  exact ⟨a', c', (World.cell?_of_block hk).trans h1, (World.cell?_of_block hk).trans h2, (World.cell?_of_block hk).trans h2', (World.cell?_of_block hk).trans h2'', h3, h4, h5.below hb⟩
theorem InRc.alloc {w : World} {a : Option Addr} {S : List RC} (h : InRc w a S) (o : Obj) : InRc (w.alloc o) a S := h.below ((Below.refl _ _).alloc (Nat.le_refl _) o)

/-- an argument of a law -/
def ArgRc (w : World) (a : Option Addr) (S : List RC) : Prop := InRc w a S ∧ S.length ≤ maxLen ∧ ∀ x ∈ S, x.2.length ≤ maxLen ∧ ∀ y ∈ x.2, y.length ≤ maxLen
theorem ArgRc.below {w0 w : World} {a : Option Addr} {S : List RC} (h : ArgRc w0 a S) (hb : Below w0.heap.size w0 w) : ArgRc w a S := ⟨h.1.below hb, h.2⟩
theorem argRc_of {w : World} {x : Addr} {len cap : Nat} (hl : len ≤ cap) (hm : cap ≤ maxLen) (h : ∀ i, i < len → ∃ (s k v : Int) (a' : Option Addr) (l : List Str) (c' : Nat), w.cell? (x.add (i * 4)) = some (.int .i64 s) ∧ w.cell? (x.add (i * 4 + 1)) = some (.int .i64 k) ∧ w.cell? (x.add (i * 4 + 2)) = some (.int .i64 v) ∧ w.cell? (x.add (i * 4 + 3)) = some (.slice a' l.length c') ∧ (a' = none → c' = 0) ∧ l.length ≤ c' ∧ ArgS w a' l) : ∃ L : List RC, len = L.length ∧ ArgRc w (some x) L := by
  obtain ⟨f, hf⟩ := Go.Deep.choose_lt (n := len) (p := fun i (q : (Int × Int × Int) × Option Addr × List Str × Nat) => w.cell? (x.add (i * 4)) = some (.int .i64 q.1.1) ∧ w.cell? (x.add (i * 4 + 1)) = some (.int .i64 q.1.2.1) ∧ w.cell? (x.add (i * 4 + 2)) = some (.int .i64 q.1.2.2) ∧ w.cell? (x.add (i * 4 + 3)) = some (.slice q.2.1 q.2.2.1.length q.2.2.2) ∧ (q.2.1 = none → q.2.2.2 = 0) ∧ q.2.2.1.length ≤ q.2.2.2 ∧ ArgS w q.2.1 q.2.2.1) (fun i hi => by obtain ⟨s, k, v, a', l, c', h1⟩ := h i hi; exact ⟨((s, k, v), a', l, c'), h1⟩)
  refine ⟨(List.range len).map fun i => ((f i).1, (f i).2.2.1), by simp, fun h0 => ?_, by simp; omega, fun y hy => ?_⟩
  · simp at h0
    obtain ⟨b, off, spot⟩ := x
    have hspot : spot = none := by simpa [Addr.add] using World.cell?_spot (hf 0 (by omega)).1
    subst hspot
    have hadd : ∀ j, (⟨b, off, none⟩ : Addr).add j = ⟨b, off + j, none⟩ := fun j => by unfold Addr.add; split <;> simp_all
    refine ⟨b, off, rfl, World.block_lt_of_cell? w _ (hf 0 (by omega)).1, fun j y hj => ?_⟩
    obtain ⟨hlt, he⟩ := List.getElem?_eq_some_iff.1 hj
    simp at hlt he
    obtain ⟨h1, h2, h2', h2'', h3, h4, h5⟩ := hf j hlt
    rw [hadd] at h1 h2 h2' h2''
    subst he
    exact ⟨_, _, h1, h2, h2', h2'', h3, h4, h5.1⟩
  · obtain ⟨i, hi, rfl⟩ := List.mem_map.1 hy
    exact (hf i (List.mem_range.1 hi)).2.2.2.2.2.2.2

theorem rcs_take {S : List RC} {k : Nat} {x : RC} (h : S[k]? = some x) : S.take (k + 1) = S.take k ++ [x] := by
  obtain ⟨hlt, he⟩ := List.getElem?_eq_some_iff.1 h
  rw [List.take_succ_eq_append_getElem hlt, he]
/-- the fields of the records -/
def toksRc (S : List RC) : List (List Str) := S.map Prod.snd
theorem toksRc_at {S : List RC} {j : Nat} {x : RC} (h : S[j]? = some x) : (toksRc S)[j]? = some x.2 := by simp [toksRc, h]
theorem toksRc_len (S : List RC) : (toksRc S).length = S.length := by simp [toksRc]
theorem toksRc_mem {S : List RC} {x : RC} (h : x ∈ S) : x.2 ∈ toksRc S := List.mem_map.2 ⟨x, h, rfl⟩

/-- an argument of moderate size -/
def SmRc (w : World) (a : Option Addr) (S : List RC) (c : Nat) : Prop := InRc w a S ∧ (a = none → c = 0) ∧ S.length ≤ c ∧ S.length ≤ 4000000 ∧ ∀ x ∈ S, x.2.length ≤ 4000000 ∧ ∀ y ∈ x.2, y.length ≤ 1048576
theorem SmRc.below {w w' : World} {a : Option Addr} {S : List RC} {c : Nat} (h : SmRc w a S c) (hb : Below w.heap.size w w') : SmRc w' a S c := ⟨h.1.below hb, h.2⟩
theorem SmRc.alloc {w : World} {a : Option Addr} {S : List RC} {c : Nat} (h : SmRc w a S c) (o : Obj) : SmRc (w.alloc o) a S c := ⟨h.1.alloc o, h.2⟩
/-- an element of a slice of moderate size -/
theorem SmRc.at_ {w : World} {a : Option Addr} {S : List RC} {c j : Nat} (h : SmRc w a S c) (hj : j < S.length) : ∃ (b off : Nat) (s k v : Int) (l : List Str) (a' : Option Addr) (c' : Nat), a = some ⟨b, off, none⟩ ∧ b < w.heap.size ∧ S[j]? = some ((s, k, v), l) ∧ w.cell? ⟨b, off + j * 4, none⟩ = some (.int .i64 s) ∧ w.cell? ⟨b, off + j * 4 + 1, none⟩ = some (.int .i64 k) ∧ w.cell? ⟨b, off + j * 4 + 2, none⟩ = some (.int .i64 v) ∧ w.cell? ⟨b, off + j * 4 + 3, none⟩ = some (.slice a' l.length c') ∧ Sm w a' l c' := by
  obtain ⟨b, off, ha, hlt, hc⟩ := h.1 (by omega)
  have hx := List.getElem?_eq_getElem hj
  obtain ⟨a', c', h1, h2, h2', h2'', h3, h4, h5⟩ := hc j _ hx
  obtain ⟨h6, h7⟩ := h.2.2.2.2 _ (List.mem_of_getElem? hx)
  exact ⟨b, off, _, _, _, _, a', c', ha, hlt, hx, h1, h2, h2', h2'', h5, h3, h4, h6, h7⟩

/-- a slice of the call's own, its elements' fields in other blocks of the call's own -/
structure OwnRc (w : World) (lo : Nat) (v : Value) (q : List XR) : Prop where
  out : w.ownsRow lo 37 4 v q.length (flatR q)
  row : ∀ p ∈ q, OwnS w lo p.2 p.1.2
  apart : ∀ p ∈ q, ∀ k, p.2.ownBlock = some k → v.ownBlock ≠ some k
  dis : q.Pairwise fun p r => ∀ k, p.2.ownBlock = some k → r.2.ownBlock ≠ some k
theorem info_rec : (Tryz.prog.info? 37).map (fun i => (i.zero, i.size, i.bytes)) = some (some (.agg #[.int .i64 0, .int .i64 0, .int .i64 0, .slice none 0 0]), 4, 48) := by kernel_rfl
theorem OwnRc.below {w w' : World} {lo : Nat} {v : Value} {q : List XR} (h : OwnRc w lo v q) (hb : Below w.heap.size w w') : OwnRc w' lo v q :=
  ⟨World.ownsRow.kept h.out (row := none) ⟨hb.os, hb.tape, hb.output, hb.size, fun i hi _ => hb.block i hi⟩ (by cases hv : v.ownBlock <;> simp), fun p hp => (h.row p hp).below hb, h.apart, h.dis⟩
theorem OwnRc.mono {w : World} {lo lo' : Nat} {v : Value} {q : List XR} (h : OwnRc w lo v q) (hb : lo' ≤ lo) : OwnRc w lo' v q :=
  ⟨row_mono h.out hb, fun p hp => (h.row p hp).mono hb, h.apart, h.dis⟩
theorem OwnRc.shape {w : World} {lo : Nat} {v : Value} {q : List XR} (h : OwnRc w lo v q) : ∃ a cap, v = .slice a q.length cap := by
  rcases h.out.2 with ⟨rfl, h0⟩ | ⟨g, cap, cur, rfl, _⟩
  · exact ⟨none, 0, by rw [h0]⟩
  · exact ⟨_, _, rfl⟩
theorem recsR_at {q : List XR} {j : Nat} {x : RC} (h : (recsR q)[j]? = some x) : ∃ p, q[j]? = some p ∧ p.1 = x := by
  unfold recsR at h
  rw [List.getElem?_map] at h
  cases hq : q[j]? with
  | none => rw [hq] at h; cases h
  | some p => rw [hq] at h; exact ⟨p, rfl, by injection h⟩
theorem OwnRc.inRc {w : World} {lo : Nat} {a : Option Addr} {n cap : Nat} {q : List XR} (h : OwnRc w lo (.slice a n cap) q) : InRc w a (recsR q) := by
  intro h0
  obtain ⟨a', cap', e⟩ := h.shape
  injection e with e1 e2 e3
  subst e2
  rw [recsR_len] at h0
  obtain ⟨g, rfl, _, hg, hc⟩ := rowX_at h.out h0
  refine ⟨g, 0, rfl, hg, fun j x hj => ?_⟩
  obtain ⟨p, hp, rfl⟩ := recsR_at hj
  obtain ⟨h1, h2, h3, h4⟩ := flatR_at hp
  have ho := h.row p (List.mem_of_getElem? hp)
  obtain ⟨a1, c1, e1⟩ := ho.shape
  rw [e1] at ho
  refine ⟨a1, c1, hc _ _ h1, by rw [Nat.add_assoc]; exact hc _ _ h2, by rw [Nat.add_assoc]; exact hc _ _ h3, by rw [Nat.add_assoc, hc _ _ h4, e1], ho.none_cap, ho.cap_ge, ho.inS⟩
theorem OwnRc.smRc {w : World} {lo : Nat} {a : Option Addr} {n cap : Nat} {q : List XR} {S : List RC} (h : OwnRc w lo (.slice a n cap) q) (hq : recsR q = S) (h1 : S.length ≤ 4000000) (h2 : ∀ x ∈ S, x.2.length ≤ 4000000 ∧ ∀ y ∈ x.2, y.length ≤ 1048576) : SmRc w a S cap := by
  subst hq
  obtain ⟨a', cap', e⟩ := h.shape
  injection e with e1 e2 e3
  subst e2
  exact ⟨h.inRc, rowX_none h.out, by rw [recsR_len]; exact rowX_cap h.out, h1, h2⟩
theorem OwnRc.setCell {w : World} {lo : Nat} {v : Value} {q : List XR} (h : OwnRc w lo v q) (p : Addr) (u : Value) (hp : p.block < lo) : OwnRc (w.setCell p u) lo v q :=
  ⟨row_setCell h.out p u hp, fun r hr => row_setCell (h.row r hr) p u hp, h.apart, h.dis⟩

/-- .. in blocks from lo on and below hi -/
def OwnHRc (w : World) (lo hi : Nat) (v : Value) (q : List XR) : Prop := OwnRc w lo v q ∧ (∀ k, v.ownBlock = some k → k < hi) ∧ ∀ p ∈ q, ∀ k, p.2.ownBlock = some k → k < hi
theorem OwnHRc.of {w : World} {lo : Nat} {v : Value} {q : List XR} (h : OwnRc w lo v q) : OwnHRc w lo w.heap.size v q :=
  ⟨h, fun k hk => (World.ownsRow.lt h.out k hk).2, fun p hp k hk => (World.ownsRow.lt (h.row p hp) k hk).2⟩
theorem OwnHRc.below {w w' : World} {lo hi : Nat} {v : Value} {q : List XR} (h : OwnHRc w lo hi v q) (hb : Below w.heap.size w w') : OwnHRc w' lo hi v q := ⟨h.1.below hb, h.2⟩
theorem OwnHRc.chg {w w' : World} {lo hi lo' hi' : Nat} {v : Value} {q : List XR} (h : OwnHRc w lo hi v q) (hc : Chg w w' lo' hi') (hd : hi ≤ lo' ∨ hi' ≤ lo) : OwnHRc w' lo hi v q :=
  ⟨⟨row_chg h.1.out hc fun k hk => by have := (World.ownsRow.lt h.1.out k hk).1; have := h.2.1 k hk; omega,
    fun p hp => row_chg (h.1.row p hp) hc fun k hk => by have := (World.ownsRow.lt (h.1.row p hp) k hk).1; have := h.2.2 p hp k hk; omega, h.1.apart, h.1.dis⟩, h.2⟩

/-- sizes of an argument -/
def rcz (S : List RC) : Nat := yzL (toksRc S)
theorem rc_len {S : List RC} (hz : rcz S ≤ 1048576) : S.length ≤ 4000000 := by have := yzL_len (toksRc S); unfold rcz at hz; rw [toksRc_len] at this; omega
theorem rc_mem {S : List RC} (hz : rcz S ≤ 1048576) : ∀ x ∈ S, x.2.length ≤ 4000000 ∧ ∀ y ∈ x.2, y.length ≤ 1048576 := fun x hx => by
  have h1 := yzL_mem (toksRc_mem hx)
  have h2 := szL_len x.2
  unfold rcz at hz
  exact ⟨by omega, fun y hy => by have := szL_mem hy; omega⟩
/-- how many values are marked -/
def rcn (S : List RC) : Nat := 3 * S.length + (toksRc S).flatten.length
theorem rcn_le {S : List RC} (h : rcz S ≤ 1048576) : rcn S ≤ 3145728 := by
  have h2 := flat_sum (toksRc S)
  have h3 : yzL (toksRc S) = S.length + ((toksRc S).map szL).sum := by unfold yzL yzT; rw [List.take_length, toksRc_len]
  unfold rcn
  unfold rcz at h
  omega
/-- a slice of records of the call's own is handed back -/
def GivesRc (w : World) (S : List RC) (e : Ending) (w' : World) : Prop :=
  ∃ a cap q, e = .returned (.slice a S.length cap) ∧ recsR q = S ∧ OwnRc w' w.heap.size (.slice a S.length cap) q ∧ Below w.heap.size w w'

end Go.Proofs.YtebddnjccmaimaaGreatDoor

/-
  Slices of records: what the laws' own szRecordS, toRecordS, eqRecordS and markRecordS do. By an AI agent.
-/
namespace Go.Proofs.YtebddnjccmaimaaGreatDoor
open Go.RowKit
set_option linter.unusedVariables false

/-! ### sizes -/
set_option maxRecDepth 100000 in
theorem rsz_one (s k v : Int) (a : Option Addr) (cap : Nat) (l : List Str) (left : Nat) (r : Int) (w : World) (hr : szR l left = r) (h : ArgS w a l) (hleft : left ≤ 1048576) :
    Calls Tryz.prog 23 #[.agg #[.int .i64 s, .int .i64 k, .int .i64 v, .slice a l.length cap], .int .i64 left] w fun e w' => e = .returned (.int .i64 r) ∧ Below w.heap.size w w' := by
  have hc : r = -1 ∨ (0 ≤ r ∧ r ≤ 1048576) := by
    rcases szR_cases l left with ⟨h1, h2⟩ | ⟨h1, h2⟩
    · exact .inl (by rw [← hr, h1])
    · exact .inr (by rw [← hr, h1]; omega)
  have HC := Lib.hid (fun (W : World) (hW : Below w.heap.size w W) => (sz_any a cap l left W h.2.1 (h.1.below hW) h.2.2 hleft).mono fun e w' h => (show e = .returned (.int .i64 r) ∧ w' = W from by rw [← hr]; exact h))
  clear hr h
  rcases hc with rfl | ⟨hc1, hc2⟩
  all_goals
    go_enter Tryz.func23, Tryz.ntmps23
    go_wp2_with (go_at_call 63; (refine (HC.out _ ((Below.refl _ _).alloc (Nat.le_refl _) _)).mono ?_); rintro e w' ⟨rfl, rfl⟩)
    go_ret
    exact ⟨rfl, (Below.refl _ _).alloc (Nat.le_refl _) _⟩

set_option maxRecDepth 100000 in
theorem rsz_any (a : Option Addr) (cap : Nat) (S : List RC) (left : Nat) (w : World) (h : ArgRc w a S) (hleft : left ≤ 1048576) :
    Calls Tryz.prog 31 #[.slice a S.length cap, .int .i64 left] w fun e w' => e = .returned (.int .i64 (yzR (toksRc S) left)) ∧ Below w.heap.size w w' := by
  obtain ⟨hin, hl, hx⟩ := h
  unfold maxLen at hl
  have HX := Lib.hid hx
  have HIN := Lib.hid hin
  have HTL := Lib.hid (toksRc_len S)
  clear hx hin
  by_cases h1 : S.length ≤ left
  · go_enter Tryz.func31, Tryz.ntmps31
    go_wp2
    go_loopw [1, 5] (fun r i wr => ∃ k m : Nat, k ≤ S.length ∧ i = .int .i64 k ∧ r = .int .i64 m ∧ m ≤ left ∧ m + yzT (toksRc S) k = left ∧ Below w.heap.size w wr) (fun _ i _ => S.length - (intOf i).toNat)
    case atStart => exact ⟨0, left - S.length, Nat.zero_le _, rfl, by rw [Int.ofNat_sub h1], by omega, by have := HTL.out; simp [yzT]; omega, Below.refl _ _⟩
    case round =>
      obtain ⟨k, m, hk, rfl, rfl, hm, hs, hbl⟩ := hrel
      have HS := Lib.hid hs
      have HBL := Lib.hid hbl
      clear hs hbl
      by_cases hlt : k < S.length
      · obtain ⟨b, off, rfl, hb, hc⟩ := HIN.out (by omega)
        have hj := List.getElem?_eq_getElem hlt
        obtain ⟨a', c', p0, p1, p2, p3, _, _, hin'⟩ := hc k _ hj
        have hcell0 : wr.cell? ⟨b, off + k * 4, none⟩ = some (.int .i64 S[k].1.1) := by rw [HBL.out.cell (p := ⟨b, off + k * 4, none⟩) hb]; exact p0
        have hcell1 : wr.cell? ⟨b, off + k * 4 + 1, none⟩ = some (.int .i64 S[k].1.2.1) := by rw [HBL.out.cell (p := ⟨b, off + k * 4 + 1, none⟩) hb]; exact p1
        have hcell2 : wr.cell? ⟨b, off + k * 4 + 2, none⟩ = some (.int .i64 S[k].1.2.2) := by rw [HBL.out.cell (p := ⟨b, off + k * 4 + 2, none⟩) hb]; exact p2
        have hcell3 : wr.cell? ⟨b, off + k * 4 + 3, none⟩ = some (.slice a' S[k].2.length c') := by rw [HBL.out.cell (p := ⟨b, off + k * 4 + 3, none⟩) hb]; exact p3
        have HT := Lib.hid (yzT_succ (toksRc_at hj))
        have HT2 := Lib.hid (yzT_le (ls := toksRc S) (show k + 1 ≤ (toksRc S).length by have := HTL.out; omega))
        obtain ⟨q1, q2⟩ := HX.out _ (List.mem_of_getElem? hj)
        obtain ⟨r, hr⟩ : ∃ r, szR S[k].2 m = r := ⟨_, rfl⟩
        have HC := Lib.hid (fun (W : World) (hW : Below w.heap.size w W) => rsz_one S[k].1.1 S[k].1.2.1 S[k].1.2.2 a' c' S[k].2 m r W hr ⟨hin'.below hW, q1, q2⟩ (by omega))
        have hcs := szR_cases S[k].2 m
        rw [hr] at hcs
        generalize S[k].1.1 = x0 at hcell0 HC
        generalize S[k].1.2.1 = x1 at hcell1 HC
        generalize S[k].1.2.2 = x2 at hcell2 HC
        generalize S[k].2 = l at hcell3 HT HC hcs
        clear hc hj hin' q1 q2 p0 p1 p2 p3 hr
        rcases hcs with ⟨rfl, hn⟩ | ⟨rfl, hn⟩
        · have HN := Lib.hid hn
          go_wp2_with (go_at_call 23; (refine (HC.out _ HBL.out).mono ?_); rintro e w1 ⟨rfl, hb1⟩; have HB1 := Lib.hid hb1; clear hb1)
          go_ret
          exact ⟨ret_int (by rw [yzR_no (by have := HS.out; have := HT.out; have := HT2.out; have := HTL.out; have := HN.out; unfold yzL; omega)]), HBL.out.trans (HB1.out.mono HBL.out.size)⟩
        · have HN := Lib.hid hn
          have hml : ((m - szL l : Nat) : Int) ≤ 1048576 := by omega
          obtain ⟨d, hd⟩ : ∃ d, m - szL l = d := ⟨_, rfl⟩
          have HD := Lib.hid hd
          rw [hd] at HC hml
          clear hn hd
          go_wp2_with (go_at_call 23; (refine (HC.out _ HBL.out).mono ?_); rintro e w1 ⟨rfl, hb1⟩; have HB1 := Lib.hid hb1; clear hb1)
          go_roundw
          case rel => exact ⟨k + 1, d, by omega, by go_num, rfl, by have := HD.out; omega, by have := HS.out; have := HT.out; have := HN.out; have := HD.out; omega, HBL.out.trans (HB1.out.mono HBL.out.size)⟩
          case measure => simp [intOf]; omega
      · obtain rfl : k = S.length := by omega
        go_wp2
        go_ret
        have e : yzT (toksRc S) S.length = yzL (toksRc S) := by unfold yzL; rw [HTL.out]
        exact ⟨ret_int (by rw [yzR_yes (by have := HS.out; omega)]; have := HS.out; omega), HBL.out⟩
  · go_enter Tryz.func31, Tryz.ntmps31
    go_wp2
    go_ret
    exact ⟨ret_int (by rw [yzR_no (by have := yzL_len (toksRc S); have := HTL.out; omega)]), Below.refl _ _⟩

theorem rsz_no {w0 : World} (a : Option Addr) (cap : Nat) (S : List RC) (left : Nat) (w : World) (h : ArgRc w0 a S) (hb : Below w0.heap.size w0 w) (hleft : left ≤ 1048576) (hn : ¬ rcz S ≤ left) :
    Calls Tryz.prog 31 #[.slice a S.length cap, .int .i64 left] w fun e w' => e = .returned (.int .i64 (-1)) ∧ Below w.heap.size w w' :=
  (rsz_any a cap S left w (h.below hb) hleft).mono fun e w' ⟨he, hw⟩ => ⟨by rw [he, yzR_no hn], hw⟩
theorem rsz_yes {w0 : World} (a : Option Addr) (cap : Nat) (S : List RC) (left r : Nat) (w : World) (h : ArgRc w0 a S) (hb : Below w0.heap.size w0 w) (hleft : left ≤ 1048576) (hr : r + rcz S = left) :
    Calls Tryz.prog 31 #[.slice a S.length cap, .int .i64 left] w fun e w' => e = .returned (.int .i64 r) ∧ Below w.heap.size w w' :=
  (rsz_any a cap S left w (h.below hb) hleft).mono fun e w' ⟨he, hw⟩ => ⟨by rw [he, yzR_yes (by unfold rcz at hr; omega)]; congr 3; unfold rcz at hr; omega, hw⟩

theorem gap4_at {p : List Value} {k : Nat} {y0 y1 y2 y3 : Value} {r : List Value} (h : p.length = k * 4) : (p ++ y0 :: y1 :: y2 :: y3 :: r)[k * 4]? = some y0 ∧ (p ++ y0 :: y1 :: y2 :: y3 :: r)[k * 4 + 1]? = some y1 ∧ (p ++ y0 :: y1 :: y2 :: y3 :: r)[k * 4 + 2]? = some y2 ∧ (p ++ y0 :: y1 :: y2 :: y3 :: r)[k * 4 + 3]? = some y3 := by
  refine ⟨?_, ?_, ?_, ?_⟩
  · rw [List.getElem?_append_right (by omega), h, Nat.sub_self]; rfl
  · rw [List.getElem?_append_right (by omega), h, show k * 4 + 1 - k * 4 = 1 by omega]; rfl
  · rw [List.getElem?_append_right (by omega), h, show k * 4 + 2 - k * 4 = 2 by omega]; rfl
  · rw [List.getElem?_append_right (by omega), h, show k * 4 + 3 - k * 4 = 3 by omega]; rfl
theorem gap4_set {p : List Value} {k : Nat} {y0 y1 y2 y3 u0 u1 u2 u3 : Value} {r : List Value} (h : p.length = k * 4) : ((((p ++ y0 :: y1 :: y2 :: y3 :: r).set (k * 4) u0).set (k * 4 + 1) u1).set (k * 4 + 2) u2).set (k * 4 + 3) u3 = (p ++ [u0, u1, u2, u3]) ++ r := by
  rw [List.set_append_right _ _ (by omega), h, Nat.sub_self, List.set_append_right _ _ (by omega), h, show k * 4 + 1 - k * 4 = 1 by omega, List.set_append_right _ _ (by omega), h, show k * 4 + 2 - k * 4 = 2 by omega, List.set_append_right _ _ (by omega), h, show k * 4 + 3 - k * 4 = 3 by omega]
  simp
theorem gap4_rest {p rest : List Value} {k n : Nat} (h : (p ++ rest).length = n * 4) (hp : p.length = k * 4) (hk : k < n) : ∃ y0 y1 y2 y3 r, rest = y0 :: y1 :: y2 :: y3 :: r := by
  rw [List.length_append, hp] at h
  match rest, h with
  | [], h => simp at h; omega
  | [_], h => simp at h; omega
  | [_, _], h => simp at h; omega
  | [_, _, _], h => simp at h; omega
  | y0 :: y1 :: y2 :: y3 :: r, _ => exact ⟨y0, y1, y2, y3, r, rfl⟩

set_option maxRecDepth 100000 in
set_option maxHeartbeats 2000000 in
theorem rto_any (a : Option Addr) (cap : Nat) (S : List RC) (w : World) (hz : rcz S ≤ 1048576) (hin : InRc w a S) :
    Calls Tryz.prog 32 #[.slice a S.length cap] w (GivesRc w S) := by
  obtain ⟨i0, hi, hz0, hz1, hz2⟩ := info_parts info_rec
  have HIN := Lib.hid hin
  have HZ := Lib.hid (rc_mem hz)
  have hl := rc_len hz
  clear hin hz
  go_enter Tryz.func32, Tryz.ntmps32
  go_wp2_with (at_make; refine wpList_make_full _ rfl _ _ 24 rfl w.heap.size 37 i0 _ 4 Tryz.underlying24 hi hz0 hz1 .i64 .i64 _ _ S.length rfl rfl rfl rfl (by rw [hz2]; omega) (by unfold maxLen; omega) (Nat.le_refl _) ?_; intro w1 hrow hg)
  have HROW := Lib.hid hrow
  have HB1 := Lib.hid ((Below.refl w.heap.size w).grown hg (Nat.le_refl _) (fun k hk => by cases hk))
  have HLT := Lib.hid (World.ownsRow.lt hrow w.heap.size rfl).2
  clear hrow hg
  go_loopw [4] (fun i wr => ∃ (k : Nat) (q : List XR) (rest : List Value), k ≤ S.length ∧ i = .int .i64 k ∧ recsR q = S.take k ∧ wr.ownsRow w.heap.size 37 4 (.slice (some ⟨w.heap.size, 0, none⟩) S.length S.length) S.length (flatR q ++ rest) ∧
    (∀ p ∈ q, OwnS wr (w.heap.size + 1) p.2 p.1.2) ∧ (q.Pairwise fun p r => ∀ k, p.2.ownBlock = some k → r.2.ownBlock ≠ some k) ∧ Below w.heap.size w wr ∧ w.heap.size < wr.heap.size) (fun i _ => S.length - (intOf i).toNat)
  case atStart => exact ⟨0, [], _, Nat.zero_le _, rfl, rfl, HROW.out, (fun p h => by cases h), List.Pairwise.nil, HB1.out, HLT.out⟩
  case round =>
    obtain ⟨k, q, rest, hk, rfl, hq, hrow, hrows, hdis, hb, hws⟩ := hrel
    by_cases hlt : k < S.length
    · obtain ⟨b, off, rfl, hbw, hc⟩ := HIN.out (by omega)
      have hj := List.getElem?_eq_getElem hlt
      obtain ⟨a', c', p0, p1, p2, p3, _, _, hin'⟩ := hc k _ hj
      have hcell0 : wr.cell? ⟨b, off + k * 4, none⟩ = some (.int .i64 S[k].1.1) := by rw [hb.cell (p := ⟨b, off + k * 4, none⟩) hbw]; exact p0
      have hcell1 : wr.cell? ⟨b, off + k * 4 + 1, none⟩ = some (.int .i64 S[k].1.2.1) := by rw [hb.cell (p := ⟨b, off + k * 4 + 1, none⟩) hbw]; exact p1
      have hcell2 : wr.cell? ⟨b, off + k * 4 + 2, none⟩ = some (.int .i64 S[k].1.2.2) := by rw [hb.cell (p := ⟨b, off + k * 4 + 2, none⟩) hbw]; exact p2
      have hcell3 : wr.cell? ⟨b, off + k * 4 + 3, none⟩ = some (.slice a' S[k].2.length c') := by rw [hb.cell (p := ⟨b, off + k * 4 + 3, none⟩) hbw]; exact p3
      have HC := Lib.hid (tor_any S[k].1.1 S[k].1.2.1 S[k].1.2.2 a' c' S[k].2 wr (HZ.out _ (List.mem_of_getElem? hj)).1 (hin'.below hb))
      have HJ := Lib.hid (show S[k]? = some ((S[k].1.1, S[k].1.2.1, S[k].1.2.2), S[k].2) from hj)
      generalize S[k].1.1 = x0 at hcell0 HC HJ
      generalize S[k].1.2.1 = x1 at hcell1 HC HJ
      generalize S[k].1.2.2 = x2 at hcell2 HC HJ
      generalize S[k].2 = l at hcell3 HC HJ
      have HROW2 := Lib.hid hrow
      have HROWS := Lib.hid hrows
      have HDIS := Lib.hid hdis
      have HB := Lib.hid hb
      have HQ := Lib.hid hq
      have HWS := Lib.hid hws
      have hql : q.length = k := by rw [← recsR_len, hq, List.length_take]; omega
      have HQL := Lib.hid (show (flatR q).length = k * 4 by rw [flatR_len, hql])
      clear hc hj hin' p0 p1 p2 p3 hrow hrows hdis hb hq hws hbw hql
      go_wp2_with (go_at_call 25; (refine HC.out.mono ?_); rintro e w2 ⟨a2, c2, rfl, ho2, hb2⟩; refine Hid.out ?_)
      refine Lib.hid ?_
      have hrow2 := World.ownsRow.kept HROW2.out (row := none) ⟨hb2.os, hb2.tape, hb2.output, hb2.size, fun i hi _ => hb2.block i hi⟩ (by simp [Value.ownBlock])
      obtain ⟨y0, y1, y2, y3, r2, rfl⟩ := gap4_rest hrow2.1 HQL.out hlt
      have q0 := hrow2.cellAt (k * 4) (by omega)
      have q1 := hrow2.cellAt (k * 4 + 1) (by omega)
      have q2 := hrow2.cellAt (k * 4 + 2) (by omega)
      have q3 := hrow2.cellAt (k * 4 + 3) (by omega)
      rw [(gap4_at HQL.out).1] at q0
      rw [(gap4_at HQL.out).2.1] at q1
      rw [(gap4_at HQL.out).2.2.1] at q2
      rw [(gap4_at HQL.out).2.2.2] at q3
      have f0 := hrow2.frozenAt (k * 4)
      have f1 := hrow2.frozenAt (k * 4 + 1)
      have f2 := hrow2.frozenAt (k * 4 + 2)
      have f3 := hrow2.frozenAt (k * 4 + 3)
      have HN := Lib.hid (hrow2.stored (k * 4) (.int .i64 x0))
      have HN1 := Lib.hid (HN.out.1.stored (k * 4 + 1) (.int .i64 x1))
      have HN0 := Lib.hid (HN1.out.1.stored (k * 4 + 2) (.int .i64 x2))
      have HN2 := Lib.hid (HN0.out.1.stored (k * 4 + 3) (.slice a2 l.length c2))
      have HO2 := Lib.hid ho2
      have HB2 := Lib.hid hb2
      clear hb2 hrow2 ho2
      go_wp2
      go_roundw
      case rel =>
        have hlow : ∀ p ∈ q, ∀ k', p.2.ownBlock = some k' → w.heap.size + 1 ≤ k' ∧ k' < wr.heap.size := fun p hp k' hk' => World.ownsRow.lt (HROWS.out p hp) k' hk'
        have hnew : ∀ k', (Value.slice a2 l.length c2).ownBlock = some k' → wr.heap.size ≤ k' := fun k' hk' => (World.ownsRow.lt HO2.out k' hk').1
        have hws := HWS.out
        have hgg := grown_trans' (grown_trans' (grown_trans' HN.out.2 HN1.out.2) HN0.out.2) HN2.out.2
        refine ⟨k + 1, q ++ [(((x0, x1, x2), l), .slice a2 l.length c2)], r2, by omega, by go_num, ?_, ?_, ?_, ?_, ?_, ?_⟩
        · rw [rcs_take HJ.out, ← HQ.out]; simp [recsR]
        · have h := HN2.out.1
          rw [gap4_set HQL.out] at h
          rw [flatR_snoc]
          exact h
        · intro p hp
          rcases List.mem_append.1 hp with h | h
          · exact row_kept ((HROWS.out p h).below HB2.out) hgg fun k' hk' => by have := hlow p h k' hk'; omega
          · simp at h
            subst h
            exact row_kept (HO2.out.mono (by omega)) hgg fun k' hk' => by have := hnew k' hk'; omega
        · rw [List.pairwise_append]
          refine ⟨HDIS.out, by simp, fun p hp r hr k' hk' e => ?_⟩
          simp at hr
          subst hr
          have := hnew k' e
          have := hlow p hp k' hk'
          omega
        · exact (HB.out.trans (HB2.out.mono HB.out.size)).grown hgg (Nat.le_trans HB.out.size HB2.out.size) (fun j hj => by cases hj; exact Nat.le_refl _)
        · exact Nat.lt_of_lt_of_le hws (Nat.le_trans HB2.out.size hgg.size)
      case measure => simp [intOf]; omega
    · obtain rfl : k = S.length := by omega
      have HROW2 := Lib.hid hrow
      have HROWS := Lib.hid hrows
      have HDIS := Lib.hid hdis
      clear hrow hrows hdis
      go_wp2
      go_ret
      have h := HROW2.out
      rw [List.take_length] at hq
      have hql : q.length = S.length := by rw [← recsR_len, hq]
      have h1 := h.1
      rw [List.length_append, flatR_len, hql] at h1
      obtain rfl : rest = [] := List.eq_nil_of_length_eq_zero (by omega)
      rw [List.append_nil, ← hql] at h
      refine ⟨_, _, q, rfl, hq, ⟨by rw [← hql]; exact h, fun p hp => (HROWS.out p hp).mono (by omega), fun p hp k' hk' e => ?_, HDIS.out⟩, hb⟩
      have h4 := (World.ownsRow.lt (HROWS.out p hp) k' hk').1
      simp [Value.ownBlock] at e
      omega

/-! ### two that are the same -/
set_option maxRecDepth 100000 in
theorem req_same (a1 a2 : Option Addr) (c1 c2 : Nat) (S : List RC) (w : World) (hl : S.length ≤ 3900000) (hx : ∀ x ∈ S, x.2.length ≤ 3900000) (h1 : InRc w a1 S) (h2 : InRc w a2 S) :
    Calls Tryz.prog 34 #[.slice a1 S.length c1, .slice a2 S.length c2] w fun e w' => e = .returned (.bool true) ∧ Below w.heap.size w w' := by
  have H1 := Lib.hid h1
  have H2 := Lib.hid h2
  have HX := Lib.hid hx
  clear h1 h2 hx
  go_enter Tryz.func34, Tryz.ntmps34
  go_wp2
  go_loopw [5] (fun i wr => ∃ k : Nat, k ≤ S.length ∧ i = .int .i64 k ∧ Below w.heap.size w wr) (fun i _ => S.length - (intOf i).toNat)
  case atStart => exact ⟨0, Nat.zero_le _, rfl, Below.refl _ _⟩
  case round =>
    obtain ⟨k, hk, rfl, hb⟩ := hrel
    have HB := Lib.hid hb
    clear hb
    by_cases hlt : k < S.length
    · obtain ⟨b1, o1, rfl, hb1, hc1⟩ := H1.out (by omega)
      obtain ⟨b2, o2, rfl, hb2, hc2⟩ := H2.out (by omega)
      have hj := List.getElem?_eq_getElem hlt
      obtain ⟨a', c', p0, p1, p2, p3, _, _, p4⟩ := hc1 k _ hj
      obtain ⟨a'', c'', q0, q1, q2, q3, _, _, q4⟩ := hc2 k _ hj
      have g0 : wr.cell? ⟨b1, o1 + k * 4, none⟩ = some (.int .i64 S[k].1.1) := by rw [HB.out.cell (p := ⟨b1, o1 + k * 4, none⟩) hb1]; exact p0
      have g1 : wr.cell? ⟨b1, o1 + k * 4 + 1, none⟩ = some (.int .i64 S[k].1.2.1) := by rw [HB.out.cell (p := ⟨b1, o1 + k * 4 + 1, none⟩) hb1]; exact p1
      have g2 : wr.cell? ⟨b1, o1 + k * 4 + 2, none⟩ = some (.int .i64 S[k].1.2.2) := by rw [HB.out.cell (p := ⟨b1, o1 + k * 4 + 2, none⟩) hb1]; exact p2
      have g3 : wr.cell? ⟨b1, o1 + k * 4 + 3, none⟩ = some (.slice a' S[k].2.length c') := by rw [HB.out.cell (p := ⟨b1, o1 + k * 4 + 3, none⟩) hb1]; exact p3
      have g4 : wr.cell? ⟨b2, o2 + k * 4, none⟩ = some (.int .i64 S[k].1.1) := by rw [HB.out.cell (p := ⟨b2, o2 + k * 4, none⟩) hb2]; exact q0
      have g5 : wr.cell? ⟨b2, o2 + k * 4 + 1, none⟩ = some (.int .i64 S[k].1.2.1) := by rw [HB.out.cell (p := ⟨b2, o2 + k * 4 + 1, none⟩) hb2]; exact q1
      have g6 : wr.cell? ⟨b2, o2 + k * 4 + 2, none⟩ = some (.int .i64 S[k].1.2.2) := by rw [HB.out.cell (p := ⟨b2, o2 + k * 4 + 2, none⟩) hb2]; exact q2
      have g7 : wr.cell? ⟨b2, o2 + k * 4 + 3, none⟩ = some (.slice a'' S[k].2.length c'') := by rw [HB.out.cell (p := ⟨b2, o2 + k * 4 + 3, none⟩) hb2]; exact q3
      have HM := Lib.hid (fun (W : World) (hW : Below w.heap.size w W) => eqr_same S[k].1.1 S[k].1.2.1 S[k].1.2.2 a' a'' c' c'' S[k].2 W (by have := HX.out _ (List.mem_of_getElem? hj); unfold maxLen; omega) (p4.below hW) (q4.below hW))
      generalize S[k].1.1 = x0 at g0 g4 HM
      generalize S[k].1.2.1 = x1 at g1 g5 HM
      generalize S[k].1.2.2 = x2 at g2 g6 HM
      generalize S[k].2 = l at g3 g7 HM
      clear hc1 hc2 hj p0 p1 p2 p3 p4 q0 q1 q2 q3 q4 hb1 hb2
      go_wp2
      go_region_with (go_at_call 27; refine (HM.out _ (HB.out.drew)).mono ?_; rintro e w1 ⟨rfl, hb1⟩; have HB1 := Lib.hid hb1; clear hb1)
      all_goals go_wp2
      all_goals go_roundw
      all_goals first
        | (case rel => exact ⟨k + 1, by omega, by go_num, (HB.out.drew).trans (HB1.out.mono HB.out.size)⟩)
        | skip
      all_goals (simp [intOf]; omega)
    · obtain rfl : k = S.length := by omega
      go_wp2
      go_ret
      exact ⟨rfl, HB.out⟩

end Go.Proofs.YtebddnjccmaimaaGreatDoor

/-
  Slices of records: what the laws' own markRecordS writes. By an AI agent.
-/
namespace Go.Proofs.YtebddnjccmaimaaGreatDoor
open Go.RowKit
set_option linter.unusedVariables false

theorem flatR_mid (q1 q2 : List XR) (p : XR) : flatR (q1 ++ p :: q2) = flatR q1 ++ (encR p ++ flatR q2) := by rw [flatR_append]; simp [flatR]
theorem disR_map {q : List XR} : (q.Pairwise fun p r => ∀ k, p.2.ownBlock = some k → r.2.ownBlock ≠ some k) ↔ ((q.map Prod.snd).Pairwise fun u z => ∀ k, u.ownBlock = some k → z.ownBlock ≠ some k) := by rw [List.pairwise_map]
/-- another number is stored -/
theorem OwnRc.sethead {w : World} {lo g n cap : Nat} {q1 q2 : List XR} {p : XR} (h : OwnRc w lo (.slice (some ⟨g, 0, none⟩) n cap) (q1 ++ p :: q2)) (m i : Nat) (u : Value) (hd : Int × Int × Int) (hm : m = q1.length * 4 + i) (hi : i < 4) (hs : (encR p).set i u = encR ((hd, p.1.2), p.2)) :
    OwnRc (w.setCell ⟨g, m, none⟩ u) lo (.slice (some ⟨g, 0, none⟩) n cap) (q1 ++ ((hd, p.1.2), p.2) :: q2) := by
  subst hm
  have hon := h.out
  obtain ⟨a9, cap9, e9⟩ := h.shape
  injection e9 with e91 e92 e93
  rw [← e92] at hon
  have hst := hon.stored (q1.length * 4 + i) u
  have hne : ∀ r ∈ q1 ++ p :: q2, ∀ k, some g = some k → r.2.ownBlock ≠ some k := fun r hr k hk e => h.apart r hr k e (by rw [← hk]; rfl)
  have hmm : ∀ r ∈ q1 ++ ((hd, p.1.2), p.2) :: q2, ∃ r' ∈ q1 ++ p :: q2, r'.2 = r.2 ∧ r'.1.2 = r.1.2 := fun r hr => by
    rcases List.mem_append.1 hr with h1 | h1
    · exact ⟨r, List.mem_append_left _ h1, rfl, rfl⟩
    · rcases List.mem_cons.1 h1 with rfl | h1
      · exact ⟨p, List.mem_append_right _ (List.mem_cons_self ..), rfl, rfl⟩
      · exact ⟨r, List.mem_append_right _ (List.mem_cons_of_mem _ h1), rfl, rfl⟩
  refine ⟨?_, fun r hr => ?_, fun r hr k hk => ?_, ?_⟩
  · have h1 := hst.1
    rw [flatR_mid, List.set_append_right _ _ (by rw [flatR_len]; omega), flatR_len, show q1.length * 4 + i - q1.length * 4 = i by omega, List.set_append_left _ _ (by simp [encR]; omega), hs] at h1
    rw [flatR_mid]
    have hlen : (q1 ++ ((hd, p.1.2), p.2) :: q2).length = n := by rw [e92]; simp
    rw [hlen]
    exact h1
  · obtain ⟨r', h1, h2, h3⟩ := hmm r hr
    rw [← h2, ← h3]
    exact row_keptO (h.row r' h1) hst.2 (hne r' h1)
  · obtain ⟨r', h1, h2, h3⟩ := hmm r hr
    exact h.apart r' h1 k (by rw [h2]; exact hk)
  · rw [disR_map]
    have := disR_map.1 h.dis
    simpa using this
/-- other fields of as many are stored -/
theorem OwnRc.setfld {w w' : World} {lo : Nat} {v : Value} {q1 q2 : List XR} {p : XR} {l : List Str} (h : OwnRc w lo v (q1 ++ p :: q2)) (hg : w.grownBy w' p.2.ownBlock) (ho : OwnS w' lo p.2 l) : OwnRc w' lo v (q1 ++ ((p.1.1, l), p.2) :: q2) := by
  have hp : p ∈ q1 ++ p :: q2 := List.mem_append_right _ (List.mem_cons_self ..)
  have hd := List.pairwise_append.1 h.dis
  have hd2 := List.pairwise_cons.1 hd.2.1
  refine ⟨?_, fun r hr => ?_, fun r hr k hk => ?_, ?_⟩
  · have h1 := row_keptO h.out hg (fun k hk => h.apart p hp k hk)
    rw [flatR_mid] at h1
    rw [flatR_mid]
    simpa [encR] using h1
  · rcases List.mem_append.1 hr with h1 | h1
    · exact row_keptO (h.row r (List.mem_append_left _ h1)) hg (fun k hk e => hd.2.2 r h1 p (List.mem_cons_self ..) k e hk)
    · rcases List.mem_cons.1 h1 with rfl | h1
      · exact ho
      · exact row_keptO (h.row r (List.mem_append_right _ (List.mem_cons_of_mem _ h1))) hg (fun k hk e => hd2.1 r h1 k hk e)
  · rcases List.mem_append.1 hr with h1 | h1
    · exact h.apart r (List.mem_append_left _ h1) k hk
    · rcases List.mem_cons.1 h1 with rfl | h1
      · exact h.apart p hp k hk
      · exact h.apart r (List.mem_append_right _ (List.mem_cons_of_mem _ h1)) k hk
  · rw [disR_map]
    have := disR_map.1 h.dis
    simpa using this
theorem OwnHRc.mid {w w' : World} {lo hi : Nat} {v : Value} {q1 q2 : List XR} {p : XR} {x : RC} (h : OwnHRc w lo hi v (q1 ++ p :: q2)) (ho : OwnRc w' lo v (q1 ++ (x, p.2) :: q2)) : OwnHRc w' lo hi v (q1 ++ (x, p.2) :: q2) :=
  ⟨ho, h.2.1, fun r hr k hk => by
    rcases List.mem_append.1 hr with h1 | h1
    · exact h.2.2 r (List.mem_append_left _ h1) k hk
    · rcases List.mem_cons.1 h1 with rfl | h1
      · exact h.2.2 p (List.mem_append_right _ (List.mem_cons_self ..)) k hk
      · exact h.2.2 r (List.mem_append_right _ (List.mem_cons_of_mem _ h1)) k hk⟩

/-- the numbers that are given to the first k records -/
def rcT (q : List XR) (k : Nat) : Nat := 3 * k + ((q.take k).map fun p => p.1.2.length).sum
theorem rcT_succ {q : List XR} {k : Nat} {p : XR} (h : q[k]? = some p) : rcT q (k + 1) = rcT q k + 3 + p.1.2.length := by
  unfold rcT
  obtain ⟨hlt, he⟩ := List.getElem?_eq_some_iff.1 h
  rw [List.take_succ_eq_append_getElem hlt, he]
  simp
  omega
theorem rcT_le {q : List XR} {k : Nat} (hk : k ≤ q.length) : rcT q k ≤ rcT q q.length := by
  obtain ⟨d, hd⟩ : ∃ d, q.length = k + d := ⟨q.length - k, by omega⟩
  unfold rcT
  rw [List.take_length]
  have e : (q.map fun p => p.1.2.length).sum = ((q.take k).map fun p => p.1.2.length).sum + ((q.drop k).map fun p => p.1.2.length).sum := by
    rw [← List.sum_append, ← List.map_append, List.take_append_drop]
  omega
theorem rcT_all (q : List XR) : rcT q q.length = rcn (recsR q) := by
  unfold rcT rcn
  rw [List.take_length, recsR_len]
  congr 1
  induction q with
  | nil => rfl
  | cons p q ih => simp only [List.map_cons, List.sum_cons, toksRc, recsR, List.flatten_cons, List.length_append] at ih ⊢; rw [ih]
theorem xr_drop {q : List XR} {k : Nat} {p : XR} (h : q[k]? = some p) : q.drop k = p :: q.drop (k + 1) := by
  obtain ⟨hlt, he⟩ := List.getElem?_eq_some_iff.1 h
  rw [List.drop_eq_getElem_cons hlt, he]

set_option maxRecDepth 100000 in
set_option maxHeartbeats 3200000 in
theorem rmark_q (lo hi : Nat) (a : Option Addr) (cap : Nat) (q : List XR) (k0 : Nat) (w : World) (hk0 : 0 < k0) (hn : k0 + rcT q q.length ≤ 4000000) (hown : OwnHRc w lo hi (.slice a q.length cap) q) :
    Calls Tryz.prog 35 #[.slice a q.length cap, .int .i64 k0] w fun e w' => e = .returned (.int .i64 ((k0 + rcT q q.length : Nat) : Int)) ∧ Chg w w' lo hi := by
  have HOWN := Lib.hid hown
  have HN := Lib.hid (fun j (hj : j ≤ q.length) => show k0 + rcT q j ≤ 4000000 by have := rcT_le hj; omega)
  have hql : q.length ≤ 4000000 := by have : rcT q q.length = 3 * q.length + _ := rfl; omega
  clear hown hn
  go_enter Tryz.func35, Tryz.ntmps35
  go_wp2
  go_loopw [1, 5] (fun kk i wr => ∃ (k : Nat) (q1 : List XR), k ≤ q.length ∧ i = .int .i64 k ∧ kk = .int .i64 ((k0 + rcT q k : Nat) : Int) ∧ q1.length = k ∧ OwnHRc wr lo hi (.slice a q.length cap) (q1 ++ q.drop k) ∧ Chg w wr lo hi) (fun _ i _ => q.length - (intOf i).toNat)
  case atStart => exact ⟨0, [], Nat.zero_le _, rfl, by simp [rcT], rfl, by simpa using HOWN.out, Chg.refl _ _ _⟩
  case round =>
    obtain ⟨k, q1, hk, rfl, rfl, hkl, hox, hch⟩ := hrel
    have HCH := Lib.hid hch
    clear hch
    by_cases hlt : k < q.length
    · have hj := List.getElem?_eq_getElem hlt
      have HJ := Lib.hid (show q[k]? = some q[k] from hj)
      generalize q[k] = p at HJ
      rw [xr_drop HJ.out] at hox
      have hlen : (q1 ++ p :: q.drop (k + 1)).length = q.length := by
        rw [List.length_append, List.length_cons, List.length_drop]
        omega
      have hout := hox.1.out
      rw [hlen] at hout
      obtain ⟨g, rfl, hbg, hgl, -⟩ := rowX_at hout (by omega)
      have HGB := Lib.hid (hox.2.1 g rfl)
      have HBG := Lib.hid hbg
      obtain ⟨m, hm⟩ : ∃ m, k0 + rcT q k = m := ⟨_, rfl⟩
      have HM := Lib.hid hm
      have hm2 : m + 3 + p.1.2.length ≤ 4000000 := by have h := HN.out (k + 1) hlt; rw [rcT_succ HJ.out] at h; omega
      have hm1 : k0 ≤ m := by omega
      have hor := hox.1.row p (List.mem_append_right _ (List.mem_cons_self ..))
      obtain ⟨a', c', hp2⟩ := hor.shape
      have HP2 := Lib.hid hp2
      have q0 := hout.cellAt (k * 4) (by omega)
      have q1' := hout.cellAt (k * 4 + 1) (by omega)
      have q2 := hout.cellAt (k * 4 + 2) (by omega)
      have q3 := hout.cellAt (k * 4 + 3) (by omega)
      have hfm : flatR (q1 ++ p :: q.drop (k + 1)) = flatR q1 ++ .int .i64 p.1.1.1 :: .int .i64 p.1.1.2.1 :: .int .i64 p.1.1.2.2 :: p.2 :: flatR (q.drop (k + 1)) := flatR_mid _ _ _
      have hfl : (flatR q1).length = k * 4 := by rw [flatR_len, hkl]
      rw [hfm, (gap4_at hfl).1] at q0
      rw [hfm, (gap4_at hfl).2.1] at q1'
      rw [hfm, (gap4_at hfl).2.2.1] at q2
      rw [hfm, (gap4_at hfl).2.2.2, hp2] at q3
      have f0 := hout.frozenAt (k * 4)
      have f1 := hout.frozenAt (k * 4 + 1)
      have f2 := hout.frozenAt (k * 4 + 2)
      have h1 := hox.mid (hox.1.sethead (k * 4) 0 (.int .i64 (m : Int)) ((m : Int), p.1.1.2.1, p.1.1.2.2) (by omega) (by omega) rfl)
      have h2 := h1.mid (h1.1.sethead (k * 4 + 1) 1 (.int .i64 ((m + 1 : Nat) : Int)) ((m : Int), ((m + 1 : Nat) : Int), p.1.1.2.2) (by omega) (by omega) rfl)
      have h3 := h2.mid (h2.1.sethead (k * 4 + 2) 2 (.int .i64 ((m + 1 + 1 : Nat) : Int)) ((m : Int), ((m + 1 : Nat) : Int), ((m + 1 + 1 : Nat) : Int)) (by omega) (by omega) rfl)
      have g1 : wr.grownBy (wr.setCell ⟨g, k * 4, none⟩ (.int .i64 (m : Int))) (some g) := egrown_set _ _ _ _
      have g2 : (wr.setCell ⟨g, k * 4, none⟩ (.int .i64 (m : Int))).grownBy ((wr.setCell ⟨g, k * 4, none⟩ (.int .i64 (m : Int))).setCell ⟨g, k * 4 + 1, none⟩ (.int .i64 ((m + 1 : Nat) : Int))) (some g) := egrown_set _ _ _ _
      have g3 : ((wr.setCell ⟨g, k * 4, none⟩ (.int .i64 (m : Int))).setCell ⟨g, k * 4 + 1, none⟩ (.int .i64 ((m + 1 : Nat) : Int))).grownBy (((wr.setCell ⟨g, k * 4, none⟩ (.int .i64 (m : Int))).setCell ⟨g, k * 4 + 1, none⟩ (.int .i64 ((m + 1 : Nat) : Int))).setCell ⟨g, k * 4 + 2, none⟩ (.int .i64 ((m + 1 + 1 : Nat) : Int))) (some g) := egrown_set _ _ _ _
      have hgin : ∀ j, some g = some j → lo ≤ j ∧ j < hi := fun j hj => by injection hj with hj; subst hj; exact ⟨HBG.out, HGB.out⟩
      obtain ⟨w3, hw3⟩ : ∃ w3, w3 = ((wr.setCell ⟨g, k * 4, none⟩ (.int .i64 (m : Int))).setCell ⟨g, k * 4 + 1, none⟩ (.int .i64 ((m + 1 : Nat) : Int))).setCell ⟨g, k * 4 + 2, none⟩ (.int .i64 ((m + 1 + 1 : Nat) : Int)) := ⟨_, rfl⟩
      rw [← hw3] at h3 g3
      have HC3 := Lib.hid (((HCH.out.grown g1 hgin).grown g2 hgin).grown g3 hgin)
      have HSI := Lib.hid h3
      have r3 : (((wr.setCell ⟨g, k * 4, none⟩ (.int .i64 (m : Int))).setCell ⟨g, k * 4 + 1, none⟩ (.int .i64 ((m : Int) + 1))).setCell ⟨g, k * 4 + 2, none⟩ (.int .i64 ((m : Int) + 1 + 1))).cell? ⟨g, k * 4 + 3, none⟩ = some (.slice a' p.1.2.length c') := by
        rw [World.cell?_setCell_other _ _ _ _ (by simp), World.cell?_setCell_other _ _ _ _ (by simp), World.cell?_setCell_other _ _ _ _ (by simp)]
        exact q3
      have HW3 := Lib.hid (show ((wr.setCell ⟨g, k * 4, none⟩ (.int .i64 (m : Int))).setCell ⟨g, k * 4 + 1, none⟩ (.int .i64 ((m : Int) + 1))).setCell ⟨g, k * 4 + 2, none⟩ (.int .i64 ((m : Int) + 1 + 1)) = w3 by rw [hw3]; rfl)
      have hos := HSI.out.1.row _ (List.mem_append_right _ (List.mem_cons_self ..))
      have HOS := Lib.hid (show OwnS w3 lo (.slice a' p.1.2.length c') p.1.2 by rw [← hp2]; exact hos)
      rw [hm]
      clear hox hout hor hos hj hfm q3 hp2 hlen hbg hgl h1 h2 h3 g1 g2 g3 hgin hw3 hfl
      go_wp2_with (go_at_call 29; rw [HW3.out]; (refine (mark_any lo a' c' p.1.2 (m + 1 + 1 + 1) _ (by omega) (by omega) (by omega) HOS.out).mono ?_); rintro e w4 ⟨rfl, ho, hg⟩; have HO := Lib.hid ho; have HG := Lib.hid hg; clear ho hg)
      go_roundw
      case rel =>
        have hP := HP2.out
        have hst := HSI.out.mid (HSI.out.1.setfld (l := marksL (m + 1 + 1 + 1) p.1.2.length) (by rw [hP]; exact HG.out) (by rw [hP]; exact HO.out))
        refine ⟨k + 1, q1 ++ [((((m : Int), ((m + 1 : Nat) : Int), ((m + 1 + 1 : Nat) : Int)), marksL (m + 1 + 1 + 1) p.1.2.length), p.2)], by omega, by go_num, ?_, by simp [hkl], ?_, ?_⟩
        · rw [rcT_succ HJ.out]
          have := HM.out
          congr 2
          omega
        · rw [List.append_assoc]
          exact hst
        · refine HC3.out.grown HG.out fun j hj => ?_
          have h1 := World.ownsRow.lt HOS.out j hj
          exact ⟨h1.1, HSI.out.2.2 _ (List.mem_append_right _ (List.mem_cons_self ..)) j (by rw [hP]; exact hj)⟩
      case measure => simp [intOf]; omega
    · obtain rfl : k = q.length := by omega
      clear hox
      go_wp2
      go_ret
      exact ⟨rfl, HCH.out⟩

theorem rmark_any (lo hi : Nat) (a : Option Addr) (cap n m : Nat) (q : List XR) (S : List RC) (k0 : Nat) (w : World) (hq : recsR q = S) (hqn : S.length = n) (hk0 : 0 < k0) (hk1 : k0 ≤ 90000) (hz : rcz S ≤ 1048576) (hm : k0 + rcn S = m) (hown : OwnHRc w lo hi (.slice a n cap) q) :
    Calls Tryz.prog 35 #[.slice a n cap, .int .i64 k0] w fun e w' => e = .returned (.int .i64 (m : Int)) ∧ Chg w w' lo hi := by
  subst hq
  rw [recsR_len] at hqn
  subst hqn
  have h := rcn_le hz
  rw [← hm, ← rcT_all]
  exact rmark_q lo hi a cap q k0 w hk0 (by rw [rcT_all]; omega) hown

end Go.Proofs.YtebddnjccmaimaaGreatDoor

/-
  A []laws.Record among the arguments of a law, opened. By an AI agent.
-/
namespace Go.Proofs.YtebddnjccmaimaaGreatDoor
open Go.RowKit Go.ChangeShapes Go.WideShapes
set_option linter.unusedVariables false

theorem list4 {α : Type} {l : List α} (h : l.length = 4) : ∃ a b c d, l = [a, b, c, d] := by
  match l, h with
  | [a, b, c, d], _ => exact ⟨a, b, c, d, rfl⟩
set_option maxHeartbeats 1600000 in
theorem open_recs {H : Type} {enc : TypeId × Value → H} {w : World} {base : Nat} {held : Bool} {fuel : Nat} {a : Option Addr} {len cap : Nat} {x : DataW H × List MemPlace}
    (h : DataW.trod enc Tryz.prog w base (fun _ => true) held fuel 50 [.slice a len cap] = some x) : ∃ S : List RC, len = S.length ∧ ArgRc w a S := by
  rcases Go.Deep.open_slice Tryz.underlying50 h with ⟨hcs, _⟩ | ⟨y, l, c, m, n, D, Pl, hcs, hb, hl, hm, hmm, _, hx⟩
  · simp at hcs
    obtain ⟨rfl, rfl, rfl⟩ := hcs
    exact ⟨[], rfl, fun h => absurd h (Nat.lt_irrefl 0), Nat.zero_le _, fun x hx => by cases hx⟩
  · simp at hcs
    obtain ⟨rfl, rfl, rfl⟩ := hcs
    have ce : Tryz.prog.cellsOf 44 = 4 := by kernel_rfl
    refine argRc_of hl hm fun i hi => ?_
    obtain ⟨cs', h1, h2⟩ := hx i (by rw [hmm]; simp; omega)
    rw [ce] at h1
    obtain ⟨_, hlen, hcell⟩ := World.cells?_some h1
    obtain ⟨y0, y1, y2, y3, k', _, hl4, g0, g1, g2, g3⟩ := Go.Joins.trod_struct4 Tryz.underlying44 h2
    obtain ⟨v0, v1, v2, v3, rfl⟩ := list4 hlen
    have ci : Tryz.prog.cellsOf 3 = 1 := by kernel_rfl
    have cs : Tryz.prog.cellsOf 31 = 1 := by kernel_rfl
    simp [ci, cs] at g0 g1 g2 g3
    have e0 := hcell 0 (by omega)
    have e1 := hcell 1 (by omega)
    have e2 := hcell 2 (by omega)
    have e3 := hcell 3 (by omega)
    rw [Go.Deep.add_add] at e0 e1 e2 e3
    simp at e0 e1 e2 e3
    obtain ⟨s, es, _, _⟩ := DataW.trod_int Tryz.underlying3 g0
    obtain ⟨k, ek, _, _⟩ := DataW.trod_int Tryz.underlying3 g1
    obtain ⟨v, ev, _, _⟩ := DataW.trod_int Tryz.underlying3 g2
    simp at es ek ev
    subst es ek ev
    rcases open_strings Tryz.underlying31 Tryz.underlying9 (by kernel_rfl) g3 with ⟨hcs2, _⟩ | ⟨x2, l2, c2, ss2, hcs2, _, hl2, hm2, hz2, _, hcell2, hw2⟩
    · simp at hcs2
      exact ⟨_, _, _, none, [], 0, e0, e1, e2, by rw [e3, hcs2]; rfl, fun _ => rfl, Nat.le_refl _, fun h => absurd h (Nat.lt_irrefl 0), Nat.zero_le _, fun x hx => by cases hx⟩
    · simp at hcs2
      obtain ⟨L2, rfl, hL2⟩ := argS_of hl2 hm2 (by simpa using hz2) hcell2 hw2
      exact ⟨_, _, _, some x2, L2, c2, e0, e1, e2, by rw [e3, hcs2], (fun h => by cases h), hl2, hL2⟩

end Go.Proofs.YtebddnjccmaimaaGreatDoor

