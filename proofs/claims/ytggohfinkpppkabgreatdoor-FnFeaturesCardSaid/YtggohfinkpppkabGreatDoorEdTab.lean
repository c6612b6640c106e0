/-
  What impl.editRows and impl.leastCosts leave: the table of the least costs of the remaining parts. By an AI agent.
-/
import Derived.Test.YtggohfinkpppkabGreatDoorEdRow
import Derived.Laws.MakeOwn
namespace Go.Proofs.YtggohfinkpppkabGreatDoor
open Go.RowKit
set_option linter.unusedVariables false

theorem info_ints : (Tryz.prog.info? 29).map (fun i => (i.zero, i.size, i.bytes)) = some (some (.slice none 0 0), 1, 24) := by kernel_rfl

theorem make_ints (w : World) (n : Nat) (hn : n ≤ 100000) :
    (Instr.makeSlice 29 (.int .i64 (n : Int)) (.int .i64 (n : Int))).run Tryz.prog w = .ok (.slice (some ⟨w.heap.size, 0, none⟩) n n) (w.alloc (.cells (madeCells #[.int .i64 0] n) 3)) := by
  obtain ⟨i0, hi, hz0, hz1, hz2⟩ := info_parts info_int
  have h := run_make (P := Tryz.prog) w 29 3 i0 (.int .i64 0) Tryz.underlying29 hi hz0 .i64 .i64 (n : Int) (n : Int) (by omega) (by omega) (by rw [hz2]; omega) (by omega)
  simp only [Int.toNat_natCast, hz1, Nat.mul_one] at h
  exact h
theorem make_rows (w : World) (n : Nat) (hn : n ≤ 100000) :
    (Instr.makeSlice 96 (.int .i64 (n : Int)) (.int .i64 (n : Int))).run Tryz.prog w = .ok (.slice (some ⟨w.heap.size, 0, none⟩) n n) (w.alloc (.cells (madeCells #[.slice none 0 0] n) 29)) := by
  obtain ⟨i0, hi, hz0, hz1, hz2⟩ := info_parts info_ints
  have h := run_make (P := Tryz.prog) w 96 29 i0 (.slice none 0 0) Tryz.underlying96 hi hz0 .i64 .i64 (n : Int) (n : Int) (by omega) (by omega) (by rw [hz2]; omega) (by omega)
  simp only [Int.toNat_natCast, hz1, Nat.mul_one] at h
  exact h

/-- a table of n rows of W cells each, one block of rows, one of cells -/
def TabV (w : World) (gr gc n W : Nat) (cs : Array Value) : Prop :=
  (∃ rs, BlkV w gr 29 rs ∧ rs.size = n ∧ ∀ k, k < n → rs[k]? = some (.slice (some ⟨gc, k * W, none⟩) W W)) ∧ BlkV w gc 3 cs ∧ cs.size = n * W ∧ gr ≠ gc

def SomeTab (n W : Nat) (w : World) (e : Ending) (w' : World) : Prop :=
  ∃ gr gc cs, e = .returned (.slice (some ⟨gr, 0, none⟩) n n) ∧ w.heap.size ≤ gr ∧ w.heap.size ≤ gc ∧ TabV w' gr gc n W cs ∧ Below w.heap.size w w'

def RowsTo (rs : Array Value) (gc n W k : Nat) : Prop := rs.size = n ∧ ∀ j, j < k → rs[j]? = some (.slice (some ⟨gc, j * W, none⟩) W W)

theorem RowsTo.set {rs : Array Value} {gc n W k p : Nat} (h : RowsTo rs gc n W k) (hk : k < n) (hp : k * W = p) : RowsTo (rs.setIfInBounds k (.slice (some ⟨gc, p, none⟩) W W)) gc n W (k + 1) := by
  obtain ⟨h1, h2⟩ := h
  refine ⟨by simp [h1], fun j hj => ?_⟩
  by_cases e : k = j
  · subst e
    rw [set_at (by omega), hp]
  · rw [set_ne (by omega)]
    exact h2 j (by omega)

set_option maxRecDepth 100000 in
set_option maxHeartbeats 400000 in
theorem rows_any (n W : Nat) (x y : Int) (hx : x = (n : Int)) (hy : y = (W : Int)) (w : World) (hn : n ≤ 41) (hn1 : 1 ≤ n) (hW : W ≤ 41) (hW1 : 1 ≤ W) :
    Calls Tryz.prog 148 #[.int .i64 x, .int .i64 y] w (SomeTab n W w) := by
  subst hx hy
  obtain ⟨N, hN⟩ : ∃ N, N = n * W := ⟨_, rfl⟩
  have hNI : (n : Int) * (W : Int) = (N : Int) := by rw [hN]; simp
  have hNb : N ≤ 1681 := by
    rw [hN]
    exact Nat.mul_le_mul hn hW
  have HN := Lib.hid hN
  clear hN
  have hm1 := make_rows w n (by omega)
  have hm2 := make_ints (w.alloc (.cells (madeCells #[.slice none 0 0] n) 29)) N (by omega)
  have HB0 := Lib.hid ((Below.refl w.heap.size w).alloc (Nat.le_refl _) (.cells (madeCells #[.slice none 0 0] n) 29))
  have hb1 := BlkV.new w 29 (madeCells #[.slice none 0 0] n)
  have hg : (w.alloc (.cells (madeCells #[.slice none 0 0] n) 29)).heap.size = w.heap.size + 1 := by simp
  have HBR := Lib.hid hb1
  have HG := Lib.hid hg
  have HSZ := Lib.hid (show (madeCells #[Value.slice none 0 0] n).size = n from size_madeCells _ _)
  have HSZ2 := Lib.hid (show (madeCells #[Value.int .i64 0] N).size = N from size_madeCells _ _)
  generalize w.alloc (.cells (madeCells #[.slice none 0 0] n) 29) = w1 at hm1 hm2 HB0 HBR HG
  clear hb1 hg
  go_enter Tryz.func148, Tryz.ntmps148
  go_wp2
  go_loopw [16] (fun c wr => ∃ (k : Nat) (rs : Array Value), k ≤ n ∧ c = .int .i64 k ∧ BlkV wr w.heap.size 29 rs ∧ RowsTo rs w1.heap.size n W k ∧ BlkV wr w1.heap.size 3 (madeCells #[.int .i64 0] N) ∧ Below w.heap.size w wr) (fun c _ => n - (intOf c).toNat)
  case atStart =>
    exact ⟨0, _, by omega, rfl, HBR.out.alloc _, ⟨HSZ.out, fun j hj => by omega⟩, BlkV.new _ _ _, HB0.out.alloc (by have := HG.out; omega) _⟩
  case round =>
    obtain ⟨k, rs, hk, rfl, hrs, hto, hcs, hb⟩ := hrel
    have HRS := Lib.hid hrs
    have HTO := Lib.hid hto
    have HCS := Lib.hid hcs
    have HB := Lib.hid hb
    clear hrs hto hcs hb
    by_cases hlt : k < n
    · obtain ⟨p, hp⟩ : ∃ p, k * W = p := ⟨_, rfl⟩
      have hpN : p + W ≤ N := by
        rw [HN.out, ← hp, ← Nat.succ_mul]
        exact Nat.mul_le_mul_right _ (by omega)
      have hp1 : (k : Int) * (W : Int) = (p : Int) := by rw [← hp]; simp
      have hp2 : ((k : Int) + 1) * (W : Int) = (p : Int) + (W : Int) := by rw [Int.add_mul, hp1]; omega
      have HP := Lib.hid hp
      clear hp
      obtain ⟨vl, hvl⟩ : ∃ v, wr.cell? ⟨w.heap.size, k, none⟩ = some v := ⟨_, by rw [HRS.out.cell, Array.getElem?_eq_getElem (by have := HTO.out.1; omega)]⟩
      have hfr : wr.frozen? ⟨w.heap.size, k, none⟩ = false := HRS.out.frozen _
      go_wp2
      go_roundw
      case rel =>
        exact ⟨k + 1, _, by omega, by go_num, HRS.out.set_ _ _, HTO.out.set hlt HP.out, HCS.out.grown (egrown_set _ _ _ _) (by have := HG.out; simp; omega), below_grown HB.out (egrown_set _ _ _ _) (Nat.le_refl _) HB.out.size⟩
      case measure => simp [intOf] <;> omega
    · obtain rfl : k = n := by omega
      go_wp2
      go_ret
      exact ⟨_, _, _, rfl, Nat.le_refl _, by have := HG.out; omega, ⟨⟨rs, HRS.out, HTO.out⟩, HCS.out, by rw [HSZ2.out, HN.out], by have := HG.out; omega⟩, HB.out⟩

/-- rows from k on hold the least costs -/
def RowsFrom (sw : Bool) (A B : List UInt8) (cs : Array Value) (k : Nat) : Prop :=
  ∀ i j, k ≤ i → i ≤ A.length → j ≤ B.length → cs[i * (B.length + 1) + j]? = some (intC (lev sw (A.drop i) (B.drop j)))

theorem RowsFrom.below {sw : Bool} {A B : List UInt8} {cs : Array Value} {k : Nat} (h : RowsFrom sw A B cs (k + 1)) (hk : k < A.length) (hs : cs.size = (A.length + 1) * (B.length + 1)) :
    BelowAt sw (A.drop k) B cs (k * (B.length + 1)) := by
  have e1 : ∀ d, (k + d) * (B.length + 1) = k * (B.length + 1) + d * (B.length + 1) := fun d => Nat.add_mul _ _ _
  have hle : ∀ d, k + d ≤ A.length + 1 → k * (B.length + 1) + d * (B.length + 1) ≤ cs.size := fun d hd => by
    rw [hs, ← e1]
    exact Nat.mul_le_mul_right _ hd
  refine ⟨hle 2 (by omega), fun q hq => ?_, fun hl => ⟨hle 3 (by simp at hl; omega), fun q hq => ?_⟩⟩
  · have := h (k + 1) q (Nat.le_refl _) (by omega) hq
    rw [e1 1, Nat.one_mul] at this
    rw [this, List.tail_drop]
  · have := h (k + 2) q (by omega) (by simp at hl; omega) hq
    rw [e1 2] at this
    rw [this, List.tail_drop, List.tail_drop]

theorem RowsFrom.fill {sw : Bool} {A B : List UInt8} {cs0 cs : Array Value} {k : Nat} (h : RowsFrom sw A B cs0 (k + 1)) (hf : FillAt sw (A.drop k) B cs0 cs (k * (B.length + 1)) 0) : RowsFrom sw A B cs k := by
  intro i j hi hiA hj
  by_cases e : k = i
  · subst e
    exact hf.2.1 j (Nat.zero_le _) hj
  · rw [hf.2.2.2 _ (.inr ?_)]
    · exact h i j (by omega) hiA hj
    · have h1 : (k + 1) * (B.length + 1) ≤ i * (B.length + 1) := Nat.mul_le_mul_right _ (by omega)
      rw [Nat.add_mul, Nat.one_mul] at h1
      omega

/-- the last row is filled up to k -/
def LastTo (sw : Bool) (A B : List UInt8) (cs : Array Value) (k : Nat) : Prop := ∀ j, j < k → cs[A.length * (B.length + 1) + j]? = some (intC (lev sw [] (B.drop j)))

theorem LastTo.set {sw : Bool} {A B : List UInt8} {cs : Array Value} {k : Nat} (h : LastTo sw A B cs k) (hk : k ≤ B.length) (hs : cs.size = (A.length + 1) * (B.length + 1)) {u : Value} (hu : u = intC (B.length - k)) {p : Nat} (hp : A.length * (B.length + 1) + k = p) :
    LastTo sw A B (cs.setIfInBounds p u) (k + 1) := by
  subst hp
  intro j hj
  by_cases e : k = j
  · subst e
    rw [set_at (by rw [hs, Nat.add_mul]; omega), hu, lev_nil, List.length_drop]
  · rw [set_ne (by omega)]
    exact h j (by omega)
theorem LastTo.from {sw : Bool} {A B : List UInt8} {cs : Array Value} {k : Nat} (h : LastTo sw A B cs k) (hk : B.length < k) : RowsFrom sw A B cs A.length := by
  intro i j hi hiA hj
  obtain rfl : A.length = i := by omega
  rw [h j (by omega), List.drop_eq_nil_of_le (Nat.le_refl A.length)]

theorem TabV.rows {w : World} {gr gc n W : Nat} {cs : Array Value} (h : TabV w gr gc n W cs) {i o : Nat} (hi : i + 1 < n) (ho : i * W = o) : RowsAt w gr i gc o W (n - i) := by
  obtain ⟨⟨rs, h1, h2, h3⟩, _⟩ := h
  have e1 : ∀ d, (i + d) * W = o + d * W := fun d => by rw [Nat.add_mul, ho]
  refine ⟨?_, ?_, fun hn => ?_⟩
  · rw [h1.cell, h3 i (by omega), ho]
  · rw [h1.cell, h3 (i + 1) hi, e1 1, Nat.one_mul]
  · rw [h1.cell, h3 (i + 2) (by omega), e1 2]
theorem TabV.cellrow {w : World} {gr gc n W : Nat} {cs : Array Value} (h : TabV w gr gc n W cs) {i o : Nat} (hi : i < n) (ho : i * W = o) : w.cell? ⟨gr, i, none⟩ = some (.slice (some ⟨gc, o, none⟩) W W) := by
  obtain ⟨⟨rs, h1, h2, h3⟩, _⟩ := h
  rw [h1.cell, h3 i hi, ho]
theorem TabV.store {w w' : World} {gr gc n W : Nat} {cs cs' : Array Value} (h : TabV w gr gc n W cs) (hg : w.grownBy w' (some gc)) (hb : BlkV w' gc 3 cs') (hs : cs'.size = cs.size) : TabV w' gr gc n W cs' := by
  obtain ⟨⟨rs, h1, h2, h3⟩, h4, h5, h6⟩ := h
  exact ⟨⟨rs, h1.grown hg (by simp [h6]), h2, h3⟩, hb, by rw [hs, h5], h6⟩

/-- the table of the least costs of the remaining parts of a and b -/
def Tab (sw : Bool) (A B : List UInt8) (w : World) (gr gc : Nat) : Prop := ∃ cs, TabV w gr gc (A.length + 1) (B.length + 1) cs ∧ RowsFrom sw A B cs 0

def GivesTab (sw : Bool) (a b : ByteArray) (w : World) (e : Ending) (w' : World) : Prop :=
  ∃ gr gc, e = .returned (.slice (some ⟨gr, 0, none⟩) (a.size + 1) (a.size + 1)) ∧ w.heap.size ≤ gr ∧ w.heap.size ≤ gc ∧ Tab sw a.data.toList b.data.toList w' gr gc ∧ Below w.heap.size w w'

set_option maxRecDepth 100000 in
set_option maxHeartbeats 1000000 in
theorem costs_any (sw : Bool) (a b : ByteArray) (w : World) (ha : a.size ≤ 40) (hb : b.size ≤ 40) :
    Calls Tryz.prog 129 #[.string a, .string b, .bool sw] w (GivesTab sw a b w) := by
  have HAL := Lib.hid (ba_len a)
  have HBL := Lib.hid (ba_len b)
  obtain ⟨n, hn⟩ : ∃ n, n = a.size + 1 := ⟨_, rfl⟩
  obtain ⟨W, hW⟩ : ∃ W, W = b.size + 1 := ⟨_, rfl⟩
  have hnI : (a.size : Int) + 1 = (n : Int) := by omega
  have hWI : (b.size : Int) + 1 = (W : Int) := by omega
  have hn1 : a.size < n := by omega
  have hW1 : b.size < W := by omega
  have hW2 : W ≤ 41 := by omega
  have hn2 : n ≤ 41 := by omega
  have HN := Lib.hid hn
  have HW := Lib.hid hW
  have hq0 : a.size * W + W = n * W := by rw [hn, Nat.add_mul, Nat.one_mul]
  have hq1 : n * W ≤ 1681 := Nat.mul_le_mul hn2 hW2
  obtain ⟨q, hq⟩ : ∃ q, a.size * W = q := ⟨_, rfl⟩
  obtain ⟨N, hNN⟩ : ∃ N, n * W = N := ⟨_, rfl⟩
  rw [hq, hNN] at hq0
  rw [hNN] at hq1
  have HQ := Lib.hid hq
  have HNN := Lib.hid hNN
  have HQ0 := Lib.hid hq0
  have hqN : q + W ≤ N := by omega
  clear hn hW hq hNN hq0
  have HQA := Lib.hid (show a.data.toList.length * (b.data.toList.length + 1) = q by rw [HAL.out, HBL.out, ← HW.out, HQ.out])
  have HNA := Lib.hid (show (a.data.toList.length + 1) * (b.data.toList.length + 1) = N by rw [HAL.out, HBL.out, ← HW.out, ← HN.out, HNN.out])
  go_enter Tryz.func129, Tryz.ntmps129
  go_wp2_with (go_at_call 148; ((with_reducible refine (rows_any n W _ _ ?_ ?_ _ ?_ ?_ ?_ ?_).mono ?_); (omega); (omega); (omega); (omega); (omega); (omega); rintro e w1 ⟨gr, gc, cs, rfl, hgr, hgc, htab, hbel⟩; have HGR := Lib.hid hgr; have HGC := Lib.hid hgc; have HTAB := Lib.hid htab; have HBEL := Lib.hid hbel; clear hgr hgc htab hbel; have hrow := HTAB.out.cellrow hn1 HQ.out))
  go_loopw [23] (fun c wr => ∃ (k : Nat) (cs : Array Value), k ≤ W ∧ c = .int .i64 k ∧ TabV wr gr gc n W cs ∧ LastTo sw a.data.toList b.data.toList cs k ∧ Below w.heap.size w wr) (fun c _ => W - (intOf c).toNat)
  case atStart => exact ⟨0, cs, by omega, rfl, HTAB.out, fun j hj => by omega, HBEL.out⟩
  case round =>
    obtain ⟨k, cs2, hk, rfl, ht, hl, hbl⟩ := hrel
    have HT := Lib.hid ht
    have HL := Lib.hid hl
    have HB := Lib.hid hbl
    clear ht hl hbl hrow
    have hrow := HT.out.cellrow hn1 HQ.out
    have HSZ := Lib.hid (show cs2.size = N by rw [HT.out.2.2.1, HNN.out])
    by_cases hlt : k < W
    · obtain ⟨vl, hvl⟩ : ∃ v, wr.cell? ⟨gc, q + k, none⟩ = some v := ⟨_, by rw [HT.out.2.1.cell, Array.getElem?_eq_getElem (by have := HSZ.out; omega)]⟩
      have hfr : wr.frozen? ⟨gc, q + k, none⟩ = false := HT.out.2.1.frozen _
      go_wp2
      go_roundw
      case rel =>
        refine ⟨k + 1, _, by omega, by go_num, HT.out.store (egrown_set _ _ _ _) (HT.out.2.1.set_ _ _) (by simp), HL.out.set (by have := HBL.out; omega) (by have h1 := HSZ.out; have h2 := HNA.out; rw [h1, h2]) ?_ (by rw [HQA.out]), below_grown HB.out (egrown_set _ _ _ _) HGC.out HB.out.size⟩
        have h1 := HBL.out
        unfold intC
        rw [h1]
        congr 1
        omega
      case measure => simp [intOf] <;> omega
    · obtain rfl : W = k := by omega
      have HRF := Lib.hid (HL.out.from (by have := HBL.out; omega))
      clear hrow
      go_wp2
      go_loopw [9] (fun c wr => ∃ (k : Nat) (cs : Array Value), k ≤ a.size ∧ c = .int .i64 ((k : Int) - 1) ∧ TabV wr gr gc n W cs ∧ RowsFrom sw a.data.toList b.data.toList cs k ∧ Below w.heap.size w wr) (fun c _ => (intOf c + 1).toNat)
      case atStart => exact ⟨a.size, cs2, by omega, rfl, HT.out, by have h := HRF.out; rw [HAL.out] at h; exact h, HB.out⟩
      case round =>
        obtain ⟨k, cs3, hk3, hj, ht, hrf, hbl⟩ := hrel
        have HT3 := Lib.hid ht
        have HRF3 := Lib.hid hrf
        have HB3 := Lib.hid hbl
        clear ht hrf hbl
        by_cases h0 : 0 < k
        · obtain ⟨m, rfl⟩ : ∃ m, k = m + 1 := ⟨k - 1, by omega⟩
          rw [show ((m + 1 : Nat) : Int) - 1 = m by omega] at hj
          subst hj
          have hm : m < a.size := by omega
          have hmn : m < n := by omega
          have hmI : (m : Int) ≤ (n : Int) := by omega
          have hmA : (m : Int) ≤ (a.size : Int) := by omega
          have hmt : ((m : Int)).toNat = m := by simp
          obtain ⟨p, hp⟩ : ∃ p, m * W = p := ⟨_, rfl⟩
          have HP := Lib.hid hp
          have HES := Lib.hid (ba_esize a m)
          have HET := Lib.hid (ba_tail a m)
          have HPB := Lib.hid (show m * (b.data.toList.length + 1) = p by rw [HBL.out, ← HW.out, HP.out])
          clear hp
          have HSZ3 := Lib.hid (show cs3.size = N by rw [HT3.out.2.2.1, HNN.out])
          have HROWS := Lib.hid (HT3.out.rows (i := m) (by omega) HP.out)
          have HBE := Lib.hid (show BelowAt sw (a.extract m a.size).data.toList b.data.toList cs3 p by
            rw [HET.out, ← HPB.out]
            exact HRF3.out.below (by rw [HAL.out]; exact hm) (by rw [HSZ3.out, HNA.out]))
          go_wp2
          go_still_tail 8, (by kernel_rfl)
          have HT4 := Lib.hid (show TabV wr.drew gr gc n W cs3 from HT3.out)
          have HB4 := Lib.hid (show Below w.heap.size w wr.drew from HB3.out.drew)
          have HR4 := Lib.hid (show RowsAt wr.drew gr m gc p W (n - m) from HROWS.out)
          change wpList _ _ _ _ _ wr.drew
          generalize wr.drew = wa at HT4 HB4 HR4 ⊢
          have HBK4 := Lib.hid HT4.out.2.1
          have HNE4 := Lib.hid HT4.out.2.2.2
          go_wp2_with (go_at_call 149; ((with_reducible refine (fill_row sw (a.extract m a.size) b gr m gc p W (n - m) (n - m) cs3 _ ?_ ?_ ?_ ?_ ?_ ?_ ?_ ?_ ?_ HR4.out HBK4.out HBE.out).mono ?_); (have := HES.out; omega); (have := HES.out; omega); (omega); (have := HES.out; omega); (omega); (omega); (exact HW.out); (have := HSZ3.out; omega); (exact HNE4.out); rintro e w5 ⟨rfl, cs5, hb5, hf5, hg5⟩; have HB5 := Lib.hid hb5; have HF5 := Lib.hid hf5; have HG5 := Lib.hid hg5; clear hb5 hf5 hg5))
          go_roundw
          case rel =>
            refine ⟨m, cs5, by omega, rfl, HT4.out.store HG5.out HB5.out HF5.out.1, ?_, below_grown HB4.out HG5.out HGC.out HB4.out.size⟩
            have h := HF5.out
            rw [HET.out, ← HPB.out] at h
            exact HRF3.out.fill h
          case measure => simp [intOf] <;> omega
        · obtain rfl : k = 0 := by omega
          subst hj
          go_wp2
          go_ret
          exact ⟨gr, gc, by rw [← HN.out]; rfl, HGR.out, HGC.out, ⟨cs3, by rw [HAL.out, HBL.out, ← HN.out, ← HW.out]; exact HT3.out, HRF3.out⟩, HB3.out⟩

end Go.Proofs.YtggohfinkpppkabGreatDoor
