/-
  What impl.Soundex, impl.SoundsAlike and spec.SoundsAlike answer, for strings of at most 2^20 bytes; the walks of the laws. By an AI agent.
-/
import Derived.Test.YtggohfinkpppkabDoorSndOf
import Derived.Test.YtggohfinkpppkabDoorSndex
import Derived.ChangeKeysEq
import Derived.Deep.RegionHeld3
import Derived.Deep.RegionWith
namespace Go.Proofs.YtggohfinkpppkabDoor
open Go.RowKit
set_option linter.unusedVariables false

theorem run_eq4 (w : World) (a b c d a' b' c' d' : Int) :
    (Op.equalIn 10000 64 (.agg #[.int .u8 a, .int .u8 b, .int .u8 c, .int .u8 d]) (.agg #[.int .u8 a', .int .u8 b', .int .u8 c', .int .u8 d'])).run Tryd.prog w = .ok (a == a' && (b == b' && (c == c' && d == d'))) w := by
  obtain ⟨i0, hi, hz0, hz1, hz2⟩ := info_parts info_u8
  have hc : Tryd.prog.cellsOf 5 = 1 := by kernel_rfl
  have hr : List.range 4 = [0, 1, 2, 3] := rfl
  rw [show (10000 : Nat) = 9998 + 1 + 1 from rfl, run_equalIn_array w (9998 + 1) _ _ Tryd.underlying64 hi, hc, hr]
  have hp : ∀ (xs : Array Value) (i : Nat) (v : Value) (w : World), xs[i]? = some v → (part 5 xs (i * 1)).run Tryd.prog w = .ok v w := by
    intro xs i v w h
    simp [part, sizeOf, typeInfo, hi, hz1, h]
  have he : ∀ (x y : Int) (w : World), (Op.equalIn (9998 + 1) 5 (.int .u8 x) (.int .u8 y)).run Tryd.prog w = .ok (x == y) w := fun x y w => run_equalIn_int w 9998 5 .u8 .u8 x y Tryd.underlying5
  have x0 : ∀ w : World, (part 5 #[.int .u8 a, .int .u8 b, .int .u8 c, .int .u8 d] (0 * 1)).run Tryd.prog w = .ok (.int .u8 a) w := fun w => hp _ 0 _ w rfl
  have x1 : ∀ w : World, (part 5 #[.int .u8 a, .int .u8 b, .int .u8 c, .int .u8 d] (1 * 1)).run Tryd.prog w = .ok (.int .u8 b) w := fun w => hp _ 1 _ w rfl
  have x2 : ∀ w : World, (part 5 #[.int .u8 a, .int .u8 b, .int .u8 c, .int .u8 d] (2 * 1)).run Tryd.prog w = .ok (.int .u8 c) w := fun w => hp _ 2 _ w rfl
  have x3 : ∀ w : World, (part 5 #[.int .u8 a, .int .u8 b, .int .u8 c, .int .u8 d] (3 * 1)).run Tryd.prog w = .ok (.int .u8 d) w := fun w => hp _ 3 _ w rfl
  have y0 : ∀ w : World, (part 5 #[.int .u8 a', .int .u8 b', .int .u8 c', .int .u8 d'] (0 * 1)).run Tryd.prog w = .ok (.int .u8 a') w := fun w => hp _ 0 _ w rfl
  have y1 : ∀ w : World, (part 5 #[.int .u8 a', .int .u8 b', .int .u8 c', .int .u8 d'] (1 * 1)).run Tryd.prog w = .ok (.int .u8 b') w := fun w => hp _ 1 _ w rfl
  have y2 : ∀ w : World, (part 5 #[.int .u8 a', .int .u8 b', .int .u8 c', .int .u8 d'] (2 * 1)).run Tryd.prog w = .ok (.int .u8 c') w := fun w => hp _ 2 _ w rfl
  have y3 : ∀ w : World, (part 5 #[.int .u8 a', .int .u8 b', .int .u8 c', .int .u8 d'] (3 * 1)).run Tryd.prog w = .ok (.int .u8 d') w := fun w => hp _ 3 _ w rfl
  simp only [Op.eqItems, Sem.run_bind, x0, y0, he, Result.andThen_ok]
  cases h0 : (a == a')
  · simp
  simp only [Bool.not_true, Bool.false_eq_true, if_false, Sem.run_bind, x1, y1, he, Result.andThen_ok, Bool.true_and]
  cases h1 : (b == b')
  · simp
  simp only [Bool.not_true, Bool.false_eq_true, if_false, Sem.run_bind, x2, y2, he, Result.andThen_ok, Bool.true_and]
  cases h2 : (c == c')
  · simp
  simp only [Bool.not_true, Bool.false_eq_true, if_false, Sem.run_bind, x3, y3, he, Result.andThen_ok, Bool.true_and]
  cases h3 : (d == d')
  · simp
  · simp

/-- the four bytes as a number's worth of tests -/
def same4 (a b c d a' b' c' d' : UInt8) : Bool := decide ([a, b, c, d] = [a', b', c', d'])

theorem run_arr4 (w : World) (a b c d a' b' c' d' : UInt8) (r : Bool) (h : same4 a b c d a' b' c' d' = r) :
    (Op.equalIn 10000 64 (.agg #[.int .u8 (a.toNat : Int), .int .u8 (b.toNat : Int), .int .u8 (c.toNat : Int), .int .u8 (d.toNat : Int)]) (.agg #[.int .u8 (a'.toNat : Int), .int .u8 (b'.toNat : Int), .int .u8 (c'.toNat : Int), .int .u8 (d'.toNat : Int)])).run Tryd.prog w = .ok r w := by
  rw [run_eq4, ← h]
  congr 1
  have e : ∀ x y : UInt8, ((x.toNat : Int) == (y.toNat : Int)) = decide (x = y) := by
    intro x y
    apply Bool.eq_iff_iff.2
    simp only [beq_iff_eq, decide_eq_true_eq]
    constructor
    · intro h; exact UInt8.toNat_inj.1 (by omega)
    · intro h; rw [h]
  simp only [e]
  unfold same4
  apply Bool.eq_iff_iff.2
  simp

theorem run_zero4 (w : World) (a b c d : UInt8) (r : Bool) (h : same4 a b c d 0 0 0 0 = r) :
    (Op.equalIn 10000 64 (.agg #[.int .u8 (a.toNat : Int), .int .u8 (b.toNat : Int), .int .u8 (c.toNat : Int), .int .u8 (d.toNat : Int)]) (.agg #[.int .u8 0, .int .u8 0, .int .u8 0, .int .u8 0])).run Tryd.prog w = .ok r w :=
  run_arr4 w a b c d 0 0 0 0 r h

theorem conv_arr4 (w : World) (a b c d : UInt8) :
    (convert 27 9 (.slice (some ⟨w.heap.size, 0, none⟩) 4 4)).run Tryd.prog (w.alloc (.cells #[.int .u8 (a.toNat : Int), .int .u8 (b.toNat : Int), .int .u8 (c.toNat : Int), .int .u8 (d.toNat : Int)] 64)) =
      .ok (.string (nstr [a, b, c, d])) (w.alloc (.cells #[.int .u8 (a.toNat : Int), .int .u8 (b.toNat : Int), .int .u8 (c.toNat : Int), .int .u8 (d.toNat : Int)] 64)) := by
  have hb : BlkA (w.alloc (.cells #[.int .u8 (a.toNat : Int), .int .u8 (b.toNat : Int), .int .u8 (c.toNat : Int), .int .u8 (d.toNat : Int)] 64)) w.heap.size [a, b, c, d] := heap_alloc_new w _
  refine run_convert_bytes_back (P := Tryd.prog) _ 27 9 5 ⟨w.heap.size, 0, none⟩ 4 [a, b, c, d] Tryd.underlying27 Tryd.underlying5 Tryd.underlying9 (fun j hj => ?_)
  have e : (⟨w.heap.size, 0, none⟩ : Addr).add j = ⟨w.heap.size, j, none⟩ := by unfold Addr.add; split <;> simp_all
  rw [e]
  exact hb.cell (List.getElem?_eq_getElem hj)

set_option maxRecDepth 100000 in
set_option maxHeartbeats 1600000 in
theorem impl_sx (s : ByteArray) (w : World) (hs : s.size ≤ 4194304) :
    Calls Tryd.prog 37 #[.string s] w fun e w' => e = .returned (.string (nstr (sxL s.data.toList))) ∧ Below w.heap.size w w' := by
  obtain ⟨a, b, c, d, hd⟩ := four_of (sndL_length s.data.toList)
  have HD := Lib.hid hd
  have HS := Lib.hid hs
  have HZ := sndL_zero s.data.toList
  rw [hd] at HZ
  by_cases h0 : sxL s.data.toList = []
  · have hq := fun w : World => run_zero4 w a b c d true (by unfold same4; exact decide_eq_true (HZ.2 h0))
    have H0 := Lib.hid h0
    clear hd hs HZ h0
    go_enter Tryd.func37, Tryd.ntmps37
    go_wp2_with (go_at_call 66; (with_reducible refine (impl_so _ _ HS.out a b c d HD.out).mono ?_); rintro e w1 ⟨rfl, hb1⟩)
    go_ret
    exact ⟨nret_str (by rw [H0.out]; rfl), hb1.alloc hb1.size _⟩
  · have hq := fun w : World => run_zero4 w a b c d false (by unfold same4; exact decide_eq_false (fun e => h0 (HZ.1 e)))
    have hcv := fun w : World => conv_arr4 w a b c d
    have H0 := Lib.hid (show [a, b, c, d] = sxL s.data.toList by rw [← hd, sndL_some h0])
    clear hd hs HZ h0
    go_enter Tryd.func37, Tryd.ntmps37
    go_wp2_with (go_at_call 66; (with_reducible refine (impl_so _ _ HS.out a b c d HD.out).mono ?_); rintro e w1 ⟨rfl, hb1⟩)
    go_ret
    exact ⟨nret_str (by rw [H0.out]), hb1.alloc hb1.size _⟩

set_option maxRecDepth 100000 in
set_option maxHeartbeats 1600000 in
theorem impl_sa (s t : ByteArray) (w : World) (hs : s.size ≤ 4194304) (ht : t.size ≤ 4194304) :
    Calls Tryd.prog 39 #[.string s, .string t] w fun e w' => e = .returned (.bool (alikeB s.data.toList t.data.toList)) ∧ Below w.heap.size w w' := by
  obtain ⟨a, b, c, d, hd⟩ := four_of (sndL_length s.data.toList)
  obtain ⟨a', b', c', d', hd'⟩ := four_of (sndL_length t.data.toList)
  have HD := Lib.hid hd
  have HD' := Lib.hid hd'
  have HS := Lib.hid hs
  have HT := Lib.hid ht
  have HZ := sndL_zero s.data.toList
  have HE := sndL_eq s.data.toList t.data.toList
  rw [hd] at HZ
  rw [hd, hd'] at HE
  obtain ⟨r0, h0⟩ : ∃ r, same4 a b c d 0 0 0 0 = r := ⟨_, rfl⟩
  obtain ⟨r1, h1⟩ : ∃ r, same4 a b c d a' b' c' d' = r := ⟨_, rfl⟩
  have hq0 := fun w : World => run_zero4 w a b c d r0 h0
  have hq1 := fun w : World => run_arr4 w a b c d a' b' c' d' r1 h1
  have HB : alikeB s.data.toList t.data.toList = (r1 && !r0) := by
    rw [← h0, ← h1]
    unfold alikeB same4
    apply Bool.eq_iff_iff.2
    simp only [decide_eq_true_eq, Bool.and_eq_true, Bool.not_eq_true', decide_eq_false_iff_not]
    rw [HE, HZ]
    exact ⟨fun h => ⟨h.2, h.1⟩, fun h => ⟨h.2, h.1⟩⟩
  rw [HB]
  clear hd hd' hs ht HZ HE h0 h1 HB
  cases r1
  · go_enter Tryd.func39, Tryd.ntmps39
    go_wp2_with (go_at_call 66; (with_reducible refine (impl_so _ _ HS.out a b c d HD.out).mono ?_); rintro e w1 ⟨rfl, hb1⟩)
    have hbk : BlkA (w1.alloc (.cells #[.int .u8 (a.toNat : Int), .int .u8 (b.toNat : Int), .int .u8 (c.toNat : Int), .int .u8 (d.toNat : Int)] 64)) w1.heap.size [a, b, c, d] := heap_alloc_new w1 _
    have hc0 := hbk.cell (i := 0) (b := a) rfl
    have hc1 := hbk.cell (i := 1) (b := b) rfl
    have hc2 := hbk.cell (i := 2) (b := c) rfl
    have hc3 := hbk.cell (i := 3) (b := d) rfl
    have HLT := Lib.hid (show w1.heap.size < (w1.alloc (.cells #[.int .u8 (a.toNat : Int), .int .u8 (b.toNat : Int), .int .u8 (c.toNat : Int), .int .u8 (d.toNat : Int)] 64)).heap.size by simp)
    have HB1 := Lib.hid (hb1.alloc hb1.size (.cells #[.int .u8 (a.toNat : Int), .int .u8 (b.toNat : Int), .int .u8 (c.toNat : Int), .int .u8 (d.toNat : Int)] 64))
    clear hb1 hbk
    first
      | (go_region_with ((go_at_call 66; (with_reducible refine (impl_so _ _ HT.out a' b' c' d' HD'.out).mono ?_); rintro e w2 ⟨rfl, hb2⟩; have HB2 := Lib.hid hb2; have k0 := (hb2.cell (p := ⟨w1.heap.size, 0, none⟩) HLT.out).trans hc0; have k1 := (hb2.cell (p := ⟨w1.heap.size, 1, none⟩) HLT.out).trans hc1; have k2 := (hb2.cell (p := ⟨w1.heap.size, 2, none⟩) HLT.out).trans hc2; have k3 := (hb2.cell (p := ⟨w1.heap.size, 3, none⟩) HLT.out).trans hc3; clear hb2)))
      | fail
    all_goals
      go_wp2
      go_ret
      exact ⟨rfl, (HB1.out.drew).trans (HB2.out.mono HB1.out.size)⟩
  · go_enter Tryd.func39, Tryd.ntmps39
    go_wp2_with (go_at_call 66; (with_reducible refine (impl_so _ _ HS.out a b c d HD.out).mono ?_); rintro e w1 ⟨rfl, hb1⟩)
    have hbk : BlkA (w1.alloc (.cells #[.int .u8 (a.toNat : Int), .int .u8 (b.toNat : Int), .int .u8 (c.toNat : Int), .int .u8 (d.toNat : Int)] 64)) w1.heap.size [a, b, c, d] := heap_alloc_new w1 _
    have hc0 := hbk.cell (i := 0) (b := a) rfl
    have hc1 := hbk.cell (i := 1) (b := b) rfl
    have hc2 := hbk.cell (i := 2) (b := c) rfl
    have hc3 := hbk.cell (i := 3) (b := d) rfl
    have HLT := Lib.hid (show w1.heap.size < (w1.alloc (.cells #[.int .u8 (a.toNat : Int), .int .u8 (b.toNat : Int), .int .u8 (c.toNat : Int), .int .u8 (d.toNat : Int)] 64)).heap.size by simp)
    have HB1 := Lib.hid (hb1.alloc hb1.size (.cells #[.int .u8 (a.toNat : Int), .int .u8 (b.toNat : Int), .int .u8 (c.toNat : Int), .int .u8 (d.toNat : Int)] 64))
    clear hb1 hbk
    go_region_held3 (fun w' => w'.cell? ⟨w1.heap.size, 0, none⟩ = some (.int .u8 (a.toNat : Int)) ∧ w'.cell? ⟨w1.heap.size, 1, none⟩ = some (.int .u8 (b.toNat : Int)) ∧ w'.cell? ⟨w1.heap.size, 2, none⟩ = some (.int .u8 (c.toNat : Int)) ∧ w'.cell? ⟨w1.heap.size, 3, none⟩ = some (.int .u8 (d.toNat : Int)))
      (first | exact ⟨k0, k1, k2, k3⟩ | exact ⟨hc0, hc1, hc2, hc3⟩)
      ((go_at_call 66; (with_reducible refine (impl_so _ _ HT.out a' b' c' d' HD'.out).mono ?_); rintro e w2 ⟨rfl, hb2⟩; have HB2 := Lib.hid hb2; have k0 := (hb2.cell (p := ⟨w1.heap.size, 0, none⟩) HLT.out).trans hc0; have k1 := (hb2.cell (p := ⟨w1.heap.size, 1, none⟩) HLT.out).trans hc1; have k2 := (hb2.cell (p := ⟨w1.heap.size, 2, none⟩) HLT.out).trans hc2; have k3 := (hb2.cell (p := ⟨w1.heap.size, 3, none⟩) HLT.out).trans hc3; clear hb2))
    all_goals
      go_wp2
      go_ret
      exact ⟨rfl, (HB1.out.drew).trans (HB2.out.mono HB1.out.size)⟩

set_option maxRecDepth 100000 in
set_option maxHeartbeats 1600000 in
theorem spec_sa (s t : ByteArray) (w : World) (hs : s.size ≤ 4194304) (ht : t.size ≤ 4194304) :
    Calls Tryd.prog 40 #[.string s, .string t] w fun e w' => e = .returned (.bool (alikeB s.data.toList t.data.toList)) ∧ Below w.heap.size w w' := by
  have HS := Lib.hid hs
  have HT := Lib.hid ht
  obtain ⟨x, hx⟩ : ∃ x, nstr (sxL s.data.toList) = x := ⟨_, rfl⟩
  obtain ⟨y, hy⟩ : ∃ y, nstr (sxL t.data.toList) = y := ⟨_, rfl⟩
  have HX := Lib.hid (fun W : World => (spec_sx s W HS.out).mono fun e w' h => (show e = .returned (.string x) ∧ Below W.heap.size W w' from ⟨by rw [h.1, hx], h.2⟩))
  have HY := Lib.hid (fun W : World => (spec_sx t W HT.out).mono fun e w' h => (show e = .returned (.string y) ∧ Below W.heap.size W w' from ⟨by rw [h.1, hy], h.2⟩))
  have lx : x.toList = sxL s.data.toList := by rw [ByteArray.toList_eq, ← hx, nstr_list]
  have ly : y.toList = sxL t.data.toList := by rw [ByteArray.toList_eq, ← hy, nstr_list]
  by_cases h0 : sxL s.data.toList = []
  · have hq : x.toList.isEmpty = true := by rw [lx, h0]; rfl
    have hq2 : x.toList = [] := by rw [lx, h0]
    have HR := Lib.hid (show alikeB s.data.toList t.data.toList = false by unfold alikeB; exact decide_eq_false (fun e => e.1 h0))
    clear hs ht hx hy lx ly h0
    go_enter Tryd.func40, Tryd.ntmps40
    go_wp2_with (first
      | (go_at_call 38; (with_reducible refine (HX.out _).mono ?_); rintro e w1 ⟨rfl, hb1⟩))
    go_ret
    exact ⟨nret_bool HR.out.symm, hb1⟩
  · have hq : x.toList.isEmpty = false := by
      rw [lx]
      cases he : sxL s.data.toList with
      | nil => exact absurd he h0
      | cons a l => rfl
    have hq2 : (!x.toList.isEmpty) = true := by rw [hq]; rfl
    obtain ⟨r, hr⟩ : ∃ r, (x.toList == y.toList) = r := ⟨_, rfl⟩
    have HR := Lib.hid (show alikeB s.data.toList t.data.toList = r by
      rw [← hr, lx, ly]
      unfold alikeB
      apply Bool.eq_iff_iff.2
      simp only [decide_eq_true_eq, beq_iff_eq]
      exact ⟨fun h => h.2, fun h => ⟨h0, h⟩⟩)
    clear hs ht hx hy lx ly h0
    go_enter Tryd.func40, Tryd.ntmps40
    go_wp2_with (first
      | (go_at_call 38; (with_reducible refine (HX.out _).mono ?_); rintro e w1 ⟨rfl, hb1⟩)
      | (go_at_call 38; (with_reducible refine (HY.out _).mono ?_); rintro e w2 ⟨rfl, hb2⟩))
    go_ret
    exact ⟨nret_bool HR.out.symm, hb1.trans (hb2.mono hb1.size)⟩

end Go.Proofs.YtggohfinkpppkabDoor
