/-
  What impl.Soundex, impl.SoundsAlike and spec.SoundsAlike answer, for strings of at most 2^20 bytes; the walks of the laws. By an AI agent.
-/
import Derived.Test.YtggohfinkpppkabGreatDoorSndOf
import Derived.Test.YtggohfinkpppkabGreatDoorSndex
import Derived.ChangeKeysEq
import Derived.Deep.RegionHeld3
import Derived.Deep.RegionWith
namespace Go.Proofs.YtggohfinkpppkabGreatDoor
open Go.RowKit
set_option linter.unusedVariables false

theorem run_eq4 (w : World) (a b c d a' b' c' d' : Int) :
    (Op.equalIn 10000 94 (.agg #[.int .u8 a, .int .u8 b, .int .u8 c, .int .u8 d]) (.agg #[.int .u8 a', .int .u8 b', .int .u8 c', .int .u8 d'])).run Tryz.prog w = .ok (a == a' && (b == b' && (c == c' && d == d'))) w := by
  obtain ⟨i0, hi, hz0, hz1, hz2⟩ := info_parts info_u8
  have hc : Tryz.prog.cellsOf 5 = 1 := by kernel_rfl
  have hr : List.range 4 = [0, 1, 2, 3] := rfl
  rw [show (10000 : Nat) = 9998 + 1 + 1 from rfl, run_equalIn_array w (9998 + 1) _ _ Tryz.underlying94 hi, hc, hr]
  have hp : ∀ (xs : Array Value) (i : Nat) (v : Value) (w : World), xs[i]? = some v → (part 5 xs (i * 1)).run Tryz.prog w = .ok v w := by
    intro xs i v w h
    simp [part, sizeOf, typeInfo, hi, hz1, h]
  have he : ∀ (x y : Int) (w : World), (Op.equalIn (9998 + 1) 5 (.int .u8 x) (.int .u8 y)).run Tryz.prog w = .ok (x == y) w := fun x y w => run_equalIn_int w 9998 5 .u8 .u8 x y Tryz.underlying5
  have x0 : ∀ w : World, (part 5 #[.int .u8 a, .int .u8 b, .int .u8 c, .int .u8 d] (0 * 1)).run Tryz.prog w = .ok (.int .u8 a) w := fun w => hp _ 0 _ w rfl
  have x1 : ∀ w : World, (part 5 #[.int .u8 a, .int .u8 b, .int .u8 c, .int .u8 d] (1 * 1)).run Tryz.prog w = .ok (.int .u8 b) w := fun w => hp _ 1 _ w rfl
  have x2 : ∀ w : World, (part 5 #[.int .u8 a, .int .u8 b, .int .u8 c, .int .u8 d] (2 * 1)).run Tryz.prog w = .ok (.int .u8 c) w := fun w => hp _ 2 _ w rfl
  have x3 : ∀ w : World, (part 5 #[.int .u8 a, .int .u8 b, .int .u8 c, .int .u8 d] (3 * 1)).run Tryz.prog w = .ok (.int .u8 d) w := fun w => hp _ 3 _ w rfl
  have y0 : ∀ w : World, (part 5 #[.int .u8 a', .int .u8 b', .int .u8 c', .int .u8 d'] (0 * 1)).run Tryz.prog w = .ok (.int .u8 a') w := fun w => hp _ 0 _ w rfl
  have y1 : ∀ w : World, (part 5 #[.int .u8 a', .int .u8 b', .int .u8 c', .int .u8 d'] (1 * 1)).run Tryz.prog w = .ok (.int .u8 b') w := fun w => hp _ 1 _ w rfl
  have y2 : ∀ w : World, (part 5 #[.int .u8 a', .int .u8 b', .int .u8 c', .int .u8 d'] (2 * 1)).run Tryz.prog w = .ok (.int .u8 c') w := fun w => hp _ 2 _ w rfl
  have y3 : ∀ w : World, (part 5 #[.int .u8 a', .int .u8 b', .int .u8 c', .int .u8 d'] (3 * 1)).run Tryz.prog w = .ok (.int .u8 d') w := fun w => hp _ 3 _ w rfl
  simp only [Op.eqItems, Sem.run_bind, x0, y0, he, Result.andThen_ok]
  cases h0 : (a == a')
  · simp
  simp only [Bool.not_true, Bool.false_eq_true, if_false, Sem.run_bind, x1, y1, he, Result.andThen_ok, Bool.true_and]
  cases h1 : (b == b')
  · simp
  simp only [Bool.not_true, Bool.false_eq_true, if_false, Sem.run_bind, x2, y2, he, Result.andThen_ok, Bool.true_and]
  cases h2 : (c == c')
  · simp
  simp only [Bool.not_true, Bool.false_eq_true, if_false, Sem.run_bind, x3, y3, he, Result.andThen_ok, Bool.true_and]
  cases h3 : (d == d')
  · simp
  · simp

/-- the four bytes as a number's worth of tests -/
def same4 (a b c d a' b' c' d' : UInt8) : Bool := decide ([a, b, c, d] = [a', b', c', d'])

theorem run_arr4 (w : World) (a b c d a' b' c' d' : UInt8) (r : Bool) (h : same4 a b c d a' b' c' d' = r) :
    (Op.equalIn 10000 94 (.agg #[.int .u8 (a.toNat : Int), .int .u8 (b.toNat : Int), .int .u8 (c.toNat : Int), .int .u8 (d.toNat : Int)]) (.agg #[.int .u8 (a'.toNat : Int), .int .u8 (b'.toNat : Int), .int .u8 (c'.toNat : Int), .int .u8 (d'.toNat : Int)])).run Tryz.prog w = .ok r w := by
  rw [run_eq4, ← h]
  congr 1
  have e : ∀ x y : UInt8, ((x.toNat : Int) == (y.toNat : Int)) = decide (x = y) := by
    intro x y
    apply Bool.eq_iff_iff.2
    simp only [beq_iff_eq, decide_eq_true_eq]
    constructor
    · intro h; exact UInt8.toNat_inj.1 (by omega)
    · intro h; rw [h]
  simp only [e]
  unfold same4
  apply Bool.eq_iff_iff.2
  simp

theorem run_zero4 (w : World) (a b c d : UInt8) (r : Bool) (h : same4 a b c d 0 0 0 0 = r) :
    (Op.equalIn 10000 94 (.agg #[.int .u8 (a.toNat : Int), .int .u8 (b.toNat : Int), .int .u8 (c.toNat : Int), .int .u8 (d.toNat : Int)]) (.agg #[.int .u8 0, .int .u8 0, .int .u8 0, .int .u8 0])).run Tryz.prog w = .ok r w :=
  run_arr4 w a b c d 0 0 0 0 r h

theorem conv_arr4 (w : World) (a b c d : UInt8) :
    (convert 22 9 (.slice (some ⟨w.heap.size, 0, none⟩) 4 4)).run Tryz.prog (w.alloc (.cells #[.int .u8 (a.toNat : Int), .int .u8 (b.toNat : Int), .int .u8 (c.toNat : Int), .int .u8 (d.toNat : Int)] 94)) =
      .ok (.string (nstr [a, b, c, d])) (w.alloc (.cells #[.int .u8 (a.toNat : Int), .int .u8 (b.toNat : Int), .int .u8 (c.toNat : Int), .int .u8 (d.toNat : Int)] 94)) := by
  have hb : BlkA (w.alloc (.cells #[.int .u8 (a.toNat : Int), .int .u8 (b.toNat : Int), .int .u8 (c.toNat : Int), .int .u8 (d.toNat : Int)] 94)) w.heap.size [a, b, c, d] := heap_alloc_new w _
  refine run_convert_bytes_back (P := Tryz.prog) _ 22 9 5 ⟨w.heap.size, 0, none⟩ 4 [a, b, c, d] Tryz.underlying22 Tryz.underlying5 Tryz.underlying9 (fun j hj => ?_)
  have e : (⟨w.heap.size, 0, none⟩ : Addr).add j = ⟨w.heap.size, j, none⟩ := by unfold Addr.add; split <;> simp_all
  rw [e]
  exact hb.cell (List.getElem?_eq_getElem hj)

set_option maxRecDepth 100000 in
set_option maxHeartbeats 1600000 in
theorem impl_sx (s : ByteArray) (w : World) (hs : s.size ≤ 4194304) :
    Calls Tryz.prog 78 #[.string s] w fun e w' => e = .returned (.string (nstr (sxL s.data.toList))) ∧ Below w.heap.size w w' := by
  obtain ⟨a, b, c, d, hd⟩ := four_of (sndL_length s.data.toList)
  have HD := Lib.hid hd
  have HS := Lib.hid hs
  have HZ := sndL_zero s.data.toList
  rw [hd] at HZ
  by_cases h0 : sxL s.data.toList = []
  · have hq := fun w : World => run_zero4 w a b c d true (by unfold same4; exact decide_eq_true (HZ.2 h0))
    have H0 := Lib.hid h0
    clear hd hs HZ h0
    go_enter Tryz.func78, Tryz.ntmps78
    go_wp2_with (go_at_call 102; (with_reducible refine (impl_so _ _ HS.out a b c d HD.out).mono ?_); rintro e w1 ⟨rfl, hb1⟩)
    go_ret
    exact ⟨nret_str (by rw [H0.out]; rfl), hb1.alloc hb1.size _⟩
  · have hq := fun w : World => run_zero4 w a b c d false (by unfold same4; exact decide_eq_false (fun e => h0 (HZ.1 e)))
    have hcv := fun w : World => conv_arr4 w a b c d
    have H0 := Lib.hid (show [a, b, c, d] = sxL s.data.toList by rw [← hd, sndL_some h0])
    clear hd hs HZ h0
    go_enter Tryz.func78, Tryz.ntmps78
    go_wp2_with (go_at_call 102; (with_reducible refine (impl_so _ _ HS.out a b c d HD.out).mono ?_); rintro e w1 ⟨rfl, hb1⟩)
    go_ret
    exact ⟨nret_str (by rw [H0.out]), hb1.alloc hb1.size _⟩

end Go.Proofs.YtggohfinkpppkabGreatDoor
