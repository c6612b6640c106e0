/-
  The order of variables: impl.compareVariables. By an AI agent.
-/
import Derived.Test.YtookcggmapldeaaTsS
import Derived.Test.YtookcggmapldeaaPlainDg
import Derived.Test.YtookcggmapldeaaOrI
import Derived.StillTailTactics
namespace Go.Proofs.Ytookcggmapldeaa
open Go.RowKit Go.Sort
set_option linter.unusedVariables false
set_option linter.unusedSimpArgs false
set_option linter.unnecessarySimpa false

def cvP (x y : Int × Int) : Int := orI (cmpI x.1 y.1) (cmpI x.2 y.2)
def cvR (x y : TS) : Int := cvP x.1 y.1
theorem cvP_neg (x y : Int × Int) : cvP x y < 0 ↔ varLt x y = true := by
  unfold cvP orI cmpI varLt
  rw [decide_eq_true_eq]
  by_cases h1 : x.1 < y.1
  · simp [h1]
  · by_cases h2 : y.1 < x.1
    · simp [h1, h2]; omega
    · have e : x.1 = y.1 := by omega
      by_cases h3 : x.2 < y.2
      · simp [e, h3]
      · by_cases h4 : y.2 < x.2
        · simp [e, h3, h4]
        · simp [e, h3, h4]
theorem cvP_ge (x y : Int × Int) (b : Bool) (h : varLt x y = b) : decide (0 ≤ cvP x y) = !b := by
  have h1 := cvP_neg x y
  rw [h] at h1
  cases b
  · exact decide_eq_true (by have : ¬ cvP x y < 0 := fun e => by have := h1.1 e; cases this
                             omega)
  · exact decide_eq_false (by have := h1.2 rfl; omega)

set_option maxRecDepth 100000 in
set_option maxHeartbeats 400000 in
theorem cv_is (x0 x1 y0 y1 r : Int) (b c : Bool) (W : World) (h : orI (cmpI x0 y0) (cmpI x1 y1) = r) :
    Calls Try.prog 43 #[.agg #[.int .i64 x0, .int .i64 x1, .bool b], .agg #[.int .i64 y0, .int .i64 y1, .bool c]] W fun e w' => e = .returned (.int .i64 r) ∧ Grew W w' := by
  obtain ⟨u, hu⟩ : ∃ u, cmpI x0 y0 = u := ⟨_, rfl⟩
  obtain ⟨v, hv⟩ : ∃ v, cmpI x1 y1 = v := ⟨_, rfl⟩
  rw [hu, hv] at h
  have HU := Lib.hid hu
  have HV := Lib.hid hv
  have HR := Lib.hid h
  clear hu hv h
  obtain ⟨W2, hW2⟩ : ∃ W2, W2 = (W.alloc (.cells #[.int .i64 x0, .int .i64 x1, .bool b] 62)).alloc (.cells #[.int .i64 y0, .int .i64 y1, .bool c] 62) := ⟨_, rfl⟩
  have c0 : W2.cell? ⟨W.heap.size, 0, none⟩ = some (.int .i64 x0) := by rw [hW2]; simp [go_sem]
  have c1 : W2.cell? ⟨W.heap.size, 1, none⟩ = some (.int .i64 x1) := by rw [hW2]; simp [go_sem]
  have c2 : W2.cell? ⟨W.heap.size + 1, 0, none⟩ = some (.int .i64 y0) := by rw [hW2]; simp [go_sem]
  have c3 : W2.cell? ⟨W.heap.size + 1, 1, none⟩ = some (.int .i64 y1) := by rw [hW2]; simp [go_sem]
  have HW2 := Lib.hid hW2
  go_enter Try.func43, Try.ntmps43
  go_wp2
  rw [← hW2]
  clear hW2
  refine wp_region_still_tail 10 (by kernel_rfl) (by kernel_rfl) ?_
  simp only [List.take_succ_cons, List.take_zero, List.drop_succ_cons, List.drop_zero]
  still_step
  still_step
  still_step
  still_step
  still_call (cmpI_is _ _ _ _ HU.out)
  still_step
  still_step
  still_step
  still_step
  still_call (cmpI_is _ _ _ _ HV.out)
  refine wpStill_nil ?_
  change wpList _ _ _ _ _ W2.drew
  have hs : W2.heap.size = W.heap.size + 1 + 1 := by rw [HW2.out]; simp
  have HSZ := Lib.hid hs
  generalize hd : W2.drew = W3
  have HW3 := Lib.hid hd
  have h3 : W3.heap.size = W2.heap.size := by rw [← hd]; rfl
  have HO := Lib.hid (or_is W3.heap.size u v r (W3.alloc (.cells #[.int .i64 u, .int .i64 v] 3)) (by simp [go_sem]) (by simp [go_sem]) HR.out)
  clear hs hd h3 c0 c1 c2 c3
  go_wp2_with (go_at_call 69; (refine HO.out.mono ?_); rintro e w1 ⟨rfl, rfl⟩)
  go_ret
  refine ⟨rfl, ?_⟩
  rw [← HW3.out, HW2.out]
  exact grew_cf W _ _ _

end Go.Proofs.Ytookcggmapldeaa
