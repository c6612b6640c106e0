/-
  What impl.compareFrequencies answers. By an AI agent.
-/
import Derived.Test.YtggohfinkpppkaaOrdC
import Derived.StillTailTactics
namespace Go.Proofs.Ytggohfinkpppkaa
open Go.RowKit Go.Sort
set_option linter.unusedVariables false

theorem cf_world (W : World) (o1 o2 o3 : Obj) : (((W.alloc o1).alloc o2).alloc o3).drew = grow (W.drewN 1) #[o1, o2, o3] := by
  have h : ((W.alloc o1).alloc o2).alloc o3 = grow W #[o1, o2, o3] := by
    rw [alloc_eq_grow, alloc_eq_grow, alloc_eq_grow, grow_grow, grow_grow]
    rfl
  rw [h]
  rfl

/-- draws and new blocks alone -/
def Grew (W w' : World) : Prop := ∃ q os', w' = grow (W.drewN q) os'
theorem grew_cf (W : World) (o1 o2 o3 : Obj) : Grew W (((W.alloc o1).alloc o2).alloc o3).drew := ⟨1, _, cf_world W o1 o2 o3⟩

set_option maxRecDepth 100000 in
set_option maxHeartbeats 400000 in
theorem cf_is (s t : ByteArray) (x y r : Int) (W : World) (h : orI (cmpI x y) (cmpR s.data.toList t.data.toList) = r) :
    Calls Try.prog 92 #[.agg #[.string s, .int .i64 x], .agg #[.string t, .int .i64 y]] W fun e w' => e = .returned (.int .i64 r) ∧ Grew W w' := by
  obtain ⟨u, hu⟩ : ∃ u, cmpI x y = u := ⟨_, rfl⟩
  obtain ⟨v, hv⟩ : ∃ v, cmpR s.data.toList t.data.toList = v := ⟨_, rfl⟩
  rw [hu, hv] at h
  have HU := Lib.hid hu
  have HV := Lib.hid hv
  have HR := Lib.hid h
  clear hu hv h
  obtain ⟨W2, hW2⟩ : ∃ W2, W2 = (W.alloc (.cells #[.string s, .int .i64 x] 66)).alloc (.cells #[.string t, .int .i64 y] 66) := ⟨_, rfl⟩
  have c0 : W2.cell? ⟨W.heap.size, 0, none⟩ = some (.string s) := by rw [hW2]; simp [go_sem]
  have c1 : W2.cell? ⟨W.heap.size, 1, none⟩ = some (.int .i64 x) := by rw [hW2]; simp [go_sem]
  have c2 : W2.cell? ⟨W.heap.size + 1, 0, none⟩ = some (.string t) := by rw [hW2]; simp [go_sem]
  have c3 : W2.cell? ⟨W.heap.size + 1, 1, none⟩ = some (.int .i64 y) := by rw [hW2]; simp [go_sem]
  have HW2 := Lib.hid hW2
  go_enter Try.func92, Try.ntmps92
  go_wp2
  rw [← hW2]
  clear hW2
  refine wp_region_still_tail 10 (by kernel_rfl) (by kernel_rfl) ?_
  simp only [List.take_succ_cons, List.take_zero, List.drop_succ_cons, List.drop_zero]
  still_step
  still_step
  still_step
  still_step
  still_call (cmpI_is _ _ _ _ HU.out)
  still_step
  still_step
  still_step
  still_step
  still_call (cmp_is _ _ _ _ HV.out)
  refine wpStill_nil ?_
  change wpList _ _ _ _ _ W2.drew
  have hs : W2.heap.size = W.heap.size + 1 + 1 := by rw [HW2.out]; simp
  have HSZ := Lib.hid hs
  generalize hd : W2.drew = W3
  have HW3 := Lib.hid hd
  have h3 : W3.heap.size = W2.heap.size := by rw [← hd]; rfl
  have HO := Lib.hid (or_is W3.heap.size u v r (W3.alloc (.cells #[.int .i64 u, .int .i64 v] 3)) (by simp [go_sem]) (by simp [go_sem]) HR.out)
  clear hs hd h3 c0 c1 c2 c3
  go_wp2_with (go_at_call 125; (refine HO.out.mono ?_); rintro e w1 ⟨rfl, rfl⟩)
  go_ret
  refine ⟨rfl, ?_⟩
  rw [← HW3.out, HW2.out]
  exact grew_cf W _ _ _

end Go.Proofs.Ytggohfinkpppkaa
