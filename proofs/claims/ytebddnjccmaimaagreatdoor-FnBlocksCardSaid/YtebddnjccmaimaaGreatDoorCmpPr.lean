/-
  The order of pairs of identifiers: impl.comparePairs, slices.SortFunc with it. By an AI agent.
-/
import Derived.Test.YtebddnjccmaimaaGreatDoorGPr
import Derived.Test.YtebddnjccmaimaaGreatDoorGOr
import Derived.Test.YtebddnjccmaimaaGreatDoorShelfF
import Derived.StillTailTactics
namespace Go.Proofs.YtebddnjccmaimaaGreatDoor
open Go.RowKit Go.Sort
set_option linter.unusedVariables false

def cpR (x y : IP) : Int := orI (cmpI x.1 y.1) (cmpI x.2 y.2)
theorem cpR_neg (x y : IP) : cpR x y < 0 ↔ plt x y := by
  unfold cpR orI cmpI plt
  by_cases h1 : x.1 < y.1
  · simp [h1]
  · by_cases h2 : y.1 < x.1
    · simp [h1, h2]; omega
    · have e : x.1 = y.1 := by omega
      by_cases h3 : x.2 < y.2
      · simp [e, h3]
      · by_cases h4 : y.2 < x.2
        · simp [e, h3, h4]
        · simp [e, h3, h4]
theorem lt_cp (x y : IP) : ltOf cpR x y = true ↔ plt x y := by
  unfold ltOf
  rw [decide_eq_true_eq]
  exact cpR_neg x y
theorem lt_cp_no (x y : IP) : ltOf cpR x y = false ↔ ¬ plt x y := by
  rw [← Bool.not_eq_true, lt_cp]
theorem cp_swo : SWO (ltOf cpR) where
  irrefl x := (lt_cp_no x x).2 (plt_irr x)
  trans x y z h1 h2 := by
    rw [lt_cp] at *
    exact plt_trans h1 h2
  ntrans x y z h1 h2 := by
    rw [lt_cp_no] at *
    unfold plt at *
    omega
theorem encP_one (x : IP) : ∀ v ∈ encP x, v.oneCell' = true := by
  intro v h
  unfold encP at h
  rcases List.mem_cons.1 h with rfl | h
  · rfl
  · rcases List.mem_cons.1 h with rfl | h
    · rfl
    · cases h

set_option maxRecDepth 100000 in
set_option maxHeartbeats 400000 in
theorem cp_is (x0 x1 y0 y1 r : Int) (W : World) (h : orI (cmpI x0 y0) (cmpI x1 y1) = r) :
    Calls Tryz.prog 48 #[.agg #[.int .i64 x0, .int .i64 x1], .agg #[.int .i64 y0, .int .i64 y1]] W fun e w' => e = .returned (.int .i64 r) ∧ Grew W w' := by
  obtain ⟨u, hu⟩ : ∃ u, cmpI x0 y0 = u := ⟨_, rfl⟩
  obtain ⟨v, hv⟩ : ∃ v, cmpI x1 y1 = v := ⟨_, rfl⟩
  rw [hu, hv] at h
  have HU := Lib.hid hu
  have HV := Lib.hid hv
  have HR := Lib.hid h
  clear hu hv h
  obtain ⟨W2, hW2⟩ : ∃ W2, W2 = (W.alloc (.cells #[.int .i64 x0, .int .i64 x1] 34)).alloc (.cells #[.int .i64 y0, .int .i64 y1] 34) := ⟨_, rfl⟩
  have c0 : W2.cell? ⟨W.heap.size, 0, none⟩ = some (.int .i64 x0) := by rw [hW2]; simp [go_sem]
  have c1 : W2.cell? ⟨W.heap.size, 1, none⟩ = some (.int .i64 x1) := by rw [hW2]; simp [go_sem]
  have c2 : W2.cell? ⟨W.heap.size + 1, 0, none⟩ = some (.int .i64 y0) := by rw [hW2]; simp [go_sem]
  have c3 : W2.cell? ⟨W.heap.size + 1, 1, none⟩ = some (.int .i64 y1) := by rw [hW2]; simp [go_sem]
  have HW2 := Lib.hid hW2
  go_enter Tryz.func48, Tryz.ntmps48
  go_wp2
  rw [← hW2]
  clear hW2
  refine wp_region_still_tail 10 (by kernel_rfl) (by kernel_rfl) ?_
  simp only [List.take_succ_cons, List.take_zero, List.drop_succ_cons, List.drop_zero]
  still_step
  still_step
  still_step
  still_step
  still_call (cmpI_is _ _ _ _ HU.out)
  still_step
  still_step
  still_step
  still_step
  still_call (cmpI_is _ _ _ _ HV.out)
  refine wpStill_nil ?_
  change wpList _ _ _ _ _ W2.drew
  have hs : W2.heap.size = W.heap.size + 1 + 1 := by rw [HW2.out]; simp
  have HSZ := Lib.hid hs
  generalize hd : W2.drew = W3
  have HW3 := Lib.hid hd
  have h3 : W3.heap.size = W2.heap.size := by rw [← hd]; rfl
  have HO := Lib.hid (or_is W3.heap.size u v r (W3.alloc (.cells #[.int .i64 u, .int .i64 v] 3)) (by simp [go_sem]) (by simp [go_sem]) HR.out)
  clear hs hd h3 c0 c1 c2 c3
  go_wp2_with (go_at_call 85; (refine HO.out.mono ?_); rintro e w1 ⟨rfl, rfl⟩)
  go_ret
  refine ⟨rfl, ?_⟩
  rw [← HW3.out, HW2.out]
  exact grew_cf W _ _ _

/-- the cells of a row of pairs, as the sort reads them -/
theorem holds_rowP {w : World} {base g n : Nat} {l : List IP} {cap : Nat} (h : w.ownsRow base 34 2 (.slice (some ⟨g, 0, none⟩) n cap) n (flatP l)) (hn : l.length = n) : HoldsK encP 2 w g 0 l.toArray := by
  intro j hj
  have hj2 : j < l.length * 2 := by simpa using hj
  have hc := h.cellAt j (by omega)
  have hf := h.frozenAt j
  have hi : j / 2 < l.length := by omega
  have hx := List.getElem?_eq_getElem hi
  obtain ⟨e0, e1⟩ := flatP_at hx
  rw [Nat.zero_add]
  refine ⟨?_, hf⟩
  rw [hc, Sort.get_flatK _ _ _ _ (by simpa using hj2)]
  have hg : (l.toArray)[j / 2]! = l[j / 2] := by simp [hi]
  rw [hg]
  rcases Nat.mod_two_eq_zero_or_one j with h0 | h0
  · rw [h0]
    have ej : j / 2 * 2 = j := by omega
    rw [ej] at e0
    rw [e0]
    rfl
  · rw [h0]
    have ej : j / 2 * 2 + 1 = j := by omega
    rw [ej] at e1
    rw [e1]
    rfl
theorem grown_sortP {w : World} {g n : Nat} {os : Array Obj} (d : Array IP) : w.grownBy (sortWorldK encP 2 w g 0 n d os) (some g) := by
  unfold sortWorldK Sort.putRowK
  refine ⟨rfl, rfl, rfl, by simp, fun k hk hne => ?_⟩
  rw [Sort.heap_grow_old _ _ (by simpa using hk)]
  have : g ≠ k := fun e => hne (by rw [e])
  simp [Sort.putRow, Sort.mapBlock, Sort.ahead, Array.getElem?_modify, this]
theorem cp_lays (blk off size : Nat) (w : World) : CmpLays Tryz.prog 48 #[] encP 2 cpR blk off size w :=
  fun _ _ _ _ x y => (cp_is x.1 x.2 y.1 y.2 (cpR x y) _ rfl).mono fun e w' h => h

theorem cells_ext {cur : Array Value} {l : List IP} {n : Nat} (hs : n * 2 ≤ cur.size) (hn : l.length = n) (h : ∀ j x, l[j]? = some x → cur[j * 2]? = some (.int .i64 x.1) ∧ cur[j * 2 + 1]? = some (.int .i64 x.2)) : cur.toList.take (n * 2) = flatP l := by
  refine List.ext_getElem? fun i => ?_
  by_cases hi : i < n * 2
  · rw [List.getElem?_take_of_lt hi, Array.getElem?_toList]
    have hx := List.getElem?_eq_getElem (show i / 2 < l.length by omega)
    obtain ⟨e0, e1⟩ := flatP_at hx
    obtain ⟨c0, c1⟩ := h _ _ hx
    rcases Nat.mod_two_eq_zero_or_one i with h0 | h0
    · have ej : i / 2 * 2 = i := by omega
      rw [ej] at e0 c0
      rw [e0, c0]
    · have ej : i / 2 * 2 + 1 = i := by omega
      rw [ej] at e1 c1
      rw [e1, c1]
  · rw [List.getElem?_eq_none (by simp; omega), List.getElem?_eq_none (by rw [flatP_len]; omega)]
/-- a row that was sorted is a row of the caller's own still -/
theorem own_sorted {w : World} {base g m cap : Nat} {q : List IP} {d : Array IP} {os : Array Obj} (h : OwnP w base (.slice (some ⟨g, 0, none⟩) q.length cap) q) (hd : d.size = q.length) :
    OwnP (sortWorldK encP 2 w g 0 m d os) base (.slice (some ⟨g, 0, none⟩) d.toList.length cap) d.toList := by
  have hlt := (World.ownsRow.lt h g rfl).2
  have hH := holds_rowP h rfl
  have hK := holdsK_sortWorldK_c encP 2 w g 0 q.toArray d m os hH hlt (by simpa using hd)
  have hdl : d.toList.length = q.length := by simpa using hd
  refine ⟨by rw [flatP_len], .inr ?_⟩
  rcases h.2 with ⟨hv, _⟩ | ⟨g', cap', cur, hv, hb, hg, h1, h2, h3, h4⟩
  · cases hv
  · simp only [Value.slice.injEq, Option.some.injEq, Addr.mk.injEq] at hv
    obtain ⟨⟨rfl, _⟩, _, rfl⟩ := hv
    have hblk : (sortWorldK encP 2 w g 0 m d os).heap[g]? = some (.cells (putCells id 0 (flatK encP 2 d) cur) 34 (0, 0)) := by
      unfold sortWorldK Sort.putRowK
      rw [Sort.heap_grow_old _ _ (by simpa [Sort.putRow, Sort.mapBlock, Sort.ahead] using hlt)]
      simp [Sort.putRow, Sort.mapBlock, Sort.ahead, Array.getElem?_modify, hg, Sort.onCells]
    have hsz : (putCells id 0 (flatK encP 2 d) cur).size = cur.size := by simp [putCells]
    refine ⟨g, cap, _, rfl, hb, hblk, by omega, h2, by rw [hsz]; exact h3, cells_ext (by rw [hsz]; omega) rfl fun j x hj => ?_⟩
    have hjd : j < d.size := by simpa using (List.getElem?_eq_some_iff.1 hj).1
    have k0 := (Sort.HoldsK.cell hK hjd (show 0 < 2 by omega)).1
    have k1 := (Sort.HoldsK.cell hK hjd (show 1 < 2 by omega)).1
    have ex : d[j]! = x := by
      have := (List.getElem?_eq_some_iff.1 hj).2
      rw [getElem!_pos d j hjd]
      simpa using this
    rw [ex] at k0 k1
    rw [cell_of_row _ g _ _ _ (0, 0) hblk, Nat.zero_add] at k0 k1
    exact ⟨k0, k1⟩

set_option maxRecDepth 100000 in
set_option maxHeartbeats 1000000 in
theorem sort_ps (g : Nat) (q : List IP) (base cap : Nat) (w : World) (hl : q.length ≤ 4000000) (h : OwnP w base (.slice (some ⟨g, 0, none⟩) q.length cap) q) :
    Calls Tryz.prog 47 #[.slice (some ⟨g, 0, none⟩) q.length cap, .func (.func 48) #[] #[]] w fun e w' =>
      e = .returned (.tuple #[]) ∧ w.grownBy w' (some g) ∧ ∃ s : List IP, s.length = q.length ∧ (s.Pairwise fun p q => ¬ plt q p) ∧ (∀ x, x ∈ s ↔ x ∈ q) ∧ OwnP w' base (.slice (some ⟨g, 0, none⟩) s.length cap) s := by
  have eg : ∀ args w, (callFunc 48 args).run Tryz.prog w = .ok (.enter 48 args) w := enters_of Tryz.func48 (by kernel_rfl) rfl
  have hlt := (World.ownsRow.lt h g rfl).2
  have hH := holds_rowP h rfl
  have hsz : q.toArray.size = q.length := by simp
  have hcon := Tryz.slices_SortFunc 2 (fun w => by kernel_rfl) (fun w => by kernel_rfl) encP (fun _ => rfl) encP_one cpR cp_swo 48 #[] g 0 cap q.toArray w eg (cp_lays g 0 _ w) hH hlt (by rw [hsz]; omega)
  rw [hsz] at hcon
  refine hcon.mono ?_
  rintro e w' ⟨rfl, d, n, os, hp, hs, rfl⟩
  obtain ⟨hd, _, hperm⟩ := hp
  have hd' : d.size = q.length := by simpa using hd
  have e1 : d.extract 0 q.length = d := by rw [← hd']; exact Array.extract_size
  have e2 : q.toArray.extract 0 q.length = q.toArray := by rw [← hsz]; exact Array.extract_size
  rw [e1, e2] at hperm
  refine ⟨rfl, grown_sortP d, d.toList, by simpa using hd, ?_, fun x => by rw [hperm.mem_iff], own_sorted h hd'⟩
  rw [List.pairwise_iff_getElem]
  intro i j hi hj hij
  have h1 := hs i j (Nat.zero_le _) hij (by rw [← hd']; simpa using hj)
  rw [getElem!_pos d j (by simpa using hj), getElem!_pos d i (by simpa using hi), lt_cp_no] at h1
  simpa using h1

end Go.Proofs.YtebddnjccmaimaaGreatDoor
