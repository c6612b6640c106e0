/-
  slices.SortFunc at tests without Below, ordered by impl.compareVariables. By an AI agent.
-/
import Derived.Test.YtpmfabpnjacegaaGreatDoorGQ5
import Derived.Test.YtpmfabpnjacegaaGreatDoorShelfF
namespace Go.Proofs.YtpmfabpnjacegaaGreatDoor
open Go.RowKit Go.Sort
set_option linter.unusedVariables false
set_option linter.unusedSimpArgs false
set_option linter.unnecessarySimpa false

def encV (x : IQ) : List Value := [.int .i64 x.1, .int .i64 x.2, .bool false]
theorem cvP_plt (x y : IQ) : cvP x y < 0 ↔ plt x y := by
  rw [cvP_neg]
  unfold varLt plt
  rw [decide_eq_true_eq]
theorem lt_cv (x y : IQ) : ltOf cvP x y = true ↔ plt x y := by
  unfold ltOf
  rw [decide_eq_true_eq]
  exact cvP_plt x y
theorem lt_cv_no (x y : IQ) : ltOf cvP x y = false ↔ ¬ plt x y := by
  rw [← Bool.not_eq_true, lt_cv]
theorem cv_swo : SWO (ltOf cvP) where
  irrefl x := (lt_cv_no x x).2 (plt_irr x)
  trans x y z h1 h2 := by
    rw [lt_cv] at *
    exact plt_trans h1 h2
  ntrans x y z h1 h2 := by
    rw [lt_cv_no] at *
    unfold plt at *
    omega
theorem encV_one (x : IQ) : ∀ v ∈ encV x, v.oneCell' = true := by
  intro v h
  simp [encV] at h
  rcases h with rfl | rfl | rfl <;> rfl

/-- the cells of a row of pairs, as the sort reads them -/
theorem holds_rowV {w : World} {base g n : Nat} {l : List IQ} {cap : Nat} (h : w.ownsRow base 86 3 (.slice (some ⟨g, 0, none⟩) n cap) n (flatV l)) (hn : l.length = n) : HoldsK encV 3 w g 0 l.toArray := by
  intro j hj
  have hj2 : j < l.length * 3 := by simpa using hj
  have hc := h.cellAt j (by omega)
  have hf := h.frozenAt j
  have hi : j / 3 < l.length := by omega
  have hx := List.getElem?_eq_getElem hi
  obtain ⟨e0, e1, e2⟩ := flatV_at hx
  rw [Nat.zero_add]
  refine ⟨?_, hf⟩
  rw [hc, Sort.get_flatK _ _ _ _ (by simpa using hj2)]
  have hg : (l.toArray)[j / 3]! = l[j / 3] := by simp [hi]
  rw [hg]
  have hm3 : j % 3 = 0 ∨ j % 3 = 1 ∨ j % 3 = 2 := by omega
  rcases hm3 with h0 | h0 | h0
  · rw [h0]
    have ej : j / 3 * 3 = j := by omega
    rw [ej] at e0
    rw [e0]
    rfl
  · rw [h0]
    have ej : j / 3 * 3 + 1 = j := by omega
    rw [ej] at e1
    rw [e1]
    rfl
  · rw [h0]
    have ej : j / 3 * 3 + 2 = j := by omega
    rw [ej] at e2
    rw [e2]
    rfl
theorem grown_sortV {w : World} {g n : Nat} {os : Array Obj} (d : Array IQ) : w.grownBy (sortWorldK encV 3 w g 0 n d os) (some g) := by
  unfold sortWorldK Sort.putRowK
  refine ⟨rfl, rfl, rfl, by simp, fun k hk hne => ?_⟩
  rw [Sort.heap_grow_old _ _ (by simpa using hk)]
  have : g ≠ k := fun e => hne (by rw [e])
  simp [Sort.putRow, Sort.mapBlock, Sort.ahead, Array.getElem?_modify, this]
theorem cv_lays (blk off size : Nat) (w : World) : CmpLays Tryz.prog 50 #[] encV 3 cvP blk off size w :=
  fun _ _ _ _ x y => (cv_is x.1 x.2 y.1 y.2 (cvP x y) false false _ rfl).mono fun e w' h => h

theorem cells_extV {cur : Array Value} {l : List IQ} {n : Nat} (hs : n * 3 ≤ cur.size) (hn : l.length = n) (h : ∀ j x, l[j]? = some x → cur[j * 3]? = some (.int .i64 x.1) ∧ cur[j * 3 + 1]? = some (.int .i64 x.2) ∧ cur[j * 3 + 2]? = some (.bool false)) : cur.toList.take (n * 3) = flatV l := by
  refine List.ext_getElem? fun i => ?_
  by_cases hi : i < n * 3
  · rw [List.getElem?_take_of_lt hi, Array.getElem?_toList]
    have hx := List.getElem?_eq_getElem (show i / 3 < l.length by omega)
    obtain ⟨e0, e1, e2⟩ := flatV_at hx
    obtain ⟨c0, c1, c2⟩ := h _ _ hx
    have hm3 : i % 3 = 0 ∨ i % 3 = 1 ∨ i % 3 = 2 := by omega
    rcases hm3 with h0 | h0 | h0
    · have ej : i / 3 * 3 = i := by omega
      rw [ej] at e0 c0
      rw [e0, c0]
    · have ej : i / 3 * 3 + 1 = i := by omega
      rw [ej] at e1 c1
      rw [e1, c1]
    · have ej : i / 3 * 3 + 2 = i := by omega
      rw [ej] at e2 c2
      rw [e2, c2]
  · rw [List.getElem?_eq_none (by simp; omega), List.getElem?_eq_none (by rw [flatV_len]; omega)]
/-- a row that was sorted is a row of the caller's own still -/
theorem own_sortedV {w : World} {base g m cap : Nat} {q : List IQ} {d : Array IQ} {os : Array Obj} (h : w.ownsRow base 86 3 (.slice (some ⟨g, 0, none⟩) q.length cap) q.length (flatV q)) (hd : d.size = q.length) :
    (sortWorldK encV 3 w g 0 m d os).ownsRow base 86 3 (.slice (some ⟨g, 0, none⟩) d.toList.length cap) d.toList.length (flatV d.toList) := by
  have hlt := (World.ownsRow.lt h g rfl).2
  have hH := holds_rowV h rfl
  have hK := holdsK_sortWorldK_c encV 3 w g 0 q.toArray d m os hH hlt (by simpa using hd)
  have hdl : d.toList.length = q.length := by simpa using hd
  refine ⟨by rw [flatV_len], .inr ?_⟩
  rcases h.2 with ⟨hv, _⟩ | ⟨g', cap', cur, hv, hb, hg, h1, h2, h3, h4⟩
  · cases hv
  · simp only [Value.slice.injEq, Option.some.injEq, Addr.mk.injEq] at hv
    obtain ⟨⟨rfl, _⟩, _, rfl⟩ := hv
    have hblk : (sortWorldK encV 3 w g 0 m d os).heap[g]? = some (.cells (putCells id 0 (flatK encV 3 d) cur) 86 (0, 0)) := by
      unfold sortWorldK Sort.putRowK
      rw [Sort.heap_grow_old _ _ (by simpa [Sort.putRow, Sort.mapBlock, Sort.ahead] using hlt)]
      simp [Sort.putRow, Sort.mapBlock, Sort.ahead, Array.getElem?_modify, hg, Sort.onCells]
    have hsz : (putCells id 0 (flatK encV 3 d) cur).size = cur.size := by simp [putCells]
    refine ⟨g, cap, _, rfl, hb, hblk, by omega, h2, by rw [hsz]; exact h3, cells_extV (by rw [hsz]; omega) rfl fun j x hj => ?_⟩
    have hjd : j < d.size := by simpa using (List.getElem?_eq_some_iff.1 hj).1
    have k0 := (Sort.HoldsK.cell hK hjd (show 0 < 3 by omega)).1
    have k1 := (Sort.HoldsK.cell hK hjd (show 1 < 3 by omega)).1
    have k2 := (Sort.HoldsK.cell hK hjd (show 2 < 3 by omega)).1
    have ex : d[j]! = x := by
      have := (List.getElem?_eq_some_iff.1 hj).2
      rw [getElem!_pos d j hjd]
      simpa using this
    rw [ex] at k0 k1 k2
    rw [cell_of_row _ g _ _ _ (0, 0) hblk, Nat.zero_add] at k0 k1 k2
    exact ⟨k0, k1, k2⟩

set_option maxRecDepth 100000 in
set_option maxHeartbeats 1000000 in
theorem sort_vs (g : Nat) (q : List IQ) (base cap : Nat) (w : World) (hl : q.length ≤ 4000000) (h : w.ownsRow base 86 3 (.slice (some ⟨g, 0, none⟩) q.length cap) q.length (flatV q)) :
    Calls Tryz.prog 49 #[.slice (some ⟨g, 0, none⟩) q.length cap, .func (.func 50) #[] #[]] w fun e w' =>
      e = .returned (.tuple #[]) ∧ w.grownBy w' (some g) ∧ ∃ s : List IQ, s.length = q.length ∧ (s.Pairwise fun p q => ¬ plt q p) ∧ (∀ x, x ∈ s ↔ x ∈ q) ∧ w'.ownsRow base 86 3 (.slice (some ⟨g, 0, none⟩) s.length cap) s.length (flatV s) := by
  have eg : ∀ args w, (callFunc 50 args).run Tryz.prog w = .ok (.enter 50 args) w := enters_of Tryz.func50 (by kernel_rfl) rfl
  have hlt := (World.ownsRow.lt h g rfl).2
  have hH := holds_rowV h rfl
  have hsz : q.toArray.size = q.length := by simp
  have hcon := Tryz.slices_SortFunc 3 (fun w => by kernel_rfl) (fun w => by kernel_rfl) encV (fun _ => rfl) encV_one cvP cv_swo 50 #[] g 0 cap q.toArray w eg (cv_lays g 0 _ w) hH hlt (by rw [hsz]; omega)
  rw [hsz] at hcon
  refine hcon.mono ?_
  rintro e w' ⟨rfl, d, n, os, hp, hs, rfl⟩
  obtain ⟨hd, _, hperm⟩ := hp
  have hd' : d.size = q.length := by simpa using hd
  have e1 : d.extract 0 q.length = d := by rw [← hd']; exact Array.extract_size
  have e2 : q.toArray.extract 0 q.length = q.toArray := by rw [← hsz]; exact Array.extract_size
  rw [e1, e2] at hperm
  refine ⟨rfl, grown_sortV d, d.toList, by simpa using hd, ?_, fun x => by rw [hperm.mem_iff], own_sortedV h hd'⟩
  rw [List.pairwise_iff_getElem]
  intro i j hi hj hij
  have h1 := hs i j (Nat.zero_le _) hij (by rw [← hd']; simpa using hj)
  rw [getElem!_pos d j (by simpa using hj), getElem!_pos d i (by simpa using hi), lt_cv_no] at h1
  simpa using h1

end Go.Proofs.YtpmfabpnjacegaaGreatDoor
