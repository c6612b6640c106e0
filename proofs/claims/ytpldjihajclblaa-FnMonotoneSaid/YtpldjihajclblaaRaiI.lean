/-
  What impl.raise answers. By an AI agent.
-/
import Derived.Test.YtpldjihajclblaaMonH
import Derived.Test.YtpldjihajclblaaGrdI
import Derived.Test.YtpldjihajclblaaGRul
namespace Go.Proofs.Ytpldjihajclblaa
open Go.RowKit
set_option linter.unusedVariables false
set_option linter.unusedSimpArgs false
set_option linter.unnecessarySimpa false

theorem levR_range {R : List (List TS)} {n x : Int} (hv : vsB R = true) (h : x ∈ levR R n) : 0 ≤ x ∧ x ≤ 1000 := by
  unfold levR at h
  rw [levF_mem] at h
  unfold rawF at h
  rcases List.mem_cons.1 h with rfl | h
  · omega
  · obtain ⟨t, ht, rfl⟩ := List.mem_map.1 h
    obtain ⟨r, hr, htr⟩ := List.mem_flatten.1 (List.mem_filter.1 ht).1
    have := vt_of (vr_test (vs_rule hv hr) htr)
    omega
theorem fv_each {f : List Int} (h : f.length = 6) (hr : ∀ n, n < 6 → 0 ≤ f.getD n 0 ∧ f.getD n 0 ≤ 1000) : fvB f = true := by
  refine fv_ok h (List.all_eq_true.2 fun x hx => ?_)
  obtain ⟨j, hj, rfl⟩ := List.getElem_of_mem hx
  have h1 := hr j (by omega)
  rw [List.getD_eq_getElem?_getD, List.getElem?_eq_getElem hj] at h1
  simp only [Option.getD_some] at h1
  simp [h1.1, h1.2]
theorem fv_grid {R : List (List TS)} {f : List Int} (hv : vsB R = true) (h : f ∈ gridV (levs R)) : fvB f = true :=
  fv_each (grid_mem h).1 fun n hn => levR_range hv ((grid_mem h).2 n hn)
theorem fv_set {R : List (List TS)} {f : List Int} {n : Nat} {x m : Int} (hv : vsB R = true) (h : fvB f = true) (hx : x ∈ levR R m) : fvB (f.set n x) = true := by
  have h1 := fv_of h
  refine fv_ok (by rw [List.length_set]; exact h1.1) (List.all_eq_true.2 fun y hy => ?_)
  rcases List.mem_or_eq_of_mem_set hy with h2 | rfl
  · have := within_mem h1.2 h2
    simp [this.1, this.2]
  · have := levR_range hv hx
    simp [this.1, this.2]
theorem idx_mem {l : List Int} {x : Int} (h : x ∈ l) : Lib.idxOf l x = ((l.idxOf x : Nat) : Int) := by
  have hlt := List.idxOf_lt_length_iff.2 h
  have h1 := Lib.idxOf_hit l l.length (l.idxOf x) x hlt (Nat.le_refl _) (by rw [List.getD_eq_getElem?_getD, List.getElem?_eq_getElem hlt]; exact List.getElem_idxOf hlt) (fun j hj e => by
    have h2 := List.not_of_lt_findIdx (p := (· == x)) (xs := l) hj
    rw [List.getD_eq_getElem?_getD, List.getElem?_eq_getElem (by omega)] at e
    simp at e h2
    exact h2 e)
  rwa [List.take_length] at h1
theorem raise_none {f : List Int} {n : Nat} {l : List Int} (h : raiseV f n l = none) (hm : f.getD n 0 ∈ l) : l.idxOf (f.getD n 0) + 1 = l.length := by
  have hlt := List.idxOf_lt_length_iff.2 hm
  unfold raiseV at h
  split at h
  · cases h
  · omega
theorem raise_some {f : List Int} {n : Nat} {l u : List Int} (h : raiseV f n l = some u) : l.idxOf (f.getD n 0) + 1 < l.length ∧ u = f.set n (l.getD (l.idxOf (f.getD n 0) + 1) 0) := by
  unfold raiseV at h
  split at h
  · injection h with h
    exact ⟨by assumption, h.symm⟩
  · cases h

set_option maxRecDepth 100000 in
set_option maxHeartbeats 3200000 in
theorem rai_no (af : Option Addr) (cf : Nat) (f : List Int) (n : Nat) (al : Option Addr) (cl : Nat) (l : List Int) (w : World) (hf : InI w af f) (hfl : f.length = 6) (hn : n < 6) (hl : InI w al l) (hm : f.getD n 0 ∈ l) (hl9 : l.length ≤ 10) (hr : raiseV f n l = none) :
    Calls Try.prog 22 #[.slice af f.length cf, .int .i64 n, .slice al l.length cl] w fun e w' => e = .returned (.tuple #[.slice none 0 0, .bool false]) ∧ w' = w := by
  have hk1 := raise_none hr hm
  obtain ⟨bf, of, rfl, hbf, hcf⟩ := hf (by omega)
  obtain ⟨bl, ol, rfl, hbl, hcl⟩ := hl (by have := List.length_pos_of_mem hm; omega)
  obtain ⟨y, hy⟩ : ∃ y, f[n]? = some y := ⟨_, List.getElem?_eq_getElem (by omega)⟩
  have f0 : w.cell? ⟨bf, of + n, none⟩ = some (.int .i64 y) := hcf n y hy
  have hyd : f.getD n 0 = y := getD_is hy
  rw [hyd] at hm hk1
  obtain ⟨k, hk⟩ : ∃ k, l.idxOf y = k := ⟨_, rfl⟩
  have hC := index_own bl ol l.length cl l y w hl rfl (by omega) (by omega)
  rw [idx_mem hm, hk] at hC
  rw [hk] at hk1
  have HC := Lib.hid hC
  have hq : (((k : Int) + 1) == (l.length : Int)) = true := by simp; omega
  have hj1 : IntKind.i64.wrap ((k : Int) + 1) = (k : Int) + 1 := IntWalk.i64_in _ (by omega)
  have hnf : n < f.length := by omega
  clear hcf hcl hf hl hm hr hC hy hyd hk
  go_enter Try.func22, Try.ntmps22
  go_wp2_with (go_at_call 44; ((with_reducible refine HC.out.mono ?_); rintro e w1 ⟨rfl, rfl⟩))
  go_ret2
  exact ⟨rfl, rfl⟩

set_option maxRecDepth 100000 in
set_option maxHeartbeats 3200000 in
theorem rai_yes (af : Option Addr) (cf : Nat) (f : List Int) (n : Nat) (al : Option Addr) (cl : Nat) (l u : List Int) (w : World) (hf : InI w af f) (hfl : f.length = 6) (hn : n < 6) (hl : InI w al l) (hm : f.getD n 0 ∈ l) (hl9 : l.length ≤ 10) (hr : raiseV f n l = some u) :
    Calls Try.prog 22 #[.slice af f.length cf, .int .i64 n, .slice al l.length cl] w fun e w' => ∃ g c', e = .returned (.tuple #[.slice (some ⟨g, 0, none⟩) f.length c', .bool true]) ∧ OwnI w' w.heap.size (.slice (some ⟨g, 0, none⟩) f.length c') u ∧ Below w.heap.size w w' := by
  obtain ⟨hk1, hu⟩ := raise_some hr
  have hin := hf
  obtain ⟨bf, of, rfl, hbf, hcf⟩ := hf (by omega)
  obtain ⟨bl, ol, rfl, hbl, hcl⟩ := hl (by omega)
  obtain ⟨y, hy⟩ : ∃ y, f[n]? = some y := ⟨_, List.getElem?_eq_getElem (by omega)⟩
  have f0 : w.cell? ⟨bf, of + n, none⟩ = some (.int .i64 y) := hcf n y hy
  have hyd : f.getD n 0 = y := getD_is hy
  rw [hyd] at hm hk1 hu
  obtain ⟨k, hk⟩ : ∃ k, l.idxOf y = k := ⟨_, rfl⟩
  have hC := index_own bl ol l.length cl l y w hl rfl (by omega) (by omega)
  rw [idx_mem hm, hk] at hC
  rw [hk] at hk1 hu
  obtain ⟨x, hx⟩ : ∃ x, l[k + 1]? = some x := ⟨_, List.getElem?_eq_getElem hk1⟩
  rw [getD_is hx] at hu
  have HC := Lib.hid hC
  have HCC := Lib.hid (clone_any (some ⟨bf, of, none⟩) cf f w hin nofun (by omega))
  have HX1 := Lib.hid (fun (W : World) (hW : Below w.heap.size w W) => (hW.cell (p := ⟨bl, ol + (k + 1), none⟩) hbl).trans (hcl (k + 1) x hx))
  have HU := Lib.hid hu
  have hq : (((k : Int) + 1) == (l.length : Int)) = false := by simp; omega
  have hj1 : IntKind.i64.wrap ((k : Int) + 1) = (k : Int) + 1 := IntWalk.i64_in _ (by omega)
  have hnf : n < f.length := by omega
  have HFL := Lib.hid hfl
  clear hcf hcl hf hl hm hr hC hy hyd hk hin hx hu hbf hbl hfl
  go_enter Try.func22, Try.ntmps22
  go_wp2_with (first
    | (go_at_call 44; ((with_reducible refine HC.out.mono ?_); rintro e w1 ⟨rfl, rfl⟩))
    | (go_at_call 43; ((with_reducible refine HCC.out.mono ?_); rintro e w2 ⟨a2, c2, rfl, ho, hb⟩; have HO := Lib.hid ho; have HB := Lib.hid hb; clear ho hb; refine Hid.out ?_)))
  obtain ⟨⟨g, rfl⟩, hc2⟩ := owni_some HO.out (by have := HFL.out; omega)
  obtain ⟨u0, u1⟩ := HO.out.cellI hnf
  have x1 := HX1.out _ HB.out
  have HSU := Lib.hid (HO.out.set n x)
  have hr0 : n + 0 = n := rfl
  have hgb := (World.ownsRow.lt HO.out g rfl)
  refine Lib.hid ?_
  go_wp2
  go_ret2
  refine ⟨g, c2, rfl, ?_, HB.out.grown HSU.out.2 HB.out.size (fun q hq => by cases hq; exact hgb.1)⟩
  rw [HU.out]
  exact HSU.out.1

end Go.Proofs.Ytpldjihajclblaa
