/-
  What impl.ParseFeatures answers. By an AI agent.
-/
import Derived.Test.YtknkhljegmielaaDoorFeatPS
import Derived.Test.YtknkhljegmielaaDoorFeatF2
import Derived.Test.YtknkhljegmielaaDoorMaxAt
namespace Go.Proofs.YtknkhljegmielaaDoor
open Go.RowKit
set_option linter.unusedVariables false

/-- strings.Cut at an equals sign -/
theorem eqs_is (p : ByteArray) (w : World) (hp : p.size ≤ 1048576) (hx : MaxAt w) (N V : ByteArray) (f : Bool) (hN : (Lib.cut p.data.toList [61]).1 = N.data.toList) (hV : (Lib.cut p.data.toList [61]).2.1 = V.data.toList) (hf : (Lib.cut p.data.toList [61]).2.2 = f) :
    Calls Tryd.prog 60 #[.string p, .string ⟨#[61]⟩] w fun e w' => e = .returned (.tuple #[.string N, .string V, .bool f]) ∧ Below w.heap.size w w' := by
  obtain ⟨m, hm⟩ := hx
  refine (Tryd.strings_Cut p ⟨#[61]⟩ m w (by omega) hm).mono fun e w' ⟨he, n, hw⟩ => ⟨?_, ?_⟩
  · rw [he]
    show Ending.returned (.tuple #[.string ⟨(Lib.cut p.data.toList [61]).1.toArray⟩, .string ⟨(Lib.cut p.data.toList [61]).2.1.toArray⟩, .bool (Lib.cut p.data.toList [61]).2.2]) = _
    rw [hN, hV, hf]
  · rw [hw]
    exact ⟨rfl, rfl, rfl, Nat.le_refl _, fun _ _ => rfl⟩

theorem tail_mem2 (c : UInt8) : ∀ {L : List Str} {y : Str}, y ∈ L → y.length ≤ (Lib.joinTail [c] L).length
  | z :: L, y, h => by
    rw [tail_cons]
    rcases List.mem_cons.1 h with rfl | h
    · simp; omega
    · have := tail_mem2 c h
      simp; omega
theorem split_part2 (c : UInt8) {k : Nat} {s x : Str} {L : List Str} (h : Lib.splitK [c] 0 k s = x :: L) : ∀ y ∈ x :: L, y.length ≤ s.length := by
  obtain ⟨x', L', h1, h2⟩ := split_back c k s
  rw [h] at h1
  injection h1 with e1 e2
  subst e1
  subst e2
  intro y hy
  rw [h2, List.length_append]
  rcases List.mem_cons.1 hy with rfl | hy
  · omega
  · have := tail_mem2 c hy
    omega
theorem row_cell2 (w : World) (P : List ByteArray) (N j : Nat) (t : ByteArray) (hj : P[j]? = some t) : (w.alloc (.cells (Lib.cellsOf P N) 9)).cell? ⟨w.heap.size, j, none⟩ = some (.string t) := by
  rw [cell_of_row (w.alloc (.cells (Lib.cellsOf P N) 9)) w.heap.size j (Lib.cellsOf P N) 9 (0, 0) (heap_alloc_new w _)]
  have hl : j < P.length := (List.getElem?_eq_some_iff.1 hj).1
  unfold Lib.cellsOf
  rw [List.getElem?_toArray, List.getElem?_append_left (by simpa using hl), List.getElem?_map, hj]
  rfl

/-- what strings.SplitN at a space hands back -/
def GivesSp (w : World) (s : Str) (e : Ending) (w' : World) : Prop :=
  ∃ (k : Nat) (P : List Str) (a : Option Addr) (c : Nat), e = .returned (.slice a P.length c) ∧ Lib.splitK [32] 0 k s = P ∧ (s.length < 5 ∨ 5 ≤ k) ∧ InS w' a P ∧ 1 ≤ P.length ∧ P.length ≤ 7 ∧ (∀ y ∈ P, y.length ≤ s.length) ∧ Below w.heap.size w w'

theorem splits_is (s : ByteArray) (w : World) (hs : s.size ≤ 1048576) (hx : MaxAt w) :
    Calls Tryd.prog 27 #[.string s, .string ⟨#[32]⟩, .int .i64 7] w (GivesSp w s.data.toList) := by
  obtain ⟨m, hm⟩ := hx
  refine (Tryd.strings_SplitN s ⟨#[32]⟩ 7 m w (by omega) hm (by decide) (by decide) (by decide)).mono fun e w' ⟨he, hw⟩ => ?_
  obtain ⟨P, hP⟩ : ∃ P, Lib.splitB ⟨#[32]⟩ 0 (min 7 (s.size + 1) - 1) s = P := ⟨_, rfl⟩
  have hlen := Lib.splitB_length_le ⟨#[32]⟩ 0 (min 7 (s.size + 1) - 1) s
  have hd := Lib.splitB_data ⟨#[32]⟩ 0 (min 7 (s.size + 1) - 1) s
  rw [hP] at he hw hlen hd
  have hz : s.data.toList.length = s.size := by simp
  cases P with
  | nil =>
    exfalso
    obtain ⟨x, L, h1, -⟩ := split_back 32 (min 7 (s.size + 1) - 1) s.data.toList
    have h2 : ([] : List Str) = x :: L := hd.trans h1
    cases h2
  | cons p Q =>
    have hk : Lib.splitK [32] 0 (min 7 (s.size + 1) - 1) s.data.toList = p.data.toList :: Q.map (·.data.toList) := hd.symm
    have hpart := split_part2 32 hk
    have hQ : (Q.map (·.data.toList)).length = Q.length := by simp
    rw [List.length_cons] at hlen
    refine ⟨min 7 (s.size + 1) - 1, p.data.toList :: Q.map (·.data.toList), some ⟨w.heap.size, 0, none⟩, min 7 (s.size + 1), ?_, hk, by omega, ?_, by simp, by rw [List.length_cons, hQ]; omega, hpart, ?_⟩
    · rw [he, List.length_cons, List.length_cons, hQ]
    · rw [hw]
      refine fun _ => ⟨w.heap.size, 0, rfl, by simp, fun j x hj => ?_⟩
      rw [Nat.zero_add]
      have h1 : ((p :: Q).map (·.data.toList))[j]? = some x := hj
      rw [List.getElem?_map] at h1
      cases h2 : (p :: Q)[j]? with
      | none => rw [h2] at h1; simp at h1
      | some t =>
        rw [h2] at h1
        simp at h1
        rw [row_cell2 w (p :: Q) _ j t h2, ← h1]
    · rw [hw]; exact (Below.refl _ _).alloc (Nat.le_refl _) _

theorem ffR_data {F : List Int} {R : ByteArray} (h : fvB F = true) (hr : ffR F = R) : ffL F = R.data.toList := by
  rw [ff_yes h] at hr
  have := congrArg (fun b : ByteArray => b.data.toList) hr
  simpa using this
theorem cut_part_len (l : Str) : (Lib.cut l [61]).2.1.length ≤ l.length := by
  unfold Lib.cut
  split
  · simp
  · simp

end Go.Proofs.YtknkhljegmielaaDoor
