/-
  A valid record's four fields in the memory; small texts' tokens and codes; years. By an AI agent.
-/
import Derived.Test.YtebddnjccmaimaaGreatDoorRecOk
import Derived.Test.YtebddnjccmaimaaGreatDoorSndKeys
import Derived.Test.YtebddnjccmaimaaGreatDoorGNum
import Derived.Test.YtebddnjccmaimaaGreatDoorGMem
namespace Go.Proofs.YtebddnjccmaimaaGreatDoor
open Go.RowKit
set_option linter.unusedVariables false

theorem toks_small (s : ByteArray) (h : s.size ≤ 1000) : (tokensR s.data.toList).length ≤ 4000000 ∧ ∀ x ∈ tokensR s.data.toList, x.length ≤ 1048576 := by
  refine ⟨tokens_len s (by omega), fun x hx => ?_⟩
  have h1 := (setL_mem (wordsL (normL s.data.toList)) x).1 hx
  have h2 := words_short _ x h1
  have h3 := norm_len s.data.toList
  have h4 := dsize s
  omega
theorem keys_small (s : ByteArray) (h : s.size ≤ 1000) : (soundR s.data.toList).length ≤ 4000000 ∧ ∀ x ∈ soundR s.data.toList, x.length ≤ 1048576 := by
  refine ⟨sound_len s (by omega), fun x hx => ?_⟩
  have h1 := (setL_mem (keysL (tokensR s.data.toList)) x).1 hx
  obtain ⟨y, hy, rfl⟩ := List.mem_map.1 (List.mem_filter.1 h1).1
  have := sx_short y
  omega

/-- four strings in the memory -/
def Four (w : World) (a : Option Addr) (c : Nat) (l : List Str) (A0 A1 A2 A3 : ByteArray) (b o : Nat) : Prop :=
  a = some ⟨b, o, none⟩ ∧ b < w.heap.size ∧ l.length = 4 ∧ 4 ≤ c ∧ l = [A0.data.toList, A1.data.toList, A2.data.toList, A3.data.toList] ∧
    (w.cell? ⟨b, o, none⟩ = some (.string A0) ∧ w.cell? ⟨b, o + 1, none⟩ = some (.string A1) ∧ w.cell? ⟨b, o + 2, none⟩ = some (.string A2) ∧ w.cell? ⟨b, o + 3, none⟩ = some (.string A3)) ∧
    (A0.size ≤ 1000 ∧ A1.size ≤ 1000 ∧ A2.size ≤ 1000 ∧ A3.size ≤ 1000)
theorem rec_list {s k v : Int} {l : List Str} (h : recB s k v l = true) : l.length = 4 ∧ ∀ x ∈ l, x.length ≤ 40 := by
  unfold recB fieldsB at h
  simp at h
  refine ⟨h.2.1, fun x hx => ?_⟩
  have h1 := h.2.2 x hx
  unfold fieldB isTextB at h1
  simp at h1
  exact h1.2.1
theorem fours_of {w : World} {a : Option Addr} {c : Nat} {s k v : Int} {l : List Str} (h : Sm w a l c) (hv : recB s k v l = true) : ∃ A0 A1 A2 A3 b o, Four w a c l A0 A1 A2 A3 b o := by
  obtain ⟨h4, hx⟩ := rec_list hv
  obtain ⟨b, o, rfl, hb, hc⟩ := h.1 (by omega)
  match l, h4 with
  | [x0, x1, x2, x3], _ =>
    have hs : ∀ x : Str, x.length ≤ 40 → (⟨x.toArray⟩ : ByteArray).size ≤ 1000 := fun x hx => by
      have : (⟨x.toArray⟩ : ByteArray).size = x.length := by simp [ByteArray.size]
      omega
    exact ⟨⟨x0.toArray⟩, ⟨x1.toArray⟩, ⟨x2.toArray⟩, ⟨x3.toArray⟩, b, o, rfl, hb, rfl, h.2.2.1, rfl, ⟨hc 0 x0 rfl, hc 1 x1 rfl, hc 2 x2 rfl, hc 3 x3 rfl⟩,
      ⟨hs _ (hx _ (by simp)), hs _ (hx _ (by simp)), hs _ (hx _ (by simp)), hs _ (hx _ (by simp))⟩⟩
theorem Four.below {w w' : World} {a : Option Addr} {c : Nat} {l : List Str} {A0 A1 A2 A3 : ByteArray} {b o : Nat} (h : Four w a c l A0 A1 A2 A3 b o) (hb : Below w.heap.size w w') : Four w' a c l A0 A1 A2 A3 b o := by
  obtain ⟨h1, h2, h3, h4, h5, ⟨c0, c1, c2, c3⟩, h6⟩ := h
  exact ⟨h1, Nat.lt_of_lt_of_le h2 hb.size, h3, h4, h5, ⟨(hb.cell (p := ⟨b, o, none⟩) h2).trans c0, (hb.cell (p := ⟨b, o + 1, none⟩) h2).trans c1, (hb.cell (p := ⟨b, o + 2, none⟩) h2).trans c2, (hb.cell (p := ⟨b, o + 3, none⟩) h2).trans c3⟩, h6⟩
theorem recb_grown {ty : TypeId} {w w' : World} {g : Nat} {s k v : Int} {V : Value} {row : Option Nat} (h : RecB ty w g s k v V) (hg : w.grownBy w' row) (hne : some g ≠ row) : RecB ty w' g s k v V := (hg.block g h.lt hne).trans h
theorem cellg {w w' : World} {g o : Nat} {row : Option Nat} {v : Value} (h : w.cell? ⟨g, o, none⟩ = some v) (hg : w.grownBy w' row) (hne : some g ≠ row) : w'.cell? ⟨g, o, none⟩ = some v :=
  (World.cell?_of_block (hg.block g (World.block_lt_of_cell? w _ h) hne)).trans h
theorem markr_at (s k v : Int) (base : Nat) (a : Option Addr) (cap : Nat) (l : List Str) (k0 q : Nat) (w : World) (hl : l.length ≤ 4000000) (hk0 : 0 < k0) (hk1 : k0 ≤ 4000000) (hbase : base ≤ w.heap.size) (hown : OwnS w base (.slice a l.length cap) l) (hq : k0 + l.length = q) :
    Calls Tryz.prog 28 #[.agg #[.int .i64 s, .int .i64 k, .int .i64 v, .slice a l.length cap], .int .i64 k0] w fun e w' => e = .returned (.int .i64 q) ∧ w.grownBy w' (Value.slice a l.length cap).ownBlock := by
  rw [← hq]
  exact (markr_any s k v base a cap l k0 w hl hk0 hk1 hbase hown).mono fun e w' h => ⟨h.1, h.2.2⟩

theorem yr_pos (l : List UInt8) : yrR l = 0 ∨ 0 < yrR l := by
  by_cases h : ∃ y, YrOk l y
  · obtain ⟨y, hy⟩ := h
    rw [yrR_of hy]
    obtain ⟨n, ok, h1, rfl⟩ := hy
    split
    · right; omega
    · left; rfl
  · left
    unfold yrR
    rw [dif_neg h]

theorem yr_top (l : List UInt8) : yrR l ≤ 9999 := by
  by_cases h : ∃ y, YrOk l y
  · obtain ⟨y, hy⟩ := h
    rw [yrR_of hy]
    obtain ⟨n, ok, h1, rfl⟩ := hy
    split
    · omega
    · omega
  · unfold yrR
    rw [dif_neg h]
    omega

end Go.Proofs.YtebddnjccmaimaaGreatDoor
