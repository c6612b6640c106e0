/-
  The features of a pair of records, in plain lists. By an AI agent.
-/
import Derived.Test.YtggohfinkpppkabGreatDoorFeatE
import Derived.Test.YtggohfinkpppkabGreatDoorFeatC
import Derived.Test.YtggohfinkpppkabGreatDoorPhone
import Derived.Test.YtggohfinkpppkabGreatDoorRecOk
import Derived.Test.YtggohfinkpppkabGreatDoorGMem
namespace Go.Proofs.YtggohfinkpppkabGreatDoor
open Go.RowKit
set_option linter.unusedVariables false

noncomputable def featsL (l m : List Str) : List Int :=
  [edR (l.getD 0 []) (m.getD 0 []), setR (tokensR (l.getD 0 [])) (tokensR (m.getD 0 [])), setR (soundR (l.getD 0 [])) (soundR (m.getD 0 [])),
    edR (l.getD 1 []) (m.getD 1 []), yearR (l.getD 2 []) (m.getD 2 []), phR (digL (l.getD 3 [])) (digL (m.getD 3 []))]
noncomputable def pairR (s0 k0 v0 : Int) (l0 : List Str) (s1 k1 v1 : Int) (l1 : List Str) : List Int := if recB s0 k0 v0 l0 = true ∧ recB s1 k1 v1 l1 = true then featsL l0 l1 else []
theorem pair_no1 {s0 k0 v0 : Int} {l0 : List Str} {s1 k1 v1 : Int} {l1 : List Str} (h : recB s0 k0 v0 l0 = false) : pairR s0 k0 v0 l0 s1 k1 v1 l1 = [] := by
  unfold pairR
  rw [if_neg (fun e => by rw [h] at e; cases e.1)]
theorem pair_no2 {s0 k0 v0 : Int} {l0 : List Str} {s1 k1 v1 : Int} {l1 : List Str} (h : recB s1 k1 v1 l1 = false) : pairR s0 k0 v0 l0 s1 k1 v1 l1 = [] := by
  unfold pairR
  rw [if_neg (fun e => by rw [h] at e; cases e.2)]
theorem pair_yes' {s0 k0 v0 : Int} {l0 : List Str} {s1 k1 v1 : Int} {l1 : List Str} (h : recB s0 k0 v0 l0 = true) (h' : recB s1 k1 v1 l1 = true) : pairR s0 k0 v0 l0 s1 k1 v1 l1 = featsL l0 l1 := if_pos ⟨h, h'⟩
theorem pair_len (s0 k0 v0 : Int) (l0 : List Str) (s1 k1 v1 : Int) (l1 : List Str) : (pairR s0 k0 v0 l0 s1 k1 v1 l1).length ≤ 6 := by
  unfold pairR
  split
  · exact Nat.le_refl 6
  · exact Nat.zero_le _

/-- four strings in the memory -/
def Four (w : World) (a : Option Addr) (c : Nat) (l : List Str) (A0 A1 A2 A3 : ByteArray) (b o : Nat) : Prop :=
  a = some ⟨b, o, none⟩ ∧ b < w.heap.size ∧ l.length = 4 ∧ 4 ≤ c ∧ l = [A0.data.toList, A1.data.toList, A2.data.toList, A3.data.toList] ∧
    (w.cell? ⟨b, o, none⟩ = some (.string A0) ∧ w.cell? ⟨b, o + 1, none⟩ = some (.string A1) ∧ w.cell? ⟨b, o + 2, none⟩ = some (.string A2) ∧ w.cell? ⟨b, o + 3, none⟩ = some (.string A3)) ∧
    (A0.size ≤ 1000 ∧ A1.size ≤ 1000 ∧ A2.size ≤ 1000 ∧ A3.size ≤ 1000)
theorem rec_list {s k v : Int} {l : List Str} (h : recB s k v l = true) : l.length = 4 ∧ ∀ x ∈ l, x.length ≤ 40 := by
  unfold recB fieldsB at h
  simp at h
  refine ⟨h.2.1, fun x hx => ?_⟩
  have h1 := h.2.2 x hx
  unfold fieldB isTextB at h1
  simp at h1
  exact h1.2.1
theorem fours_of {w : World} {a : Option Addr} {c : Nat} {s k v : Int} {l : List Str} (h : Sm w a l c) (hv : recB s k v l = true) : ∃ A0 A1 A2 A3 b o, Four w a c l A0 A1 A2 A3 b o := by
  obtain ⟨h4, hx⟩ := rec_list hv
  obtain ⟨b, o, rfl, hb, hc⟩ := h.1 (by omega)
  match l, h4 with
  | [x0, x1, x2, x3], _ =>
    have hs : ∀ x : Str, x.length ≤ 40 → (⟨x.toArray⟩ : ByteArray).size ≤ 1000 := fun x hx => by
      have : (⟨x.toArray⟩ : ByteArray).size = x.length := by simp [ByteArray.size]
      omega
    exact ⟨⟨x0.toArray⟩, ⟨x1.toArray⟩, ⟨x2.toArray⟩, ⟨x3.toArray⟩, b, o, rfl, hb, rfl, h.2.2.1, rfl, ⟨hc 0 x0 rfl, hc 1 x1 rfl, hc 2 x2 rfl, hc 3 x3 rfl⟩,
      ⟨hs _ (hx _ (by simp)), hs _ (hx _ (by simp)), hs _ (hx _ (by simp)), hs _ (hx _ (by simp))⟩⟩
theorem Four.below {w w' : World} {a : Option Addr} {c : Nat} {l : List Str} {A0 A1 A2 A3 : ByteArray} {b o : Nat} (h : Four w a c l A0 A1 A2 A3 b o) (hb : Below w.heap.size w w') : Four w' a c l A0 A1 A2 A3 b o := by
  obtain ⟨h1, h2, h3, h4, h5, ⟨c0, c1, c2, c3⟩, h6⟩ := h
  exact ⟨h1, Nat.lt_of_lt_of_le h2 hb.size, h3, h4, h5, ⟨(hb.cell (p := ⟨b, o, none⟩) h2).trans c0, (hb.cell (p := ⟨b, o + 1, none⟩) h2).trans c1, (hb.cell (p := ⟨b, o + 2, none⟩) h2).trans c2, (hb.cell (p := ⟨b, o + 3, none⟩) h2).trans c3⟩, h6⟩
theorem feats_of {w w' : World} {a a' : Option Addr} {c c' : Nat} {l m : List Str} {A0 A1 A2 A3 B0 B1 B2 B3 : ByteArray} {b o b' o' : Nat} (h : Four w a c l A0 A1 A2 A3 b o) (h' : Four w' a' c' m B0 B1 B2 B3 b' o') :
    featsL l m = [edR A0.data.toList B0.data.toList, setR (tokensR A0.data.toList) (tokensR B0.data.toList), setR (soundR A0.data.toList) (soundR B0.data.toList), edR A1.data.toList B1.data.toList, yearR A2.data.toList B2.data.toList, phR (digL A3.data.toList) (digL B3.data.toList)] := by
  rw [h.2.2.2.2.1, h'.2.2.2.2.1]
  rfl
theorem recb_grown {ty : TypeId} {w w' : World} {g : Nat} {s k v : Int} {V : Value} {row : Option Nat} (h : RecB ty w g s k v V) (hg : w.grownBy w' row) (hne : some g ≠ row) : RecB ty w' g s k v V := (hg.block g h.lt hne).trans h
theorem cellg {w w' : World} {g o : Nat} {row : Option Nat} {v : Value} (h : w.cell? ⟨g, o, none⟩ = some v) (hg : w.grownBy w' row) (hne : some g ≠ row) : w'.cell? ⟨g, o, none⟩ = some v :=
  (World.cell?_of_block (hg.block g (World.block_lt_of_cell? w _ h) hne)).trans h

/-- the cells that a round reads -/
def SixC (w : World) (M gA gB ba oa bc oc : Nat) (i : Int) (f VA VB : Value) (A C : ByteArray) : Prop :=
  w.cell? ⟨M, 0, none⟩ = some (.int .i64 i) ∧ w.cell? ⟨M, 1, none⟩ = some f ∧ w.cell? ⟨gA, 3, none⟩ = some VA ∧ w.cell? ⟨gB, 3, none⟩ = some VB ∧ w.cell? ⟨ba, oa, none⟩ = some (.string A) ∧ w.cell? ⟨bc, oc, none⟩ = some (.string C)
theorem SixC.below {w w' : World} {M gA gB ba oa bc oc : Nat} {i : Int} {f VA VB : Value} {A C : ByteArray} (h : SixC w M gA gB ba oa bc oc i f VA VB A C) (hb : Below w.heap.size w w') : SixC w' M gA gB ba oa bc oc i f VA VB A C := by
  have k : ∀ {p : Addr} {v : Value}, w.cell? p = some v → w'.cell? p = some v := fun {p v} hc => (hb.cell (World.block_lt_of_cell? w _ hc)).trans hc
  exact ⟨k h.1, k h.2.1, k h.2.2.1, k h.2.2.2.1, k h.2.2.2.2.1, k h.2.2.2.2.2⟩
theorem SixC.set {w : World} {M gA gB ba oa bc oc g o : Nat} {i : Int} {f VA VB : Value} {A C : ByteArray} (h : SixC w M gA gB ba oa bc oc i f VA VB A C) (v : Value) (h1 : M ≠ g) (h2 : gA ≠ g) (h3 : gB ≠ g) (h4 : ba ≠ g) (h5 : bc ≠ g) : SixC (w.setCell ⟨g, o, none⟩ v) M gA gB ba oa bc oc i f VA VB A C := by
  have k : ∀ {b q : Nat} {u : Value}, b ≠ g → w.cell? ⟨b, q, none⟩ = some u → (w.setCell ⟨g, o, none⟩ v).cell? ⟨b, q, none⟩ = some u := fun {b q u} hn hc =>
    (World.cell?_of_block (Below.heap_setCell w ⟨g, o, none⟩ v b hn)).trans hc
  exact ⟨k h1 h.1, k h1 h.2.1, k h2 h.2.2.1, k h3 h.2.2.2.1, k h4 h.2.2.2.2.1, k h5 h.2.2.2.2.2⟩

theorem OwnJ.of_new {w w' : World} {o : Obj} {a : Option Addr} {cap n : Nat} {l : List Int} (h : OwnI w' (w.alloc o).heap.size (.slice a n cap) l) : OwnJ w' w.heap.size w'.heap.size (.slice a n cap) l :=
  ⟨OwnI.mono h (by simp), fun k hk => (World.ownsRow.lt h k hk).2⟩
theorem OwnH.of_new2 {w w' : World} {o : Obj} {a : Option Addr} {cap : Nat} {l : List Str} (h : OwnS w' (w.alloc o).heap.size (.slice a l.length cap) l) : OwnH w' w.heap.size w'.heap.size (.slice a l.length cap) l :=
  ⟨OwnS.mono h (by simp), fun k hk => (World.ownsRow.lt h k hk).2⟩
theorem OwnJ.marked {w w' : World} {lo hi n : Nat} {a : Option Addr} {cap : Nat} {l : List Int} {m : List Int} (h : OwnJ w lo hi (.slice a n cap) l) (ho : OwnI w' lo (.slice a n cap) m) : OwnJ w' lo hi (.slice a n cap) m := ⟨ho, h.2⟩
theorem size_new2 {w w' : World} {o : Obj} (h : Below (w.alloc o).heap.size (w.alloc o) w') : w.heap.size + 1 ≤ w'.heap.size := by
  have := h.size
  simpa using this
theorem markr_at (s k v : Int) (base : Nat) (a : Option Addr) (cap : Nat) (l : List Str) (k0 q : Nat) (w : World) (hl : l.length ≤ 4000000) (hk0 : 0 < k0) (hk1 : k0 ≤ 4000000) (hbase : base ≤ w.heap.size) (hown : OwnS w base (.slice a l.length cap) l) (hq : k0 + l.length = q) :
    Calls Tryz.prog 18 #[.agg #[.int .i64 s, .int .i64 k, .int .i64 v, .slice a l.length cap], .int .i64 k0] w fun e w' => e = .returned (.int .i64 q) ∧ w.grownBy w' (Value.slice a l.length cap).ownBlock := by
  rw [← hq]
  exact (markr_any s k v base a cap l k0 w hl hk0 hk1 hbase hown).mono fun e w' h => ⟨h.1, h.2.2⟩

/-- features are handed back -/
def GivesL (w : World) (L : List Int) (e : Ending) (w' : World) : Prop := ∃ a cap, e = .returned (.slice a L.length cap) ∧ OwnI w' w.heap.size (.slice a L.length cap) L ∧ Below w.heap.size w w'

end Go.Proofs.YtggohfinkpppkabGreatDoor
