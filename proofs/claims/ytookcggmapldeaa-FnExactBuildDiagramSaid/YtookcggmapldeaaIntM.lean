/-
  What the laws' own markIntS and heldIntS do; a slice of integers of the call's own in a span of blocks. By an AI agent.
-/
import Derived.Test.YtookcggmapldeaaIntT
namespace Go.Proofs.Ytookcggmapldeaa
open Go.RowKit
set_option linter.unusedVariables false

theorem OwnI.below {w w' : World} {base : Nat} {v : Value} {l : List Int} (h : OwnI w base v l) (hb : Below w.heap.size w w') : OwnI w' base v l :=
  World.ownsRow.kept h (row := none) ⟨hb.os, hb.tape, hb.output, hb.size, fun i hi _ => hb.block i hi⟩ (by cases hv : v.ownBlock <;> simp)
theorem OwnI.mono {w : World} {base base' : Nat} {v : Value} {l : List Int} (h : OwnI w base v l) (hb : base' ≤ base) : OwnI w base' v l := by
  refine ⟨h.1, ?_⟩
  rcases h.2 with hn | ⟨g, cap', cur, hv, hbg, rest⟩
  · exact .inl hn
  · exact .inr ⟨g, cap', cur, hv, Nat.le_trans hb hbg, rest⟩
theorem OwnI.nil (w : World) (base : Nat) : OwnI w base (.slice none 0 0) [] := World.ownsRow_nil _ _ _ _

/-- a slice of the call's own, in blocks from lo on and below hi -/
def OwnJ (w : World) (lo hi : Nat) (v : Value) (l : List Int) : Prop := OwnI w lo v l ∧ ∀ k, v.ownBlock = some k → k < hi
theorem OwnJ.of {w w' : World} {a : Option Addr} {cap n : Nat} {l : List Int} (h : OwnI w' w.heap.size (.slice a n cap) l) : OwnJ w' w.heap.size w'.heap.size (.slice a n cap) l :=
  ⟨h, fun k hk => (World.ownsRow.lt h k hk).2⟩
theorem OwnJ.below {w w' : World} {lo hi : Nat} {v : Value} {l : List Int} (h : OwnJ w lo hi v l) (hb : Below w.heap.size w w') : OwnJ w' lo hi v l := ⟨h.1.below hb, h.2⟩
theorem OwnJ.inI {w : World} {lo hi : Nat} {a : Option Addr} {n cap : Nat} {l : List Int} (h : OwnJ w lo hi (.slice a n cap) l) : InI w a l := h.1.inI
/-- what is written into one slice leaves another as it was -/
theorem OwnJ.other {w w' : World} {lo hi lo' hi' : Nat} {v u : Value} {l : List Int} (h : OwnJ w lo hi v l) (hg : w.grownBy w' u.ownBlock) (hu : ∀ k, u.ownBlock = some k → lo' ≤ k ∧ k < hi') (hd : hi ≤ lo' ∨ hi' ≤ lo) : OwnJ w' lo hi v l := by
  refine ⟨World.ownsRow.kept h.1 hg ?_, h.2⟩
  cases hv : v.ownBlock with
  | none => exact .inl rfl
  | some k =>
    refine .inr fun e => ?_
    have h1 := (World.ownsRow.lt h.1 k hv).1
    have h2 := h.2 k hv
    have h3 := hu k e.symm
    omega
theorem OwnJ.row {w : World} {lo hi : Nat} {v : Value} {l : List Int} (h : OwnJ w lo hi v l) : ∀ k, v.ownBlock = some k → lo ≤ k ∧ k < hi := fun k hk => ⟨(World.ownsRow.lt h.1 k hk).1, h.2 k hk⟩
theorem below_rowj {w0 w w' : World} {lo hi : Nat} {v : Value} {l : List Int} (hb : Below w0.heap.size w0 w) (h : OwnJ w lo hi v l) (hg : w.grownBy w' v.ownBlock) (hlo : w0.heap.size ≤ lo) : Below w0.heap.size w0 w' :=
  hb.grown hg hb.size fun k hk => Nat.le_trans hlo (h.row k hk).1

def marksI (k n : Nat) : List Int := (List.range n).map fun i => ((k + i : Nat) : Int)
theorem marksI_length (k n : Nat) : (marksI k n).length = n := by simp [marksI]
theorem marksI_at {k n j : Nat} (h : j < n) : (marksI k n)[j]? = some ((k + j : Nat) : Int) := by simp [marksI, h]
theorem marksI_succ (k n : Nat) : marksI k (n + 1) = marksI k n ++ [((k + n : Nat) : Int)] := by simp [marksI, List.range_succ]
/-- the first k are marked -/
def markW (l : List Int) (k0 k : Nat) : List Value := (marksI k0 k).map encI ++ (l.drop k).map encI
theorem markW_zero (l : List Int) (k0 : Nat) : markW l k0 0 = l.map encI := by simp [markW, marksI]
theorem markW_all (l : List Int) (k0 : Nat) : markW l k0 l.length = (marksI k0 l.length).map encI := by simp [markW]
theorem markW_at {l : List Int} {k0 k : Nat} {x : Int} (h : l[k]? = some x) : (markW l k0 k)[k]? = some (encI x) := by
  unfold markW
  rw [List.getElem?_append_right (by simp [marksI_length]), List.length_map, marksI_length, Nat.sub_self, List.getElem?_map, List.getElem?_drop, Nat.add_zero, h]
  rfl
theorem markW_set {l : List Int} {k0 k : Nat} (hlt : k < l.length) : (markW l k0 k).set k (encI ((k0 + k : Nat) : Int)) = markW l k0 (k + 1) := by
  unfold markW
  rw [List.set_append_right _ _ (by simp [marksI_length]), List.length_map, marksI_length, Nat.sub_self, List.drop_eq_getElem_cons hlt, List.map_cons, List.set_cons_zero, marksI_succ]
  simp
theorem owni_at {w : World} {base : Nat} {a : Option Addr} {n cap : Nat} {xs : List Value} (h : w.ownsRow base 3 1 (.slice a n cap) n xs) (h0 : 0 < n) : ∃ g, a = some ⟨g, 0, none⟩ ∧ g < w.heap.size := by
  rcases h.2 with ⟨_, h1⟩ | ⟨g, cap', cur, hv, hb, hg, _⟩
  · omega
  · simp only [Value.slice.injEq] at hv
    exact ⟨g, hv.1, (Array.getElem?_eq_some_iff.1 hg).1⟩
theorem grownI_trans {a b d : World} {r : Option Nat} (h1 : a.grownBy b r) (h2 : b.grownBy d r) : a.grownBy d r :=
  ⟨h2.os.trans h1.os, h2.tape.trans h1.tape, h2.output.trans h1.output, Nat.le_trans h1.size h2.size, fun k hk hne => (h2.block k (Nat.lt_of_lt_of_le hk h1.size) hne).trans (h1.block k hk hne)⟩

end Go.Proofs.Ytookcggmapldeaa
