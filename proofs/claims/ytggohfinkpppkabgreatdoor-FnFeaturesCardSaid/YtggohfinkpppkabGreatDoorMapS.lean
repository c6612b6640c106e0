/-
  Maps of the call's own, keyed by strings: a set (map[string]bool) and a count (map[string]int); what impl.setOf and impl.sortedMembers do. By an AI agent.
-/
import Derived.Test.YtggohfinkpppkabGreatDoorGMem
import Derived.Test.YtggohfinkpppkabGreatDoorShelf
import Derived.Maps.OwnOps
import Derived.Maps.OwnSet
import Derived.Maps.RangeWalk
import Derived.Sort.KeysCollected
import Derived.Sort.OwnSorted
namespace Go.Proofs.YtggohfinkpppkabGreatDoor
open Go.RowKit Go.Maps Go.Sort
set_option linter.unusedVariables false

theorem keyS : Keyed Tryz.prog 9 := string_keyed Tryz.underlying9
theorem keyOf_s {s : ByteArray} {x : Str} (hs : s.data.toList = x) (hl : s.size ≤ maxLen) : keyOf Tryz.prog 9 (.string s) = some (.string x) := by
  subst hs
  exact Go.WideMaps.keyOf_string_mk Tryz.underlying9 hl
theorem lit_ne {x y : Str} (h : y ≠ x) : (Lit.string y) ≠ .string x := fun e => h (by injection e)

theorem size_own {H : Type} {P : Program} {k : TypeId} {R : Value → Option (DataW H × List MemPlace)} {w : World} {b n : Nat} {D : DataW H} (h : w.ownsMap P k R b n D) : Maps.size D ≤ n := by
  obtain ⟨es, clock, _, _, hs, rfl⟩ := h
  show ((es.toList.map (Go.WideElems.rg P k R)).foldr DataW.insert []).length ≤ n
  rw [length_sorted]
  simpa using hs

theorem plainElem_bool_inv {H : Type} {P : Program} {e : TypeId} (he : P.underlying e = some .bool) {v : Value} {z : DataW H × List MemPlace} (h : plainElem P e v = some z) : ∃ a, v = .bool a ∧ z = (.lit (.bool a), []) := by
  unfold plainElem at h
  rw [he] at h
  cases v <;> simp at h
  subst h
  exact ⟨_, rfl, rfl⟩

/-- block b is a map[string]bool whose keys are the strings of the list, each with true -/
def SetM (w : World) (b n : Nat) (ls : List Str) : Prop :=
  ∃ D : DataW Unit, w.ownsMap Tryz.prog 9 (plainElem Tryz.prog 4) b n D ∧ (∀ x : Str, Maps.has D (.string x) = decide (x ∈ ls)) ∧ (∀ x : Str, D.atKey (.string x) (.lit (.bool false)) = .lit (.bool (decide (x ∈ ls))))

theorem zeroB (w : World) : (zeroValue 4).run Tryz.prog w = .ok (.bool false) w := by kernel_rfl

theorem SetM.made (w : World) : SetM (w.alloc (.map #[] 0)) w.heap.size 0 [] :=
  ⟨.map [], World.ownsMap_made _ _ _ _, fun x => by simp [Maps.has], fun x => by simp [DataW.atKey]⟩
theorem SetM.kept {w w' : World} {b n : Nat} {ls : List Str} {row : Option Nat} (h : SetM w b n ls) (hg : w.grownBy w' row) (hne : some b ≠ row) : SetM w' b n ls := by
  obtain ⟨D, h1, h2, h3⟩ := h
  exact ⟨D, h1.kept hg hne, h2, h3⟩
theorem SetM.lt {w : World} {b n : Nat} {ls : List Str} (h : SetM w b n ls) : b < w.heap.size := by obtain ⟨D, h1, _⟩ := h; exact h1.lt
theorem SetM.below {w w' : World} {b n : Nat} {ls : List Str} (h : SetM w b n ls) (hb : Below w.heap.size w w') : SetM w' b n ls :=
  h.kept (row := none) ⟨hb.os, hb.tape, hb.output, hb.size, fun i hi _ => hb.block i hi⟩ (by simp)
theorem SetM.alloc {w : World} {b n : Nat} {ls : List Str} (h : SetM w b n ls) (o : Obj) : SetM (w.alloc o) b n ls := h.below ((Below.refl _ _).alloc (Nat.le_refl _) o)
theorem SetM.mono {w : World} {b n n' : Nat} {ls : List Str} (h : SetM w b n ls) (hn : n ≤ n') : SetM w b n' ls := by
  obtain ⟨D, h1, h2, h3⟩ := h
  exact ⟨D, h1.mono hn, h2, h3⟩

theorem wpList_set_lookup (w : World) {ops : Array Oper} {rest : List Oper} {o : Oper} {a : Act} {Q : Exit → Act → World → Prop}
    (hg : o.guard = none) (m x : Operand) (hop : o.op = Op.lookup 81 m x false) (b n : Nat) (ls : List Str) (hset : SetM w b n ls)
    (hm : a.eval m = .map (some b)) (s : ByteArray) (y : Str) (hx : a.eval x = .string s) (hs : s.data.toList = y) (hl : s.size ≤ maxLen) (c : Bool) (hc : decide (y ∈ ls) = c)
    (hK : wpList Tryz.prog ops Q rest (a.put o.dst (.bool c)) w) :
    wpList Tryz.prog ops Q (o :: rest) a w := by
  obtain ⟨D, hown, _, hat⟩ := hset
  refine wpList_plain hg fun K' hK' => ?_
  obtain ⟨v, ps, hrun, hv⟩ := hown.lookup keyS Tryz.underlying81 (zeroB w) (plainElem_bool Tryz.underlying4 false) (keyOf_s hs hl)
  obtain ⟨c', rfl, hc'⟩ := plainElem_bool_inv Tryz.underlying4 hv
  rw [hat y] at hc'
  obtain rfl : c' = c := by simp at hc'; rw [← hc, hc'.1]
  unfold Oper.wp
  simp [execOp, hop, hm, hx, hrun, Result.andThen]
  exact hK' _ _ hK

theorem wpList_set_store (w : World) {ops : Array Oper} {rest : List Oper} {o : Oper} {a : Act} {Q : Exit → Act → World → Prop}
    (hg : o.guard = none) (m x v : Operand) (hop : o.op = Op.mapUpdate 81 m x v) (b n : Nat) (ls : List Str) (hset : SetM w b n ls)
    (hm : a.eval m = .map (some b)) (hn : n < maxLen) (s : ByteArray) (y : Str) (hx : a.eval x = .string s) (hv : a.eval v = .bool true) (hs : s.data.toList = y) (hl : s.size ≤ maxLen)
    (hK : ∀ w', SetM w' b (n + 1) (ls ++ [y]) → w.grownBy w' (some b) → wpList Tryz.prog ops Q rest (a.put o.dst undef) w') :
    wpList Tryz.prog ops Q (o :: rest) a w := by
  obtain ⟨D, hown, hhas, hat⟩ := hset
  refine wpList_mapUpdate_own w hg m x v 81 hop 9 4 keyS Tryz.underlying81 _ b n D hm hown hn _ _ _ hx hv (keyOf_s hs hl) _ [] (plainElem_bool Tryz.underlying4 true) fun w' h1 h2 => hK w' ⟨_, h1, ?_, ?_⟩ h2
  all_goals
    have hD : Maps.IsMap D := by obtain ⟨es, _, _, _, _, e⟩ := hown; exact ⟨_, e⟩
    intro z
    by_cases e : z = y
    · subst e
      first
        | (rw [Maps.has_put_same hD (k := .string _) trivial]; simp)
        | (rw [Maps.atKey_put_same hD (k := .string _) trivial]; simp)
    · first
        | (rw [Maps.has_put_other (lit_ne e), hhas z]; simp [e])
        | (rw [Maps.atKey_put_other (lit_ne e), hat z]; simp [e])

/-- block b is a map[string]int that gives f -/
def CntM (w : World) (b n : Nat) (f : Str → Nat) : Prop :=
  ∃ D : DataW Unit, w.ownsMap Tryz.prog 9 (plainElem Tryz.prog 3) b n D ∧ ∀ x : Str, D.atKey (.string x) (.lit (.int .i64 0)) = .lit (.int .i64 (f x : Int))

theorem zeroI (w : World) : (zeroValue 3).run Tryz.prog w = .ok (.int .i64 0) w := by kernel_rfl

theorem CntM.made (w : World) : CntM (w.alloc (.map #[] 0)) w.heap.size 0 (fun _ => 0) :=
  ⟨.map [], World.ownsMap_made _ _ _ _, fun x => by simp [DataW.atKey]⟩
theorem CntM.kept {w w' : World} {b n : Nat} {f : Str → Nat} {row : Option Nat} (h : CntM w b n f) (hg : w.grownBy w' row) (hne : some b ≠ row) : CntM w' b n f := by
  obtain ⟨D, h1, h2⟩ := h
  exact ⟨D, h1.kept hg hne, h2⟩
theorem CntM.mono {w : World} {b n n' : Nat} {f : Str → Nat} (h : CntM w b n f) (hn : n ≤ n') : CntM w b n' f := by
  obtain ⟨D, h1, h2⟩ := h
  exact ⟨D, h1.mono hn, h2⟩
theorem CntM.congr {w : World} {b n : Nat} {f g : Str → Nat} (h : CntM w b n f) (hf : ∀ x, f x = g x) : CntM w b n g := by
  obtain ⟨D, h1, h2⟩ := h
  exact ⟨D, h1, fun x => by rw [h2 x, hf x]⟩

end Go.Proofs.YtggohfinkpppkabGreatDoor
