/-
  Maps of the call's own that hold any values, with strings or integers as keys. By an AI agent.
-/
import Derived.Test.YtebddnjccmaimaaGreatDoorGSet
namespace Go.Proofs.YtebddnjccmaimaaGreatDoor
open Go.RowKit Go.Maps Go.Sort
set_option linter.unusedVariables false

def heldE (v : Value) : Option (DataW Value × List MemPlace) := some (.held v, [])
theorem heldE_inv {v u : Value} {ps : List MemPlace} (h : heldE v = some (.held u, ps)) : v = u := by
  unfold heldE at h
  injection h with h
  injection h with h1 h2
  injection h1

theorem keyN : Keyed Tryz.prog 3 := int_keyed Tryz.underlying3
theorem keyOf_n {z : Int} (hz : (Lit.int .i64 z).wf = true) : keyOf Tryz.prog 3 (.int .i64 z) = some (.int .i64 z) := keyOf_int_mk Tryz.underlying3 hz
theorem lit_neI {x y : Int} (h : y ≠ x) : (Lit.int .i64 y) ≠ .int .i64 x := fun e => h (by injection e)

/-- block b is a map with strings as keys that holds f -/
def SMap (w : World) (b n : Nat) (f : Str → Option Value) : Prop :=
  ∃ D : DataW Value, w.ownsMap Tryz.prog 9 heldE b n D ∧ (∀ x : Str, Maps.has D (.string x) = (f x).isSome) ∧ ∀ (x : Str) (z : Value), D.atKey (.string x) (.held z) = .held ((f x).getD z)
/-- .. with integers as keys -/
def NMap (w : World) (b n : Nat) (f : Int → Option Value) : Prop :=
  ∃ D : DataW Value, w.ownsMap Tryz.prog 3 heldE b n D ∧ (∀ x : Int, Maps.has D (.int .i64 x) = (f x).isSome) ∧ ∀ (x : Int) (z : Value), D.atKey (.int .i64 x) (.held z) = .held ((f x).getD z)

theorem SMap.made (w : World) : SMap (w.alloc (.map #[] 0)) w.heap.size 0 (fun _ => none) :=
  ⟨.map [], World.ownsMap_made _ _ _ _, fun x => by simp [Maps.has], fun x z => by simp [DataW.atKey]⟩
theorem NMap.made (w : World) : NMap (w.alloc (.map #[] 0)) w.heap.size 0 (fun _ => none) :=
  ⟨.map [], World.ownsMap_made _ _ _ _, fun x => by simp [Maps.has], fun x z => by simp [DataW.atKey]⟩
theorem SMap.kept {w w' : World} {b n : Nat} {f : Str → Option Value} {row : Option Nat} (h : SMap w b n f) (hg : w.grownBy w' row) (hne : some b ≠ row) : SMap w' b n f := by
  obtain ⟨D, h1, h2⟩ := h
  exact ⟨D, h1.kept hg hne, h2⟩
theorem NMap.kept {w w' : World} {b n : Nat} {f : Int → Option Value} {row : Option Nat} (h : NMap w b n f) (hg : w.grownBy w' row) (hne : some b ≠ row) : NMap w' b n f := by
  obtain ⟨D, h1, h2⟩ := h
  exact ⟨D, h1.kept hg hne, h2⟩
theorem SMap.lt {w : World} {b n : Nat} {f : Str → Option Value} (h : SMap w b n f) : b < w.heap.size := by obtain ⟨D, h1, _⟩ := h; exact h1.lt
theorem NMap.lt {w : World} {b n : Nat} {f : Int → Option Value} (h : NMap w b n f) : b < w.heap.size := by obtain ⟨D, h1, _⟩ := h; exact h1.lt
theorem SMap.below {w w' : World} {b n : Nat} {f : Str → Option Value} (h : SMap w b n f) (hb : Below w.heap.size w w') : SMap w' b n f :=
  h.kept (row := none) ⟨hb.os, hb.tape, hb.output, hb.size, fun i hi _ => hb.block i hi⟩ (by simp)
theorem NMap.below {w w' : World} {b n : Nat} {f : Int → Option Value} (h : NMap w b n f) (hb : Below w.heap.size w w') : NMap w' b n f :=
  h.kept (row := none) ⟨hb.os, hb.tape, hb.output, hb.size, fun i hi _ => hb.block i hi⟩ (by simp)
theorem SMap.mono {w : World} {b n n' : Nat} {f : Str → Option Value} (h : SMap w b n f) (hn : n ≤ n') : SMap w b n' f := by
  obtain ⟨D, h1, h2⟩ := h
  exact ⟨D, h1.mono hn, h2⟩
theorem NMap.mono {w : World} {b n n' : Nat} {f : Int → Option Value} (h : NMap w b n f) (hn : n ≤ n') : NMap w b n' f := by
  obtain ⟨D, h1, h2⟩ := h
  exact ⟨D, h1.mono hn, h2⟩
theorem SMap.congr {w : World} {b n : Nat} {f g : Str → Option Value} (h : SMap w b n f) (hf : ∀ x, f x = g x) : SMap w b n g := by
  rwa [show g = f from funext fun x => (hf x).symm]
theorem NMap.congr {w : World} {b n : Nat} {f g : Int → Option Value} (h : NMap w b n f) (hf : ∀ x, f x = g x) : NMap w b n g := by
  rwa [show g = f from funext fun x => (hf x).symm]

theorem wpList_smap_lookup (w : World) {ops : Array Oper} {rest : List Oper} {o : Oper} {a : Act} {Q : Exit → Act → World → Prop}
    (T E : TypeId) (hT : Tryz.prog.underlying T = some (.map 9 E)) {z : Value} (hz : (zeroValue E).run Tryz.prog w = .ok z w)
    (hg : o.guard = none) (m x : Operand) (hop : o.op = Op.lookup T m x false) (b n : Nat) (f : Str → Option Value) (hmap : SMap w b n f)
    (hm : a.eval m = .map (some b)) (s : ByteArray) (y : Str) (hx : a.eval x = .string s) (hs : s.data.toList = y) (hl : s.size ≤ maxLen) (c : Value) (hc : (f y).getD z = c)
    (hK : wpList Tryz.prog ops Q rest (a.put o.dst c) w) :
    wpList Tryz.prog ops Q (o :: rest) a w := by
  obtain ⟨D, hown, _, hat⟩ := hmap
  refine wpList_plain hg fun K' hK' => ?_
  obtain ⟨v, ps, hrun, hv⟩ := hown.lookup keyS hT hz (zd := .held z) (zp := []) rfl (keyOf_s hs hl)
  rw [hat y z, hc] at hv
  obtain rfl := heldE_inv hv
  unfold Oper.wp
  simp [execOp, hop, hm, hx, hrun, Result.andThen]
  exact hK' _ _ hK

theorem wpList_smap_store (w : World) {ops : Array Oper} {rest : List Oper} {o : Oper} {a : Act} {Q : Exit → Act → World → Prop}
    (T E : TypeId) (hT : Tryz.prog.underlying T = some (.map 9 E))
    (hg : o.guard = none) (m x v : Operand) (hop : o.op = Op.mapUpdate T m x v) (b n : Nat) (f : Str → Option Value) (hmap : SMap w b n f)
    (hm : a.eval m = .map (some b)) (hn : n < maxLen) (s : ByteArray) (y : Str) (hx : a.eval x = .string s) (u : Value) (hv : a.eval v = u) (hs : s.data.toList = y) (hl : s.size ≤ maxLen)
    (hK : ∀ w', SMap w' b (n + 1) (fun t => if t = y then some u else f t) → w.grownBy w' (some b) → wpList Tryz.prog ops Q rest (a.put o.dst undef) w') :
    wpList Tryz.prog ops Q (o :: rest) a w := by
  obtain ⟨D, hown, hhas, hat⟩ := hmap
  refine wpList_mapUpdate_own w hg m x v T hop 9 E keyS hT _ b n D hm hown hn _ _ _ hx hv (keyOf_s hs hl) (.held u) [] rfl fun w' h1 h2 => hK w' ⟨_, h1, ?_, ?_⟩ h2
  all_goals
    have hD : Maps.IsMap D := by obtain ⟨es, _, _, _, _, e⟩ := hown; exact ⟨_, e⟩
    intro t
    by_cases e : t = y
    · subst e
      first
        | (rw [Maps.has_put_same hD (k := .string _) trivial]; simp)
        | (intro z; rw [Maps.atKey_put_same hD (k := .string _) trivial]; simp)
    · first
        | (rw [Maps.has_put_other (lit_ne e), hhas t]; simp [e])
        | (intro z; rw [Maps.atKey_put_other (lit_ne e), hat t]; simp [e])

theorem wpList_nmap_store (w : World) {ops : Array Oper} {rest : List Oper} {o : Oper} {a : Act} {Q : Exit → Act → World → Prop}
    (T E : TypeId) (hT : Tryz.prog.underlying T = some (.map 3 E))
    (hg : o.guard = none) (m x v : Operand) (hop : o.op = Op.mapUpdate T m x v) (b n : Nat) (f : Int → Option Value) (hmap : NMap w b n f)
    (hm : a.eval m = .map (some b)) (hn : n < maxLen) (y : Int) (hx : a.eval x = .int .i64 y) (u : Value) (hv : a.eval v = u) (hy : (Lit.int .i64 y).wf = true)
    (hK : ∀ w', NMap w' b (n + 1) (fun t => if t = y then some u else f t) → w.grownBy w' (some b) → wpList Tryz.prog ops Q rest (a.put o.dst undef) w') :
    wpList Tryz.prog ops Q (o :: rest) a w := by
  obtain ⟨D, hown, hhas, hat⟩ := hmap
  refine wpList_mapUpdate_own w hg m x v T hop 3 E keyN hT _ b n D hm hown hn _ _ _ hx hv (keyOf_n hy) (.held u) [] rfl fun w' h1 h2 => hK w' ⟨_, h1, ?_, ?_⟩ h2
  all_goals
    have hD : Maps.IsMap D := by obtain ⟨es, _, _, _, _, e⟩ := hown; exact ⟨_, e⟩
    intro t
    by_cases e : t = y
    · subst e
      first
        | (rw [Maps.has_put_same hD (k := .int .i64 _) trivial]; simp)
        | (intro z; rw [Maps.atKey_put_same hD (k := .int .i64 _) trivial]; simp)
    · first
        | (rw [Maps.has_put_other (lit_neI e), hhas t]; simp [e])
        | (intro z; rw [Maps.atKey_put_other (lit_neI e), hat t]; simp [e])

theorem NMap.del_ {D : DataW Value} {f : Int → Option Value} {y : Int} (hhas : ∀ x : Int, Maps.has D (.int .i64 x) = (f x).isSome) (hat : ∀ (x : Int) (z : Value), D.atKey (.int .i64 x) (.held z) = .held ((f x).getD z)) :
    (∀ x : Int, Maps.has (D.del (.int .i64 y)) (.int .i64 x) = ((if x = y then none else f x) : Option Value).isSome) ∧ ∀ (x : Int) (z : Value), (D.del (.int .i64 y)).atKey (.int .i64 x) (.held z) = .held (((if x = y then none else f x) : Option Value).getD z) := by
  constructor
  · intro x
    by_cases e : x = y
    · subst e
      rw [Maps.has_del_same]; simp
    · rw [Maps.has_del_other (lit_neI e), hhas x]; simp [e]
  · intro x z
    by_cases e : x = y
    · subst e
      rw [Maps.atKey_del_same]; simp
    · rw [Maps.atKey_del_other (lit_neI e), hat x]; simp [e]

theorem wpList_nmap_delete (w : World) {ops : Array Oper} {rest : List Oper} {o : Oper} {a : Act} {Q : Exit → Act → World → Prop}
    (T E : TypeId) (hT : Tryz.prog.underlying T = some (.map 3 E))
    (hg : o.guard = none) (m x : Operand) (hop : o.op = Op.call { callee := Callee.builtin Builtin.delete, args := #[m, x], argTypes := #[T, 3] }) (b n : Nat) (f : Int → Option Value) (hmap : NMap w b n f)
    (hm : a.eval m = .map (some b)) (y : Int) (hx : a.eval x = .int .i64 y) (hy : (Lit.int .i64 y).wf = true)
    (hK : ∀ w', NMap w' b n (fun t => if t = y then none else f t) → w.grownBy w' (some b) → wpList Tryz.prog ops Q rest (a.put o.dst (.tuple #[])) w') :
    wpList Tryz.prog ops Q (o :: rest) a w := by
  obtain ⟨D, hown, hhas, hat⟩ := hmap
  refine wpList_delete_own w hg m x T 3 hop E keyN hT heldE b n D hm hown _ _ hx (keyOf_n hy) fun w' h1 h2 => ?_
  obtain ⟨q1, q2⟩ := NMap.del_ (y := y) hhas hat
  exact hK w' ⟨_, h1, q1, q2⟩ h2.grown
theorem wpList_nil_delete (w : World) {ops : Array Oper} {rest : List Oper} {o : Oper} {a : Act} {Q : Exit → Act → World → Prop}
    (T E : TypeId) (hT : Tryz.prog.underlying T = some (.map 3 E))
    (hg : o.guard = none) (m x : Operand) (hop : o.op = Op.call { callee := Callee.builtin Builtin.delete, args := #[m, x], argTypes := #[T, 3] })
    (hm : a.eval m = .map none) (y : Int) (hx : a.eval x = .int .i64 y) (hy : (Lit.int .i64 y).wf = true)
    (hK : wpList Tryz.prog ops Q rest (a.put o.dst (.tuple #[])) w) :
    wpList Tryz.prog ops Q (o :: rest) a w := by
  refine wpList_plain hg fun K' hK' => ?_
  have hrun := Maps.drop_nil (w := w) (P := Tryz.prog) keyN hT (keyOf_n hy) o.type
  unfold Oper.wp
  simp [execOp, hop, resolve, invoke, builtin, hm, hx, hrun, Result.andThen]
  exact hK' _ _ hK

/-- the integers that a range has met -/
def CollN {H : Type} (D : DataW H) (left : Lit → Bool) (zs : List Int) : Prop := zs.Nodup ∧ ∀ x : Int, x ∈ zs ↔ Maps.has D (.int .i64 x) = true ∧ left (.int .i64 x) = false
theorem CollN.start {H : Type} (D : DataW H) : CollN D (Maps.has D) [] := ⟨List.nodup_nil, fun x => by simp⟩
theorem sameI (x y : Int) : (Lit.int .i64 x).sameKey (.int .i64 y) = decide (x = y) := by
  simp [Lit.sameKey]
theorem CollN.step {H : Type} {D : DataW H} {left : Lit → Bool} {zs : List Int} {x : Int} {y : DataW H} (h : CollN D left zs) (hl : left (.int .i64 x) = true) (hat : ∀ zd, D.atKey (.int .i64 x) zd = y) : CollN D (fun z => left z && !z.sameKey (.int .i64 x)) (zs ++ [x]) := by
  have hnot : x ∉ zs := fun hm => by have := ((h.2 x).1 hm).2; rw [hl] at this; cases this
  have hhas : Maps.has D (.int .i64 x) = true := Maps.has_true_of_atKey hat
  refine ⟨?_, fun z => ?_⟩
  · rw [List.nodup_append]
    refine ⟨h.1, by simp, fun a ha b hb => ?_⟩
    simp at hb
    subst hb
    exact fun e => hnot (e ▸ ha)
  · rw [List.mem_append, h.2 z]
    by_cases e : z = x
    · subst e
      simp [hhas, sameI]
    · simp [e, sameI]

end Go.Proofs.YtebddnjccmaimaaGreatDoor
