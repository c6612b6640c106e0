/-
  Texts laid together: MapS, VMap, Hold, Marks, PlainFreq, TcS, SsS. By an AI agent.
-/
import Derived.Test.YthjbekgognfiiaaGreatJ1
import Derived.Test.YthjbekgognfiiaaGreatShelf
import Derived.Maps.OwnOps
import Derived.Maps.OwnSet
import Derived.Maps.RangeWalk
import Derived.Sort.KeysCollected
import Derived.Sort.OwnSorted
import Derived.Deep.Slices
/-
  Maps of the call's own, keyed by strings: a set (map[string]bool) and a count (map[string]int); what impl.setOf and impl.sortedMembers do. By an AI agent.
-/
namespace Go.Proofs.YthjbekgognfiiaaGreat
open Go.RowKit Go.Maps Go.Sort
set_option linter.unusedVariables false

theorem keyS : Keyed Tryz.prog 9 := string_keyed Tryz.underlying9
theorem keyOf_s {s : ByteArray} {x : Str} (hs : s.data.toList = x) (hl : s.size ≤ maxLen) : keyOf Tryz.prog 9 (.string s) = some (.string x) := by
  subst hs
  exact Go.WideMaps.keyOf_string_mk Tryz.underlying9 hl
theorem lit_ne {x y : Str} (h : y ≠ x) : (Lit.string y) ≠ .string x := fun e => h (by injection e)

theorem size_own {H : Type} {P : Program} {k : TypeId} {R : Value → Option (DataW H × List MemPlace)} {w : World} {b n : Nat} {D : DataW H} (h : w.ownsMap P k R b n D) : Maps.size D ≤ n := by
  obtain ⟨es, clock, _, _, hs, rfl⟩ := h
  show ((es.toList.map (Go.WideElems.rg P k R)).foldr DataW.insert []).length ≤ n
  rw [length_sorted]
  simpa using hs

theorem plainElem_bool_inv {H : Type} {P : Program} {e : TypeId} (he : P.underlying e = some .bool) {v : Value} {z : DataW H × List MemPlace} (h : plainElem P e v = some z) : ∃ a, v = .bool a ∧ z = (.lit (.bool a), []) := by
  unfold plainElem at h
  rw [he] at h
  cases v <;> simp at h
  subst h
  exact ⟨_, rfl, rfl⟩

/-- block b is a map[string]bool whose keys are the strings of the list, each with true -/
def SetM (w : World) (b n : Nat) (ls : List Str) : Prop :=
  ∃ D : DataW Unit, w.ownsMap Tryz.prog 9 (plainElem Tryz.prog 4) b n D ∧ (∀ x : Str, Maps.has D (.string x) = decide (x ∈ ls)) ∧ (∀ x : Str, D.atKey (.string x) (.lit (.bool false)) = .lit (.bool (decide (x ∈ ls))))

theorem zeroB (w : World) : (zeroValue 4).run Tryz.prog w = .ok (.bool false) w := by kernel_rfl

theorem SetM.made (w : World) : SetM (w.alloc (.map #[] 0)) w.heap.size 0 [] :=
  ⟨.map [], World.ownsMap_made _ _ _ _, fun x => by simp [Maps.has], fun x => by simp [DataW.atKey]⟩
theorem SetM.kept {w w' : World} {b n : Nat} {ls : List Str} {row : Option Nat} (h : SetM w b n ls) (hg : w.grownBy w' row) (hne : some b ≠ row) : SetM w' b n ls := by
  obtain ⟨D, h1, h2, h3⟩ := h
  exact ⟨D, h1.kept hg hne, h2, h3⟩
theorem SetM.lt {w : World} {b n : Nat} {ls : List Str} (h : SetM w b n ls) : b < w.heap.size := by obtain ⟨D, h1, _⟩ := h; exact h1.lt
theorem SetM.below {w w' : World} {b n : Nat} {ls : List Str} (h : SetM w b n ls) (hb : Below w.heap.size w w') : SetM w' b n ls :=
  h.kept (row := none) ⟨hb.os, hb.tape, hb.output, hb.size, fun i hi _ => hb.block i hi⟩ (by simp)
theorem SetM.alloc {w : World} {b n : Nat} {ls : List Str} (h : SetM w b n ls) (o : Obj) : SetM (w.alloc o) b n ls := h.below ((Below.refl _ _).alloc (Nat.le_refl _) o)
theorem SetM.mono {w : World} {b n n' : Nat} {ls : List Str} (h : SetM w b n ls) (hn : n ≤ n') : SetM w b n' ls := by
  obtain ⟨D, h1, h2, h3⟩ := h
  exact ⟨D, h1.mono hn, h2, h3⟩

/-- block b is a map[string]int that gives f -/
def CntM (w : World) (b n : Nat) (f : Str → Nat) : Prop :=
  ∃ D : DataW Unit, w.ownsMap Tryz.prog 9 (plainElem Tryz.prog 3) b n D ∧ ∀ x : Str, D.atKey (.string x) (.lit (.int .i64 0)) = .lit (.int .i64 (f x : Int))

theorem zeroI (w : World) : (zeroValue 3).run Tryz.prog w = .ok (.int .i64 0) w := by kernel_rfl

theorem CntM.made (w : World) : CntM (w.alloc (.map #[] 0)) w.heap.size 0 (fun _ => 0) :=
  ⟨.map [], World.ownsMap_made _ _ _ _, fun x => by simp [DataW.atKey]⟩
theorem CntM.kept {w w' : World} {b n : Nat} {f : Str → Nat} {row : Option Nat} (h : CntM w b n f) (hg : w.grownBy w' row) (hne : some b ≠ row) : CntM w' b n f := by
  obtain ⟨D, h1, h2⟩ := h
  exact ⟨D, h1.kept hg hne, h2⟩
theorem CntM.mono {w : World} {b n n' : Nat} {f : Str → Nat} (h : CntM w b n f) (hn : n ≤ n') : CntM w b n' f := by
  obtain ⟨D, h1, h2⟩ := h
  exact ⟨D, h1.mono hn, h2⟩
theorem CntM.congr {w : World} {b n : Nat} {f g : Str → Nat} (h : CntM w b n f) (hf : ∀ x, f x = g x) : CntM w b n g := by
  obtain ⟨D, h1, h2⟩ := h
  exact ⟨D, h1, fun x => by rw [h2 x, hf x]⟩

theorem wpList_cnt_lookup (w : World) {ops : Array Oper} {rest : List Oper} {o : Oper} {a : Act} {Q : Exit → Act → World → Prop}
    (hg : o.guard = none) (m x : Operand) (hop : o.op = Op.lookup 168 m x false) (b n : Nat) (f : Str → Nat) (hcnt : CntM w b n f)
    (hm : a.eval m = .map (some b)) (s : ByteArray) (y : Str) (hx : a.eval x = .string s) (hs : s.data.toList = y) (hl : s.size ≤ maxLen) (c : Nat) (hc : f y = c)
    (hK : wpList Tryz.prog ops Q rest (a.put o.dst (.int .i64 (c : Int))) w) :
    wpList Tryz.prog ops Q (o :: rest) a w := by
  obtain ⟨D, hown, hat⟩ := hcnt
  refine wpList_lookup_own_int w hg m x 168 hop 9 3 .i64 keyS Tryz.underlying168 Tryz.underlying3 (zeroI w) b n D hm hown _ _ hx (keyOf_s hs hl) fun c' h1 _ => ?_
  rw [hat y] at h1
  obtain rfl : c' = (c : Int) := by simp at h1; rw [← hc, h1]
  exact hK

theorem wpList_cnt_store (w : World) {ops : Array Oper} {rest : List Oper} {o : Oper} {a : Act} {Q : Exit → Act → World → Prop}
    (hg : o.guard = none) (m x v : Operand) (hop : o.op = Op.mapUpdate 168 m x v) (b n : Nat) (f : Str → Nat) (hcnt : CntM w b n f)
    (hm : a.eval m = .map (some b)) (hn : n < maxLen) (s : ByteArray) (y : Str) (hx : a.eval x = .string s) (z : Int) (hv : a.eval v = .int .i64 z) (c : Nat) (hz : z = (c : Int)) (hc : c ≤ 1000000000) (hs : s.data.toList = y) (hl : s.size ≤ maxLen)
    (hK : ∀ w', CntM w' b (n + 1) (fun u => if u = y then c else f u) → w.grownBy w' (some b) → wpList Tryz.prog ops Q rest (a.put o.dst undef) w') :
    wpList Tryz.prog ops Q (o :: rest) a w := by
  subst hz
  obtain ⟨D, hown, hat⟩ := hcnt
  refine wpList_mapUpdate_own w hg m x v 168 hop 9 3 keyS Tryz.underlying168 _ b n D hm hown hn _ _ _ hx hv (keyOf_s hs hl) _ [] (plainElem_int Tryz.underlying3 (WalkArith.wf_i64 (by omega))) fun w' h1 h2 => hK w' ⟨_, h1, ?_⟩ h2
  have hD : Maps.IsMap D := by obtain ⟨es, _, _, _, _, e⟩ := hown; exact ⟨_, e⟩
  intro u
  by_cases e : u = y
  · subst e
    rw [Maps.atKey_put_same hD (k := .string _) trivial]; simp
  · rw [Maps.atKey_put_other (lit_ne e), hat u]; simp [e]

end Go.Proofs.YthjbekgognfiiaaGreat

/-
  Maps of the call's own that hold any values, with strings or integers as keys. By an AI agent.
-/
namespace Go.Proofs.YthjbekgognfiiaaGreat
open Go.RowKit Go.Maps Go.Sort
set_option linter.unusedVariables false

def heldE (v : Value) : Option (DataW Value × List MemPlace) := some (.held v, [])
theorem heldE_inv {v u : Value} {ps : List MemPlace} (h : heldE v = some (.held u, ps)) : v = u := by
  unfold heldE at h
  injection h with h
  injection h with h1 h2
  injection h1

theorem keyN : Keyed Tryz.prog 3 := int_keyed Tryz.underlying3
theorem keyOf_n {z : Int} (hz : (Lit.int .i64 z).wf = true) : keyOf Tryz.prog 3 (.int .i64 z) = some (.int .i64 z) := keyOf_int_mk Tryz.underlying3 hz
theorem lit_neI {x y : Int} (h : y ≠ x) : (Lit.int .i64 y) ≠ .int .i64 x := fun e => h (by injection e)

/-- block b is a map with strings as keys that holds f -/
def SMap (w : World) (b n : Nat) (f : Str → Option Value) : Prop :=
  ∃ D : DataW Value, w.ownsMap Tryz.prog 9 heldE b n D ∧ (∀ x : Str, Maps.has D (.string x) = (f x).isSome) ∧ ∀ (x : Str) (z : Value), D.atKey (.string x) (.held z) = .held ((f x).getD z)
/-- .. with integers as keys -/
def NMap (w : World) (b n : Nat) (f : Int → Option Value) : Prop :=
  ∃ D : DataW Value, w.ownsMap Tryz.prog 3 heldE b n D ∧ (∀ x : Int, Maps.has D (.int .i64 x) = (f x).isSome) ∧ ∀ (x : Int) (z : Value), D.atKey (.int .i64 x) (.held z) = .held ((f x).getD z)

theorem SMap.made (w : World) : SMap (w.alloc (.map #[] 0)) w.heap.size 0 (fun _ => none) :=
  ⟨.map [], World.ownsMap_made _ _ _ _, fun x => by simp [Maps.has], fun x z => by simp [DataW.atKey]⟩
theorem NMap.made (w : World) : NMap (w.alloc (.map #[] 0)) w.heap.size 0 (fun _ => none) :=
  ⟨.map [], World.ownsMap_made _ _ _ _, fun x => by simp [Maps.has], fun x z => by simp [DataW.atKey]⟩
theorem SMap.kept {w w' : World} {b n : Nat} {f : Str → Option Value} {row : Option Nat} (h : SMap w b n f) (hg : w.grownBy w' row) (hne : some b ≠ row) : SMap w' b n f := by
  obtain ⟨D, h1, h2⟩ := h
  exact ⟨D, h1.kept hg hne, h2⟩
theorem NMap.kept {w w' : World} {b n : Nat} {f : Int → Option Value} {row : Option Nat} (h : NMap w b n f) (hg : w.grownBy w' row) (hne : some b ≠ row) : NMap w' b n f := by
  obtain ⟨D, h1, h2⟩ := h
  exact ⟨D, h1.kept hg hne, h2⟩
theorem SMap.lt {w : World} {b n : Nat} {f : Str → Option Value} (h : SMap w b n f) : b < w.heap.size := by obtain ⟨D, h1, _⟩ := h; exact h1.lt
theorem NMap.lt {w : World} {b n : Nat} {f : Int → Option Value} (h : NMap w b n f) : b < w.heap.size := by obtain ⟨D, h1, _⟩ := h; exact h1.lt
theorem SMap.below {w w' : World} {b n : Nat} {f : Str → Option Value} (h : SMap w b n f) (hb : Below w.heap.size w w') : SMap w' b n f :=
  h.kept (row := none) ⟨hb.os, hb.tape, hb.output, hb.size, fun i hi _ => hb.block i hi⟩ (by simp)
theorem NMap.below {w w' : World} {b n : Nat} {f : Int → Option Value} (h : NMap w b n f) (hb : Below w.heap.size w w') : NMap w' b n f :=
  h.kept (row := none) ⟨hb.os, hb.tape, hb.output, hb.size, fun i hi _ => hb.block i hi⟩ (by simp)
theorem SMap.mono {w : World} {b n n' : Nat} {f : Str → Option Value} (h : SMap w b n f) (hn : n ≤ n') : SMap w b n' f := by
  obtain ⟨D, h1, h2⟩ := h
  exact ⟨D, h1.mono hn, h2⟩
theorem NMap.mono {w : World} {b n n' : Nat} {f : Int → Option Value} (h : NMap w b n f) (hn : n ≤ n') : NMap w b n' f := by
  obtain ⟨D, h1, h2⟩ := h
  exact ⟨D, h1.mono hn, h2⟩
theorem SMap.congr {w : World} {b n : Nat} {f g : Str → Option Value} (h : SMap w b n f) (hf : ∀ x, f x = g x) : SMap w b n g := by
  rwa [show g = f from funext fun x => (hf x).symm]
theorem NMap.congr {w : World} {b n : Nat} {f g : Int → Option Value} (h : NMap w b n f) (hf : ∀ x, f x = g x) : NMap w b n g := by
  rwa [show g = f from funext fun x => (hf x).symm]

theorem wpList_smap_lookup (w : World) {ops : Array Oper} {rest : List Oper} {o : Oper} {a : Act} {Q : Exit → Act → World → Prop}
    (T E : TypeId) (hT : Tryz.prog.underlying T = some (.map 9 E)) {z : Value} (hz : (zeroValue E).run Tryz.prog w = .ok z w)
    (hg : o.guard = none) (m x : Operand) (hop : o.op = Op.lookup T m x false) (b n : Nat) (f : Str → Option Value) (hmap : SMap w b n f)
    (hm : a.eval m = .map (some b)) (s : ByteArray) (y : Str) (hx : a.eval x = .string s) (hs : s.data.toList = y) (hl : s.size ≤ maxLen) (c : Value) (hc : (f y).getD z = c)
    (hK : wpList Tryz.prog ops Q rest (a.put o.dst c) w) :
    wpList Tryz.prog ops Q (o :: rest) a w := by
  obtain ⟨D, hown, _, hat⟩ := hmap
  refine wpList_plain hg fun K' hK' => ?_
  obtain ⟨v, ps, hrun, hv⟩ := hown.lookup keyS hT hz (zd := .held z) (zp := []) rfl (keyOf_s hs hl)
  rw [hat y z, hc] at hv
  obtain rfl := heldE_inv hv
  unfold Oper.wp
  simp [execOp, hop, hm, hx, hrun, Result.andThen]
  exact hK' _ _ hK

theorem wpList_smap_store (w : World) {ops : Array Oper} {rest : List Oper} {o : Oper} {a : Act} {Q : Exit → Act → World → Prop}
    (T E : TypeId) (hT : Tryz.prog.underlying T = some (.map 9 E))
    (hg : o.guard = none) (m x v : Operand) (hop : o.op = Op.mapUpdate T m x v) (b n : Nat) (f : Str → Option Value) (hmap : SMap w b n f)
    (hm : a.eval m = .map (some b)) (hn : n < maxLen) (s : ByteArray) (y : Str) (hx : a.eval x = .string s) (u : Value) (hv : a.eval v = u) (hs : s.data.toList = y) (hl : s.size ≤ maxLen)
    (hK : ∀ w', SMap w' b (n + 1) (fun t => if t = y then some u else f t) → w.grownBy w' (some b) → wpList Tryz.prog ops Q rest (a.put o.dst undef) w') :
    wpList Tryz.prog ops Q (o :: rest) a w := by
  obtain ⟨D, hown, hhas, hat⟩ := hmap
  refine wpList_mapUpdate_own w hg m x v T hop 9 E keyS hT _ b n D hm hown hn _ _ _ hx hv (keyOf_s hs hl) (.held u) [] rfl fun w' h1 h2 => hK w' ⟨_, h1, ?_, ?_⟩ h2
  all_goals
    have hD : Maps.IsMap D := by obtain ⟨es, _, _, _, _, e⟩ := hown; exact ⟨_, e⟩
    intro t
    by_cases e : t = y
    · subst e
      first
        | (rw [Maps.has_put_same hD (k := .string _) trivial]; simp)
        | (intro z; rw [Maps.atKey_put_same hD (k := .string _) trivial]; simp)
    · first
        | (rw [Maps.has_put_other (lit_ne e), hhas t]; simp [e])
        | (intro z; rw [Maps.atKey_put_other (lit_ne e), hat t]; simp [e])

theorem wpList_nmap_store (w : World) {ops : Array Oper} {rest : List Oper} {o : Oper} {a : Act} {Q : Exit → Act → World → Prop}
    (T E : TypeId) (hT : Tryz.prog.underlying T = some (.map 3 E))
    (hg : o.guard = none) (m x v : Operand) (hop : o.op = Op.mapUpdate T m x v) (b n : Nat) (f : Int → Option Value) (hmap : NMap w b n f)
    (hm : a.eval m = .map (some b)) (hn : n < maxLen) (y : Int) (hx : a.eval x = .int .i64 y) (u : Value) (hv : a.eval v = u) (hy : (Lit.int .i64 y).wf = true)
    (hK : ∀ w', NMap w' b (n + 1) (fun t => if t = y then some u else f t) → w.grownBy w' (some b) → wpList Tryz.prog ops Q rest (a.put o.dst undef) w') :
    wpList Tryz.prog ops Q (o :: rest) a w := by
  obtain ⟨D, hown, hhas, hat⟩ := hmap
  refine wpList_mapUpdate_own w hg m x v T hop 3 E keyN hT _ b n D hm hown hn _ _ _ hx hv (keyOf_n hy) (.held u) [] rfl fun w' h1 h2 => hK w' ⟨_, h1, ?_, ?_⟩ h2
  all_goals
    have hD : Maps.IsMap D := by obtain ⟨es, _, _, _, _, e⟩ := hown; exact ⟨_, e⟩
    intro t
    by_cases e : t = y
    · subst e
      first
        | (rw [Maps.has_put_same hD (k := .int .i64 _) trivial]; simp)
        | (intro z; rw [Maps.atKey_put_same hD (k := .int .i64 _) trivial]; simp)
    · first
        | (rw [Maps.has_put_other (lit_neI e), hhas t]; simp [e])
        | (intro z; rw [Maps.atKey_put_other (lit_neI e), hat t]; simp [e])

theorem NMap.del_ {D : DataW Value} {f : Int → Option Value} {y : Int} (hhas : ∀ x : Int, Maps.has D (.int .i64 x) = (f x).isSome) (hat : ∀ (x : Int) (z : Value), D.atKey (.int .i64 x) (.held z) = .held ((f x).getD z)) :
    (∀ x : Int, Maps.has (D.del (.int .i64 y)) (.int .i64 x) = ((if x = y then none else f x) : Option Value).isSome) ∧ ∀ (x : Int) (z : Value), (D.del (.int .i64 y)).atKey (.int .i64 x) (.held z) = .held (((if x = y then none else f x) : Option Value).getD z) := by
  constructor
  · intro x
    by_cases e : x = y
    · subst e
      rw [Maps.has_del_same]; simp
    · rw [Maps.has_del_other (lit_neI e), hhas x]; simp [e]
  · intro x z
    by_cases e : x = y
    · subst e
      rw [Maps.atKey_del_same]; simp
    · rw [Maps.atKey_del_other (lit_neI e), hat x]; simp [e]

theorem wpList_nmap_delete (w : World) {ops : Array Oper} {rest : List Oper} {o : Oper} {a : Act} {Q : Exit → Act → World → Prop}
    (T E : TypeId) (hT : Tryz.prog.underlying T = some (.map 3 E))
    (hg : o.guard = none) (m x : Operand) (hop : o.op = Op.call { callee := Callee.builtin Builtin.delete, args := #[m, x], argTypes := #[T, 3] }) (b n : Nat) (f : Int → Option Value) (hmap : NMap w b n f)
    (hm : a.eval m = .map (some b)) (y : Int) (hx : a.eval x = .int .i64 y) (hy : (Lit.int .i64 y).wf = true)
    (hK : ∀ w', NMap w' b n (fun t => if t = y then none else f t) → w.grownBy w' (some b) → wpList Tryz.prog ops Q rest (a.put o.dst (.tuple #[])) w') :
    wpList Tryz.prog ops Q (o :: rest) a w := by
  obtain ⟨D, hown, hhas, hat⟩ := hmap
  refine wpList_delete_own w hg m x T 3 hop E keyN hT heldE b n D hm hown _ _ hx (keyOf_n hy) fun w' h1 h2 => ?_
  obtain ⟨q1, q2⟩ := NMap.del_ (y := y) hhas hat
  exact hK w' ⟨_, h1, q1, q2⟩ h2.grown
theorem wpList_nil_delete (w : World) {ops : Array Oper} {rest : List Oper} {o : Oper} {a : Act} {Q : Exit → Act → World → Prop}
    (T E : TypeId) (hT : Tryz.prog.underlying T = some (.map 3 E))
    (hg : o.guard = none) (m x : Operand) (hop : o.op = Op.call { callee := Callee.builtin Builtin.delete, args := #[m, x], argTypes := #[T, 3] })
    (hm : a.eval m = .map none) (y : Int) (hx : a.eval x = .int .i64 y) (hy : (Lit.int .i64 y).wf = true)
    (hK : wpList Tryz.prog ops Q rest (a.put o.dst (.tuple #[])) w) :
    wpList Tryz.prog ops Q (o :: rest) a w := by
  refine wpList_plain hg fun K' hK' => ?_
  have hrun := Maps.drop_nil (w := w) (P := Tryz.prog) keyN hT (keyOf_n hy) o.type
  unfold Oper.wp
  simp [execOp, hop, resolve, invoke, builtin, hm, hx, hrun, Result.andThen]
  exact hK' _ _ hK

/-- the integers that a range has met -/
def CollN {H : Type} (D : DataW H) (left : Lit → Bool) (zs : List Int) : Prop := zs.Nodup ∧ ∀ x : Int, x ∈ zs ↔ Maps.has D (.int .i64 x) = true ∧ left (.int .i64 x) = false
theorem CollN.start {H : Type} (D : DataW H) : CollN D (Maps.has D) [] := ⟨List.nodup_nil, fun x => by simp⟩
theorem sameI (x y : Int) : (Lit.int .i64 x).sameKey (.int .i64 y) = decide (x = y) := by
  simp [Lit.sameKey]
theorem CollN.step {H : Type} {D : DataW H} {left : Lit → Bool} {zs : List Int} {x : Int} {y : DataW H} (h : CollN D left zs) (hl : left (.int .i64 x) = true) (hat : ∀ zd, D.atKey (.int .i64 x) zd = y) : CollN D (fun z => left z && !z.sameKey (.int .i64 x)) (zs ++ [x]) := by
  have hnot : x ∉ zs := fun hm => by have := ((h.2 x).1 hm).2; rw [hl] at this; cases this
  have hhas : Maps.has D (.int .i64 x) = true := Maps.has_true_of_atKey hat
  refine ⟨?_, fun z => ?_⟩
  · rw [List.nodup_append]
    refine ⟨h.1, by simp, fun a ha b hb => ?_⟩
    simp at hb
    subst hb
    exact fun e => hnot (e ▸ ha)
  · rw [List.mem_append, h.2 z]
    by_cases e : z = x
    · subst e
      simp [hhas, sameI]
    · simp [e, sameI]

end Go.Proofs.YthjbekgognfiiaaGreat

/-
  The holders of a prefix index: a map of maps of the call's own. By an AI agent.
-/
namespace Go.Proofs.YthjbekgognfiiaaGreat
open Go.RowKit Go.Maps Go.Sort
set_option linter.unusedVariables false

structure Hold (w : World) (lo bH n : Nat) (g : Str → Option Nat) (f : Str → Int → Option Value) : Prop where
  out : SMap w bH n fun x => (g x).map fun b => Value.map (some b)
  inn : ∀ x b, g x = some b → NMap w b n (f x)
  low : lo ≤ bH
  lowi : ∀ x b, g x = some b → lo ≤ b
  ne : ∀ x b, g x = some b → b ≠ bH
  inj : ∀ x y b, g x = some b → g y = some b → x = y
  no : ∀ x, g x = none → ∀ i, f x i = none
theorem Hold.below {w w' : World} {lo bH n : Nat} {g : Str → Option Nat} {f : Str → Int → Option Value} (h : Hold w lo bH n g f) (hb : Below w.heap.size w w') : Hold w' lo bH n g f :=
  ⟨h.out.below hb, fun x b hx => (h.inn x b hx).below hb, h.low, h.lowi, h.ne, h.inj, h.no⟩
theorem Hold.kept {w w' : World} {lo bH n r : Nat} {g : Str → Option Nat} {f : Str → Int → Option Value} (h : Hold w lo bH n g f) (hg : w.grownBy w' (some r)) (h1 : r ≠ bH) (h2 : ∀ x b, g x = some b → r ≠ b) : Hold w' lo bH n g f :=
  ⟨h.out.kept hg (fun e => h1 (by injection e with e; exact e.symm)), fun x b hx => (h.inn x b hx).kept hg (fun e => h2 x b hx (by injection e with e; exact e.symm)), h.low, h.lowi, h.ne, h.inj, h.no⟩
theorem Hold.mono {w : World} {lo bH n n' : Nat} {g : Str → Option Nat} {f : Str → Int → Option Value} (h : Hold w lo bH n g f) (hn : n ≤ n') : Hold w lo bH n' g f :=
  ⟨h.out.mono hn, fun x b hx => (h.inn x b hx).mono hn, h.low, h.lowi, h.ne, h.inj, h.no⟩
theorem Hold.congr {w : World} {lo bH n : Nat} {g : Str → Option Nat} {f f' : Str → Int → Option Value} (h : Hold w lo bH n g f) (hf : ∀ x i, f x i = f' x i) : Hold w lo bH n g f' := by
  rwa [show f' = f from funext fun x => funext fun i => (hf x i).symm]
theorem Hold.made (w : World) (lo : Nat) (h : lo ≤ w.heap.size) : Hold (w.alloc (.map #[] 0)) lo w.heap.size 0 (fun _ => none) (fun _ _ => none) :=
  ⟨SMap.made w, fun x b h => by simp at h, h, fun x b h => by simp at h, fun x b h => by simp at h, fun x y b h => by simp at h, fun _ _ _ => rfl⟩

/-- a new map for a key -/
theorem Hold.new {w w2 : World} {lo bH n b0 : Nat} {g : Str → Option Nat} {f : Str → Int → Option Value} {z : Str} (h : Hold w lo bH n g f) (hz : g z = none) (hb0 : w.heap.size = b0) (hlo : lo ≤ b0)
    (hs : SMap w2 bH (n + 1) (fun t => if t = z then some (Value.map (some b0)) else (g t).map fun b => Value.map (some b))) (hg : (w.alloc (.map #[] 0)).grownBy w2 (some bH)) :
    Hold w2 lo bH (n + 1) (fun x => if x = z then some b0 else g x) f := by
  subst hb0
  have hlt := h.out.lt
  have hlti : ∀ x b, g x = some b → b < w.heap.size := fun x b hx => (h.inn x b hx).lt
  refine ⟨hs.congr fun x => ?_, fun x b hx => ?_, h.low, fun x b hx => ?_, fun x b hx => ?_, fun x y b hx hy => ?_, fun x hx i => ?_⟩
  · by_cases e : x = z
    · simp [e]
    · simp [e]
  · by_cases e : x = z
    · subst e
      rw [if_pos rfl] at hx
      obtain rfl := Option.some.inj hx
      have h1 : NMap (w.alloc (.map #[] 0)) w.heap.size 0 (f x) := (NMap.made w).congr fun i => (h.no x hz i).symm
      exact (h1.kept hg (fun e => by injection e; omega)).mono (by omega)
    · rw [if_neg e] at hx
      have h1 := (h.inn x b hx).below ((Below.refl _ _).alloc (Nat.le_refl _) (.map #[] 0))
      exact (h1.kept hg (fun e => h.ne x b hx (by injection e))).mono (by omega)
  · by_cases e : x = z
    · rw [if_pos e] at hx
      obtain rfl := Option.some.inj hx
      exact hlo
    · rw [if_neg e] at hx
      exact h.lowi x b hx
  · by_cases e : x = z
    · rw [if_pos e] at hx
      obtain rfl := Option.some.inj hx
      omega
    · rw [if_neg e] at hx
      exact h.ne x b hx
  · by_cases e : x = z <;> by_cases e2 : y = z
    · rw [e, e2]
    · rw [if_pos e] at hx
      rw [if_neg e2] at hy
      obtain rfl := Option.some.inj hx
      exact absurd (hlti y _ hy) (Nat.lt_irrefl _)
    · rw [if_neg e] at hx
      rw [if_pos e2] at hy
      obtain rfl := Option.some.inj hy
      exact absurd (hlti x _ hx) (Nat.lt_irrefl _)
    · rw [if_neg e] at hx
      rw [if_neg e2] at hy
      exact h.inj x y b hx hy
  · by_cases e : x = z
    · rw [if_pos e] at hx; cases hx
    · rw [if_neg e] at hx; exact h.no x hx i
/-- what is stored under a key that has a map -/
theorem Hold.turn {w w' : World} {lo bH n m b : Nat} {g : Str → Option Nat} {f : Str → Int → Option Value} {z : Str} {F : Int → Option Value} (h : Hold w lo bH n g f) (hz : g z = some b) (hnm : n ≤ m)
    (hs : NMap w' b m F) (hg : w.grownBy w' (some b)) : Hold w' lo bH m g (fun x i => if x = z then F i else f x i) := by
  refine ⟨(h.out.kept hg (fun e => h.ne z b hz (by injection e with e; exact e.symm))).mono hnm, fun x b' hx => ?_, h.low, h.lowi, h.ne, h.inj, fun x hx i => ?_⟩
  · by_cases e : x = z
    · subst e
      rw [hz] at hx
      obtain rfl := Option.some.inj hx
      exact hs.congr fun i => by rw [if_pos rfl]
    · have h1 := (h.inn x b' hx).kept hg (fun e2 => e (h.inj x z b (by rw [hx]; injection e2 with e3; rw [e3]) hz))
      exact (h1.mono hnm).congr fun i => by rw [if_neg e]
  · by_cases e : x = z
    · subst e; rw [hz] at hx; cases hx
    · rw [if_neg e]; exact h.no x hx i

end Go.Proofs.YthjbekgognfiiaaGreat

/-
  What the laws' own markText, markStringS and heldStringS do. By an AI agent.
-/
namespace Go.Proofs.YthjbekgognfiiaaGreat
open Go.RowKit
set_option linter.unusedVariables false

/-- the digits of k ahead of acc -/
def mdigL : Nat → Nat → List UInt8 → List UInt8
  | 0, _, acc => acc
  | f + 1, k, acc => if k = 0 then acc else mdigL f (k / 10) (UInt8.ofNat (48 + k % 10) :: acc)
theorem mdigL_enough : ∀ (f g k : Nat) (acc : List UInt8), k ≤ f → k ≤ g → mdigL f k acc = mdigL g k acc := by
  intro f
  induction f with
  | zero =>
    intro g k acc h1 h2
    obtain rfl : k = 0 := by omega
    cases g <;> simp [mdigL]
  | succ f ih =>
    intro g k acc h1 h2
    cases g with
    | zero =>
      obtain rfl : k = 0 := by omega
      simp [mdigL]
    | succ g =>
      unfold mdigL
      by_cases h : k = 0
      · rw [if_pos h, if_pos h]
      · rw [if_neg h, if_neg h]
        exact ih g _ _ (by omega) (by omega)
theorem mdigL_step {k : Nat} (h : 0 < k) (acc : List UInt8) : mdigL k k acc = mdigL (k / 10) (k / 10) (UInt8.ofNat (48 + k % 10) :: acc) := by
  obtain ⟨f, rfl⟩ : ∃ f, k = f + 1 := ⟨k - 1, by omega⟩
  conv => lhs; unfold mdigL
  rw [if_neg (by omega)]
  exact mdigL_enough _ _ _ _ (by omega) (by omega)
theorem mdigL_zero (acc : List UInt8) : mdigL 0 0 acc = acc := rfl

/-- the mark of number k -/
def markL (k : Nat) : Str := 109 :: mdigL k k []
def marksL (k n : Nat) : List Str := (List.range n).map fun j => markL (k + j)
theorem marks_length (k n : Nat) : (marksL k n).length = n := by simp [marksL]
theorem marks_at {k n j : Nat} (h : j < n) : (marksL k n)[j]? = some (markL (k + j)) := by simp [marksL, h]
theorem marks_succ (k n : Nat) : marksL k (n + 1) = marksL k n ++ [markL (k + n)] := by simp [marksL, List.range_succ]

theorem mdig48 (x : Nat) : (48 : UInt8) + UInt8.ofNat x = UInt8.ofNat (48 + x) := by
  rw [UInt8.ofNat_add]; rfl
theorem mstr_cons (b c : UInt8) (l : List UInt8) (h : b = c) : Value.string ((⟨#[b]⟩ : ByteArray) ++ strOf l) = .string (strOf (c :: l)) := by
  subst h
  exact congrArg _ (strOf_append [b] l)

set_option maxRecDepth 100000 in
theorem mark_text (n : Nat) (w : World) (h0 : 0 < n) (h1 : (n : Int) ≤ 4611686018427387904) :
    Calls Tryz.prog 94 #[.int .i64 n] w fun e w' => e = .returned (encStr (markL n)) ∧ Below w.heap.size w w' := by
  have hle : decide ((n : Int) ≤ 0) = false := by simp; omega
  go_enter Tryz.func94, Tryz.ntmps94
  go_wp2
  clear hle
  go_loopw [0, 3] (fun a o wr => ∃ (k : Nat) (l : List UInt8), k ≤ n ∧ a = .int .i64 k ∧ o = .string (strOf l) ∧ l.length + k ≤ n ∧ mdigL n n [] = mdigL k k l ∧ Below w.heap.size w wr) (fun a _ _ => (intOf a).toNat)
  case atStart => exact ⟨n, [], Nat.le_refl _, rfl, rfl, by simp, rfl, Below.refl _ _⟩
  case round =>
    obtain ⟨k, l, hk, rfl, rfl, hlen, hd, hb⟩ := hrel
    have HD := Lib.hid hd
    have HB := Lib.hid hb
    have HLEN := Lib.hid hlen
    have hsz : (strOf l).size ≤ 4611686018427387904 := by rw [strOf_size]; omega
    clear hd hb hlen
    by_cases h0 : 0 < k
    · have hcv := convert_one wr (48 + (k : Int) % 10) (by omega) (by omega)
      go_wp2
      go_roundw
      case rel =>
        refine ⟨k / 10, UInt8.ofNat (48 + k % 10) :: l, by omega, by go_num, ?_, by have := HLEN.out; simp; omega, by rw [HD.out, mdigL_step h0], HB.out.trans ((Below.refl _ _).alloc HB.out.size _)⟩
        exact mstr_cons _ _ l (mdig48 _)
      case measure => simp [intOf]; omega
    · obtain rfl : k = 0 := by omega
      go_wp2
      go_ret
      refine ⟨?_, HB.out⟩
      have e : encStr (markL n) = .string ((⟨#[109]⟩ : ByteArray) ++ strOf l) := by
        unfold markL
        rw [HD.out, mdigL_zero]
        exact congrArg Value.string (strOf_append [109] l).symm
      rw [e]
      rfl

theorem own_at {w : World} {base : Nat} {a : Option Addr} {n cap : Nat} {xs : List Value} (h : w.ownsRow base 9 1 (.slice a n cap) n xs) (h0 : 0 < n) : ∃ g, a = some ⟨g, 0, none⟩ ∧ g < w.heap.size := by
  rcases h.2 with ⟨_, h1⟩ | ⟨g, cap', cur, hv, hb, hg, _⟩
  · omega
  · simp only [Value.slice.injEq] at hv
    exact ⟨g, hv.1, (Array.getElem?_eq_some_iff.1 hg).1⟩

/-- the first k are marked -/
def markV (l : List Str) (k0 k : Nat) : List Value := (marksL k0 k).map encStr ++ (l.drop k).map encStr
theorem markV_zero (l : List Str) (k0 : Nat) : markV l k0 0 = l.map encStr := by simp [markV, marksL]
theorem markV_all (l : List Str) (k0 : Nat) : markV l k0 l.length = (marksL k0 l.length).map encStr := by simp [markV]
theorem markV_at {l : List Str} {k0 k : Nat} {x : Str} (h : l[k]? = some x) : (markV l k0 k)[k]? = some (encStr x) := by
  obtain ⟨hlt, he⟩ := List.getElem?_eq_some_iff.1 h
  unfold markV
  rw [List.getElem?_append_right (by simp [marks_length]), List.length_map, marks_length, Nat.sub_self, List.getElem?_map, List.getElem?_drop, Nat.add_zero, h]
  rfl
theorem markV_set {l : List Str} {k0 k : Nat} (hlt : k < l.length) : (markV l k0 k).set k (encStr (markL (k0 + k))) = markV l k0 (k + 1) := by
  unfold markV
  rw [List.set_append_right _ _ (by simp [marks_length]), List.length_map, marks_length, Nat.sub_self, List.drop_eq_getElem_cons hlt, List.map_cons, List.set_cons_zero, marks_succ]
  simp

def Marked (w : World) (base : Nat) (a : Option Addr) (n cap k0 : Nat) (e : Ending) (w' : World) : Prop :=
  e = .returned (.int .i64 ((k0 + n : Nat) : Int)) ∧ OwnS w' base (.slice a n cap) (marksL k0 n) ∧ w.grownBy w' (Value.slice a n cap).ownBlock

theorem grown_trans' {a b d : World} {r : Option Nat} (h1 : a.grownBy b r) (h2 : b.grownBy d r) : a.grownBy d r :=
  ⟨h2.os.trans h1.os, h2.tape.trans h1.tape, h2.output.trans h1.output, Nat.le_trans h1.size h2.size, fun k hk hne => (h2.block k (Nat.lt_of_lt_of_le hk h1.size) hne).trans (h1.block k hk hne)⟩
theorem grown_of_below {w w' : World} (h : Below w.heap.size w w') (r : Option Nat) : w.grownBy w' r := ⟨h.os, h.tape, h.output, h.size, fun k hk _ => h.block k hk⟩

set_option maxRecDepth 100000 in
theorem mark_any (base : Nat) (a : Option Addr) (cap : Nat) (l : List Str) (k0 : Nat) (w : World) (hl : l.length ≤ 4000000) (hk0 : 0 < k0) (hk1 : k0 ≤ 4000000) (hown : OwnS w base (.slice a l.length cap) l) :
    Calls Tryz.prog 95 #[.slice a l.length cap, .int .i64 k0] w (Marked w base a l.length cap k0) := by
  have HOWN := Lib.hid hown
  clear hown
  go_enter Tryz.func95, Tryz.ntmps95
  go_wp2
  go_loopw [1, 5] (fun kk i wr => ∃ k : Nat, k ≤ l.length ∧ i = .int .i64 k ∧ kk = .int .i64 ((k0 + k : Nat) : Int) ∧ wr.ownsRow base 9 1 (.slice a l.length cap) l.length (markV l k0 k) ∧ w.grownBy wr (Value.slice a l.length cap).ownBlock) (fun _ i _ => l.length - (intOf i).toNat)
  case atStart => exact ⟨0, Nat.zero_le _, rfl, by go_num, by rw [markV_zero]; exact HOWN.out, World.grownBy.refl _ _⟩
  case round =>
    obtain ⟨k, hk, rfl, rfl, hrow, hg⟩ := hrel
    have HROW := Lib.hid hrow
    have HG := Lib.hid hg
    clear hrow hg
    by_cases hlt : k < l.length
    · obtain ⟨g, rfl, hgl⟩ := own_at HROW.out (by omega)
      have HGL := Lib.hid hgl
      clear hgl
      go_wp2_with (go_at_call 94; (refine (mark_text (k0 + k) _ (by omega) (by omega)).mono ?_); rintro e w1 ⟨rfl, hb1⟩; refine Hid.out ?_)
      refine Lib.hid ?_
      have HB1 := Lib.hid hb1
      have hrow1 : w1.ownsRow base 9 1 (.slice (some ⟨g, 0, none⟩) l.length cap) l.length (markV l k0 k) :=
        World.ownsRow.kept HROW.out (row := none) (grown_of_below hb1 none) (.inr (by simp [Value.ownBlock]))
      have hold : w1.cell? ⟨g, k, none⟩ = some (encStr l[k]) := by rw [hrow1.cellAt k (by omega)]; exact markV_at (List.getElem?_eq_getElem hlt)
      have hfz : w1.frozen? ⟨g, k, none⟩ = false := hrow1.frozenAt k
      have HN := Lib.hid (hrow1.stored k (encStr (markL (k0 + k))))
      clear hb1 hrow1
      go_wp2
      go_roundw
      case rel =>
        refine ⟨k + 1, by omega, by go_num, by go_num, ?_, ?_⟩
        · rw [← markV_set hlt]
          exact HN.out.1
        · exact grown_trans' (grown_trans' HG.out (grown_of_below HB1.out _)) HN.out.2
      case measure => simp [intOf]; omega
    · obtain rfl : k = l.length := by omega
      go_wp2
      go_ret
      refine ⟨rfl, ?_, HG.out⟩
      have h := HROW.out
      rw [markV_all] at h
      unfold OwnS
      rw [marks_length]
      exact h

end Go.Proofs.YthjbekgognfiiaaGreat

/-
  Tokens with counts: plain facts without the program. By an AI agent.
-/
namespace Go.Proofs.YthjbekgognfiiaaGreat
open Go

abbrev TC := Str × Int

/-- the count of the first element with this token, or 0 -/
def frqL : List TC → Str → Int
  | [], _ => 0
  | x :: l, s => if x.1 = s then x.2 else frqL l s

theorem frq_none {l : List TC} {s : Str} (h : ∀ x ∈ l, x.1 ≠ s) : frqL l s = 0 := by
  induction l with
  | nil => rfl
  | cons x l ih =>
    unfold frqL
    rw [if_neg (h x (by simp))]
    exact ih fun y hy => h y (List.mem_cons_of_mem x hy)
theorem frq_at {l : List TC} {s : Str} : ∀ {k : Nat} {x : TC}, l[k]? = some x → x.1 = s → (∀ j y, j < k → l[j]? = some y → y.1 ≠ s) → frqL l s = x.2 := by
  induction l with
  | nil => intro k x hk; simp at hk
  | cons z l ih =>
    intro k x hk hs hb
    unfold frqL
    cases k with
    | zero =>
      simp at hk
      subst hk
      rw [if_pos hs]
    | succ k =>
      rw [if_neg (hb 0 z (by omega) (by simp))]
      exact ih (by simpa using hk) hs fun j y hj hy => hb (j + 1) y (by omega) (by simpa using hy)
theorem frq_range {l : List TC} {s : Str} {B : Int} (hB : 0 ≤ B) (h : ∀ x ∈ l, -B ≤ x.2 ∧ x.2 ≤ B) : -B ≤ frqL l s ∧ frqL l s ≤ B := by
  induction l with
  | nil => unfold frqL; omega
  | cons x l ih =>
    unfold frqL
    split
    · exact h x (by simp)
    · exact ih fun y hy => h y (List.mem_cons_of_mem x hy)
theorem frq_snoc (l : List TC) (x : TC) (s : Str) : frqL (l ++ [x]) s = if s ∈ l.map (·.1) then frqL l s else if x.1 = s then x.2 else 0 := by
  induction l with
  | nil => simp [frqL]
  | cons z l ih =>
    rw [List.cons_append]
    unfold frqL
    rw [ih]
    by_cases h : z.1 = s
    · simp [h]
    · simp only [if_neg h, List.map_cons, List.mem_cons, show ¬ s = z.1 from fun e => h e.symm, false_or]

/-- the order: by frequency, then by alphabet -/
def kleB (t : List TC) (x y : Str) : Bool := decide (frqL t x < frqL t y) || (decide (frqL t x = frqL t y) && decide (x ≤ y))
abbrev KLe (t : List TC) (x y : Str) : Prop := kleB t x y = true
theorem kle_iff {t : List TC} {x y : Str} : KLe t x y ↔ frqL t x < frqL t y ∨ (frqL t x = frqL t y ∧ x ≤ y) := by
  unfold KLe kleB
  simp
theorem kle_trans {t : List TC} {x y z : Str} (h : KLe t x y) (k : KLe t y z) : KLe t x z := by
  rw [kle_iff] at *
  rcases h with h | ⟨h1, h2⟩
  · rcases k with k | ⟨k1, k2⟩
    · exact .inl (by omega)
    · exact .inl (by omega)
  · rcases k with k | ⟨k1, k2⟩
    · exact .inl (by omega)
    · exact .inr ⟨by omega, str_le_trans h2 k2⟩
theorem kle_total (t : List TC) (x y : Str) : KLe t x y ∨ KLe t y x := by
  rw [kle_iff, kle_iff]
  rcases Int.lt_trichotomy (frqL t x) (frqL t y) with h | h | h
  · exact .inl (.inl h)
  · rcases List.le_total x y with k | k
    · exact .inl (.inr ⟨h, k⟩)
    · exact .inr (.inr ⟨h.symm, k⟩)
  · exact .inr (.inl h)
theorem kle_antisymm {t : List TC} {x y : Str} (h : KLe t x y) (k : KLe t y x) : x = y := by
  rw [kle_iff] at *
  rcases h with h | ⟨h1, h2⟩
  · rcases k with k | ⟨k1, k2⟩ <;> omega
  · rcases k with k | ⟨k1, k2⟩
    · omega
    · exact List.le_antisymm h2 k2
theorem kle_refl (t : List TC) (x : Str) : KLe t x x := by
  rcases kle_total t x x with h | h <;> exact h

/-- the tokens in the order of a table -/
def ordR (t : List TC) (l : List Str) : List Str := l.mergeSort (kleB t)
theorem ord_perm (t : List TC) (l : List Str) : (ordR t l).Perm l := List.mergeSort_perm l (kleB t)
theorem ord_sorted (t : List TC) (l : List Str) : (ordR t l).Pairwise (KLe t) := by
  have tr : ∀ a b c : Str, kleB t a b = true → kleB t b c = true → kleB t a c = true := fun a b c h1 h2 => kle_trans h1 h2
  have to : ∀ a b : Str, (kleB t a b || kleB t b a) = true := fun a b => by rw [Bool.or_eq_true]; exact kle_total t a b
  exact List.pairwise_mergeSort tr to l
theorem ord_len (t : List TC) (l : List Str) : (ordR t l).length = l.length := (ord_perm t l).length_eq
theorem ord_unique {t : List TC} {l r : List Str} (hp : r.Perm l) (hs : r.Pairwise (KLe t)) : r = ordR t l :=
  List.Perm.eq_of_pairwise (le := fun x y => KLe t x y) (fun _ _ _ _ h1 h2 => kle_antisymm h1 h2) hs (ord_sorted t l) (hp.trans (ord_perm t l).symm)

/-- one token more, behind all that are not greater -/
theorem ord_step {t : List TC} {out l : List Str} {k : Nat} {x : Str} (hp : out.Perm l) (hs : out.Pairwise (KLe t)) (hk : k ≤ out.length)
    (hlo : ∀ y, 0 < k → out[k - 1]? = some y → KLe t y x) (hhi : ∀ y, out[k]? = some y → KLe t x y) :
    (out.take k ++ x :: out.drop k).Perm (l ++ [x]) ∧ (out.take k ++ x :: out.drop k).Pairwise (KLe t) := by
  refine ⟨?_, ?_⟩
  · refine List.perm_middle.trans ?_
    rw [List.take_append_drop]
    exact (List.Perm.cons x hp).trans (List.perm_append_singleton x l).symm
  · have hs2 : (out.take k ++ out.drop k).Pairwise (KLe t) := by rw [List.take_append_drop]; exact hs
    obtain ⟨h1, h2, h3⟩ := List.pairwise_append.1 hs2
    have hL : ∀ y ∈ out.take k, KLe t y x := by
      intro y hy
      obtain ⟨j, hj⟩ := List.getElem?_of_mem hy
      have hjk : j < k := by
        have := (List.getElem?_eq_some_iff.1 hj).1
        rw [List.length_take] at this
        omega
      rw [List.getElem?_take_of_lt hjk] at hj
      have hk1 : k - 1 < out.length := by omega
      have hz := List.getElem?_eq_getElem hk1
      have h0 := hlo _ (by omega) hz
      by_cases e : j = k - 1
      · subst e
        rw [hz] at hj
        rw [← Option.some.inj hj]
        exact h0
      · obtain ⟨hj1, hj2⟩ := List.getElem?_eq_some_iff.1 hj
        have := (List.pairwise_iff_getElem.1 hs) j (k - 1) hj1 hk1 (by omega)
        rw [hj2] at this
        exact kle_trans this h0
    have hG : ∀ y ∈ out.drop k, KLe t x y := by
      intro y hy
      obtain ⟨j, hj⟩ := List.getElem?_of_mem hy
      rw [List.getElem?_drop] at hj
      obtain ⟨hj1, hj2⟩ := List.getElem?_eq_some_iff.1 hj
      have hz := List.getElem?_eq_getElem (show k < out.length by omega)
      have h0 := hhi _ hz
      by_cases e : j = 0
      · subst e
        rw [← hj2]
        exact h0
      · have := (List.pairwise_iff_getElem.1 hs) k (k + j) (by omega) hj1 (by omega)
        rw [hj2] at this
        exact kle_trans h0 this
    refine List.pairwise_append.2 ⟨h1, List.pairwise_cons.2 ⟨hG, h2⟩, fun a ha b hb => ?_⟩
    rcases List.mem_cons.1 hb with rfl | hb
    · exact hL a ha
    · exact h3 a ha b hb

/-- a table: counts of at least 1, tokens ascending -/
def TokTab (l : List TC) : Prop := (∀ x ∈ l, 1 ≤ x.2) ∧ Asc (l.map (·.1))
noncomputable def ttB (l : List TC) : Bool := @decide (TokTab l) (Classical.propDecidable _)
theorem ttB_true {l : List TC} : ttB l = true ↔ TokTab l := by unfold ttB; simp
theorem ttB_no {l : List TC} (h : ¬ TokTab l) : ttB l = false := by unfold ttB; simp [h]
theorem tt_count {l : List TC} {k : Nat} {x : TC} (hk : l[k]? = some x) (h : x.2 < 1) : ttB l = false :=
  ttB_no fun hT => by have := hT.1 x (List.mem_of_getElem? hk); omega
theorem tt_asc {l : List TC} (h : TokTab l) {j k : Nat} {x y : TC} (hj : l[j]? = some x) (hk : l[k]? = some y) (hjk : j < k) : x.1 < y.1 := by
  have h2 := List.pairwise_iff_getElem.1 h.2
  obtain ⟨hj1, hj2⟩ := List.getElem?_eq_some_iff.1 hj
  obtain ⟨hk1, hk2⟩ := List.getElem?_eq_some_iff.1 hk
  have := h2 j k (by simpa using hj1) (by simpa using hk1) hjk
  simpa [hj2, hk2] using this
theorem tt_order {l : List TC} {k : Nat} {x y : TC} (hy : l[k]? = some y) (hx : l[k + 1]? = some x) (h : ¬ y.1 < x.1) : ttB l = false :=
  ttB_no fun hT => h (tt_asc hT hy hx (by omega))
theorem tc_take {l : List TC} {k : Nat} {x : TC} (h : l[k]? = some x) : l.take (k + 1) = l.take k ++ [x] := by
  obtain ⟨hlt, he⟩ := List.getElem?_eq_some_iff.1 h
  rw [List.take_succ_eq_append_getElem hlt, he]
theorem tt_step {l : List TC} {k : Nat} {x : TC} (h : TokTab (l.take k)) (hx : l[k]? = some x) (hc : 1 ≤ x.2) (hy : ∀ y, k ≠ 0 → l[k - 1]? = some y → y.1 < x.1) : TokTab (l.take (k + 1)) := by
  rw [tc_take hx]
  refine ⟨fun z hz => ?_, ?_⟩
  · rcases List.mem_append.1 hz with hz | hz
    · exact h.1 z hz
    · rw [List.mem_singleton.1 hz]; exact hc
  · unfold Asc
    rw [List.map_append]
    refine List.pairwise_append.2 ⟨h.2, by simp, fun a ha b hb => ?_⟩
    simp at hb
    subst hb
    obtain ⟨z, hz, rfl⟩ := List.mem_map.1 ha
    obtain ⟨j, hj⟩ := List.getElem?_of_mem hz
    have hlt := (List.getElem?_eq_some_iff.1 hx).1
    have hjk : j < k := by
      have := (List.getElem?_eq_some_iff.1 hj).1
      rw [List.length_take] at this
      omega
    have hk1 : k - 1 < l.length := by omega
    have hw := List.getElem?_eq_getElem hk1
    have h0 := hy _ (by omega) hw
    by_cases e : j = k - 1
    · subst e
      rw [List.getElem?_take_of_lt hjk, hw] at hj
      rw [← Option.some.inj hj]
      exact h0
    · have hw2 : (l.take k)[k - 1]? = some l[k - 1] := by rw [List.getElem?_take_of_lt (by omega)]; exact hw
      exact str_lt_trans (tt_asc h hj hw2 (by omega)) h0

/-- a search that ends at k: all ahead of it are less, the one there is the token -/
theorem frq_found {l : List TC} (h : TokTab l) {k : Nat} {x : TC} {s : Str} (hk : l[k]? = some x) (hs : x.1 = s) : frqL l s = x.2 := by
  refine frq_at hk hs fun j y hj hy e => ?_
  have := tt_asc h hy hk hj
  rw [e, hs] at this
  exact List.lt_irrefl s this
theorem frq_missing {l : List TC} (h : TokTab l) {k : Nat} {s : Str} (hlo : ∀ j y, j < k → l[j]? = some y → y.1 < s) (hk : ∀ x, l[k]? = some x → s < x.1) : frqL l s = 0 := by
  refine frq_none fun y hy e => ?_
  obtain ⟨j, hj⟩ := List.getElem?_of_mem hy
  rcases Nat.lt_trichotomy j k with hlt | rfl | hgt
  · have := hlo j y hlt hj
    rw [e] at this
    exact List.lt_irrefl s this
  · have := hk y hj
    rw [e] at this
    exact List.lt_irrefl s this
  · have hkl : k < l.length := by have := (List.getElem?_eq_some_iff.1 hj).1; omega
    have hw := List.getElem?_eq_getElem hkl
    have h1 := hk _ hw
    have h2 := tt_asc h hw hj hgt
    rw [e] at h2
    exact List.lt_irrefl s (str_lt_trans h1 h2)

/-- in how many of the lists a token stands -/
def hasN (ls : List (List Str)) (t : Str) : Nat := (ls.filter fun l => decide (t ∈ l)).length
theorem hasN_nil (t : Str) : hasN [] t = 0 := rfl
theorem hasN_snoc (ls : List (List Str)) (l : List Str) (t : Str) : hasN (ls ++ [l]) t = hasN ls t + if t ∈ l then 1 else 0 := by
  unfold hasN
  rw [List.filter_append, List.length_append]
  by_cases h : t ∈ l <;> simp [h]
theorem hasN_le (ls : List (List Str)) (t : Str) : hasN ls t ≤ ls.length := List.length_filter_le _ _
theorem hasN_pos {ls : List (List Str)} {t : Str} : 1 ≤ hasN ls t ↔ t ∈ ls.flatten := by
  unfold hasN
  rw [List.mem_flatten]
  constructor
  · intro h
    obtain ⟨l, hl⟩ := List.exists_mem_of_length_pos h
    obtain ⟨h1, h2⟩ := List.mem_filter.1 hl
    exact ⟨l, h1, by simpa using h2⟩
  · rintro ⟨l, h1, h2⟩
    exact List.length_pos_of_mem (List.mem_filter.2 ⟨h1, by simpa using h2⟩)

/-- the table of the lists -/
def ctR (ls : List (List Str)) : List TC := (setL ls.flatten).map fun t => (t, (hasN ls t : Int))
theorem ct_tokens (ls : List (List Str)) : (ctR ls).map (·.1) = setL ls.flatten := by
  unfold ctR
  rw [List.map_map]
  exact List.map_id' _
theorem ct_table (ls : List (List Str)) : TokTab (ctR ls) := by
  refine ⟨fun x hx => ?_, by rw [ct_tokens]; exact setL_asc _⟩
  obtain ⟨t, ht, rfl⟩ := List.mem_map.1 hx
  have := hasN_pos.2 ((setL_mem _ _).1 ht)
  show (1 : Int) ≤ (hasN ls t : Int)
  omega
theorem ct_count {ls : List (List Str)} {x : TC} (h : x ∈ ctR ls) : 1 ≤ x.2 ∧ x.2 ≤ (ls.length : Int) := by
  obtain ⟨t, ht, rfl⟩ := List.mem_map.1 h
  have := hasN_pos.2 ((setL_mem _ _).1 ht)
  have := hasN_le ls t
  show (1 : Int) ≤ (hasN ls t : Int) ∧ (hasN ls t : Int) ≤ (ls.length : Int)
  omega
theorem ct_len (ls : List (List Str)) : (ctR ls).length ≤ ls.flatten.length := by
  unfold ctR
  rw [List.length_map]
  exact setL_length _

/-- the tokens of a list in order, each with its number -/
def grpL (m : List Str) : List TC := (setL m).map fun t => (t, (m.count t : Int))
theorem grp_nil : grpL [] = [] := rfl
theorem setL_big {m : List Str} {x : Str} (h : ∀ y ∈ m, y < x) : setL (m ++ [x]) = setL m ++ [x] := by
  refine asc_ext (setL_asc _) ?_ fun z => ?_
  · refine List.pairwise_append.2 ⟨setL_asc m, by simp, fun a ha b hb => ?_⟩
    rw [List.mem_singleton.1 hb]
    exact h a ((setL_mem m a).1 ha)
  · rw [setL_mem, List.mem_append, List.mem_append, setL_mem]
theorem count_not {m : List Str} {x : Str} (h : x ∉ m) : m.count x = 0 := List.count_eq_zero.2 h
theorem grp_new {m : List Str} {x : Str} (h : ∀ y ∈ m, y < x) : grpL (m ++ [x]) = grpL m ++ [(x, 1)] := by
  have hx : x ∉ m := fun e => List.lt_irrefl x (h x e)
  unfold grpL
  rw [setL_big h, List.map_append]
  congr 1
  · refine List.map_congr_left fun t ht => ?_
    have hne : x ≠ t := fun e => hx (by rw [e]; exact (setL_mem m t).1 ht)
    rw [count_snoc, if_neg hne]
    rfl
  · rw [List.map_singleton, count_snoc, if_pos rfl, count_not hx]
    rfl
theorem asc_last {l : List Str} {x : Str} (ha : Asc l) (hm : x ∈ l) (hb : ∀ y ∈ l, y ≤ x) : ∃ q, l = q ++ [x] ∧ ∀ y ∈ q, y < x := by
  have hne : l ≠ [] := fun e => by rw [e] at hm; cases hm
  have e := List.dropLast_concat_getLast hne
  have ha2 : Asc (l.dropLast ++ [l.getLast hne]) := by rw [e]; exact ha
  obtain ⟨_, _, h3⟩ := List.pairwise_append.1 ha2
  have hx : l.getLast hne = x := by
    rw [← e] at hm
    rcases List.mem_append.1 hm with hm | hm
    · have h4 := h3 x hm (l.getLast hne) (by simp)
      exact absurd h4 (List.not_lt.2 (hb _ (List.getLast_mem hne)))
    · exact (List.mem_singleton.1 hm).symm
  rw [hx] at e h3
  exact ⟨l.dropLast, e.symm, fun y hy => h3 y hy x (by simp)⟩
theorem grp_same {m : List Str} {x : Str} (hm : x ∈ m) (hb : ∀ y ∈ m, y ≤ x) : ∃ (q : List TC) (c : Nat), grpL m = q ++ [(x, (c : Int))] ∧ grpL (m ++ [x]) = q ++ [(x, ((c + 1 : Nat) : Int))] ∧ c + 1 ≤ m.length + 1 := by
  obtain ⟨q, hq, hlt⟩ := asc_last (setL_asc m) ((setL_mem m x).2 hm) fun y hy => hb y ((setL_mem m y).1 hy)
  refine ⟨q.map fun t => (t, (m.count t : Int)), m.count x, ?_, ?_, ?_⟩
  · unfold grpL
    rw [hq, List.map_append]
    rfl
  · have e : setL (m ++ [x]) = setL m := setL_congr fun z => by
      rw [List.mem_append, List.mem_singleton]
      exact ⟨fun h => h.elim id (fun h => by rw [h]; exact hm), .inl⟩
    unfold grpL
    rw [e, hq, List.map_append, List.map_singleton, count_snoc, if_pos rfl]
    congr 1
    refine List.map_congr_left fun t ht => ?_
    rw [count_snoc, if_neg (fun e => List.lt_irrefl x (by have := hlt t ht; rw [← e] at this; exact this))]
    rfl
  · have := List.count_le_length (a := x) (l := m)
    omega
theorem grp_is {m : List Str} {ls : List (List Str)} (h : ∀ t, m.count t = hasN ls t) : grpL m = ctR ls := by
  have e : setL m = setL ls.flatten := setL_congr fun z => by
    rw [← hasN_pos, ← h z]
    exact List.count_pos_iff.symm
  unfold grpL ctR
  rw [e]
  exact List.map_congr_left fun t _ => by rw [h t]
theorem grp_len (m : List Str) : (grpL m).length ≤ m.length := by unfold grpL; rw [List.length_map]; exact setL_length m

theorem nodup_len {c : List Str} : ∀ {d : List Str}, c.Nodup → (∀ y ∈ c, y ∈ d) → c.length ≤ d.length := by
  induction c with
  | nil => intro d _ _; exact Nat.zero_le _
  | cons x c ih =>
    intro d hn hs
    obtain ⟨h1, h2⟩ := List.nodup_cons.1 hn
    have hx := hs x (by simp)
    have h3 := ih (d := d.erase x) h2 fun y hy => (List.mem_erase_of_ne (fun e => h1 (by rw [← e]; exact hy))).2 (hs y (List.mem_cons_of_mem x hy))
    have h4 := List.length_erase_of_mem hx
    have h5 := List.length_pos_of_mem hx
    rw [List.length_cons]
    omega

/-- what two sets have in common, the least of it in the order -/
theorem share_take {t : List TC} {a c : List Str} {k : Nat} {z : Str} (ha : a.Nodup) (hc : c.Nodup) (hsub : ∀ y ∈ c, y ∈ a) (hz : z ∈ c) (hmin : ∀ y ∈ c, KLe t z y) (hk : a.length < k + c.length) : z ∈ (ordR t a).take k := by
  have hzA : z ∈ (ordR t a).take k ++ (ordR t a).drop k := by rw [List.take_append_drop]; exact (ord_perm t a).mem_iff.2 (hsub z hz)
  rcases List.mem_append.1 hzA with h | h
  · exact h
  · exfalso
    have hs : ((ordR t a).take k ++ (ordR t a).drop k).Pairwise (KLe t) := by rw [List.take_append_drop]; exact ord_sorted t a
    obtain ⟨_, _, h3⟩ := List.pairwise_append.1 hs
    have hn : ((ordR t a).take k ++ (ordR t a).drop k).Nodup := by rw [List.take_append_drop]; exact (ord_perm t a).nodup_iff.2 ha
    have hd : ∀ y ∈ c, y ∈ (ordR t a).drop k := by
      intro y hy
      have hyA : y ∈ (ordR t a).take k ++ (ordR t a).drop k := by rw [List.take_append_drop]; exact (ord_perm t a).mem_iff.2 (hsub y hy)
      rcases List.mem_append.1 hyA with h4 | h4
      · have e : y = z := kle_antisymm (h3 y h4 z h) (hmin y hy)
        rw [e]; exact h
      · exact h4
    have hl := nodup_len hc hd
    rw [List.length_drop, ord_len] at hl
    have h5 : 0 < c.length := List.length_pos_of_mem hz
    omega
theorem least_common (t : List TC) (a b : List Str) (h : 0 < (a.filter fun x => decide (x ∈ b)).length) : ∃ z, z ∈ a.filter (fun x => decide (x ∈ b)) ∧ ∀ y ∈ a.filter (fun x => decide (x ∈ b)), KLe t z y := by
  have hl : 0 < (ordR t (a.filter fun x => decide (x ∈ b))).length := by rw [ord_len]; exact h
  cases hr : ordR t (a.filter fun x => decide (x ∈ b)) with
  | nil => rw [hr] at hl; simp at hl
  | cons z r =>
    have hs := ord_sorted t (a.filter fun x => decide (x ∈ b))
    have hp := ord_perm t (a.filter fun x => decide (x ∈ b))
    rw [hr] at hs hp
    refine ⟨z, hp.mem_iff.1 (by simp), fun y hy => ?_⟩
    rcases List.mem_cons.1 (hp.mem_iff.2 hy) with rfl | hy
    · exact kle_refl t y
    · exact (List.pairwise_cons.1 hs).1 y hy

end Go.Proofs.YthjbekgognfiiaaGreat

/-
  Slices of tokens with counts: one that reads as a list, one of the call's own. By an AI agent.
-/
namespace Go.Proofs.YthjbekgognfiiaaGreat
open Go.RowKit
set_option linter.unusedVariables false

def encT (x : TC) : List Value := [encStr x.1, .int .i64 x.2]
def flatT (l : List TC) : List Value := l.flatMap encT
theorem flat_nil : flatT [] = [] := rfl
theorem flat_len (l : List TC) : (flatT l).length = l.length * 2 := by
  induction l with
  | nil => rfl
  | cons x l ih =>
    have e : flatT (x :: l) = encT x ++ flatT l := by simp [flatT]
    rw [e, List.length_append, ih, List.length_cons]
    show 2 + l.length * 2 = _
    omega
theorem flat_snoc (l : List TC) (x : TC) : flatT (l ++ [x]) = flatT l ++ encT x := by simp [flatT]
theorem flat_append (l m : List TC) : flatT (l ++ m) = flatT l ++ flatT m := by simp [flatT]
theorem flat_at : ∀ {l : List TC} {j : Nat} {x : TC}, l[j]? = some x → (flatT l)[j * 2]? = some (encStr x.1) ∧ (flatT l)[j * 2 + 1]? = some (.int .i64 x.2)
  | [], j, x, h => by simp at h
  | y :: l, j, x, h => by
    have e : flatT (y :: l) = encStr y.1 :: .int .i64 y.2 :: flatT l := by simp [flatT, encT]
    rw [e]
    cases j with
    | zero =>
      simp at h
      subst h
      exact ⟨rfl, rfl⟩
    | succ j =>
      have h1 : l[j]? = some x := by simpa using h
      have h2 := flat_at h1
      rw [show (j + 1) * 2 = j * 2 + 1 + 1 by omega]
      exact h2
theorem one_str (x : Str) : (encStr x).oneCell' = true := rfl
theorem encT_one (x : TC) : ∀ v ∈ encT x, v.oneCell' = true := by
  intro v hv
  simp [encT] at hv
  rcases hv with rfl | rfl <;> rfl
theorem flat_one (l : List TC) : ∀ v ∈ flatT l, v.oneCell' = true := by
  intro v hv
  obtain ⟨x, _, h⟩ := List.mem_flatMap.1 hv
  exact encT_one x v h

/-- a slice whose elements are the pairs of a list -/
def InT (w : World) (a : Option Addr) (l : List TC) : Prop :=
  0 < l.length → ∃ b off, a = some ⟨b, off, none⟩ ∧ b < w.heap.size ∧ ∀ j x, l[j]? = some x → w.cell? ⟨b, off + j * 2, none⟩ = some (encStr x.1) ∧ w.cell? ⟨b, off + j * 2 + 1, none⟩ = some (.int .i64 x.2)
theorem InT.below {w w' : World} {a : Option Addr} {l : List TC} (h : InT w a l) (hb : Below w.heap.size w w') : InT w' a l := by
  intro h0
  obtain ⟨b, off, ha, hlt, hc⟩ := h h0
  have hk := hb.block b hlt
  exact ⟨b, off, ha, Nat.lt_of_lt_of_le hlt hb.size, fun j x hj => ⟨(World.cell?_of_block hk).trans (hc j x hj).1, (World.cell?_of_block hk).trans (hc j x hj).2⟩⟩
theorem InT.alloc {w : World} {a : Option Addr} {l : List TC} (h : InT w a l) (o : Obj) : InT (w.alloc o) a l := h.below ((Below.refl _ _).alloc (Nat.le_refl _) o)

/-- a slice of the call's own -/
def OwnT (w : World) (base : Nat) (v : Value) (l : List TC) : Prop := w.ownsRow base 109 2 v l.length (flatT l)
theorem info_tc : (Tryz.prog.info? 109).map (fun i => (i.zero, i.size, i.bytes)) = some (some (.agg #[.string ⟨#[]⟩, .int .i64 0]), 2, 24) := by kernel_rfl

theorem OwnT.shape {w : World} {base : Nat} {v : Value} {l : List TC} (h : OwnT w base v l) : ∃ a cap, v = .slice a l.length cap := by
  rcases h.2 with ⟨rfl, h0⟩ | ⟨g, cap, cur, rfl, _⟩
  · exact ⟨none, 0, by rw [h0]⟩
  · exact ⟨_, _, rfl⟩
theorem OwnT.inT {w : World} {base : Nat} {a : Option Addr} {n cap : Nat} {l : List TC} (h : OwnT w base (.slice a n cap) l) : InT w a l := by
  intro h0
  rcases h.2 with ⟨_, h1⟩ | ⟨g, cap', cur, hv, hb, hg, _, _, _, ht⟩
  · omega
  · simp only [Value.slice.injEq] at hv
    obtain ⟨rfl, -, -⟩ := hv
    have hcell : ∀ i u, (flatT l)[i]? = some u → w.cell? ⟨g, 0 + i, none⟩ = some u := by
      intro i u hi
      have hlt := (List.getElem?_eq_some_iff.1 hi).1
      rw [flat_len] at hlt
      rw [Nat.zero_add, cell_of_row w g i cur _ (0, 0) hg, ← Array.getElem?_toList]
      have h2 : (cur.toList.take (l.length * 2))[i]? = (flatT l)[i]? := by rw [ht]
      rw [List.getElem?_take_of_lt hlt] at h2
      rw [h2, hi]
    refine ⟨g, 0, rfl, (Array.getElem?_eq_some_iff.1 hg).1, fun j x hj => ?_⟩
    obtain ⟨e1, e2⟩ := flat_at hj
    exact ⟨hcell _ _ e1, by rw [Nat.add_assoc]; exact hcell _ _ e2⟩
theorem OwnT.len_le {w : World} {base : Nat} {v : Value} {l : List TC} (h : OwnT w base v l) : l.length ≤ maxLen := by
  rcases h.2 with ⟨_, h1⟩ | ⟨g, cap', cur, hv, hb, hg, h2, h3, _, ht⟩
  · omega
  · omega
theorem OwnT.alloc {w : World} {base : Nat} {v : Value} {l : List TC} (h : OwnT w base v l) (o : Obj) : OwnT (w.alloc o) base v l := World.ownsRow.alloc h o
theorem OwnT.below {w w' : World} {base : Nat} {v : Value} {l : List TC} (h : OwnT w base v l) (hb : Below w.heap.size w w') : OwnT w' base v l :=
  World.ownsRow.kept h (row := none) ⟨hb.os, hb.tape, hb.output, hb.size, fun i hi _ => hb.block i hi⟩ (by cases hv : v.ownBlock <;> simp)
theorem OwnT.mono {w : World} {base base' : Nat} {v : Value} {l : List TC} (h : OwnT w base v l) (hb : base' ≤ base) : OwnT w base' v l := by
  refine ⟨h.1, ?_⟩
  rcases h.2 with hn | ⟨g, cap', cur, hv, hbg, rest⟩
  · exact .inl hn
  · exact .inr ⟨g, cap', cur, hv, Nat.le_trans hb hbg, rest⟩
theorem OwnT.nil (w : World) (base : Nat) : OwnT w base (.slice none 0 0) [] := World.ownsRow_nil _ _ _ _
theorem OwnT.none_cap {w : World} {base : Nat} {a : Option Addr} {n cap : Nat} {l : List TC} (h : OwnT w base (.slice a n cap) l) : a = none → cap = 0 := by
  intro e
  rcases h.2 with ⟨hv, h1⟩ | ⟨g, cap', cur, hv, _⟩
  · simp only [Value.slice.injEq] at hv
    exact hv.2.2
  · simp only [Value.slice.injEq] at hv
    rw [e] at hv
    cases hv.1
theorem OwnT.cap_ge {w : World} {base : Nat} {a : Option Addr} {n cap : Nat} {l : List TC} (h : OwnT w base (.slice a n cap) l) : l.length ≤ cap := by
  rcases h.2 with ⟨hv, h1⟩ | ⟨g, cap', cur, hv, _, _, h2, _⟩
  · omega
  · simp only [Value.slice.injEq] at hv
    omega
theorem ownT_at {w : World} {base : Nat} {a : Option Addr} {n cap : Nat} {xs : List Value} (h : w.ownsRow base 109 2 (.slice a n cap) n xs) (h0 : 0 < n) : ∃ g, a = some ⟨g, 0, none⟩ ∧ base ≤ g ∧ g < w.heap.size := by
  rcases h.2 with ⟨_, h1⟩ | ⟨g, cap', cur, hv, hb, hg, _⟩
  · omega
  · simp only [Value.slice.injEq] at hv
    exact ⟨g, hv.1, hb, (Array.getElem?_eq_some_iff.1 hg).1⟩

/-- a slice of the call's own is handed back -/
def GivesT (w : World) (l : List TC) (e : Ending) (w' : World) : Prop :=
  ∃ a cap, e = .returned (.slice a l.length cap) ∧ OwnT w' w.heap.size (.slice a l.length cap) l ∧ Below w.heap.size w w'
theorem GivesT.mk {w w' : World} {v : Value} {l : List TC} (h : OwnT w' w.heap.size v l) (hb : Below w.heap.size w w') : GivesT w l (.returned v) w' := by
  obtain ⟨a, cap, rfl⟩ := h.shape
  exact ⟨a, cap, rfl, h, hb⟩

/-- an argument of moderate size -/
def SmT (w : World) (a : Option Addr) (l : List TC) (c : Nat) : Prop := InT w a l ∧ (a = none → c = 0) ∧ l.length ≤ c ∧ l.length ≤ 4000000 ∧ ∀ x ∈ l, x.1.length ≤ 1048576
theorem SmT.below {w w' : World} {a : Option Addr} {l : List TC} {c : Nat} (h : SmT w a l c) (hb : Below w.heap.size w w') : SmT w' a l c := ⟨h.1.below hb, h.2⟩
theorem SmT.alloc {w : World} {a : Option Addr} {l : List TC} {c : Nat} (h : SmT w a l c) (o : Obj) : SmT (w.alloc o) a l c := ⟨h.1.alloc o, h.2⟩
theorem OwnT.smT {w : World} {base : Nat} {a : Option Addr} {n cap : Nat} {l : List TC} (h : OwnT w base (.slice a n cap) l) (h1 : l.length ≤ 4000000) (h2 : ∀ x ∈ l, x.1.length ≤ 1048576) : SmT w a l cap := ⟨h.inT, h.none_cap, h.cap_ge, h1, h2⟩

/-- a pair of the list, with its bytes apart -/
theorem tc_at {l : List TC} {k : Nat} (h : k < l.length) : ∃ (x : TC) (s : ByteArray), l[k]? = some x ∧ s.data.toList = x.1 ∧ encStr x.1 = .string s ∧ s.size = x.1.length := by
  refine ⟨l[k], ⟨l[k].1.toArray⟩, List.getElem?_eq_getElem h, by simp, rfl, ?_⟩
  simp [ByteArray.size]

/-- the values and letters of a list -/
def tzT (l : List TC) (k : Nat) : Nat := l.length + ((l.take k).map fun x => x.1.length).sum
def tzL (l : List TC) : Nat := tzT l l.length
theorem tzT_succ {l : List TC} {k : Nat} {x : TC} (h : l[k]? = some x) : tzT l (k + 1) = tzT l k + x.1.length := by
  obtain ⟨hlt, he⟩ := List.getElem?_eq_some_iff.1 h
  unfold tzT
  rw [List.take_succ_eq_append_getElem hlt, he]
  simp
  omega
theorem tzT_le {l : List TC} {j k : Nat} (h : j ≤ k) : tzT l j ≤ tzT l k := by
  obtain ⟨d, rfl⟩ : ∃ d, k = j + d := ⟨k - j, by omega⟩
  unfold tzT
  rw [List.take_add]
  simp
theorem tzL_len (l : List TC) : l.length ≤ tzL l := by unfold tzL tzT; omega
theorem tzL_mem {l : List TC} {x : TC} (h : x ∈ l) : x.1.length ≤ tzL l := by
  obtain ⟨k, hk⟩ := List.getElem?_of_mem h
  have h1 := tzT_succ hk
  have h2 := tzT_le (l := l) (show k + 1 ≤ l.length from (List.getElem?_eq_some_iff.1 hk).1)
  unfold tzL
  omega
theorem tz_len {l : List TC} (hs : tzL l ≤ 1048576) : l.length ≤ 4000000 := by have := tzL_len l; omega
theorem tz_mem {l : List TC} (hs : tzL l ≤ 1048576) : ∀ x ∈ l, x.1.length ≤ 1048576 := fun x hx => by have := tzL_mem hx; omega
def tzR (l : List TC) (left : Nat) : Int := if tzL l ≤ left then (left : Int) - (tzL l : Int) else -1
theorem tzR_yes {l : List TC} {left : Nat} (h : tzL l ≤ left) : tzR l left = ((left - tzL l : Nat) : Int) := by unfold tzR; rw [if_pos h]; omega
theorem tzR_no {l : List TC} {left : Nat} (h : ¬ tzL l ≤ left) : tzR l left = -1 := by unfold tzR; rw [if_neg h]

/-- an argument of a law -/
def ArgT (w : World) (a : Option Addr) (l : List TC) : Prop := InT w a l ∧ l.length ≤ maxLen ∧ ∀ x ∈ l, x.1.length ≤ maxLen

theorem argT_of {w : World} {x : Addr} {len cap : Nat} (hl : len ≤ cap) (hm : cap ≤ maxLen) (h : ∀ i, i < len → ∃ (s : ByteArray) (z : Int), w.cell? (x.add (i * 2)) = some (.string s) ∧ w.cell? (x.add (i * 2 + 1)) = some (.int .i64 z) ∧ s.size ≤ maxLen) : ∃ L : List TC, len = L.length ∧ ArgT w (some x) L := by
  obtain ⟨f, hf⟩ := Go.Deep.choose_lt (n := len) (p := fun i (q : ByteArray × Int) => w.cell? (x.add (i * 2)) = some (.string q.1) ∧ w.cell? (x.add (i * 2 + 1)) = some (.int .i64 q.2) ∧ q.1.size ≤ maxLen) (fun i hi => by obtain ⟨s, z, h1⟩ := h i hi; exact ⟨(s, z), h1⟩)
  refine ⟨(List.range len).map fun i => ((f i).1.data.toList, (f i).2), by simp, fun h0 => ?_, by simp; omega, fun y hy => ?_⟩
  · simp at h0
    obtain ⟨b, off, spot⟩ := x
    have hspot : spot = none := by simpa [Addr.add] using World.cell?_spot (hf 0 (by omega)).1
    subst hspot
    have hadd : ∀ j, (⟨b, off, none⟩ : Addr).add j = ⟨b, off + j, none⟩ := fun j => by unfold Addr.add; split <;> simp_all
    refine ⟨b, off, rfl, World.block_lt_of_cell? w _ (hf 0 (by omega)).1, fun j y hj => ?_⟩
    obtain ⟨hlt, he⟩ := List.getElem?_eq_some_iff.1 hj
    simp at hlt he
    obtain ⟨h1, h2, _⟩ := hf j hlt
    rw [hadd] at h1 h2
    subst he
    exact ⟨h1, h2⟩
  · obtain ⟨i, hi, rfl⟩ := List.mem_map.1 hy
    have := (hf i (List.mem_range.1 hi)).2.2
    simpa using this

/-- a slice of the call's own, in blocks from lo on and below hi -/
def OwnHT (w : World) (lo hi : Nat) (v : Value) (l : List TC) : Prop := OwnT w lo v l ∧ ∀ k, v.ownBlock = some k → k < hi
theorem OwnHT.of {w w' : World} {a : Option Addr} {cap : Nat} {l : List TC} (h : OwnT w' w.heap.size (.slice a l.length cap) l) : OwnHT w' w.heap.size w'.heap.size (.slice a l.length cap) l :=
  ⟨h, fun k hk => (World.ownsRow.lt h k hk).2⟩
theorem OwnHT.below {w w' : World} {lo hi : Nat} {v : Value} {l : List TC} (h : OwnHT w lo hi v l) (hb : Below w.heap.size w w') : OwnHT w' lo hi v l := ⟨h.1.below hb, h.2⟩
theorem OwnHT.inT {w : World} {lo hi : Nat} {a : Option Addr} {n cap : Nat} {l : List TC} (h : OwnHT w lo hi (.slice a n cap) l) : InT w a l := h.1.inT
theorem OwnHT.smT {w : World} {lo hi : Nat} {a : Option Addr} {n cap : Nat} {l : List TC} (h : OwnHT w lo hi (.slice a n cap) l) (h1 : l.length ≤ 4000000) (h2 : ∀ x ∈ l, x.1.length ≤ 1048576) : SmT w a l cap := h.1.smT h1 h2
theorem OwnHT.row {w : World} {lo hi : Nat} {v : Value} {l : List TC} (h : OwnHT w lo hi v l) : ∀ k, v.ownBlock = some k → lo ≤ k ∧ k < hi := fun k hk => ⟨(World.ownsRow.lt h.1 k hk).1, h.2 k hk⟩
theorem OwnHT.other {w w' : World} {lo hi lo' hi' : Nat} {v u : Value} {l : List TC} (h : OwnHT w lo hi v l) (hg : w.grownBy w' u.ownBlock) (hu : ∀ k, u.ownBlock = some k → lo' ≤ k ∧ k < hi') (hd : hi ≤ lo' ∨ hi' ≤ lo) : OwnHT w' lo hi v l := by
  refine ⟨World.ownsRow.kept h.1 hg ?_, h.2⟩
  cases hv : v.ownBlock with
  | none => exact .inl rfl
  | some k =>
    refine .inr fun e => ?_
    have h1 := (World.ownsRow.lt h.1 k hv).1
    have h2 := h.2 k hv
    have h3 := hu k e.symm
    omega
theorem below_rowT {w0 w w' : World} {lo hi : Nat} {v : Value} {l : List TC} (hb : Below w0.heap.size w0 w) (h : OwnHT w lo hi v l) (hg : w.grownBy w' v.ownBlock) (hlo : w0.heap.size ≤ lo) : Below w0.heap.size w0 w' :=
  hb.grown hg hb.size fun k hk => Nat.le_trans hlo (h.row k hk).1

end Go.Proofs.YthjbekgognfiiaaGreat

/-
  Slices of slices of strings: one that reads as a list of lists, one of the call's own. By an AI agent.
-/
namespace Go.Proofs.YthjbekgognfiiaaGreat
open Go.RowKit
set_option linter.unusedVariables false

/-- a slice whose elements are the lists of a list -/
def InSS (w : World) (a : Option Addr) (ls : List (List Str)) : Prop :=
  0 < ls.length → ∃ b off, a = some ⟨b, off, none⟩ ∧ b < w.heap.size ∧ ∀ j l, ls[j]? = some l → ∃ a' c', w.cell? ⟨b, off + j, none⟩ = some (.slice a' l.length c') ∧ (a' = none → c' = 0) ∧ l.length ≤ c' ∧ InS w a' l
theorem InSS.below {w w' : World} {a : Option Addr} {ls : List (List Str)} (h : InSS w a ls) (hb : Below w.heap.size w w') : InSS w' a ls := by
  intro h0
  obtain ⟨b, off, ha, hlt, hc⟩ := h h0
  refine ⟨b, off, ha, Nat.lt_of_lt_of_le hlt hb.size, fun j l hj => ?_⟩
  obtain ⟨a', c', h1, h2, h3, h4⟩ := hc j l hj
  exact ⟨a', c', (World.cell?_of_block (hb.block b hlt)).trans h1, h2, h3, h4.below hb⟩

/-- an argument of a law -/
def ArgSS (w : World) (a : Option Addr) (ls : List (List Str)) : Prop := InSS w a ls ∧ ls.length ≤ maxLen ∧ ∀ l ∈ ls, l.length ≤ maxLen ∧ ∀ x ∈ l, x.length ≤ maxLen
theorem argSS_of {w : World} {x : Addr} {len cap : Nat} (hl : len ≤ cap) (hm : cap ≤ maxLen) (h : ∀ i, i < len → ∃ (a' : Option Addr) (l : List Str) (c' : Nat), w.cell? (x.add i) = some (.slice a' l.length c') ∧ (a' = none → c' = 0) ∧ l.length ≤ c' ∧ ArgS w a' l) : ∃ L : List (List Str), len = L.length ∧ ArgSS w (some x) L := by
  obtain ⟨f, hf⟩ := Go.Deep.choose_lt (n := len) (p := fun i (q : Option Addr × List Str × Nat) => w.cell? (x.add i) = some (.slice q.1 q.2.1.length q.2.2) ∧ (q.1 = none → q.2.2 = 0) ∧ q.2.1.length ≤ q.2.2 ∧ ArgS w q.1 q.2.1) (fun i hi => by obtain ⟨a', l, c', h1⟩ := h i hi; exact ⟨(a', l, c'), h1⟩)
  refine ⟨(List.range len).map fun i => (f i).2.1, by simp, fun h0 => ?_, by simp; omega, fun y hy => ?_⟩
  · simp at h0
    obtain ⟨b, off, spot⟩ := x
    have hspot : spot = none := by simpa [Addr.add] using World.cell?_spot (hf 0 (by omega)).1
    subst hspot
    have hadd : ∀ j, (⟨b, off, none⟩ : Addr).add j = ⟨b, off + j, none⟩ := fun j => by unfold Addr.add; split <;> simp_all
    refine ⟨b, off, rfl, World.block_lt_of_cell? w _ (hf 0 (by omega)).1, fun j y hj => ?_⟩
    obtain ⟨hlt, he⟩ := List.getElem?_eq_some_iff.1 hj
    simp at hlt he
    obtain ⟨h1, h2, h3, h4⟩ := hf j hlt
    rw [hadd] at h1
    subst he
    exact ⟨_, _, h1, h2, h3, h4.1⟩
  · obtain ⟨i, hi, rfl⟩ := List.mem_map.1 hy
    exact (hf i (List.mem_range.1 hi)).2.2.2.2

/-- the values and letters of the lists -/
def yzT (ls : List (List Str)) (k : Nat) : Nat := ls.length + ((ls.take k).map szL).sum
def yzL (ls : List (List Str)) : Nat := yzT ls ls.length
theorem ss_take {ls : List (List Str)} {k : Nat} {l : List Str} (h : ls[k]? = some l) : ls.take (k + 1) = ls.take k ++ [l] := by
  obtain ⟨hlt, he⟩ := List.getElem?_eq_some_iff.1 h
  rw [List.take_succ_eq_append_getElem hlt, he]
theorem yzT_succ {ls : List (List Str)} {k : Nat} {l : List Str} (h : ls[k]? = some l) : yzT ls (k + 1) = yzT ls k + szL l := by
  unfold yzT
  rw [ss_take h]
  simp
  omega
theorem yzT_le {ls : List (List Str)} {j k : Nat} (h : j ≤ k) : yzT ls j ≤ yzT ls k := by
  obtain ⟨d, rfl⟩ : ∃ d, k = j + d := ⟨k - j, by omega⟩
  unfold yzT
  rw [List.take_add]
  simp
theorem yzL_len (ls : List (List Str)) : ls.length ≤ yzL ls := by unfold yzL yzT; omega
theorem yzL_mem {ls : List (List Str)} {l : List Str} (h : l ∈ ls) : szL l ≤ yzL ls := by
  obtain ⟨k, hk⟩ := List.getElem?_of_mem h
  have h1 := yzT_succ hk
  have h2 := yzT_le (ls := ls) (show k + 1 ≤ ls.length from (List.getElem?_eq_some_iff.1 hk).1)
  unfold yzL
  omega
theorem flat_sum (ls : List (List Str)) : ls.flatten.length ≤ (ls.map szL).sum := by
  induction ls with
  | nil => simp
  | cons l ls ih =>
    have := szL_len l
    simp only [List.flatten_cons, List.length_append, List.map_cons, List.sum_cons]
    omega
theorem yzL_flat (ls : List (List Str)) : ls.flatten.length ≤ yzL ls := by
  have h := flat_sum ls
  unfold yzL yzT
  rw [List.take_length]
  omega
theorem yz_len {ls : List (List Str)} (hs : yzL ls ≤ 1048576) : ls.length ≤ 4000000 := by have := yzL_len ls; omega
def yzR (ls : List (List Str)) (left : Nat) : Int := if yzL ls ≤ left then (left : Int) - (yzL ls : Int) else -1
theorem yzR_yes {ls : List (List Str)} {left : Nat} (h : yzL ls ≤ left) : yzR ls left = ((left - yzL ls : Nat) : Int) := by unfold yzR; rw [if_pos h]; omega
theorem yzR_no {ls : List (List Str)} {left : Nat} (h : ¬ yzL ls ≤ left) : yzR ls left = -1 := by unfold yzR; rw [if_neg h]

/-- an argument of moderate size -/
def SmSS (w : World) (a : Option Addr) (ls : List (List Str)) : Prop := InSS w a ls ∧ ls.length ≤ 4000000 ∧ ls.flatten.length ≤ 4000000 ∧ ∀ l ∈ ls, ∀ x ∈ l, x.length ≤ 1048576
theorem SmSS.below {w w' : World} {a : Option Addr} {ls : List (List Str)} (h : SmSS w a ls) (hb : Below w.heap.size w w') : SmSS w' a ls := ⟨h.1.below hb, h.2⟩

/-- what is written into the blocks from lo on and below hi alone -/
structure Chg (w w' : World) (lo hi : Nat) : Prop where
  os : w'.os = w.os
  tape : w'.tape = w.tape
  output : w'.output = w.output
  size : w.heap.size ≤ w'.heap.size
  block : ∀ k, k < w.heap.size → ¬ (lo ≤ k ∧ k < hi) → w'.heap[k]? = w.heap[k]?
theorem Chg.refl (w : World) (lo hi : Nat) : Chg w w lo hi := ⟨rfl, rfl, rfl, Nat.le_refl _, fun _ _ _ => rfl⟩
theorem Chg.grown {w w1 w2 : World} {lo hi : Nat} {r : Option Nat} (h : Chg w w1 lo hi) (hg : w1.grownBy w2 r) (hr : ∀ k, r = some k → lo ≤ k ∧ k < hi) : Chg w w2 lo hi :=
  ⟨hg.os.trans h.os, hg.tape.trans h.tape, hg.output.trans h.output, Nat.le_trans h.size hg.size, fun k hk hn => (hg.block k (Nat.lt_of_lt_of_le hk h.size) (fun e => hn (hr k e.symm))).trans (h.block k hk hn)⟩
theorem below_chg {w0 w w' : World} {lo hi : Nat} (hb : Below w0.heap.size w0 w) (h : Chg w w' lo hi) (hlo : w0.heap.size ≤ lo) : Below w0.heap.size w0 w' :=
  ⟨h.os.trans hb.os, h.tape.trans hb.tape, h.output.trans hb.output, Nat.le_trans hb.size h.size, fun k hk => (h.block k (Nat.lt_of_lt_of_le hk hb.size) (by omega)).trans (hb.block k hk)⟩
theorem row_chg {w w' : World} {lo hi base : Nat} {e : TypeId} {size n : Nat} {v : Value} {xs : List Value} (h : w.ownsRow base e size v n xs) (hc : Chg w w' lo hi) (hn : ∀ k, v.ownBlock = some k → ¬ (lo ≤ k ∧ k < hi)) : w'.ownsRow base e size v n xs := by
  refine ⟨h.1, ?_⟩
  rcases h.2 with h1 | ⟨g, cap, cur, rfl, hb, hg, rest⟩
  · exact .inl h1
  · exact .inr ⟨g, cap, cur, rfl, hb, (hc.block g (Array.getElem?_eq_some_iff.1 hg).1 (hn g rfl)).trans hg, rest⟩
theorem OwnHT.chg {w w' : World} {lo hi lo' hi' : Nat} {v : Value} {l : List TC} (h : OwnHT w lo hi v l) (hc : Chg w w' lo' hi') (hd : hi ≤ lo' ∨ hi' ≤ lo) : OwnHT w' lo hi v l :=
  ⟨row_chg h.1 hc fun k hk => by have := h.row k hk; omega, h.2⟩
theorem OwnH.chg {w w' : World} {lo hi lo' hi' : Nat} {v : Value} {l : List Str} (h : OwnH w lo hi v l) (hc : Chg w w' lo' hi') (hd : hi ≤ lo' ∨ hi' ≤ lo) : OwnH w' lo hi v l :=
  ⟨row_chg h.1 hc fun k hk => by have := h.row k hk; omega, h.2⟩

/-- a slice of slices of the call's own -/
structure OwnSS (w : World) (lo : Nat) (v : Value) (vs : List Value) (ls : List (List Str)) : Prop where
  len : vs.length = ls.length
  out : w.ownsRow lo 28 1 v ls.length vs
  row : ∀ (j : Nat) (u : Value) (l : List Str), vs[j]? = some u → ls[j]? = some l → OwnS w lo u l
  apart : ∀ (j : Nat) (u : Value) (k : Nat), vs[j]? = some u → u.ownBlock = some k → v.ownBlock ≠ some k
  dis : ∀ (i j : Nat) (u z : Value) (k : Nat), i ≠ j → vs[i]? = some u → vs[j]? = some z → u.ownBlock = some k → z.ownBlock ≠ some k
theorem OwnSS.below {w w' : World} {lo : Nat} {v : Value} {vs : List Value} {ls : List (List Str)} (h : OwnSS w lo v vs ls) (hb : Below w.heap.size w w') : OwnSS w' lo v vs ls :=
  ⟨h.len, World.ownsRow.kept h.out (row := none) ⟨hb.os, hb.tape, hb.output, hb.size, fun i hi _ => hb.block i hi⟩ (by cases hv : v.ownBlock <;> simp), fun j u l h1 h2 => (h.row j u l h1 h2).below hb, h.apart, h.dis⟩
theorem cell_own {w : World} {base : Nat} {e : TypeId} {a : Option Addr} {n cap : Nat} {xs : List Value} (h : w.ownsRow base e 1 (.slice a n cap) n xs) (h0 : 0 < n) : ∃ g, a = some ⟨g, 0, none⟩ ∧ base ≤ g ∧ g < w.heap.size ∧ ∀ j u, xs[j]? = some u → w.cell? ⟨g, 0 + j, none⟩ = some u := by
  rcases h.2 with ⟨_, h1⟩ | ⟨g, cap', cur, hv, hb, hg, _, _, _, ht⟩
  · omega
  · simp only [Value.slice.injEq] at hv
    refine ⟨g, hv.1, hb, (Array.getElem?_eq_some_iff.1 hg).1, fun j u hj => ?_⟩
    have hlt := (List.getElem?_eq_some_iff.1 hj).1
    rw [h.1] at hlt
    rw [Nat.zero_add, cell_of_row w g j cur _ (0, 0) hg, ← Array.getElem?_toList]
    have h2 : (cur.toList.take (n * 1))[j]? = xs[j]? := by rw [ht]
    rw [List.getElem?_take_of_lt hlt] at h2
    rw [h2, hj]
theorem OwnSS.inSS {w : World} {lo : Nat} {a : Option Addr} {cap : Nat} {vs : List Value} {ls : List (List Str)} (h : OwnSS w lo (.slice a ls.length cap) vs ls) : InSS w a ls := by
  intro h0
  obtain ⟨g, rfl, _, hg, hc⟩ := cell_own h.out h0
  refine ⟨g, 0, rfl, hg, fun j l hj => ?_⟩
  have hlt := (List.getElem?_eq_some_iff.1 hj).1
  have hv : vs[j]? = some (vs[j]'(by rw [h.len]; exact hlt)) := List.getElem?_eq_getElem _
  have ho := h.row j _ l hv hj
  obtain ⟨a', c', e⟩ := ho.shape
  have hcell := hc j _ hv
  rw [e] at ho hcell
  exact ⟨a', c', hcell, ho.none_cap, ho.cap_ge, ho.inS⟩

def OwnHS (w : World) (lo hi : Nat) (v : Value) (vs : List Value) (ls : List (List Str)) : Prop := OwnSS w lo v vs ls ∧ (∀ k, v.ownBlock = some k → lo ≤ k ∧ k < hi) ∧ ∀ (j : Nat) (u : Value) (k : Nat), vs[j]? = some u → u.ownBlock = some k → lo ≤ k ∧ k < hi
def GivesSS (w : World) (ls : List (List Str)) (e : Ending) (w' : World) : Prop :=
  ∃ a cap vs, e = .returned (.slice a ls.length cap) ∧ OwnSS w' w.heap.size (.slice a ls.length cap) vs ls ∧ Below w.heap.size w w'
theorem OwnHS.of {w w' : World} {a : Option Addr} {cap : Nat} {vs : List Value} {ls : List (List Str)} (h : OwnSS w' w.heap.size (.slice a ls.length cap) vs ls) : OwnHS w' w.heap.size w'.heap.size (.slice a ls.length cap) vs ls :=
  ⟨h, fun k hk => World.ownsRow.lt h.out k hk, fun j u k hj hk => by
    have hlt := (List.getElem?_eq_some_iff.1 hj).1
    rw [h.len] at hlt
    exact World.ownsRow.lt (h.row j u _ hj (List.getElem?_eq_getElem hlt)) k hk⟩
theorem OwnHS.below {w w' : World} {lo hi : Nat} {v : Value} {vs : List Value} {ls : List (List Str)} (h : OwnHS w lo hi v vs ls) (hb : Below w.heap.size w w') : OwnHS w' lo hi v vs ls := ⟨h.1.below hb, h.2⟩
theorem OwnHS.inSS {w : World} {lo hi : Nat} {a : Option Addr} {cap : Nat} {vs : List Value} {ls : List (List Str)} (h : OwnHS w lo hi (.slice a ls.length cap) vs ls) : InSS w a ls := h.1.inSS
theorem sm_of_yz {w : World} {a : Option Addr} {ls : List (List Str)} (h : InSS w a ls) (hz : yzL ls ≤ 1048576) : SmSS w a ls :=
  ⟨h, yz_len hz, by have := yzL_flat ls; omega, fun l hl x hx => by have := yzL_mem hl; have := szL_mem hx; omega⟩
theorem OwnHS.smS {w : World} {lo hi : Nat} {a : Option Addr} {cap : Nat} {vs : List Value} {ls : List (List Str)} (h : OwnHS w lo hi (.slice a ls.length cap) vs ls) (hz : yzL ls ≤ 1048576) : SmSS w a ls := sm_of_yz h.inSS hz

end Go.Proofs.YthjbekgognfiiaaGreat

