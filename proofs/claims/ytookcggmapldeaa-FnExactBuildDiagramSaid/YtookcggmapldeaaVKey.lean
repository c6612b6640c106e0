/-
  Maps of the call's own whose keys are structs: tests without Below, nodes. By an AI agent.
-/
import Derived.Test.YtookcggmapldeaaPlainBd
import Derived.Test.YtookcggmapldeaaDnS
import Derived.Maps.OwnOps
import Derived.Maps.OwnSet
import Derived.DeepKeys4
namespace Go.Proofs.Ytookcggmapldeaa
open Go.RowKit Go.Maps
set_option linter.unusedVariables false
set_option linter.unusedSimpArgs false
set_option linter.unnecessarySimpa false

def heldK (v : Value) : Option (DataW Value × List MemPlace) := some (.held v, [])
theorem heldK_inv {v u : Value} {ps : List MemPlace} (h : heldK v = some (.held u, ps)) : v = u := by
  unfold heldK at h
  injection h with h
  injection h with h1 h2
  injection h1
/-- a key type, its keys and their literals -/
structure KeyOk {α : Type} (k : TypeId) (kl : α → Lit) (ke : α → Value) (ok : α → Prop) : Prop where
  keyed : Keyed Try.prog k
  of : ∀ x, ok x → keyOf Try.prog k (ke x) = some (kl x)
  inj : ∀ x y, ke x = ke y → x = y
def GMap {α : Type} (k : TypeId) (kl : α → Lit) (ok : α → Prop) (w : World) (b n : Nat) (f : α → Option Value) : Prop :=
  ∃ D : DataW Value, w.ownsMap Try.prog k heldK b n D ∧ (∀ x, ok x → Maps.has D (kl x) = (f x).isSome) ∧ ∀ x z, ok x → D.atKey (kl x) (.held z) = .held ((f x).getD z)
section
variable {α : Type} {k : TypeId} {kl : α → Lit} {ke : α → Value} {ok : α → Prop} {w w' : World} {b n : Nat} {f : α → Option Value}
theorem GMap.made (w : World) : GMap k kl ok (w.alloc (.map #[] 0)) w.heap.size 0 (fun _ => none) :=
  ⟨.map [], World.ownsMap_made _ _ _ _, fun x _ => by simp [Maps.has], fun x z _ => by simp [DataW.atKey]⟩
theorem GMap.kept {row : Option Nat} (h : GMap k kl ok w b n f) (hg : w.grownBy w' row) (hne : some b ≠ row) : GMap k kl ok w' b n f := by
  obtain ⟨D, h1, h2⟩ := h
  exact ⟨D, h1.kept hg hne, h2⟩
theorem GMap.lt (h : GMap k kl ok w b n f) : b < w.heap.size := by obtain ⟨D, h1, _⟩ := h; exact h1.lt
theorem GMap.below (h : GMap k kl ok w b n f) (hb : Below w.heap.size w w') : GMap k kl ok w' b n f :=
  h.kept (row := none) ⟨hb.os, hb.tape, hb.output, hb.size, fun i hi _ => hb.block i hi⟩ (by simp)
theorem GMap.mono {n' : Nat} (h : GMap k kl ok w b n f) (hn : n ≤ n') : GMap k kl ok w b n' f := by
  obtain ⟨D, h1, h2⟩ := h
  exact ⟨D, h1.mono hn, h2⟩
theorem GMap.look (h : GMap k kl ok w b n f) (K : KeyOk k kl ke ok) {t e : TypeId} (ht : Try.prog.underlying t = some (.map k e)) {z : Value} (hz : (zeroValue e).run Try.prog w = .ok z w) (y : α) (hy : ok y) :
    (Instr.lookup t (.map (some b)) (ke y) false).run Try.prog w = .ok ((f y).getD z) w := by
  obtain ⟨D, hown, _, hat⟩ := h
  obtain ⟨v, ps, hrun, hv⟩ := hown.lookup K.keyed ht hz (zd := .held z) (zp := []) rfl (K.of y hy)
  rw [hat y z hy] at hv
  rw [hrun, heldK_inv hv]
theorem GMap.look_ok (h : GMap k kl ok w b n f) (K : KeyOk k kl ke ok) {t e : TypeId} (ht : Try.prog.underlying t = some (.map k e)) {z : Value} (hz : (zeroValue e).run Try.prog w = .ok z w) (y : α) (hy : ok y) :
    (Instr.lookup t (.map (some b)) (ke y) true).run Try.prog w = .ok (.tuple #[(f y).getD z, .bool (f y).isSome]) w := by
  obtain ⟨D, hown, hhas, hat⟩ := h
  obtain ⟨v, ps, hrun, hv⟩ := hown.look_ok K.keyed ht hz (zd := .held z) (zp := []) rfl (K.of y hy)
  rw [hat y z hy] at hv
  rw [hrun, heldK_inv hv, hhas y hy]
theorem GMap.store [DecidableEq α] (h : GMap k kl ok w b n f) (K : KeyOk k kl ke ok) {t e : TypeId} (ht : Try.prog.underlying t = some (.map k e)) (hn : n < maxLen) (y : α) (hy : ok y) (u : Value) :
    ∃ w', (Instr.mapUpdate t (.map (some b)) (ke y) u).run Try.prog w = .ok () w' ∧ GMap k kl ok w' b (n + 1) (fun x => if x = y then some u else f x) ∧ w.grownBy w' (some b) := by
  obtain ⟨D, hown, hhas, hat⟩ := h
  obtain ⟨w', hrun, h1, h2⟩ := hown.update K.keyed ht hn (K.of y hy) (show heldK u = some (.held u, []) from rfl)
  have hD : Maps.IsMap D := by obtain ⟨es, _, _, _, _, e⟩ := hown; exact ⟨_, e⟩
  have hne : ∀ x, ok x → x ≠ y → kl x ≠ kl y := fun x hx hxy e => hxy (K.inj x y (K.keyed.inj (K.of x hx) (by rw [e]; exact K.of y hy)))
  refine ⟨w', hrun, ⟨_, h1, fun x hx => ?_, fun x z hx => ?_⟩, h2⟩
  · by_cases e : x = y
    · subst e
      rw [Maps.has_put_same hD (K.keyed.key (K.of x hx))]; simp
    · rw [Maps.has_put_other (hne x hx e), hhas x hx]; simp [e]
  · by_cases e : x = y
    · subst e
      rw [Maps.atKey_put_same hD (K.keyed.key (K.of x hx))]; simp
    · rw [Maps.atKey_put_other (hne x hx e), hat x z hx]; simp [e]
end

set_option maxRecDepth 100000 in
theorem laidOutK : laidOutB Try.prog = true := by kernel_rfl
set_option maxRecDepth 100000 in
theorem rowKT : (62 : TypeId) < Try.prog.types.size := of_decide_eq_true (by kernel_rfl)
set_option maxRecDepth 100000 in
theorem rowKN : (86 : TypeId) < Try.prog.types.size := of_decide_eq_true (by kernel_rfl)
theorem wideKT : (match Try.prog.underlying 62 with | some (.array _ _) | some (.struct _) => true | _ => false) = true := by rw [Try.underlying62]
theorem wideKN : (match Try.prog.underlying 86 with | some (.array _ _) | some (.struct _) => true | _ => false) = true := by rw [Try.underlying86]
set_option maxRecDepth 100000 in
theorem lawKT : WideMaps.KeyLaw Try.prog 62 := deep_law_laid laidOutK (m := 3) (by omega) rowKT (by kernel_rfl) wideKT
set_option maxRecDepth 100000 in
theorem lawKN : WideMaps.KeyLaw Try.prog 86 := deep_law_laid laidOutK (m := 3) (by omega) rowKN (by kernel_rfl) wideKN

def okV (p : IQ) : Prop := (Lit.int .i64 p.1).wf = true ∧ (Lit.int .i64 p.2).wf = true
def okN (x : DN) : Prop := ((Lit.int .i64 x.1.1).wf = true ∧ (Lit.int .i64 x.1.2).wf = true) ∧ (Lit.int .i64 x.2.1).wf = true ∧ (Lit.int .i64 x.2.2).wf = true
def klV (p : IQ) : Lit := .string (keyBytes [.int .i64 p.1, .int .i64 p.2, .bool false])
def klN (x : DN) : Lit := .string (keyBytes [.int .i64 x.1.1, .int .i64 x.1.2, .int .i64 x.2.1, .int .i64 x.2.2])
def keV (p : IQ) : Value := .agg #[.int .i64 p.1, .int .i64 p.2, .bool false]
def keN (x : DN) : Value := .agg #[.int .i64 x.1.1, .int .i64 x.1.2, .int .i64 x.2.1, .int .i64 x.2.2]
theorem cellsKT : Try.prog.cellsOf 62 = 3 := by kernel_rfl
theorem cellsKN : Try.prog.cellsOf 86 = 4 := by kernel_rfl
theorem cellsKI : Try.prog.cellsOf 3 = 1 := by kernel_rfl
theorem cellsKB : Try.prog.cellsOf 4 = 1 := by kernel_rfl
theorem typeKT : Try.prog.keyType 62 = true := by kernel_rfl
theorem typeKN : Try.prog.keyType 86 = true := by kernel_rfl
theorem sizeK {n : Nat} (h : 0 < n) : ∃ m, n + 1 = m + 2 := ⟨n - 1, by omega⟩
theorem posK : 0 < Try.prog.types.size := Nat.lt_of_le_of_lt (Nat.zero_le _) rowKT
set_option maxRecDepth 100000 in
theorem lits_T (m : Nat) (p : IQ) (h : okV p) : Try.prog.keyLits (m + 2) 62 [.int .i64 p.1, .int .i64 p.2, .bool false] = some [.int .i64 p.1, .int .i64 p.2, .bool false] := by
  have h1 := h.1
  have h2 := h.2
  simp [Program.keyLits, cellsKT, cellsKI, cellsKB, Try.underlying62, Try.underlying3, Try.underlying4, h1, h2]
set_option maxRecDepth 100000 in
theorem lits_N (m : Nat) (x : DN) (h : okN x) : Try.prog.keyLits (m + 2) 86 [.int .i64 x.1.1, .int .i64 x.1.2, .int .i64 x.2.1, .int .i64 x.2.2] = some [.int .i64 x.1.1, .int .i64 x.1.2, .int .i64 x.2.1, .int .i64 x.2.2] := by
  have h1 := h.1.1
  have h2 := h.1.2
  have h3 := h.2.1
  have h4 := h.2.2
  simp [Program.keyLits, cellsKN, cellsKI, Try.underlying86, Try.underlying3, h1, h2, h3, h4]
theorem formT (p : IQ) : (keV p).formed Try.prog 62 = true := by
  unfold keV
  simp [Value.formed, Try.underlying62, cellsKT]
theorem formN (x : DN) : (keN x).formed Try.prog 86 = true := by
  unfold keN
  simp [Value.formed, Try.underlying86, cellsKN]
theorem of_V (p : IQ) (h : okV p) : keyOf Try.prog 62 (keV p) = some (klV p) := by
  obtain ⟨m, hm⟩ := sizeK posK
  have h1 : Try.prog.keyLits (Try.prog.types.size + 1) 62 (keV p).cells.toList = some [.int .i64 p.1, .int .i64 p.2, .bool false] := by rw [hm]; exact lits_T m p h
  unfold keyOf
  rw [Try.underlying62]
  show (if _ then _ else _) = _
  rw [if_pos (by rw [typeKT, formT]; rfl), h1]
  rfl
theorem of_N (x : DN) (h : okN x) : keyOf Try.prog 86 (keN x) = some (klN x) := by
  obtain ⟨m, hm⟩ := sizeK posK
  have h1 : Try.prog.keyLits (Try.prog.types.size + 1) 86 (keN x).cells.toList = some [.int .i64 x.1.1, .int .i64 x.1.2, .int .i64 x.2.1, .int .i64 x.2.2] := by rw [hm]; exact lits_N m x h
  unfold keyOf
  rw [Try.underlying86]
  show (if _ then _ else _) = _
  rw [if_pos (by rw [typeKN, formN]; rfl), h1]
  rfl
theorem keyV : KeyOk 62 klV keV okV := ⟨Keyed.of_law lawKT, of_V, fun x y e => by
  unfold keV at e
  injection e with e
  simp at e
  exact Prod.ext e.1 e.2⟩
theorem keyN' : KeyOk 86 klN keN okN := ⟨Keyed.of_law lawKN, of_N, fun x y e => by
  unfold keN at e
  injection e with e
  simp at e
  exact Prod.ext (Prod.ext e.1 e.2.1) (Prod.ext e.2.2.1 e.2.2.2)⟩
theorem wf_small {z : Int} (h : -1000000000 ≤ z) (h2 : z ≤ 1000000000) : (Lit.int .i64 z).wf = true := by
  have e : IntKind.i64.min = -9223372036854775808 := by rfl
  simp [Lit.wf, e]
  omega
abbrev TMap (w : World) (b n : Nat) (f : IQ → Option Value) : Prop := GMap 62 klV okV w b n f
abbrev DMap (w : World) (b n : Nat) (f : DN → Option Value) : Prop := GMap 86 klN okN w b n f

end Go.Proofs.Ytookcggmapldeaa
