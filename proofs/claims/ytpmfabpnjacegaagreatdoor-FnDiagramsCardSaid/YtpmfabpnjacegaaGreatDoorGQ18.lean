/-
  Texts laid together: Put2, SetDraw. By an AI agent.
-/
import Derived.Test.YtpmfabpnjacegaaGreatDoorGQ14
import Derived.Test.YtpmfabpnjacegaaGreatDoorGQ16
import Derived.Lib.AppendZeros
/-
  What spec.l3Put does, at any ascending list of the call's own. By an AI agent.
-/
namespace Go.Proofs.YtpmfabpnjacegaaGreatDoor
open Go.RowKit
set_option linter.unusedVariables false
set_option linter.unusedSimpArgs false

theorem InS.empty (w : World) (a : Option Addr) {l : List Str} (h : l.length = 0) : InS w a l := fun h0 => absurd h0 (by omega)

end Go.Proofs.YtpmfabpnjacegaaGreatDoor

/-
  What spec.l1Once, l3Set, l3Any and the drawing functions over two lists of strings hand back. By an AI agent.
-/
namespace Go.Proofs.YtpmfabpnjacegaaGreatDoor
open Go.RowKit
set_option linter.unusedVariables false

theorem own_keptc {w w' : World} {base c : Nat} {v : Value} {l : List Str} (h : OwnS w base v l) (hg : w.grownBy w' (some c)) (hc : c < base) : OwnS w' base v l := by
  refine World.ownsRow.kept h hg (.inr fun e => ?_)
  have := (World.ownsRow.lt h c e).1
  omega
theorem below_own {w0 w w' : World} {v : Value} {l : List Str} (ho : OwnS w w0.heap.size v l) (hs : w0.heap.size ≤ w.heap.size) (hg : w.grownBy w' v.ownBlock) : Below w0.heap.size w w' :=
  (Below.refl _ _).grown hg hs (fun k hk => (World.ownsRow.lt ho k hk).1)

def SomeBool (w : World) (B c : Nat) (e : Ending) (w' : World) : Prop := ∃ b : Bool, e = .returned (.bool b) ∧ Cur w' B c ∧ w.grownBy w' (some c)
def SomeSet (w : World) (B c m : Nat) (e : Ending) (w' : World) : Prop := ∃ (a : Option Addr) (cap : Nat) (l : List Str), e = .returned (.slice a l.length cap) ∧ OwnS w' w.heap.size (.slice a l.length cap) l ∧ l.length ≤ m ∧ (∀ x ∈ l, x.length ≤ 10) ∧ Cur w' B c ∧ w.grownBy w' (some c)

set_option maxRecDepth 100000 in
theorem l1Once_any (B c : Nat) (n : Int) (w : World) (hcur : Cur w B c) (h0 : 0 < n) (h1 : n ≤ 4611686018427387904) : Calls Tryz.prog 80 #[.pointer (some ⟨c, 0, none⟩), .int .i64 n] w (SomeBool w B c) := by
  have HC := Lib.hid hcur
  clear hcur
  go_enter Tryz.func80, Tryz.ntmps80
  go_wp2_with (go_at_call 53; (refine (l1Below_any B c _ _ HC.out h0 h1).mono ?_); rintro e w1 ⟨x, rfl, hx0, hx1, hc1, hg1⟩; have HC1 := Lib.hid hc1; have HG1 := Lib.hid hg1; clear hc1 hg1)
  go_ret
  exact ⟨_, rfl, HC1.out, HG1.out⟩

theorem put_small {l : List Str} {x : Str} (h : ∀ y ∈ l, y.length ≤ 10) (hx : x.length ≤ 10) : ∀ y ∈ putL false l x, y.length ≤ 10 := by
  intro y hy
  rcases (putL_mem false x y l).1 hy with rfl | hy
  · exact hx
  · exact h y hy

/-- two lists of strings are handed back -/
def DrawnSets (w : World) (e : Ending) (w' : World) : Prop := ∃ (a1 a2 : Option Addr) (c1 c2 : Nat) (l1 l2 : List Str), e = .returned (.tuple #[.slice a1 l1.length c1, .slice a2 l2.length c2]) ∧ Sm w' a1 l1 c1 ∧ Sm w' a2 l2 c2 ∧ l1.length ≤ 7 ∧ l2.length ≤ 7 ∧ Below w.heap.size w w'

end Go.Proofs.YtpmfabpnjacegaaGreatDoor

