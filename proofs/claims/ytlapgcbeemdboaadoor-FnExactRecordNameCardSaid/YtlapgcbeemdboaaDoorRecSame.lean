/-
  What spec.SameOrigin and impl.SameOrigin answer. By an AI agent.
-/
import Derived.Test.YtlapgcbeemdboaaDoorRecV
import Derived.Laws.StructEq
import Derived.Deep.RegionWith
namespace Go.Proofs.YtlapgcbeemdboaaDoor
open Go.RowKit
set_option linter.unusedVariables false

def soB (s1 k1 s2 k2 : Int) : Bool := decide (s1 = s2) && decide (k1 = k2)

theorem rret_bool {a b : Bool} (h : a = b) : Ending.returned (.bool a) = .returned (.bool b) := by rw [h]

set_option maxRecDepth 100000 in
theorem origin_is (s k v : Int) (V : Value) (w : World) :
    Calls Tryd.prog 22 #[.agg #[.int .i64 s, .int .i64 k, .int .i64 v, V]] w fun e w' => e = .returned (.agg #[.int .i64 s, .int .i64 k]) ∧ Below w.heap.size w w' := by
  go_enter Tryd.func22, Tryd.ntmps22
  go_wp2
  exact bodyPost_ret (v := .agg #[.int .i64 s, .int .i64 k]) (by simp [results, Tryd.results22, go_sem]) rfl ⟨rfl, ((Below.refl w.heap.size w).alloc (Nat.le_refl _) _).alloc (by simp) _⟩

end Go.Proofs.YtlapgcbeemdboaaDoor
