/-
  cmp.Or at int; worlds that grew by draws and new blocks alone. By an AI agent.
-/
import Derived.Test.YtookcggmapldeaaCmpI
import Derived.Deep.RegionWith
import Derived.Sort.Grow
namespace Go.Proofs.Ytookcggmapldeaa
open Go.RowKit Go.Sort
set_option linter.unusedVariables false

def orI (x y : Int) : Int := if x = 0 then y else x
set_option maxRecDepth 100000 in
theorem or_is (g : Nat) (x y r : Int) (w : World) (h0 : w.cell? ⟨g, 0, none⟩ = some (.int .i64 x)) (h1 : w.cell? ⟨g, 1, none⟩ = some (.int .i64 y)) (h : orI x y = r) :
    Calls Try.prog 69 #[.slice (some ⟨g, 0, none⟩) 2 2] w fun e w' => e = .returned (.int .i64 r) ∧ w' = w := by
  by_cases hx : x = 0
  · subst hx
    obtain rfl : y = r := by rw [← h, orI, if_pos rfl]
    clear h
    go_enter Try.func69, Try.ntmps69
    go_wp2
    go_loop [8] (fun i => i = .int .i64 (0 : Nat) ∨ i = .int .i64 (1 : Nat) ∨ (i = .int .i64 (2 : Nat) ∧ y = 0)) (fun i => 2 - (intOf i).toNat)
    case atStart => exact .inl rfl
    case round =>
      rcases hrel with rfl | rfl | ⟨rfl, rfl⟩
      · go_wp2
        go_round
        case rel => exact .inr (.inl (by go_num))
        case measure => simp [intOf]
      · by_cases hy : y = 0
        · subst hy
          go_wp2
          go_round
          case rel => exact .inr (.inr ⟨by go_num, trivial⟩)
          case measure => simp [intOf]
        · go_wp2
          go_ret
          exact ⟨rfl, rfl⟩
      · go_wp2
        go_ret
        exact ⟨rfl, rfl⟩
  · obtain rfl : x = r := by rw [← h, orI, if_neg hx]
    clear h
    go_enter Try.func69, Try.ntmps69
    go_wp2
    go_loop [8] (fun i => i = .int .i64 (0 : Nat)) (fun i => 2 - (intOf i).toNat)
    case atStart => rfl
    case round =>
      subst hrel
      go_wp2
      go_ret
      exact ⟨rfl, rfl⟩

theorem cf_world (W : World) (o1 o2 o3 : Obj) : (((W.alloc o1).alloc o2).alloc o3).drew = grow (W.drewN 1) #[o1, o2, o3] := by
  have h : ((W.alloc o1).alloc o2).alloc o3 = grow W #[o1, o2, o3] := by
    rw [alloc_eq_grow, alloc_eq_grow, alloc_eq_grow, grow_grow, grow_grow]
    rfl
  rw [h]
  rfl
/-- draws and new blocks alone -/
def Grew (W w' : World) : Prop := ∃ q os', w' = grow (W.drewN q) os'
theorem grew_cf (W : World) (o1 o2 o3 : Obj) : Grew W (((W.alloc o1).alloc o2).alloc o3).drew := ⟨1, _, cf_world W o1 o2 o3⟩

end Go.Proofs.Ytookcggmapldeaa
