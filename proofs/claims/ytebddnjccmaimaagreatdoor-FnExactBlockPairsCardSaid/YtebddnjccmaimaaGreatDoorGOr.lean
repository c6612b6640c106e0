/-
  Texts laid together: CmpI, OrI. By an AI agent.
-/
import Derived.Test.YtebddnjccmaimaaGreatDoorGMem
import Derived.Deep.RegionWith
import Derived.Shelf.SlSortCmp.WholeK
/-
  cmp.Compare at int. By an AI agent.
-/
namespace Go.Proofs.YtebddnjccmaimaaGreatDoor
open Go.RowKit
set_option linter.unusedVariables false

def cmpI (x y : Int) : Int := if x < y then -1 else if y < x then 1 else 0

set_option maxRecDepth 100000 in
theorem nanI_is (x : Int) (w : World) :
    Calls Tryz.prog 116 #[.int .i64 x] w fun e w' => e = .returned (.bool false) ∧ w' = w := by
  go_enter Tryz.func116, Tryz.ntmps116
  go_wp2
  go_ret
  exact ⟨by first | rfl | simp, rfl⟩

set_option maxRecDepth 100000 in
theorem cmpI_is (x y r : Int) (w : World) (h : cmpI x y = r) :
    Calls Tryz.prog 86 #[.int .i64 x, .int .i64 y] w fun e w' => e = .returned (.int .i64 r) ∧ w' = w := by
  by_cases h1 : x < y
  · obtain rfl : -1 = r := by rw [← h, cmpI, if_pos h1]
    clear h
    go_enter Tryz.func86, Tryz.ntmps86
    go_wp2_with (go_at_call 116; refine (nanI_is _ _).mono ?_; rintro e w' ⟨rfl, rfl⟩)
    go_ret
    exact ⟨rfl, rfl⟩
  · by_cases h2 : y < x
    · obtain rfl : 1 = r := by rw [← h, cmpI, if_neg h1, if_pos h2]
      clear h
      go_enter Tryz.func86, Tryz.ntmps86
      go_wp2_with (go_at_call 116; refine (nanI_is _ _).mono ?_; rintro e w' ⟨rfl, rfl⟩)
      go_ret
      exact ⟨rfl, rfl⟩
    · obtain rfl : 0 = r := by rw [← h, cmpI, if_neg h1, if_neg h2]
      clear h
      go_enter Tryz.func86, Tryz.ntmps86
      go_wp2_with (go_at_call 116; refine (nanI_is _ _).mono ?_; rintro e w' ⟨rfl, rfl⟩)
      go_ret
      exact ⟨rfl, rfl⟩

end Go.Proofs.YtebddnjccmaimaaGreatDoor

/-
  cmp.Or at int; worlds that grew by draws and new blocks alone. By an AI agent.
-/
namespace Go.Proofs.YtebddnjccmaimaaGreatDoor
open Go.RowKit Go.Sort
set_option linter.unusedVariables false

def orI (x y : Int) : Int := if x = 0 then y else x
set_option maxRecDepth 100000 in
theorem or_is (g : Nat) (x y r : Int) (w : World) (h0 : w.cell? ⟨g, 0, none⟩ = some (.int .i64 x)) (h1 : w.cell? ⟨g, 1, none⟩ = some (.int .i64 y)) (h : orI x y = r) :
    Calls Tryz.prog 85 #[.slice (some ⟨g, 0, none⟩) 2 2] w fun e w' => e = .returned (.int .i64 r) ∧ w' = w := by
  by_cases hx : x = 0
  · subst hx
    obtain rfl : y = r := by rw [← h, orI, if_pos rfl]
    clear h
    go_enter Tryz.func85, Tryz.ntmps85
    go_wp2
    go_loop [8] (fun i => i = .int .i64 (0 : Nat) ∨ i = .int .i64 (1 : Nat) ∨ (i = .int .i64 (2 : Nat) ∧ y = 0)) (fun i => 2 - (intOf i).toNat)
    case atStart => exact .inl rfl
    case round =>
      rcases hrel with rfl | rfl | ⟨rfl, rfl⟩
      · go_wp2
        go_round
        case rel => exact .inr (.inl (by go_num))
        case measure => simp [intOf]
      · by_cases hy : y = 0
        · subst hy
          go_wp2
          go_round
          case rel => exact .inr (.inr ⟨by go_num, trivial⟩)
          case measure => simp [intOf]
        · go_wp2
          go_ret
          exact ⟨rfl, rfl⟩
      · go_wp2
        go_ret
        exact ⟨rfl, rfl⟩
  · obtain rfl : x = r := by rw [← h, orI, if_neg hx]
    clear h
    go_enter Tryz.func85, Tryz.ntmps85
    go_wp2
    go_loop [8] (fun i => i = .int .i64 (0 : Nat)) (fun i => 2 - (intOf i).toNat)
    case atStart => rfl
    case round =>
      subst hrel
      go_wp2
      go_ret
      exact ⟨rfl, rfl⟩

theorem cf_world (W : World) (o1 o2 o3 : Obj) : (((W.alloc o1).alloc o2).alloc o3).drew = grow (W.drewN 1) #[o1, o2, o3] := by
  have h : ((W.alloc o1).alloc o2).alloc o3 = grow W #[o1, o2, o3] := by
    rw [alloc_eq_grow, alloc_eq_grow, alloc_eq_grow, grow_grow, grow_grow]
    rfl
  rw [h]
  rfl
/-- draws and new blocks alone -/
def Grew (W w' : World) : Prop := ∃ q os', w' = grow (W.drewN q) os'
theorem grew_cf (W : World) (o1 o2 o3 : Obj) : Grew W (((W.alloc o1).alloc o2).alloc o3).drew := ⟨1, _, cf_world W o1 o2 o3⟩

end Go.Proofs.YtebddnjccmaimaaGreatDoor

