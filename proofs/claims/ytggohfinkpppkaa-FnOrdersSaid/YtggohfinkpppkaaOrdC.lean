/-
  The order of pairs by count and token: cmp.Compare at int, cmp.Or, impl.compareFrequencies. By an AI agent.
-/
import Derived.Test.YtggohfinkpppkaaTcS
import Derived.Test.YtggohfinkpppkaaCmpCnt
import Derived.Deep.RegionWith
import Derived.Shelf.SlSortCmp.WholeK
namespace Go.Proofs.Ytggohfinkpppkaa
open Go.RowKit Go.Sort
set_option linter.unusedVariables false

def cmpI (x y : Int) : Int := if x < y then -1 else if y < x then 1 else 0

set_option maxRecDepth 100000 in
theorem nanI_is (x : Int) (w : World) :
    Calls Try.prog 130 #[.int .i64 x] w fun e w' => e = .returned (.bool false) ∧ w' = w := by
  go_enter Try.func130, Try.ntmps130
  go_wp2
  go_ret
  exact ⟨by first | rfl | simp, rfl⟩

set_option maxRecDepth 100000 in
theorem cmpI_is (x y r : Int) (w : World) (h : cmpI x y = r) :
    Calls Try.prog 115 #[.int .i64 x, .int .i64 y] w fun e w' => e = .returned (.int .i64 r) ∧ w' = w := by
  by_cases h1 : x < y
  · obtain rfl : -1 = r := by rw [← h, cmpI, if_pos h1]
    clear h
    go_enter Try.func115, Try.ntmps115
    go_wp2_with (go_at_call 130; refine (nanI_is _ _).mono ?_; rintro e w' ⟨rfl, rfl⟩)
    go_ret
    exact ⟨rfl, rfl⟩
  · by_cases h2 : y < x
    · obtain rfl : 1 = r := by rw [← h, cmpI, if_neg h1, if_pos h2]
      clear h
      go_enter Try.func115, Try.ntmps115
      go_wp2_with (go_at_call 130; refine (nanI_is _ _).mono ?_; rintro e w' ⟨rfl, rfl⟩)
      go_ret
      exact ⟨rfl, rfl⟩
    · obtain rfl : 0 = r := by rw [← h, cmpI, if_neg h1, if_neg h2]
      clear h
      go_enter Try.func115, Try.ntmps115
      go_wp2_with (go_at_call 130; refine (nanI_is _ _).mono ?_; rintro e w' ⟨rfl, rfl⟩)
      go_ret
      exact ⟨rfl, rfl⟩

def orI (x y : Int) : Int := if x = 0 then y else x

set_option maxRecDepth 100000 in
theorem or_is (g : Nat) (x y r : Int) (w : World) (h0 : w.cell? ⟨g, 0, none⟩ = some (.int .i64 x)) (h1 : w.cell? ⟨g, 1, none⟩ = some (.int .i64 y)) (h : orI x y = r) :
    Calls Try.prog 125 #[.slice (some ⟨g, 0, none⟩) 2 2] w fun e w' => e = .returned (.int .i64 r) ∧ w' = w := by
  by_cases hx : x = 0
  · subst hx
    obtain rfl : y = r := by rw [← h, orI, if_pos rfl]
    clear h
    go_enter Try.func125, Try.ntmps125
    go_wp2
    go_loop [8] (fun i => i = .int .i64 (0 : Nat) ∨ i = .int .i64 (1 : Nat) ∨ (i = .int .i64 (2 : Nat) ∧ y = 0)) (fun i => 2 - (intOf i).toNat)
    case atStart => exact .inl rfl
    case round =>
      rcases hrel with rfl | rfl | ⟨rfl, rfl⟩
      · go_wp2
        go_round
        case rel => exact .inr (.inl (by go_num))
        case measure => simp [intOf]
      · by_cases hy : y = 0
        · subst hy
          go_wp2
          go_round
          case rel => exact .inr (.inr ⟨by go_num, trivial⟩)
          case measure => simp [intOf]
        · go_wp2
          go_ret
          exact ⟨rfl, rfl⟩
      · go_wp2
        go_ret
        exact ⟨rfl, rfl⟩
  · obtain rfl : x = r := by rw [← h, orI, if_neg hx]
    clear h
    go_enter Try.func125, Try.ntmps125
    go_wp2
    go_loop [8] (fun i => i = .int .i64 (0 : Nat)) (fun i => 2 - (intOf i).toNat)
    case atStart => rfl
    case round =>
      subst hrel
      go_wp2
      go_ret
      exact ⟨rfl, rfl⟩

/-- by count, then by token -/
def cfR (x y : TC) : Int := orI (cmpI x.2 y.2) (cmpR x.1 y.1)

end Go.Proofs.Ytggohfinkpppkaa
