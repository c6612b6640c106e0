/-
  The members of each key: a map of the call's own from strings to slices of integers of the call's own. By an AI agent.
-/
import Derived.Test.YtebddnjccmaimaaGreatDoorVMap
import Derived.Test.YtebddnjccmaimaaGreatDoorGMem
namespace Go.Proofs.YtebddnjccmaimaaGreatDoor
open Go.RowKit Go.Maps Go.Sort
set_option linter.unusedVariables false

/-- block bM is a map that holds g x, a slice that reads as m x, for each x that has members -/
structure MemM (w : World) (lo bM n : Nat) (m : Str → List Int) (g : Str → Value) : Prop where
  out : SMap w bM n (fun x => if m x = [] then none else some (g x))
  row : ∀ x, OwnI w lo (g x) (m x)
  no : ∀ x, m x = [] → g x = .slice none 0 0
  low : lo ≤ bM
  ne : ∀ x, (g x).ownBlock ≠ some bM
  dis : ∀ x y k, x ≠ y → (g x).ownBlock = some k → (g y).ownBlock ≠ some k
theorem MemM.below {w w' : World} {lo bM n : Nat} {m : Str → List Int} {g : Str → Value} (h : MemM w lo bM n m g) (hb : Below w.heap.size w w') : MemM w' lo bM n m g :=
  ⟨h.out.below hb, fun x => (h.row x).below hb, h.no, h.low, h.ne, h.dis⟩
theorem MemM.congr {w : World} {lo bM n : Nat} {m m' : Str → List Int} {g : Str → Value} (h : MemM w lo bM n m g) (hm : ∀ x, m x = m' x) : MemM w lo bM n m' g := by
  rwa [show m' = m from funext fun x => (hm x).symm]
theorem MemM.lt {w : World} {lo bM n : Nat} {m : Str → List Int} {g : Str → Value} (h : MemM w lo bM n m g) : bM < w.heap.size := h.out.lt
theorem MemM.rowlt {w : World} {lo bM n : Nat} {m : Str → List Int} {g : Str → Value} (h : MemM w lo bM n m g) (x : Str) (k : Nat) (hk : (g x).ownBlock = some k) : lo ≤ k ∧ k < w.heap.size := World.ownsRow.lt (h.row x) k hk
theorem MemM.made (w : World) (lo b : Nat) (hb : w.heap.size = b) (hlo : lo ≤ b) : MemM (w.alloc (.map #[] 0)) lo b 0 (fun _ => []) (fun _ => .slice none 0 0) := by
  subst hb
  exact ⟨(SMap.made w).congr fun x => by rw [if_pos rfl], fun x => OwnI.nil _ _, fun x _ => rfl, hlo, fun x e => by simp [Value.ownBlock] at e, fun x y k _ e => by simp [Value.ownBlock] at e⟩
/-- a key's slice is longer by one, and stored -/
theorem MemM.put {w w1 w2 : World} {lo bM n : Nat} {m : Str → List Int} {g : Str → Value} {y : Str} {i : Int} {v' : Value} (h : MemM w lo bM n m g) (hg1 : w.grownBy w1 (g y).ownBlock) (hv : OwnI w1 lo v' (m y ++ [i]))
    (hat : v'.ownBlock = (g y).ownBlock ∨ ∃ k, v'.ownBlock = some k ∧ w.heap.size ≤ k) (hs : SMap w2 bM (n + 1) (fun u => if u = y then some v' else if m u = [] then none else some (g u))) (hg2 : w1.grownBy w2 (some bM)) :
    MemM w2 lo bM (n + 1) (fun u => if u = y then m y ++ [i] else m u) (fun u => if u = y then v' else g u) := by
  have hvb : ∀ k, v'.ownBlock = some k → k ≠ bM := fun k hk e => by
    subst e
    rcases hat with h1 | ⟨k', h1, h2⟩
    · rw [h1] at hk; exact h.ne y hk
    · rw [h1] at hk
      injection hk with hk
      have := h.lt
      omega
  have hvd : ∀ x, x ≠ y → ∀ k, (g x).ownBlock = some k → v'.ownBlock ≠ some k := fun x hx k hk e => by
    rcases hat with h1 | ⟨k', h1, h2⟩
    · rw [h1] at e; exact h.dis x y k hx hk e
    · rw [h1] at e
      injection e with e
      have := (h.rowlt x k hk).2
      omega
  refine ⟨hs.congr fun u => ?_, fun u => ?_, fun u hu => ?_, h.low, fun u => ?_, fun x z k hxz hk => ?_⟩
  · by_cases e : u = y
    · simp [e]
    · simp [e]
  · by_cases e : u = y
    · subst e
      simp only [if_pos]
      exact row_keptO hv hg2 (fun k hk e2 => hvb k e2 (by injection hk with hk; exact hk.symm))
    · simp only [if_neg e]
      have h1 : OwnI w1 lo (g u) (m u) := row_keptO (h.row u) hg1 (fun k hk e2 => h.dis u y k e e2 hk)
      exact row_keptO h1 hg2 (fun k hk e2 => by injection hk with hk; subst hk; exact h.ne u e2)
  · by_cases e : u = y
    · subst e
      simp at hu
    · simp only [if_neg e] at hu ⊢
      exact h.no u hu
  · by_cases e : u = y
    · simp only [if_pos e]
      exact fun e2 => hvb bM e2 rfl
    · simp only [if_neg e]
      exact h.ne u
  · by_cases e1 : x = y
    · have e2 : z ≠ y := fun e => hxz (e1.trans e.symm)
      simp only [if_pos e1] at hk
      simp only [if_neg e2]
      exact fun e => hvd z e2 k e hk
    · by_cases e2 : z = y
      · simp only [if_neg e1] at hk
        simp only [if_pos e2]
        exact hvd x e1 k hk
      · simp only [if_neg e1] at hk
        simp only [if_neg e2]
        exact h.dis x z k hxz hk
theorem mem_get {m : List Int} {v : Value} (h : m = [] → v = .slice none 0 0) : (if m = [] then none else some v : Option Value).getD (.slice none 0 0) = v := by
  by_cases e : m = []
  · rw [if_pos e, h e]; rfl
  · rw [if_neg e]; rfl

end Go.Proofs.YtebddnjccmaimaaGreatDoor
