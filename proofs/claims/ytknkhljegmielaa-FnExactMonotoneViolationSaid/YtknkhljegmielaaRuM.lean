/-
  Marks of rule sets and of two lists of integers: what stays. By an AI agent.
-/
import Derived.Test.YtknkhljegmielaaRuU
import Derived.Test.YtknkhljegmielaaIntM
import Derived.Test.YtknkhljegmielaaMonH
namespace Go.Proofs.Ytknkhljegmielaa
open Go.RowKit
set_option linter.unusedVariables false
set_option linter.unusedSimpArgs false

theorem BlkV.chgU {w w' : World} {g : Nat} {t : TypeId} {cs : Array Value} {lo hi : Nat} (h : BlkV w g t cs) (hc : Chg w w' lo hi) (hn : ¬ (lo ≤ g ∧ g < hi)) : BlkV w' g t cs := (hc.block g h.lt hn).trans h
theorem OwnJ.chgU {w w' : World} {lo hi lo' hi' : Nat} {v : Value} {l : List Int} (h : OwnJ w lo hi v l) (hc : Chg w w' lo' hi') (hd : hi ≤ lo' ∨ hi' ≤ lo) : OwnJ w' lo hi v l :=
  ⟨row_chg h.1 hc fun k hk => by have := (World.ownsRow.lt h.1 k hk).1; have := h.2 k hk; omega, h.2⟩
theorem OwnJ.keptd {w w' : World} {lo hi : Nat} {v u : Value} {l : List Int} (h : OwnJ w lo hi v l) (hg : w.grownBy w' u.ownBlock) (hd : ∀ k, u.ownBlock = some k → v.ownBlock ≠ some k) : OwnJ w' lo hi v l := ⟨row_keptO h.1 hg hd, h.2⟩
theorem gvj1 {w w' : World} {a1 a2 : Option Addr} {n1 n2 c1 c2 : Nat} {l m : List Int} (h : PairI w' w.heap.size (.slice a1 n1 c1) (.slice a2 n2 c2) l m) : OwnJ w' w.heap.size w'.heap.size (.slice a1 n1 c1) l := OwnJ.of h.1
theorem gvj2 {w w' : World} {a1 a2 : Option Addr} {n1 n2 c1 c2 : Nat} {l m : List Int} (h : PairI w' w.heap.size (.slice a1 n1 c1) (.slice a2 n2 c2) l m) : OwnJ w' w.heap.size w'.heap.size (.slice a2 n2 c2) m := OwnJ.of h.2.1
theorem rumark_m (lo hi : Nat) (a : Option Addr) (cap n m : Nat) (q : List XU) (R : List (List TS)) (k0 : Nat) (w : World) (hq : rulesU q = R) (hqn : R.length = n) (hk1 : k0 ≤ 90000) (hz : ruz R ≤ 1048576) (hm : k0 + ruT R R.length = m) (hlo : hi ≤ w.heap.size) (hown : OwnHRu w lo hi (.slice a n cap) q) :
    Calls Try.prog 39 #[.agg #[.slice a n cap], .int .i64 k0] w fun e w' => e = .returned (.int .i64 (m : Int)) ∧ (∃ q', rulesU q' = mkR k0 R ∧ OwnHRu w' lo hi (.slice a n cap) q') ∧ Chg w w' lo hi := by
  subst hm
  exact rumark_any lo hi a cap n q R k0 w hq hqn hk1 hz hlo hown
theorem ruT_small {R : List (List TS)} (hz : ruz R ≤ 1048576) : ruT R R.length ≤ 3145728 := by
  have h2 : ruz R = R.length + (R.map List.length).sum := by unfold ruz ruzT; rw [List.take_length]
  have h3 : ruT R R.length = 3 * (R.map List.length).sum := by unfold ruT; rw [List.take_length]
  omega
theorem mark_im (lo hi : Nat) (a : Option Addr) (cap : Nat) (l : List Int) (k0 m : Nat) (w : World) (hl : l.length ≤ 4000000) (hk1 : k0 ≤ 4000000) (hm : k0 + l.length = m) (hown : OwnJ w lo hi (.slice a l.length cap) l) :
    Calls Try.prog 40 #[.slice a l.length cap, .int .i64 k0] w fun e w' => e = .returned (.int .i64 (m : Int)) ∧ OwnJ w' lo hi (.slice a l.length cap) (marksI k0 l.length) ∧ w.grownBy w' (Value.slice a l.length cap).ownBlock ∧ Chg w w' lo hi := by
  subst hm
  refine (mark_int lo a cap l k0 w hl hk1 hown.1).mono ?_
  rintro e w' ⟨rfl, ho, hg⟩
  exact ⟨rfl, ⟨ho, hown.2⟩, hg, (Chg.refl _ _ _).grown hg hown.row⟩
theorem held_im (a : Option Addr) (cap n k0 m : Nat) (w : World) (hl : n ≤ 4000000) (hk1 : k0 ≤ 4000000) (hm : k0 + n = m) (hin : InI w a (marksI k0 n)) :
    Calls Try.prog 41 #[.slice a n cap, .int .i64 k0] w fun e w' => e = .returned (.int .i64 (m : Int)) ∧ Below w.heap.size w w' := by
  subst hm
  exact held_int a cap n k0 w hl hk1 hin
theorem vio_len {R : List (List TS)} {A B : List Int} {s : Bool} (h : VioOut R A B s) : A.length ≤ 6 ∧ B.length ≤ 6 := by
  rcases h with ⟨_, h⟩ | ⟨_, _, rfl, rfl⟩
  · unfold vioR at h
    split at h
    · obtain ⟨f, hf, hv⟩ := List.exists_of_findSome?_eq_some h
      have h6 := (grid_mem hf).1
      unfold vioV at hv
      split at hv
      · rw [Option.map_eq_some_iff] at hv
        obtain ⟨u, hu, e⟩ := hv
        injection e with e1 e2
        subst e1 e2
        obtain ⟨n, _, hb⟩ := List.exists_of_findSome?_eq_some hu
        have := (break_some hb).2.1
        rw [this, List.length_set]
        omega
      · cases hv
    · cases h
  · simp

end Go.Proofs.Ytknkhljegmielaa
