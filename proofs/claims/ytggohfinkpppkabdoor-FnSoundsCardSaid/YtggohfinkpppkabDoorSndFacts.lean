/-
  The codes of a text are tokens: lower-case letters and digits, in ascending order. By an AI agent.
-/
import Derived.Test.YtggohfinkpppkabDoorSndKeys
import Derived.Test.YtggohfinkpppkabDoorPlainTok
namespace Go.Proofs.YtggohfinkpppkabDoor

theorem scF_let {y : Int} (h : scF y ≠ -2) : 97 ≤ y ∧ y ≤ 122 := by
  unfold scF at h
  repeat' split at h
  all_goals omega

theorem lowB_of {c : UInt8} (h : (97 ≤ c.toNat ∧ c.toNat ≤ 122) ∨ (48 ≤ c.toNat ∧ c.toNat ≤ 57)) : lowB c = true := by
  unfold lowB
  rw [wordI_yes (by omega)]
  simp
  omega

theorem head_low {c : UInt8} (h : sc c ≠ -2) : lowB (foldB c) = true := by
  have h1 := scF_let h
  exact lowB_of (.inl (by omega))

theorem dig_low {n : Int} (h0 : 0 < n) (h6 : n ≤ 6) : lowB (UInt8.ofNat (48 + n).toNat) = true := by
  refine lowB_of (.inr ?_)
  rw [UInt8.toNat_ofNat']
  omega

theorem foldl_low (l : List UInt8) : ∀ p : List UInt8 × Int, (∀ x ∈ p.1, lowB x = true) → ∀ x ∈ (l.foldl sxStep p).1, lowB x = true := by
  induction l with
  | nil => intro p h; exact h
  | cons c l ih =>
    intro p h
    rw [List.foldl_cons]
    refine ih _ ?_
    unfold sxStep
    split
    · rename_i hq
      intro x hx
      rcases List.mem_append.1 hx with h1 | h1
      · exact h x h1
      · obtain rfl : x = UInt8.ofNat (48 + sc c).toNat := by simpa using h1
        exact dig_low hq.1 (sc_range c).2
    · exact h

theorem sx_low (l : List UInt8) : ∀ x ∈ sxL l, lowB x = true := by
  intro x hx
  unfold sxL at hx
  split at hx
  · cases hx
  · rename_i hq
    cases l with
    | nil => exact absurd (.inl rfl) hq
    | cons c l =>
      have hl : letS (c :: l) := Decidable.byContradiction fun e => hq (.inr e)
      unfold sxFull at hx
      rcases List.mem_append.1 hx with h1 | h1
      · refine foldl_low l ([foldB c], sc c) ?_ x h1
        intro z hz
        obtain rfl : z = foldB c := by simpa using hz
        exact head_low (hl c (by simp))
      · have := List.eq_of_mem_replicate h1
        subst this
        decide

theorem keys_tok (L : List Str) : TokSet (setL (keysL L)) := by
  refine ⟨fun x hx => ?_, setL_asc _⟩
  rw [setL_mem] at hx
  unfold keysL at hx
  obtain ⟨h1, h2⟩ := List.mem_filter.1 hx
  obtain ⟨y, -, rfl⟩ := List.mem_map.1 h1
  unfold tokB
  rw [h2, Bool.true_and, List.all_eq_true]
  exact sx_low y

theorem key_short {L : List Str} {x : Str} (h : x ∈ setL (keysL L)) : x.length ≤ 4 := by
  rw [setL_mem] at h
  unfold keysL at h
  obtain ⟨h1, -⟩ := List.mem_filter.1 h
  obtain ⟨y, -, rfl⟩ := List.mem_map.1 h1
  exact sx_short y

theorem alike_self {l : List UInt8} (h : sxL l ≠ []) : alikeB l l = true := by
  unfold alikeB
  exact decide_eq_true ⟨h, rfl⟩

end Go.Proofs.YtggohfinkpppkabDoor
