/-
  Plain facts on indexes of sets: validity, the place of an identifier, candidates, searches, joins. By an AI agent.
-/
import Derived.Test.YtggohfinkpppkaaPlainFreq
import Derived.Test.YtggohfinkpppkaaPlainTok
import Derived.Test.YtggohfinkpppkaaBounds
namespace Go.Proofs.Ytggohfinkpppkaa
open Go
set_option linter.unusedVariables false

/-- an identifier with tokens -/
abbrev IS := Int × List Str
def idB (z : Int) : Bool := decide (0 ≤ z ∧ z ≤ 999)
noncomputable def okX (x : IS) : Bool := idB x.1 && tsB x.2
theorem okX_parts {x : IS} (h : okX x = true) : 0 ≤ x.1 ∧ x.1 ≤ 999 ∧ tsB x.2 = true := by
  unfold okX idB at h
  rw [Bool.and_eq_true, decide_eq_true_eq] at h
  exact ⟨h.1.1, h.1.2, h.2⟩
def AscX (S : List IS) : Prop := S.Pairwise fun x y => x.1 < y.1
def GoodX (S : List IS) : Prop := (∀ x ∈ S, okX x = true) ∧ AscX S
noncomputable def gxB (S : List IS) : Bool := @decide (GoodX S) (Classical.propDecidable _)
theorem gxB_true {S : List IS} : gxB S = true ↔ GoodX S := by unfold gxB; simp
theorem gxB_no {S : List IS} (h : ¬ GoodX S) : gxB S = false := by unfold gxB; simp [h]
theorem ascX_at {S : List IS} (h : AscX S) {j k : Nat} {x y : IS} (hj : S[j]? = some x) (hk : S[k]? = some y) (hjk : j < k) : x.1 < y.1 := by
  obtain ⟨h1, e1⟩ := List.getElem?_eq_some_iff.1 hj
  obtain ⟨h2, e2⟩ := List.getElem?_eq_some_iff.1 hk
  have := List.pairwise_iff_getElem.1 h j k h1 h2 hjk
  rwa [e1, e2] at this
theorem gx_bad {S : List IS} {k : Nat} {x : IS} (hk : S[k]? = some x) (h : okX x = false) : gxB S = false :=
  gxB_no fun hG => by have := hG.1 x (List.mem_of_getElem? hk); rw [h] at this; cases this
theorem gx_order {S : List IS} {k : Nat} {x y : IS} (hy : S[k]? = some y) (hx : S[k + 1]? = some x) (h : ¬ y.1 < x.1) : gxB S = false :=
  gxB_no fun hG => h (ascX_at hG.2 hy hx (by omega))
theorem takeX {S : List IS} {k : Nat} {x : IS} (h : S[k]? = some x) : S.take (k + 1) = S.take k ++ [x] := by
  obtain ⟨hlt, he⟩ := List.getElem?_eq_some_iff.1 h
  rw [List.take_succ_eq_append_getElem hlt, he]
theorem gx_nil : GoodX [] := ⟨(fun x hx => by cases hx), List.Pairwise.nil⟩
theorem gx_step {S : List IS} {k : Nat} {x : IS} (h : GoodX (S.take k)) (hx : S[k]? = some x) (ho : okX x = true) (hy : ∀ y, k ≠ 0 → S[k - 1]? = some y → y.1 < x.1) : GoodX (S.take (k + 1)) := by
  rw [takeX hx]
  refine ⟨fun y hm => ?_, ?_⟩
  · rcases List.mem_append.1 hm with h1 | h1
    · exact h.1 y h1
    · simp at h1; subst h1; exact ho
  · unfold AscX
    rw [List.pairwise_append]
    refine ⟨h.2, by simp, fun y hm z hz => ?_⟩
    simp at hz
    subst hz
    obtain ⟨j, hj⟩ := List.getElem?_of_mem hm
    have hjk : j < k := by have := (List.getElem?_eq_some_iff.1 hj).1; rw [List.length_take] at this; omega
    have hkl : k < S.length := (List.getElem?_eq_some_iff.1 hx).1
    have hl : S[k - 1]? = some (S[k - 1]'(by omega)) := List.getElem?_eq_getElem _
    have h2 := hy _ (by omega) hl
    by_cases e : j = k - 1
    · subst e
      rw [List.getElem?_take_of_lt (by omega), hl] at hj
      rw [← Option.some.inj hj]
      exact h2
    · have h3 : (S.take k)[k - 1]? = some (S[k - 1]'(by omega)) := by rw [List.getElem?_take_of_lt (by omega)]; exact hl
      have := ascX_at h.2 hj h3 (by omega)
      omega

/-- a valid index -/
noncomputable def ixB (t : Int) (T : List TC) (S : List IS) : Bool := ttB T && (okT t && (decide (S.length ≤ 12) && gxB S))
theorem ixB_parts {t : Int} {T : List TC} {S : List IS} (h : ixB t T S = true) : ttB T = true ∧ okT t = true ∧ S.length ≤ 12 ∧ GoodX S := by
  unfold ixB at h
  rw [Bool.and_eq_true, Bool.and_eq_true, Bool.and_eq_true, decide_eq_true_eq, gxB_true] at h
  exact ⟨h.1, h.2.1, h.2.2.1, h.2.2.2⟩

/-- the first place of an identifier -/
def hasId (S : List IS) (id : Int) : Bool := S.any fun x => x.1 == id
def fiX (S : List IS) (id : Int) : Int := match S.findIdx? fun x => x.1 == id with
  | some k => (k : Int)
  | none => -1
theorem fi_at {S : List IS} {id : Int} {k : Nat} {x : IS} (h : ∀ (j : Nat) (y : IS), j < k → S[j]? = some y → y.1 ≠ id) (hx : S[k]? = some x) (he : x.1 = id) : fiX S id = (k : Int) := by
  have : S.findIdx? (fun x => x.1 == id) = some k := by
    rw [List.findIdx?_eq_some_iff_getElem]
    obtain ⟨hlt, e⟩ := List.getElem?_eq_some_iff.1 hx
    exact ⟨hlt, by rw [e]; simpa using he, fun j hj => by have := h j _ hj (List.getElem?_eq_getElem (by omega)); simpa using this⟩
  unfold fiX
  rw [this]
theorem fi_none {S : List IS} {id : Int} (h : ∀ (j : Nat) (y : IS), S[j]? = some y → y.1 ≠ id) : fiX S id = -1 := by
  have : S.findIdx? (fun x => x.1 == id) = none := by
    rw [List.findIdx?_eq_none_iff]
    intro x hx
    obtain ⟨j, hj⟩ := List.getElem?_of_mem hx
    simpa using h j x hj
  unfold fiX
  rw [this]
theorem has_no {S : List IS} {id : Int} (h : ∀ (j : Nat) (y : IS), S[j]? = some y → y.1 ≠ id) : hasId S id = false := by
  unfold hasId
  rw [List.any_eq_false]
  intro x hx
  obtain ⟨j, hj⟩ := List.getElem?_of_mem hx
  simpa using h j x hj
theorem hasid_yes {S : List IS} {id : Int} {k : Nat} {x : IS} (hx : S[k]? = some x) (he : x.1 = id) : hasId S id = true := by
  unfold hasId
  rw [List.any_eq_true]
  exact ⟨x, List.mem_of_getElem? hx, by simpa using he⟩
theorem fi_cases (S : List IS) (id : Int) : (fiX S id = -1 ∧ hasId S id = false) ∨ ∃ k x, fiX S id = (k : Nat) ∧ S[k]? = some x ∧ x.1 = id ∧ hasId S id = true := by
  unfold fiX
  cases e : S.findIdx? fun x => x.1 == id with
  | none =>
    rw [List.findIdx?_eq_none_iff] at e
    refine .inl ⟨rfl, ?_⟩
    unfold hasId
    rw [List.any_eq_false]
    intro x hx
    have := e x hx
    simpa using this
  | some k =>
    rw [List.findIdx?_eq_some_iff_getElem] at e
    obtain ⟨hlt, h1, _⟩ := e
    have hx := List.getElem?_eq_getElem hlt
    exact .inr ⟨k, _, rfl, hx, by simpa using h1, hasid_yes hx (by simpa using h1)⟩

/-- how many sets lie ahead of an identifier -/
def plX (S : List IS) (id : Int) : Nat := (S.takeWhile fun x => decide (x.1 < id)).length
theorem pl_le (S : List IS) (id : Int) : plX S id ≤ S.length := by
  unfold plX
  have := (List.takeWhile_sublist (l := S) fun x => decide (x.1 < id)).length_le
  exact this
theorem pl_at {S : List IS} {id : Int} {k : Nat} (h : ∀ (j : Nat) (y : IS), j < k → S[j]? = some y → y.1 < id) (hk : k ≤ S.length) (hx : ∀ x : IS, S[k]? = some x → ¬ x.1 < id) : plX S id = k := by
  induction S generalizing k with
  | nil => simp at hk; subst hk; rfl
  | cons y S ih =>
    cases k with
    | zero =>
      have := hx y rfl
      simp [plX, this]
    | succ k =>
      have h0 := h 0 y (by omega) rfl
      have h1 : plX S id = k := ih (fun j z hj hz => h (j + 1) z (by omega) (by simpa using hz)) (by simpa using hk) (fun x hx' => hx x (by simpa using hx'))
      unfold plX at h1 ⊢
      rw [List.takeWhile_cons, if_pos (by simpa using h0), List.length_cons, h1]
theorem pl_of_has {S : List IS} {id : Int} {k : Nat} {x : IS} (h : AscX S) (hx : S[k]? = some x) (he : x.1 = id) : plX S id = k := by
  subst he
  exact pl_at (fun j y hj hy => ascX_at h hy hx hj) (by have := (List.getElem?_eq_some_iff.1 hx).1; omega) (fun y hy => by rw [hx] at hy; rw [← Option.some.inj hy]; omega)

def insX (S : List IS) (id : Int) (l : List Str) : List IS := S.take (plX S id) ++ (id, l) :: S.drop (plX S id)
def remX (S : List IS) (id : Int) : List IS := S.eraseIdx (plX S id)
noncomputable def okIns (t : Int) (T : List TC) (S : List IS) (id : Int) (l : List Str) : Bool := ixB t T S && (okX (id, l) && (!hasId S id && decide (S.length ≠ 12)))
noncomputable def okRem (t : Int) (T : List TC) (S : List IS) (id : Int) : Bool := ixB t T S && hasId S id
noncomputable def insR (t : Int) (T : List TC) (S : List IS) (id : Int) (l : List Str) : List IS := if okIns t T S id l then insX S id l else S
noncomputable def remR (t : Int) (T : List TC) (S : List IS) (id : Int) : List IS := if okRem t T S id then remX S id else S
noncomputable def newR (t : Int) (T : List TC) : Bool := ttB T && okT t

end Go.Proofs.Ytggohfinkpppkaa
