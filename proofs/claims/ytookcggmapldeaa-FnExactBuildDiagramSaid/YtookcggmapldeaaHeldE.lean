/-
  A region that draws its order, whose loads are taken first under a condition S on the world, and whose LAST operation (number n, which waits for all others) writes one of the cells that S names: S is not asked behind it. By an AI agent.
-/
import Derived.Test.YtookcggmapldeaaRows
import Derived.Deep.RegionHeld3
import Derived.StillTail
namespace Go.Proofs.Ytookcggmapldeaa
open Go

variable {P : Program} {ops : Array Oper} {Q : Exit → Act → World → Prop} {md : Region.Mode} {S : World → Prop} {n : Nat}

/-- whichever comes up comes up; behind each but the last S holds -/
def anyE (P : Program) (md : Region.Mode) (ops : Array Oper) (Q : Exit → Act → World → Prop) (S : World → Prop) (n : Nat) : Nat → Array Bool → Act → World → Prop
  | 0, L, a, w => Region.ready md ops L = [] ∧ Q .normal a w
  | f + 1, L, a, w => (Region.ready md ops L = [] → Q .normal a w) ∧ ∀ i ∈ Region.ready md ops L, wpOp P ops Q i (fun a' w' => (i ≠ n → S w') ∧ anyE P md ops Q S n f (L.setIfInBounds i true) a' w') a w

theorem anyE_any : ∀ (f : Nat) (L : Array Bool) (a : Act) (w : World), anyE P md ops Q S n f L a w → wpAny P md ops Q f L a w
  | 0, _, _, _, h => h
  | f + 1, _, _, _, h => ⟨h.1, fun i hi => wpOp_mono (fun a' w' h' => anyE_any f _ a' w' h'.2) (h.2 i hi)⟩

/-- one that waits for i is not ready before i has come up -/
theorem not_ready {i j : Nat} {L : Array Bool} {oj : Oper} (hj : j ∈ Region.ready md ops L) (ho : ops[j]? = some oj) (hi : i ∈ Region.ready md ops L) : ∀ x ∈ oj.after, Region.binds md x = true → x.on ≠ i := by
  intro x hx hb he
  obtain ⟨_, o, ho', hall⟩ := mem_ready.1 hj
  rw [ho] at ho'
  obtain rfl := Option.some.inj ho'
  have h1 := hall x hx hb
  have h0 := (mem_ready.1 hi).1
  rw [he] at h1
  by_cases hs : i < L.size
  · simp [hs] at h0 h1
    rw [h0] at h1
    cases h1
  · simp [Array.getElem?_eq_none (Nat.le_of_not_lt hs)] at h1

/-- what is listed lists what it waits for -/
def Closed (md : Region.Mode) (ops : Array Oper) (L : Array Bool) : Prop := ∀ j oj, L.getD j false = true → ops[j]? = some oj → ∀ x ∈ oj.after, Region.binds md x = true → L.getD x.on false = true
def closedB (md : Region.Mode) (ops : Array Oper) (L : Array Bool) : Bool :=
  (List.range ops.size).all fun j => !(L.getD j false) || (match ops[j]? with
    | some oj => oj.after.all fun x => !(Region.binds md x) || L.getD x.on false
    | none => true)
theorem closed_of {L : Array Bool} (h : closedB md ops L = true) : Closed md ops L := by
  intro j oj hj ho x hx hb
  have hlt := (Array.getElem?_eq_some_iff.1 ho).1
  have h1 := List.all_eq_true.1 h j (List.mem_range.2 hlt)
  rw [hj, ho] at h1
  have h3 : oj.after.all (fun x => !(Region.binds md x) || L.getD x.on false) = true := by simpa only [Bool.not_true, Bool.false_or] using h1
  have h2 := Array.all_eq_true'.1 h3 x hx
  rw [hb] at h2
  simpa only [Bool.not_true, Bool.false_or] using h2
theorem closed_set {L : Array Bool} {j : Nat} (hc : Closed md ops L) (hj : j ∈ Region.ready md ops L) : Closed md ops (L.setIfInBounds j true) := by
  intro k ok hk ho x hx hb
  refine getD_set_true ?_
  obtain ⟨_, oj, hoj, hall⟩ := mem_ready.1 hj
  by_cases hjk : j = k
  · subst hjk
    rw [ho] at hoj
    obtain rfl := Option.some.inj hoj
    exact hall x hx hb
  · rw [getD_set_ne false hjk] at hk
    exact hc k ok hk ho x hx hb
/-- j waits for i, by way of others -/
def ancB (md : Region.Mode) (ops : Array Oper) : Nat → Nat → Nat → Bool
  | 0, _, _ => false
  | f + 1, j, i => match ops[j]? with
    | some oj => oj.after.any fun x => Region.binds md x && (x.on == i || ancB md ops f x.on i)
    | none => false
theorem anc_step {f j i : Nat} (h : ancB md ops (f + 1) j i = true) : ∃ oj, ops[j]? = some oj ∧ ∃ x ∈ oj.after, Region.binds md x = true ∧ (x.on = i ∨ ancB md ops f x.on i = true) := by
  unfold ancB at h
  split at h
  · rename_i oj hj
    obtain ⟨x, hx, hb⟩ := Array.any_eq_true'.1 h
    simp only [Bool.and_eq_true, Bool.or_eq_true, beq_iff_eq] at hb
    exact ⟨oj, hj, x, hx, hb.1, hb.2⟩
  · cases h
theorem anc_listed {L : Array Bool} (hc : Closed md ops L) : ∀ (f j i : Nat), ancB md ops f j i = true → L.getD j false = true → L.getD i false = true
  | 0, _, _, h, _ => by cases h
  | f + 1, j, i, h, hl => by
    obtain ⟨oj, hj, x, hx, hb, h1⟩ := anc_step h
    have h2 := hc j oj hl hj x hx hb
    rcases h1 with h1 | h1
    · rw [← h1]; exact h2
    · exact anc_listed hc f _ _ h1 h2
theorem anc_ready {L : Array Bool} (hc : Closed md ops L) {f j i : Nat} (h : ancB md ops f j i = true) (hr : j ∈ Region.ready md ops L) : L.getD i false = true := by
  cases f with
  | zero => cases h
  | succ f =>
    obtain ⟨oj, hj, x, hx, hb, h1⟩ := anc_step h
    obtain ⟨_, o, ho, hall⟩ := mem_ready.1 hr
    rw [hj] at ho
    obtain rfl := Option.some.inj ho
    have h2 := hall x hx hb
    rcases h1 with h1 | h1
    · rw [← h1]; exact h2
    · exact anc_listed hc f _ _ h1 h2

theorem anyE_first {i m : Nat} {oi : Oper} {v : Value} (hi : ops[i]? = some oi) (hsel : ∀ (j : Nat) (o : Oper) cs b, ops[j]? = some o → o.op ≠ .select cs b) (hQ : ∀ c a w, Q (.panic c) (a.put oi.dst v) w → Q (.panic c) a w)
    (hn : ancB md ops m n i = true) : ∀ (f : Nat) (L : Array Bool) (a : Act) (w : World), Closed md ops L →
    (∀ j oj, ops[j]? = some oj → j ≠ i → L.getD j true = false → (∀ x ∈ oj.after, Region.binds md x = true → x.on ≠ i) → oi.apart ops oj = true) →
    i ∈ Region.ready md ops L → YieldsIf P ops S oi v a → S w → anyE P md ops Q S n f (L.setIfInBounds i true) (a.put oi.dst v) w → anyE P md ops Q S n (f + 1) L a w
  | f, L, a, w, hc, hap, hr, hy, hS, H => by
    refine ⟨fun h0 => (by rw [h0] at hr; cases hr), fun j hj => ?_⟩
    by_cases hji : j = i
    · subst hji
      exact hy.wpOp hi hS ⟨fun _ => hS, H⟩
    cases f with
    | zero =>
      have h1 := ready_mono hj hji
      rw [H.1] at h1
      cases h1
    | succ f =>
      obtain ⟨hun, oj, hoj, -⟩ := mem_ready.1 hj
      have hno := not_ready hj hoj hr
      have hjn : j ≠ n := fun e => by
        subst e
        have h1 := anc_ready hc hn hj
        rw [getD_both (mem_ready.1 hr).1] at h1
        cases h1
      have hap' : ∀ k ok, ops[k]? = some ok → k ≠ i → (L.setIfInBounds j true).getD k true = false → (∀ x ∈ ok.after, Region.binds md x = true → x.on ≠ i) → oi.apart ops ok = true := fun k ok hk hki hku hkx => by
        by_cases hjk : j = k
        · subst hjk
          exact hap j ok hk hki hun hkx
        · rw [getD_set_ne true hjk] at hku
          exact hap k ok hk hki hku hkx
      have h2 := wpOp_putIf hoj (hap j oj hoj hji hun hno) (fun cs b => hsel i oi cs b hi) (fun cs b => hsel j oj cs b hoj) hQ hy (H.2 j (ready_mono hj hji))
      refine wpOp_mono (fun a' w' h3 => ?_) h2
      have hS' := h3.2.1 hjn
      refine ⟨fun _ => hS', anyE_first hi hsel hQ hn f _ a' w' (closed_set hc hj) hap' (ready_mono hr (Ne.symm hji)) h3.1 hS' ?_⟩
      rw [Array.setIfInBounds_comm _ _ hji]
      exact h3.2.2

theorem anyE_take {i : Nat} {oi : Oper} {v : Value} {f : Nat} {L : Array Bool} {a : Act} {w : World} (hi : ops[i]? = some oi) (hs : Region.noSelect ops = true) (hf : Region.free md ops L i = true) (hr : (Region.ready md ops L).contains i = true) (hn : ancB md ops ops.size n i = true) (hc : closedB md ops L = true)
    (hQ : ∀ c a w, Q (.panic c) (a.put oi.dst v) w → Q (.panic c) a w) (hy : YieldsIf P ops S oi v a) (hS : S w) (h : anyE P md ops Q S n f (L.setIfInBounds i true) (a.put oi.dst v) w) : anyE P md ops Q S n (f + 1) L a w :=
  anyE_first hi (Region.noSelect_spec hs) hQ hn f L a w (closed_of hc) (Region.free_spec hi hf) (by simpa using hr) hy hS h

theorem anyE_all {rs : List Nat} {f : Nat} {L : Array Bool} {a : Act} {w : World} (hr : Region.ready md ops L = rs) (hne : rs ≠ []) (h : ∀ i ∈ rs, wpOp P ops Q i (fun a' w' => (i ≠ n → S w') ∧ anyE P md ops Q S n f (L.setIfInBounds i true) a' w') a w) : anyE P md ops Q S n (f + 1) L a w :=
  ⟨fun h0 => absurd (hr ▸ h0) hne, hr ▸ h⟩
theorem anyE_one {i : Nat} {f : Nat} {L : Array Bool} {a : Act} {w : World} (hr : Region.ready md ops L = [i]) (h : wpOp P ops Q i (fun a' w' => (i ≠ n → S w') ∧ anyE P md ops Q S n f (L.setIfInBounds i true) a' w') a w) : anyE P md ops Q S n (f + 1) L a w :=
  anyE_all hr (by simp) (fun j hj => by simp at hj; subst hj; exact h)
theorem anyE_two {i j : Nat} {f : Nat} {L : Array Bool} {a : Act} {w : World} (hr : Region.ready md ops L = [i, j]) (h1 : wpOp P ops Q i (fun a' w' => (i ≠ n → S w') ∧ anyE P md ops Q S n f (L.setIfInBounds i true) a' w') a w)
    (h2 : wpOp P ops Q j (fun a' w' => (j ≠ n → S w') ∧ anyE P md ops Q S n f (L.setIfInBounds j true) a' w') a w) : anyE P md ops Q S n (f + 1) L a w :=
  anyE_all hr (by simp) (fun k hk => by simp at hk; rcases hk with rfl | rfl; exact h1; exact h2)
theorem anyE_step {i : Nat} {o : Oper} {f : Nat} {L : Array Bool} {a : Act} {w : World} (ho : ops[i]? = some o)
    (h : ∀ K' : Act → World → Prop, Shut (∀ a w, (i ≠ n → S w) → ((i ≠ n → S w) → anyE P md ops Q S n f (L.setIfInBounds i true) a w) → K' a w) → if Region.wanted o (yielded ops a.tmps) = true then Oper.wp P o a w K' Q else K' (a.put o.dst undef) w) :
    wpOp P ops Q i (fun a' w' => (i ≠ n → S w') ∧ anyE P md ops Q S n f (L.setIfInBounds i true) a' w') a w :=
  wpOp_step ho fun K' hK => h K' fun a w hS hW => hK a w ⟨hS, hW hS⟩
theorem anyE_done {L : Array Bool} {a : Act} {w : World} (hr : Region.ready md ops L = []) (h : Q .normal a w) : ∀ f, anyE P md ops Q S n f L a w
  | 0 => ⟨hr, h⟩
  | _ + 1 => ⟨fun _ => h, by rw [hr]; simp⟩
theorem wp_region_E {id : Nat} {a : Act} {w : World} (n : Nat) (hm : P.follows .mixedOrders = true) (hS : S w.drew) (h : S w.drew → anyE P .any ops Q S n ops.size (Array.replicate ops.size false) a w.drew) : (Code.region id ops true).wp P Q a w :=
  wp_region_any hm (anyE_any _ _ _ _ (h hS))

end Go.Proofs.Ytookcggmapldeaa
