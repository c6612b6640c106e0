/-
  Decimal numerals that are read back: plain facts without the program. By an AI agent.
-/
import Derived.WalkKit
import Derived.Lib.ItoaLen
import Derived.Lib.ItoaMem
namespace Go.Proofs.YtknkhljegmielaaDoor
set_option linter.unusedVariables false

def isD (b : UInt8) : Bool := decide (48 ≤ b.toNat ∧ b.toNat ≤ 57)

/-- the number that digits spell -/
def dv (l : List UInt8) : Nat := l.foldl (fun n b => 10 * n + (b.toNat - 48)) 0

theorem dv_snoc (l : List UInt8) (b : UInt8) : dv (l ++ [b]) = 10 * dv l + (b.toNat - 48) := by simp [dv]

def AllD (l : List UInt8) : Prop := ∀ b ∈ l, 48 ≤ b.toNat ∧ b.toNat ≤ 57

theorem dv_from (l : List UInt8) : ∀ n : Nat, AllD l → l.foldl (fun n b => 10 * n + (b.toNat - 48)) n < (n + 1) * 10 ^ l.length := by
  induction l with
  | nil => intro n _; simp
  | cons b l ih =>
    intro n h
    have hb := h b (by simp)
    have h1 := ih (10 * n + (b.toNat - 48)) (fun c hc => h c (by simp [hc]))
    rw [List.foldl_cons, List.length_cons, Nat.pow_succ]
    have h2 : (10 * n + (b.toNat - 48) + 1) * 10 ^ l.length ≤ ((n + 1) * 10) * 10 ^ l.length := Nat.mul_le_mul_right _ (by omega)
    have h3 : (n + 1) * (10 ^ l.length * 10) = ((n + 1) * 10) * 10 ^ l.length := by rw [Nat.mul_comm (10 ^ l.length), ← Nat.mul_assoc]
    omega

theorem dv_lt {l : List UInt8} (h : AllD l) : dv l < 10 ^ l.length := by
  have := dv_from l 0 h
  simpa [dv] using this

theorem dv_le {l : List UInt8} {k : Nat} (h : AllD l) (hk : l.length ≤ k) : dv l < 10 ^ k :=
  Nat.lt_of_lt_of_le (dv_lt h) (Nat.pow_le_pow_right (by omega) hk)

theorem dec_all (a : Nat) : AllD (Lib.decDigits a) := by
  induction a using Nat.strongRecOn with
  | ind a ih =>
    intro b hb
    by_cases h : a < 10
    · rw [Lib.decDigits_one h] at hb
      simp at hb
      subst hb
      rw [UInt8.toNat_add, UInt8.toNat_ofNat']
      simp
      omega
    · rw [Lib.decDigits, dif_neg h] at hb
      rcases List.mem_append.1 hb with hb | hb
      · exact ih (a / 10) (by omega) b hb
      · simp only [List.mem_singleton] at hb
        subst hb
        rw [UInt8.toNat_ofNat']
        omega

theorem dv_dec (a : Nat) : dv (Lib.decDigits a) = a := by
  induction a using Nat.strongRecOn with
  | ind a ih =>
    by_cases h : a < 10
    · rw [Lib.decDigits_one h, show [UInt8.ofNat (48 + a)] = [] ++ [UInt8.ofNat (48 + a)] from rfl, dv_snoc, UInt8.toNat_ofNat']
      simp [dv]
      omega
    · rw [Lib.decDigits, dif_neg h, dv_snoc, ih (a / 10) (by omega), UInt8.toNat_ofNat']
      omega

theorem dec_short (k : Nat) : ∀ a, a < 10 ^ (k + 1) → (Lib.decDigits a).length ≤ k + 1 := by
  induction k with
  | zero => intro a h; rw [Lib.decDigits_one (by simpa using h)]; simp
  | succ k ih =>
    intro a h
    by_cases h10 : a < 10
    · rw [Lib.decDigits_one h10]; simp
    · rw [Lib.decDigits, dif_neg h10, List.length_append]
      have := ih (a / 10) (by rw [Nat.pow_succ] at h; omega)
      simp
      omega

theorem dec_ne (a : Nat) : Lib.decDigits a ≠ [] := by
  by_cases h : a < 10
  · rw [Lib.decDigits_one h]; simp
  · rw [Lib.decDigits, dif_neg h]; simp

/-- what ParseInt answers at l -/
def PiOk (l : List UInt8) (n : Int) (ok : Bool) : Prop :=
  (ok = true ∧ Lib.itoa n = l ∧ -1000000000 < n ∧ n < 1000000000) ∨ (ok = false ∧ n = 0 ∧ ∀ m : Int, -1000000000 < m → m < 1000000000 → Lib.itoa m ≠ l)

/-- l is a sign, perhaps, and what stands behind it -/
def Cut (l : List UInt8) (neg : Bool) (d : List UInt8) : Prop := (neg = true ∧ l = 45 :: d) ∨ (neg = false ∧ l = d ∧ d.head? ≠ some 45)

def sgn (neg : Bool) (v : Nat) : Int := if neg then -(v : Int) else v

theorem dec_head (a : Nat) : (Lib.decDigits a).head? ≠ some 45 := by
  intro h
  have hm : (45 : UInt8) ∈ Lib.decDigits a := by
    cases hd : Lib.decDigits a with
    | nil => exact absurd hd (dec_ne a)
    | cons b r => rw [hd] at h; simp at h; simp [h]
  have := (dec_all a 45 hm).1
  revert this
  decide

theorem cut_itoa {m : Int} {neg : Bool} {d : List UInt8} (h : Cut (Lib.itoa m) neg d) : d = Lib.decDigits m.natAbs ∧ sgn neg m.natAbs = m := by
  by_cases hm : m < 0
  · have e : Lib.itoa m = 45 :: Lib.decDigits m.natAbs := by unfold Lib.itoa; rw [if_pos hm]
    rw [e] at h
    rcases h with ⟨rfl, h⟩ | ⟨rfl, h, h2⟩
    · injection h with _ h
      exact ⟨h.symm, by simp [sgn]; omega⟩
    · rw [← h] at h2
      simp at h2
  · have e : Lib.itoa m = Lib.decDigits m.natAbs := by unfold Lib.itoa; rw [if_neg hm]; congr 1; omega
    rw [e] at h
    rcases h with ⟨rfl, h⟩ | ⟨rfl, h, h2⟩
    · have := dec_head m.natAbs
      rw [h] at this
      simp at this
    · exact ⟨h.symm, by simp [sgn]; omega⟩

theorem itoa_inj {a b : Int} (h : Lib.itoa a = Lib.itoa b) : a = b := by
  obtain ⟨neg, d, hc⟩ : ∃ neg d, Cut (Lib.itoa a) neg d := by
    cases hl : Lib.itoa a with
    | nil => exact ⟨false, [], .inr ⟨rfl, rfl, by simp⟩⟩
    | cons x r =>
      by_cases hx : x = 45
      · subst hx; exact ⟨true, r, .inl ⟨rfl, rfl⟩⟩
      · exact ⟨false, x :: r, .inr ⟨rfl, rfl, by simpa using hx⟩⟩
  have h1 := cut_itoa hc
  rw [h] at hc
  have h2 := cut_itoa hc
  have e := congrArg dv (h1.1.symm.trans h2.1)
  rw [dv_dec, dv_dec] at e
  rw [← h1.2, ← h2.2, e]

theorem PiOk.same {l : List UInt8} {n n' : Int} {ok ok' : Bool} (h : PiOk l n ok) (h' : PiOk l n' ok') : n = n' ∧ ok = ok' := by
  rcases h with ⟨rfl, h1, h2, h3⟩ | ⟨rfl, rfl, h1⟩ <;> rcases h' with ⟨rfl, g1, g2, g3⟩ | ⟨rfl, rfl, g1⟩
  · exact ⟨itoa_inj (h1.trans g1.symm), rfl⟩
  · exact absurd h1 (g1 n h2 h3)
  · exact absurd g1 (h1 n' g2 g3)
  · exact ⟨rfl, rfl⟩

theorem range_of {neg : Bool} {d : List UInt8} (h : AllD d) (hl : d.length ≤ 9) : -1000000000 < sgn neg (dv d) ∧ sgn neg (dv d) < 1000000000 := by
  have h1 := dv_le h hl
  have h2 : (10 : Nat) ^ 9 = 1000000000 := by decide
  unfold sgn
  cases neg <;> simp <;> omega

theorem short_of {m : Int} (h1 : -1000000000 < m) (h2 : m < 1000000000) : (Lib.decDigits m.natAbs).length ≤ 9 := by
  refine dec_short 8 _ ?_
  have : (10 : Nat) ^ (8 + 1) = 1000000000 := by decide
  omega

/-! what impl.ParseInt does -/
theorem pi_yes {l d : List UInt8} {neg : Bool} (hc : Cut l neg d) (hd : AllD d) (hl : d.length ≤ 9) (e : Lib.itoa (sgn neg (dv d)) = l) : PiOk l (sgn neg (dv d)) true :=
  .inl ⟨rfl, e, range_of hd hl⟩

theorem pi_other {l d : List UInt8} {neg : Bool} (hc : Cut l neg d) (e : Lib.itoa (sgn neg (dv d)) ≠ l) : PiOk l 0 false := by
  refine .inr ⟨rfl, rfl, fun m h1 h2 hm => e ?_⟩
  rw [← hm] at hc
  obtain ⟨rfl, h⟩ := cut_itoa hc
  rw [dv_dec, h, hm]

theorem pi_long {l d : List UInt8} {neg : Bool} (hc : Cut l neg d) (hl : 9 < d.length) : PiOk l 0 false := by
  refine .inr ⟨rfl, rfl, fun m h1 h2 hm => ?_⟩
  rw [← hm] at hc
  obtain ⟨rfl, h⟩ := cut_itoa hc
  have := short_of h1 h2
  omega

theorem pi_letter {l d : List UInt8} {neg : Bool} (hc : Cut l neg d) {b : UInt8} (hb : b ∈ d) (hn : ¬ (48 ≤ b.toNat ∧ b.toNat ≤ 57)) : PiOk l 0 false := by
  refine .inr ⟨rfl, rfl, fun m h1 h2 hm => ?_⟩
  rw [← hm] at hc
  obtain ⟨rfl, h⟩ := cut_itoa hc
  exact hn (dec_all _ b hb)

/-! what spec.ParseInt does -/
theorem filter_all {l : List UInt8} (h : AllD l) : l.filter isD = l := by
  rw [List.filter_eq_self]
  intro b hb
  have := h b hb
  simp [isD, this]

theorem filter_allD (l : List UInt8) : AllD (l.filter isD) := by
  intro b hb
  have := (List.mem_filter.1 hb).2
  simpa [isD] using this

theorem filter_cut {l d : List UInt8} {neg : Bool} (hc : Cut l neg d) : l.filter isD = d.filter isD := by
  rcases hc with ⟨_, rfl⟩ | ⟨_, rfl, _⟩
  · rw [List.filter_cons_of_neg (by decide)]
  · rfl

theorem pi_spec_yes {l d : List UInt8} {neg : Bool} (hc : Cut l neg d) (hk : (l.filter isD).length ≤ 9) (e : Lib.itoa (sgn neg (dv (l.filter isD))) = l) : PiOk l (sgn neg (dv (l.filter isD))) true :=
  .inl ⟨rfl, e, range_of (filter_allD l) hk⟩

theorem pi_spec_no {l d : List UInt8} {neg : Bool} (hc : Cut l neg d) (e : Lib.itoa (sgn neg (dv (l.filter isD))) ≠ l) : PiOk l 0 false := by
  refine .inr ⟨rfl, rfl, fun m h1 h2 hm => e ?_⟩
  rw [filter_cut hc]
  rw [← hm] at hc
  obtain ⟨rfl, h⟩ := cut_itoa hc
  rw [filter_all (dec_all _), dv_dec, h, hm]

theorem pi_spec_many {l : List UInt8} (i : Nat) (h : 9 < ((l.take i).filter isD).length) : PiOk l 0 false := by
  refine .inr ⟨rfl, rfl, fun m h1 h2 hm => ?_⟩
  have hs := short_of h1 h2
  have hle : ((l.take i).filter isD).length ≤ (l.filter isD).length := ((List.take_sublist i l).filter isD).length_le
  have e : (l.filter isD).length ≤ 9 := by
    rw [← hm]
    by_cases hn : m < 0
    · rw [show Lib.itoa m = 45 :: Lib.decDigits m.natAbs by unfold Lib.itoa; rw [if_pos hn], List.filter_cons_of_neg (by decide), filter_all (dec_all _)]
      exact hs
    · rw [show Lib.itoa m = Lib.decDigits m.natAbs by unfold Lib.itoa; rw [if_neg hn]; congr 1; omega, filter_all (dec_all _)]
      exact hs
  omega

theorem pi_spec_long {l : List UInt8} (h : 10 < l.length) : PiOk l 0 false := by
  refine .inr ⟨rfl, rfl, fun m h1 h2 hm => ?_⟩
  have hs := short_of h1 h2
  rw [← hm] at h
  by_cases hn : m < 0
  · rw [show Lib.itoa m = 45 :: Lib.decDigits m.natAbs by unfold Lib.itoa; rw [if_pos hn], List.length_cons] at h
    omega
  · rw [show Lib.itoa m = Lib.decDigits m.natAbs by unfold Lib.itoa; rw [if_neg hn]; congr 1; omega] at h
    omega

end Go.Proofs.YtknkhljegmielaaDoor
