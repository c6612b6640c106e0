/-
  Texts laid together: PlainCd, HoldP, SsT, Undrew, IxT, Pfx, TcM, Ints, IntT, IntM. By an AI agent.
-/
import Derived.Test.YthjbekgognfiiaaGreatJ3
import Derived.Test.YthjbekgognfiiaaGreatPref
import Derived.Test.YthjbekgognfiiaaGreatJ4
import Derived.Test.YthjbekgognfiiaaGreatJ2
import Derived.Test.YthjbekgognfiiaaGreatRows
import Derived.WalkKit
import Derived.Below
import Derived.Test.YthjbekgognfiiaaGreatJ7
import Derived.WalkSpells
import Derived.WalkLawsBesides
import Derived.Lib.Hide
import Derived.BigQuiet
import Derived.Deep.QuietTactic
import Derived.OwnWalk
import Derived.Laws.OwnMore
import Derived.Maps.AppendAt
/-
  Plain facts on indexes of sets: candidates, searches, joins. By an AI agent.
-/
namespace Go.Proofs.YthjbekgognfiiaaGreat
open Go
set_option linter.unusedVariables false

/-- the keys of a set: the tokens of its prefix, or the empty string -/
noncomputable def keysR (T : List TC) (t : Int) (l : List Str) : List Str := if l.length = 0 then [[]] else ptR T l t
/-- the bounds of the size -/
def loR (n : Nat) (t : Int) : Int := if okS n && okT t then lbLo n t else -1
def hiR (n : Nat) (t : Int) : Int := if okS n && okT t then lbHi n t else -1
/-- a set is a candidate -/
noncomputable def cdB (T : List TC) (t : Int) (l x : List Str) : Bool := (decide (x.length = 0) && decide (l.length = 0)) || (decide (loR l.length t ≤ (x.length : Int) ∧ (x.length : Int) ≤ hiR l.length t) && shR T l x t)
/-- .. by a key of both -/
def byKey (T : List TC) (t : Int) (l x : List Str) : Prop := (∃ z, z ∈ keysR T t l ∧ z ∈ keysR T t x) ∧ loR l.length t ≤ (x.length : Int) ∧ (x.length : Int) ≤ hiR l.length t

theorem sh_iff {T : List TC} {a b : List Str} {t : Int} : shR T a b t = true ↔ ∃ z, z ∈ ptR T a t ∧ z ∈ ptR T b t := by
  unfold shR
  rw [decide_eq_true_eq]
  constructor
  · intro h
    obtain ⟨z, hz⟩ := List.exists_mem_of_length_pos (show 0 < (commonR (ptR T a t) (ptR T b t)).length by omega)
    rw [setL_mem] at hz
    simp [bothL] at hz
    exact ⟨z, hz.1, hz.2⟩
  · rintro ⟨z, h1, h2⟩
    have h3 : z ∈ commonR (ptR T a t) (ptR T b t) := (setL_mem _ _).2 (by simp [bothL, h1, h2])
    have := List.length_pos_of_mem h3
    omega
theorem key_word {T : List TC} {t : Int} {l : List Str} {z : Str} (h : z ∈ ptR T l t) : z ≠ [] := by
  have hl : tsB l = true := by
    unfold ptR at h
    split at h
    · rename_i hc
      rw [Bool.and_eq_true] at hc
      exact hc.1
    · cases h
  have hm := pt_mem h
  have := (tsB_true hl).1 z hm
  intro e
  subst e
  exact absurd this (by decide)
theorem pt_empty {T : List TC} {t : Int} {l : List Str} (h : l.length = 0) : ptR T l t = [] := by
  have := pt_len (tab := T) (l := l) (t := t)
  exact List.eq_nil_of_length_eq_zero (by omega)
theorem lo_zero {t : Int} (h : okT t = true) : loR 0 t = 0 ∧ hiR 0 t = 0 := by
  have h1 := okT_yes h
  unfold loR hiR lbLo lbHi
  rw [h]
  simp [okS]
theorem cd_iff {T : List TC} {t : Int} {l x : List Str} (ht : okT t = true) : cdB T t l x = true ↔ byKey T t l x := by
  unfold cdB byKey
  rw [Bool.or_eq_true, Bool.and_eq_true, Bool.and_eq_true, decide_eq_true_eq, decide_eq_true_eq, decide_eq_true_eq, sh_iff]
  obtain ⟨z0, z1⟩ := lo_zero ht
  constructor
  · rintro (⟨h1, h2⟩ | ⟨h1, z, h2, h3⟩)
    · refine ⟨⟨[], by simp [keysR, h2], by simp [keysR, h1]⟩, ?_⟩
      rw [h2, z0, z1, h1]
      omega
    · have e1 : ¬ l.length = 0 := fun e => by rw [pt_empty e] at h2; cases h2
      have e2 : ¬ x.length = 0 := fun e => by rw [pt_empty e] at h3; cases h3
      exact ⟨⟨z, by unfold keysR; rw [if_neg e1]; exact h2, by unfold keysR; rw [if_neg e2]; exact h3⟩, h1⟩
  · rintro ⟨⟨z, h2, h3⟩, h1⟩
    unfold keysR at h2 h3
    by_cases e1 : l.length = 0
    · rw [if_pos e1] at h2
      simp at h2
      subst h2
      by_cases e2 : x.length = 0
      · exact .inl ⟨e2, e1⟩
      · rw [if_neg e2] at h3
        exact absurd rfl (key_word h3)
    · rw [if_neg e1] at h2
      by_cases e2 : x.length = 0
      · rw [if_pos e2] at h3
        simp at h3
        exact absurd h3 (key_word h2)
      · rw [if_neg e2] at h3
        exact .inr ⟨h1, z, h2, h3⟩

theorem unite_comm_len {a b : List Str} (ha : Asc a) (hb : Asc b) : (uniteR a b).length = (uniteR b a).length := by
  have h1 := unite_le ha hb
  have h2 := unite_le hb ha
  have h3 := cc_comm ha hb
  omega
theorem meet_comm (a b : List Str) (t : Int) : meetR a b t = meetR b a t := by
  have key : ∀ a b : List Str, meetR a b t = true → meetR b a t = true := by
    intro a b h
    obtain ⟨h1, h2, h3, h4⟩ := meets_parts h
    obtain ⟨g1, g2, g3⟩ := good_parts h3
    have hg : goodR b.length a.length t = true := by unfold goodR; rw [g1, g2, g3]; rfl
    unfold meetR
    rw [h1, h2, hg]
    simp only [Bool.and_self, if_true]
    refine decide_eq_true ?_
    rw [← unite_comm_len (tsB_asc h1) (tsB_asc h2), ← cc_comm (tsB_asc h1) (tsB_asc h2)]
    exact h4
  cases h : meetR a b t
  · cases h2 : meetR b a t
    · rfl
    · rw [key b a h2] at h; cases h
  · exact (key a b h).symm
theorem meet_cand {T : List TC} {t : Int} {l x : List Str} (h : meetR l x t = true) : byKey T t l x := by
  obtain ⟨h1, h2, h3, h4⟩ := meets_parts h
  obtain ⟨g1, g2, g3⟩ := good_parts h3
  rw [← cd_iff g3]
  obtain ⟨_, _, k1, k2⟩ := meets_low h
  have oka : (okS l.length && okT t) = true := by rw [g1, g3]; rfl
  unfold cdB
  by_cases h0 : l.length + x.length = 0
  · have e1 : l.length = 0 := by omega
    have e2 : x.length = 0 := by omega
    simp [e1, e2]
  · obtain ⟨z, z1, z2⟩ := share_one (tab := T) h h0
    rw [sh_iff.2 ⟨z, z1, z2⟩, Bool.and_true, Bool.or_eq_true, decide_eq_true_eq]
    unfold loR hiR
    rw [if_pos oka, if_pos oka]
    exact .inr ⟨k1, k2⟩

noncomputable def candR (t : Int) (T : List TC) (S : List IS) (l : List Str) : List Int := if ixB t T S && (tsB l && decide (l.length ≤ 1000)) then (S.filter fun x => cdB T t l x.2).map Prod.fst else []
noncomputable def searR (t : Int) (T : List TC) (S : List IS) (l : List Str) : List Int := if ixB t T S then (S.filter fun x => meetR x.2 l t).map Prod.fst else []
noncomputable def joinL (t : Int) : List IS → List (Int × Int)
  | [] => []
  | x :: S => ((S.filter fun y => meetR x.2 y.2 t).map fun y => (x.1, y.1)) ++ joinL t S
noncomputable def joinR (t : Int) (T : List TC) (S : List IS) : List (Int × Int) := if ixB t T S then joinL t S else []

end Go.Proofs.YthjbekgognfiiaaGreat

/-
  What a prefix index holds, and what is found in it, in plain words. By an AI agent.
-/
namespace Go.Proofs.YthjbekgognfiiaaGreat
open Go
set_option linter.unusedVariables false

def HoldOf (T : List TC) (t : Int) (q : List XS) (f : Str → Int → Option Value) : Prop := ∀ x i v, f x i = some v ↔ ∃ p ∈ q, p.1.1 = i ∧ x ∈ keysR T t p.1.2 ∧ p.2 = v
theorem HoldOf.nil (T : List TC) (t : Int) : HoldOf T t [] (fun _ _ => none) := fun x i v => by simp
theorem HoldOf.snoc {T : List TC} {t : Int} {q : List XS} {f : Str → Int → Option Value} {r : XS} (h : HoldOf T t q f) (hd : ∀ p ∈ q, p.1.1 ≠ r.1.1) : HoldOf T t (q ++ [r]) (fun x i => if x ∈ keysR T t r.1.2 ∧ i = r.1.1 then some r.2 else f x i) := by
  intro x i v
  show (if x ∈ keysR T t r.1.2 ∧ i = r.1.1 then some r.2 else f x i) = some v ↔ _
  by_cases hc : x ∈ keysR T t r.1.2 ∧ i = r.1.1
  · rw [if_pos hc]
    constructor
    · intro e
      exact ⟨r, by simp, hc.2.symm, hc.1, Option.some.inj e⟩
    · rintro ⟨p, hp, h1, h2, h3⟩
      rcases List.mem_append.1 hp with h4 | h4
      · exact absurd (h1.trans hc.2) (hd p h4)
      · simp at h4
        rw [← h3, h4]
  · rw [if_neg hc, h x i v]
    constructor
    · rintro ⟨p, hp, h1⟩
      exact ⟨p, List.mem_append_left _ hp, h1⟩
    · rintro ⟨p, hp, h1, h2, h3⟩
      rcases List.mem_append.1 hp with h4 | h4
      · exact ⟨p, h4, h1, h2, h3⟩
      · simp at h4
        subst h4
        exact absurd ⟨h2, h1.symm⟩ hc
theorem HoldOf.drop {T : List TC} {t : Int} {q : List XS} {f : Str → Int → Option Value} {r : XS} (h : HoldOf T t (r :: q) f) (hd : ∀ p ∈ q, p.1.1 ≠ r.1.1) : HoldOf T t q (fun x i => if x ∈ keysR T t r.1.2 ∧ i = r.1.1 then none else f x i) := by
  intro x i v
  show (if x ∈ keysR T t r.1.2 ∧ i = r.1.1 then none else f x i) = some v ↔ _
  by_cases hc : x ∈ keysR T t r.1.2 ∧ i = r.1.1
  · rw [if_pos hc]
    constructor
    · intro e; cases e
    · rintro ⟨p, hp, h1, h2, h3⟩
      exact absurd (h1.trans hc.2) (hd p hp)
  · rw [if_neg hc, h x i v]
    constructor
    · rintro ⟨p, hp, h1, h2, h3⟩
      rcases List.mem_cons.1 hp with rfl | h4
      · exact absurd ⟨h2, h1.symm⟩ hc
      · exact ⟨p, h4, h1, h2, h3⟩
    · rintro ⟨p, hp, h1⟩
      exact ⟨p, List.mem_cons_of_mem _ hp, h1⟩

def FoundOf (P : List Str → Prop) (q : List XS) (h : Int → Option Value) : Prop := ∀ i v, h i = some v ↔ ∃ p ∈ q, p.1.1 = i ∧ P p.1.2 ∧ p.2 = v
theorem FoundOf.congr {P P' : List Str → Prop} {q : List XS} {h : Int → Option Value} (hf : FoundOf P q h) (he : ∀ p ∈ q, P p.1.2 ↔ P' p.1.2) : FoundOf P' q h := fun i v => by
  rw [hf i v]
  constructor
  · rintro ⟨p, hp, h1, h2, h3⟩; exact ⟨p, hp, h1, (he p hp).1 h2, h3⟩
  · rintro ⟨p, hp, h1, h2, h3⟩; exact ⟨p, hp, h1, (he p hp).2 h2, h3⟩

theorem ascI_ext {a b : List Int} (ha : a.Pairwise (· < ·)) (hb : b.Pairwise (· < ·)) (h : ∀ x, x ∈ a ↔ x ∈ b) : a = b := by
  have na : a.Nodup := ha.imp fun h => by omega
  have nb : b.Nodup := hb.imp fun h => by omega
  refine List.Perm.eq_of_pairwise (le := (· ≤ ·)) (fun x y _ _ h1 h2 => by omega) (ha.imp fun h => by omega) (hb.imp fun h => by omega) ((List.perm_ext_iff_of_nodup na nb).2 h)
theorem ascI_sort {zs : List Int} (hn : zs.Nodup) : (zs.mergeSort fun x y => decide (x ≤ y)).Pairwise (· < ·) := by
  have h1 : (zs.mergeSort fun x y => decide (x ≤ y)).Pairwise fun x y => decide (x ≤ y) = true := List.pairwise_mergeSort (fun a b c h1 h2 => by simp at *; omega) (fun a b => by simp; omega) zs
  have h2 : (zs.mergeSort fun x y => decide (x ≤ y)).Nodup := (List.mergeSort_perm zs _).nodup_iff.2 hn
  refine (h1.and h2).imp fun {a b} h => ?_
  have := of_decide_eq_true h.1
  have := h.2
  omega
/-- the identifiers of the sets with a property, in order -/
theorem ids_sorted {P : List Str → Bool} {q : List XS} {h : Int → Option Value} {zs : List Int} (hf : FoundOf (fun l => P l = true) q h) (ha : AscX (setsX q)) (hn : zs.Nodup) (hm : ∀ x, x ∈ zs ↔ (h x).isSome = true) :
    (zs.mergeSort fun x y => decide (x ≤ y)) = ((setsX q).filter fun x => P x.2).map Prod.fst := by
  refine ascI_ext (ascI_sort hn) ?_ fun x => ?_
  · rw [List.pairwise_map]
    exact (ha.filter _).imp fun h => h
  · rw [(List.mergeSort_perm zs _).mem_iff, hm x, List.mem_map]
    constructor
    · intro hs
      obtain ⟨v, hv⟩ := Option.isSome_iff_exists.1 hs
      obtain ⟨p, hp, h1, h2, h3⟩ := (hf x v).1 hv
      exact ⟨p.1, List.mem_filter.2 ⟨List.mem_map.2 ⟨p, hp, rfl⟩, h2⟩, h1⟩
    · rintro ⟨y, hy, rfl⟩
      obtain ⟨h1, h2⟩ := List.mem_filter.1 hy
      obtain ⟨p, hp, rfl⟩ := List.mem_map.1 h1
      rw [(hf p.1.1 p.2).2 ⟨p, hp, rfl, h2, rfl⟩]
      rfl

end Go.Proofs.YthjbekgognfiiaaGreat

/-
  What the laws' own szStringSS, toStringSS, eqStringSS and markStringSS do. By an AI agent.
-/
namespace Go.Proofs.YthjbekgognfiiaaGreat
open Go.RowKit
set_option linter.unusedVariables false

theorem info_ss : (Tryz.prog.info? 28).map (fun i => (i.zero, i.size, i.bytes)) = some (some (.slice none 0 0), 1, 24) := by kernel_rfl

theorem ss_row_at {vs rest : List Value} {k n : Nat} (h : (vs ++ rest).length = n) (hv : vs.length = k) (hk : k < n) : ∃ y r, rest = y :: r ∧ (vs ++ y :: r)[k]? = some y ∧ ∀ u, (vs ++ y :: r).set k u = (vs ++ [u]) ++ r := by
  match rest, h with
  | [], h => simp at h; omega
  | y :: r, _ =>
    refine ⟨y, r, rfl, ?_, fun u => ?_⟩
    · rw [List.getElem?_append_right (by omega), hv, Nat.sub_self]; rfl
    · rw [List.set_append_right _ _ (by omega), hv, Nat.sub_self, List.set_cons_zero]; simp
theorem snoc_at {α : Type} {vs : List α} {u x : α} {j : Nat} (h : (vs ++ [u])[j]? = some x) : vs[j]? = some x ∨ (j = vs.length ∧ x = u) := by
  rcases Nat.lt_or_ge j vs.length with hlt | hge
  · rw [List.getElem?_append_left hlt] at h; exact .inl h
  · rw [List.getElem?_append_right hge] at h
    have : j - vs.length = 0 := by have := (List.getElem?_eq_some_iff.1 h).1; simp at this; omega
    rw [this] at h
    simp at h
    exact .inr ⟨by omega, h.symm⟩
theorem row_kept {w w' : World} {base : Nat} {v : Value} {l : List Str} {g : Nat} (h : OwnS w base v l) (hg : w.grownBy w' (some g)) (hn : ∀ k, v.ownBlock = some k → k ≠ g) : OwnS w' base v l := by
  refine World.ownsRow.kept h hg ?_
  cases hv : v.ownBlock with
  | none => exact .inl rfl
  | some k => exact .inr fun e => hn k hv (by injection e)

/-- lists of the same lengths -/
def SameLen (ls ls' : List (List Str)) : Prop := ls'.length = ls.length ∧ ∀ (j : Nat) (l l' : List Str), ls[j]? = some l → ls'[j]? = some l' → l'.length = l.length
theorem SameLen.refl (ls : List (List Str)) : SameLen ls ls := ⟨rfl, fun j l l' h h' => by rw [h] at h'; rw [Option.some.inj h']⟩
def sumL (ls : List (List Str)) (k : Nat) : Nat := (ls.take k).flatten.length
theorem sumL_succ {ls : List (List Str)} {k : Nat} {l : List Str} (h : ls[k]? = some l) : sumL ls (k + 1) = sumL ls k + l.length := by
  unfold sumL
  rw [ss_take h]
  simp
theorem sumL_all (ls : List (List Str)) : sumL ls ls.length = ls.flatten.length := by unfold sumL; rw [List.take_length]
theorem sumL_le (ls : List (List Str)) (k : Nat) : sumL ls k ≤ ls.flatten.length := by
  unfold sumL
  conv => rhs; rw [← List.take_append_drop k ls]
  rw [List.flatten_append, List.length_append]
  omega

end Go.Proofs.YthjbekgognfiiaaGreat

/-
  A world behind a draw, a world behind a new block. By an AI agent.
-/
namespace Go.Proofs.YthjbekgognfiiaaGreat
open Go.RowKit

theorem undrew {w w' : World} (h : Below w.drew.heap.size w.drew w') : Below w.heap.size w w' := ⟨h.os, h.tape, h.output, h.size, h.block⟩
theorem below_new {w w' : World} {o : Obj} (h : Below (w.alloc o).heap.size (w.alloc o) w') : Below w.heap.size w w' := ((Below.refl _ _).alloc (Nat.le_refl _) o).trans (h.mono (by simp))
theorem wrap_one : IntKind.i64.wrap 1 = 1 := by decide

end Go.Proofs.YthjbekgognfiiaaGreat

/-
  Indexes of sets as values: what the laws' own szSetIndex, toSetIndex, eqSetIndex do. By an AI agent.
-/
namespace Go.Proofs.YthjbekgognfiiaaGreat
open Go.RowKit
set_option linter.unusedVariables false

/-! ### blocks of two and of three cells -/
theorem BlkV.two0 {w : World} {g : Nat} {t : TypeId} {a b : Value} (h : BlkV w g t #[a, b]) : w.cell? ⟨g, 0, none⟩ = some a := h.cell 0
theorem BlkV.two1 {w : World} {g : Nat} {t : TypeId} {a b : Value} (h : BlkV w g t #[a, b]) : w.cell? ⟨g, 1, none⟩ = some b := h.cell 1
theorem BlkV.three0 {w : World} {g : Nat} {t : TypeId} {a b c : Value} (h : BlkV w g t #[a, b, c]) : w.cell? ⟨g, 0, none⟩ = some a := h.cell 0
theorem BlkV.three1 {w : World} {g : Nat} {t : TypeId} {a b c : Value} (h : BlkV w g t #[a, b, c]) : w.cell? ⟨g, 1, none⟩ = some b := h.cell 1
theorem BlkV.three2 {w : World} {g : Nat} {t : TypeId} {a b c : Value} (h : BlkV w g t #[a, b, c]) : w.cell? ⟨g, 2, none⟩ = some c := h.cell 2
theorem BlkV.other {w : World} {g : Nat} {t : TypeId} {cs : Array Value} (h : BlkV w g t cs) (p : Addr) (u : Value) (hne : g ≠ p.block) : BlkV (w.setCell p u) g t cs := (Below.heap_setCell w p u g hne).trans h
theorem BlkV.new_ (w : World) (t : TypeId) (cs : Array Value) (g : Nat) (hg : w.heap.size = g) : BlkV (w.alloc (.cells cs t)) g t cs := by subst hg; exact BlkV.new w t cs
theorem row_setCell {w : World} {base : Nat} {e : TypeId} {size n : Nat} {v : Value} {xs : List Value} (h : w.ownsRow base e size v n xs) (p : Addr) (u : Value) (hp : p.block < base) : (w.setCell p u).ownsRow base e size v n xs := by
  refine World.ownsRow.kept (w' := w.setCell p u) h (row := some p.block) ⟨rfl, rfl, rfl, by simp [World.setCell], fun i hi hne => Below.heap_setCell w p u i (fun e => hne (by rw [e]))⟩ ?_
  cases hv : v.ownBlock with
  | none => exact .inl rfl
  | some k =>
    refine .inr fun e => ?_
    have h1 := (World.ownsRow.lt h k hv).1
    simp only [Option.some.injEq] at e
    omega
theorem OwnX.setCell {w : World} {lo : Nat} {v : Value} {q : List XS} (h : OwnX w lo v q) (p : Addr) (u : Value) (hp : p.block < lo) : OwnX (w.setCell p u) lo v q :=
  ⟨row_setCell h.out p u hp, fun r hr => row_setCell (h.row r hr) p u hp, h.apart, h.dis⟩

/-! ### sizes -/
theorem szR_cases (l : List Str) (left : Nat) : (szR l left = -1 ∧ ¬ szL l ≤ left) ∨ (szR l left = ((left - szL l : Nat) : Int) ∧ szL l ≤ left) := by
  by_cases h : szL l ≤ left
  · exact .inr ⟨szR_yes h, h⟩
  · exact .inl ⟨szR_no h, h⟩

set_option maxRecDepth 100000 in
theorem xsz_one (id : Int) (a : Option Addr) (cap : Nat) (l : List Str) (left : Nat) (r : Int) (w : World) (hr : szR l left = r) (h : ArgS w a l) (hleft : left ≤ 1048576) :
    Calls Tryz.prog 89 #[.agg #[.int .i64 id, .slice a l.length cap], .int .i64 left] w fun e w' => e = .returned (.int .i64 r) ∧ Below w.heap.size w w' := by
  have hc : r = -1 ∨ (0 ≤ r ∧ r ≤ 1048576) := by
    rcases szR_cases l left with ⟨h1, h2⟩ | ⟨h1, h2⟩
    · exact .inl (by rw [← hr, h1])
    · exact .inr (by rw [← hr, h1]; omega)
  have HC := Lib.hid (fun (W : World) (hW : Below w.heap.size w W) => (sz_any a cap l left W h.2.1 (h.1.below hW) h.2.2 hleft).mono fun e w' h => (show e = .returned (.int .i64 r) ∧ w' = W from by rw [← hr]; exact h))
  clear hr h
  rcases hc with rfl | ⟨hc1, hc2⟩
  all_goals
    go_enter Tryz.func89, Tryz.ntmps89
    go_wp2_with (go_at_call 113; (refine (HC.out _ ((Below.refl _ _).alloc (Nat.le_refl _) _)).mono ?_); rintro e w' ⟨rfl, rfl⟩)
    go_ret
    exact ⟨rfl, (Below.refl _ _).alloc (Nat.le_refl _) _⟩

set_option maxRecDepth 100000 in
theorem xsz_any (a : Option Addr) (cap : Nat) (S : List IS) (left : Nat) (w : World) (h : ArgX w a S) (hleft : left ≤ 1048576) :
    Calls Tryz.prog 53 #[.slice a S.length cap, .int .i64 left] w fun e w' => e = .returned (.int .i64 (yzR (toksX S) left)) ∧ Below w.heap.size w w' := by
  obtain ⟨hin, hl, hx⟩ := h
  unfold maxLen at hl
  have HX := Lib.hid hx
  have HIN := Lib.hid hin
  have HTL := Lib.hid (toksX_len S)
  clear hx hin
  by_cases h1 : S.length ≤ left
  · go_enter Tryz.func53, Tryz.ntmps53
    go_wp2
    go_loopw [1, 5] (fun r i wr => ∃ k m : Nat, k ≤ S.length ∧ i = .int .i64 k ∧ r = .int .i64 m ∧ m ≤ left ∧ m + yzT (toksX S) k = left ∧ Below w.heap.size w wr) (fun _ i _ => S.length - (intOf i).toNat)
    case atStart => exact ⟨0, left - S.length, Nat.zero_le _, rfl, by rw [Int.ofNat_sub h1], by omega, by have := HTL.out; simp [yzT]; omega, Below.refl _ _⟩
    case round =>
      obtain ⟨k, m, hk, rfl, rfl, hm, hs, hbl⟩ := hrel
      have HS := Lib.hid hs
      have HBL := Lib.hid hbl
      clear hs hbl
      by_cases hlt : k < S.length
      · obtain ⟨b, off, rfl, hb, hc⟩ := HIN.out (by omega)
        have hj := List.getElem?_eq_getElem hlt
        obtain ⟨a', c', p0, p1, _, _, hin'⟩ := hc k _ hj
        have hcell0 : wr.cell? ⟨b, off + k * 2, none⟩ = some (.int .i64 S[k].1) := by rw [HBL.out.cell (p := ⟨b, off + k * 2, none⟩) hb]; exact p0
        have hcell1 : wr.cell? ⟨b, off + k * 2 + 1, none⟩ = some (.slice a' S[k].2.length c') := by rw [HBL.out.cell (p := ⟨b, off + k * 2 + 1, none⟩) hb]; exact p1
        have HT := Lib.hid (yzT_succ (toksX_at hj))
        have HT2 := Lib.hid (yzT_le (ls := toksX S) (show k + 1 ≤ (toksX S).length by have := HTL.out; omega))
        obtain ⟨q1, q2⟩ := HX.out _ (List.mem_of_getElem? hj)
        obtain ⟨r, hr⟩ : ∃ r, szR S[k].2 m = r := ⟨_, rfl⟩
        have HC := Lib.hid (fun (W : World) (hW : Below w.heap.size w W) => xsz_one S[k].1 a' c' S[k].2 m r W hr ⟨hin'.below hW, q1, q2⟩ (by omega))
        have hcs := szR_cases S[k].2 m
        rw [hr] at hcs
        generalize S[k].1 = id at hcell0 HC
        generalize S[k].2 = l at hcell1 HT HC hcs
        clear hc hj hin' q1 q2 p0 p1 hr
        rcases hcs with ⟨rfl, hn⟩ | ⟨rfl, hn⟩
        · have HN := Lib.hid hn
          go_wp2_with (go_at_call 89; (refine (HC.out _ HBL.out).mono ?_); rintro e w1 ⟨rfl, hb1⟩; have HB1 := Lib.hid hb1; clear hb1)
          go_ret
          exact ⟨ret_int (by rw [yzR_no (by have := HS.out; have := HT.out; have := HT2.out; have := HTL.out; have := HN.out; unfold yzL; omega)]), HBL.out.trans (HB1.out.mono HBL.out.size)⟩
        · have HN := Lib.hid hn
          have hml : ((m - szL l : Nat) : Int) ≤ 1048576 := by omega
          obtain ⟨d, hd⟩ : ∃ d, m - szL l = d := ⟨_, rfl⟩
          have HD := Lib.hid hd
          rw [hd] at HC hml
          clear hn hd
          go_wp2_with (go_at_call 89; (refine (HC.out _ HBL.out).mono ?_); rintro e w1 ⟨rfl, hb1⟩; have HB1 := Lib.hid hb1; clear hb1)
          go_roundw
          case rel => exact ⟨k + 1, d, by omega, by go_num, rfl, by have := HD.out; omega, by have := HS.out; have := HT.out; have := HN.out; have := HD.out; omega, HBL.out.trans (HB1.out.mono HBL.out.size)⟩
          case measure => simp [intOf]; omega
      · obtain rfl : k = S.length := by omega
        go_wp2
        go_ret
        have e : yzT (toksX S) S.length = yzL (toksX S) := by unfold yzL; rw [HTL.out]
        exact ⟨ret_int (by rw [yzR_yes (by have := HS.out; omega)]; have := HS.out; omega), HBL.out⟩
  · go_enter Tryz.func53, Tryz.ntmps53
    go_wp2
    go_ret
    exact ⟨ret_int (by rw [yzR_no (by have := yzL_len (toksX S); have := HTL.out; omega)]), Below.refl _ _⟩

set_option maxRecDepth 100000 in
theorem szix_yes {w0 : World} (t : Int) (ta : Option Addr) (tc : Nat) (T : List TC) (xa : Option Addr) (xc : Nat) (S : List IS) (left r : Nat) (w : World) (h : ArgIx w0 ta T xa S) (hb : Below w0.heap.size w0 w) (hleft : left ≤ 1048576) (hr : r + ixz T S = left) :
    Calls Tryz.prog 20 #[.agg #[.int .i64 t, .slice ta T.length tc, .slice xa S.length xc], .int .i64 left] w fun e w' => e = .returned (.int .i64 r) ∧ Below w.heap.size w w' := by
  obtain ⟨m, hm⟩ : ∃ m : Nat, m + tzL T = left := ⟨left - tzL T, by unfold ixz at hr; omega⟩
  have HY := Lib.hid (show yzR (toksX S) m = (r : Int) by rw [yzR_yes (by unfold ixz at hr; omega)]; unfold ixz at hr; omega)
  have HM := Lib.hid hm
  have HA := Lib.hid (h.below hb)
  have hml : (m : Int) ≤ 1048576 := by omega
  have hrl : (r : Int) ≤ 1048576 := by unfold ixz at hr; omega
  clear h hb hm hr
  go_enter Tryz.func20, Tryz.ntmps20
  go_wp2_with (go_at_call 52; (refine (tz_yes ta tc T left m _ HA.out.1.1 ((Below.refl _ _).alloc (Nat.le_refl _) _) hleft HM.out).mono ?_); rintro e w1 ⟨rfl, hb1⟩; refine Hid.out ?_)
  have r1 := (BlkV.new w 48 #[.int .i64 t, .slice ta T.length tc, .slice xa S.length xc]).below hb1
  have q2 := r1.three2
  have HB1 := Lib.hid (below_new hb1)
  clear hb1 r1
  refine Lib.hid ?_
  go_wp2_with (go_at_call 53; (refine (xsz_any xa xc S m _ (HA.out.2.below HB1.out) (by omega)).mono ?_); rw [HY.out]; rintro e w2 ⟨rfl, hb2⟩; have HB2 := Lib.hid (HB1.out.trans (hb2.mono HB1.out.size)); clear hb2)
  go_ret
  exact ⟨rfl, HB2.out⟩
set_option maxRecDepth 100000 in
theorem szix_no {w0 : World} (t : Int) (ta : Option Addr) (tc : Nat) (T : List TC) (xa : Option Addr) (xc : Nat) (S : List IS) (left : Nat) (w : World) (h : ArgIx w0 ta T xa S) (hb : Below w0.heap.size w0 w) (hleft : left ≤ 1048576) (hr : ¬ ixz T S ≤ left) :
    Calls Tryz.prog 20 #[.agg #[.int .i64 t, .slice ta T.length tc, .slice xa S.length xc], .int .i64 left] w fun e w' => e = .returned (.int .i64 (-1)) ∧ Below w.heap.size w w' := by
  have HA := Lib.hid (h.below hb)
  clear h hb
  by_cases ht : tzL T ≤ left
  · obtain ⟨m, hm⟩ : ∃ m : Nat, m + tzL T = left := ⟨left - tzL T, by omega⟩
    have HY := Lib.hid (show yzR (toksX S) m = -1 by rw [yzR_no (by unfold ixz at hr; omega)])
    have HM := Lib.hid hm
    have hml : (m : Int) ≤ 1048576 := by omega
    clear hm hr
    go_enter Tryz.func20, Tryz.ntmps20
    go_wp2_with (go_at_call 52; (refine (tz_yes ta tc T left m _ HA.out.1.1 ((Below.refl _ _).alloc (Nat.le_refl _) _) hleft HM.out).mono ?_); rintro e w1 ⟨rfl, hb1⟩; refine Hid.out ?_)
    have r1 := (BlkV.new w 48 #[.int .i64 t, .slice ta T.length tc, .slice xa S.length xc]).below hb1
    have q2 := r1.three2
    have HB1 := Lib.hid (below_new hb1)
    clear hb1 r1
    refine Lib.hid ?_
    go_wp2_with (go_at_call 53; (refine (xsz_any xa xc S m _ (HA.out.2.below HB1.out) (by omega)).mono ?_); rw [HY.out]; rintro e w2 ⟨rfl, hb2⟩; have HB2 := Lib.hid (HB1.out.trans (hb2.mono HB1.out.size)); clear hb2)
    go_ret
    exact ⟨rfl, HB2.out⟩
  · have HT := Lib.hid ht
    clear ht hr
    go_enter Tryz.func20, Tryz.ntmps20
    go_wp2_with (go_at_call 52; (refine (tz_no ta tc T left _ HA.out.1.1 ((Below.refl _ _).alloc (Nat.le_refl _) _) hleft HT.out).mono ?_); rintro e w1 ⟨rfl, hb1⟩; have HB1 := Lib.hid (below_new hb1); clear hb1)
    go_ret
    exact ⟨rfl, HB1.out⟩

/-! ### copies -/
def GivesX1 (w : World) (id : Int) (l : List Str) (e : Ending) (w' : World) : Prop :=
  ∃ a cap, e = .returned (.agg #[.int .i64 id, .slice a l.length cap]) ∧ OwnS w' w.heap.size (.slice a l.length cap) l ∧ Below w.heap.size w w'

set_option maxRecDepth 100000 in
theorem xto_one (id : Int) (a : Option Addr) (cap : Nat) (l : List Str) (w : World) (hl : l.length ≤ 4000000) (hin : InS w a l) :
    Calls Tryz.prog 91 #[.agg #[.int .i64 id, .slice a l.length cap]] w (GivesX1 w id l) := by
  have HIN := Lib.hid hin
  clear hin
  obtain ⟨w3, hw3⟩ : ∃ w3, w3 = ((w.alloc (.cells #[.int .i64 id, .slice a l.length cap] 118)).alloc (.cells #[.int .i64 0, .slice none 0 0] 71)).alloc (.cells #[.int .i64 id, .slice none 0 0] 71) := ⟨_, rfl⟩
  have HW := Lib.hid hw3
  have HB3 := Lib.hid (show Below w.heap.size w w3 by rw [hw3]; exact (((Below.refl _ _).alloc (Nat.le_refl _) _).alloc (by simp) _).alloc (by simp; omega) _)
  have HR1 := Lib.hid (show BlkV w3 (w.heap.size + 1) 71 #[.int .i64 0, .slice none 0 0] by rw [hw3]; exact (BlkV.new_ _ _ _ _ (by simp)).alloc _)
  have HR2 := Lib.hid (show BlkV w3 (w.heap.size + 1 + 1) 71 #[.int .i64 id, .slice none 0 0] by rw [hw3]; exact BlkV.new_ _ _ _ _ (by simp))
  clear hw3
  go_enter Tryz.func91, Tryz.ntmps91
  go_wp2_with (go_at_call 114; rw [← HW.out]; (refine (to_any a cap l w3 hl (HIN.out.below HB3.out)).mono ?_); rintro e w' ⟨a1, c1, rfl, ho, hb⟩; refine Hid.out ?_)
  have r1 := HR1.out.below hb
  have r2 := HR2.out.below hb
  have HO := Lib.hid ho
  have HB := Lib.hid (HB3.out.trans (hb.mono HB3.out.size))
  have HS3 := Lib.hid (show w3.heap.size = w.heap.size + 3 by rw [HW.out]; simp)
  clear ho hb
  have R1 := Lib.hid r1
  have c10 := r1.two0
  have c11 := r1.two1
  have f10 := r1.frozen 0
  have f11 := r1.frozen 1
  have c20 := r2.two0
  have c21 := r2.two1
  have f21 := r2.frozen 1
  clear r1 r2
  refine Lib.hid ?_
  go_wp2
  have z := ((R1.out.other ⟨w.heap.size + 1 + 1, 1, none⟩ (.slice a1 l.length c1) (by simp)).set_ 0 (.int .i64 id)).set_ 1 (.slice a1 l.length c1)
  have e0 : _ = some (Value.int .i64 id) := z.cell 0
  have e1 : _ = some (Value.slice a1 l.length c1) := z.cell 1
  have hs3 := HS3.out
  refine bodyPost_ret (v := .agg #[.int .i64 id, .slice a1 l.length c1]) (by simp [results, Tryz.results91, go_sem, e0, e1]) rfl ⟨_, _, rfl, ?_, ?_⟩
  · exact OwnS.mono (row_setCell (row_setCell (row_setCell HO.out _ _ (by simp; omega)) _ _ (by simp; omega)) _ _ (by simp; omega)) HB3.out.size
  · exact ((HB.out.setCell (by simp; omega) _).setCell (by simp) _).setCell (by simp) _

theorem gap2_at {p : List Value} {k : Nat} {y0 y1 : Value} {r : List Value} (h : p.length = k * 2) : (p ++ y0 :: y1 :: r)[k * 2]? = some y0 ∧ (p ++ y0 :: y1 :: r)[k * 2 + 1]? = some y1 := by
  constructor
  · rw [List.getElem?_append_right (by omega), h, Nat.sub_self]; rfl
  · rw [List.getElem?_append_right (by omega), h, show k * 2 + 1 - k * 2 = 1 by omega]; rfl
theorem gap2_set {p : List Value} {k : Nat} {y0 y1 u0 u1 : Value} {r : List Value} (h : p.length = k * 2) : ((p ++ y0 :: y1 :: r).set (k * 2) u0).set (k * 2 + 1) u1 = (p ++ [u0, u1]) ++ r := by
  rw [List.set_append_right _ _ (by omega), h, Nat.sub_self, List.set_append_right _ _ (by omega), h, show k * 2 + 1 - k * 2 = 1 by omega]
  simp
theorem gap2_rest {p rest : List Value} {k n : Nat} (h : (p ++ rest).length = n * 2) (hp : p.length = k * 2) (hk : k < n) : ∃ y0 y1 r, rest = y0 :: y1 :: r := by
  rw [List.length_append, hp] at h
  match rest, h with
  | [], h => simp at h; omega
  | [_], h => simp at h; omega
  | y0 :: y1 :: r, _ => exact ⟨y0, y1, r, rfl⟩

/-- a slice of indexed sets of the call's own is handed back -/
def GivesX (w : World) (S : List IS) (e : Ending) (w' : World) : Prop :=
  ∃ a cap q, e = .returned (.slice a S.length cap) ∧ setsX q = S ∧ OwnX w' w.heap.size (.slice a S.length cap) q ∧ Below w.heap.size w w'
theorem row_keptX {w w' : World} {base : Nat} {v : Value} {l : List Str} {g : Nat} (h : OwnS w base v l) (hg : w.grownBy w' (some g)) (hn : ∀ k, v.ownBlock = some k → k ≠ g) : OwnS w' base v l := row_kept h hg hn

set_option maxRecDepth 100000 in
set_option maxHeartbeats 2000000 in
theorem xto_any (a : Option Addr) (cap : Nat) (S : List IS) (w : World) (hz : yzL (toksX S) ≤ 1048576) (hin : InX w a S) :
    Calls Tryz.prog 55 #[.slice a S.length cap] w (GivesX w S) := by
  obtain ⟨i0, hi, hz0, hz1, hz2⟩ := info_parts info_ixs
  have HIN := Lib.hid hin
  have HZ := Lib.hid (sx_mem hz)
  have hl := sx_len hz
  clear hin hz
  go_enter Tryz.func55, Tryz.ntmps55
  go_wp2_with (at_make; refine wpList_make_full _ rfl _ _ 25 rfl w.heap.size 71 i0 _ 2 Tryz.underlying25 hi hz0 hz1 .i64 .i64 _ _ S.length rfl rfl rfl rfl (by rw [hz2]; omega) (by unfold maxLen; omega) (Nat.le_refl _) ?_; intro w1 hrow hg)
  have HROW := Lib.hid hrow
  have HB1 := Lib.hid ((Below.refl w.heap.size w).grown hg (Nat.le_refl _) (fun k hk => by cases hk))
  have HLT := Lib.hid (World.ownsRow.lt hrow w.heap.size rfl).2
  clear hrow hg
  go_loopw [4] (fun i wr => ∃ (k : Nat) (q : List XS) (rest : List Value), k ≤ S.length ∧ i = .int .i64 k ∧ setsX q = S.take k ∧ wr.ownsRow w.heap.size 71 2 (.slice (some ⟨w.heap.size, 0, none⟩) S.length S.length) S.length (flatX q ++ rest) ∧
    (∀ p ∈ q, OwnS wr (w.heap.size + 1) p.2 p.1.2) ∧ (q.Pairwise fun p r => ∀ k, p.2.ownBlock = some k → r.2.ownBlock ≠ some k) ∧ Below w.heap.size w wr ∧ w.heap.size < wr.heap.size) (fun i _ => S.length - (intOf i).toNat)
  case atStart => exact ⟨0, [], _, Nat.zero_le _, rfl, rfl, HROW.out, (fun p h => by cases h), List.Pairwise.nil, HB1.out, HLT.out⟩
  case round =>
    obtain ⟨k, q, rest, hk, rfl, hq, hrow, hrows, hdis, hb, hws⟩ := hrel
    by_cases hlt : k < S.length
    · obtain ⟨b, off, rfl, hbw, hc⟩ := HIN.out (by omega)
      have hj := List.getElem?_eq_getElem hlt
      obtain ⟨a', c', p0, p1, _, _, hin'⟩ := hc k _ hj
      have hcell0 : wr.cell? ⟨b, off + k * 2, none⟩ = some (.int .i64 S[k].1) := by rw [hb.cell (p := ⟨b, off + k * 2, none⟩) hbw]; exact p0
      have hcell1 : wr.cell? ⟨b, off + k * 2 + 1, none⟩ = some (.slice a' S[k].2.length c') := by rw [hb.cell (p := ⟨b, off + k * 2 + 1, none⟩) hbw]; exact p1
      have HC := Lib.hid (xto_one S[k].1 a' c' S[k].2 wr (HZ.out _ (List.mem_of_getElem? hj)).1 (hin'.below hb))
      have HJ := Lib.hid (show S[k]? = some (S[k].1, S[k].2) from hj)
      generalize S[k].1 = id at hcell0 HC HJ
      generalize S[k].2 = l at hcell1 HC HJ
      have HROW2 := Lib.hid hrow
      have HROWS := Lib.hid hrows
      have HDIS := Lib.hid hdis
      have HB := Lib.hid hb
      have HQ := Lib.hid hq
      have HWS := Lib.hid hws
      have hql : q.length = k := by rw [← setsX_len, hq, List.length_take]; omega
      have HQL := Lib.hid (show (flatX q).length = k * 2 by rw [flatX_len, hql])
      clear hc hj hin' p0 p1 hrow hrows hdis hb hq hws hbw hql
      go_wp2_with (go_at_call 91; (refine HC.out.mono ?_); rintro e w2 ⟨a2, c2, rfl, ho2, hb2⟩; refine Hid.out ?_)
      refine Lib.hid ?_
      have hrow2 := World.ownsRow.kept HROW2.out (row := none) ⟨hb2.os, hb2.tape, hb2.output, hb2.size, fun i hi _ => hb2.block i hi⟩ (by simp [Value.ownBlock])
      obtain ⟨y0, y1, r2, rfl⟩ := gap2_rest hrow2.1 HQL.out hlt
      have q0 := hrow2.cellAt (k * 2) (by omega)
      have q1 := hrow2.cellAt (k * 2 + 1) (by omega)
      rw [(gap2_at HQL.out).1] at q0
      rw [(gap2_at HQL.out).2] at q1
      have f0 := hrow2.frozenAt (k * 2)
      have f1 := hrow2.frozenAt (k * 2 + 1)
      have HN := Lib.hid (hrow2.stored (k * 2) (.int .i64 id))
      have HN2 := Lib.hid (HN.out.1.stored (k * 2 + 1) (.slice a2 l.length c2))
      have HO2 := Lib.hid ho2
      have HB2 := Lib.hid hb2
      clear hb2 hrow2 ho2
      go_wp2
      go_roundw
      case rel =>
        have hlow : ∀ p ∈ q, ∀ k', p.2.ownBlock = some k' → w.heap.size + 1 ≤ k' ∧ k' < wr.heap.size := fun p hp k' hk' => World.ownsRow.lt (HROWS.out p hp) k' hk'
        have hnew : ∀ k', (Value.slice a2 l.length c2).ownBlock = some k' → wr.heap.size ≤ k' := fun k' hk' => (World.ownsRow.lt HO2.out k' hk').1
        have hws := HWS.out
        have hgg := grown_trans' HN.out.2 HN2.out.2
        refine ⟨k + 1, q ++ [((id, l), .slice a2 l.length c2)], r2, by omega, by go_num, ?_, ?_, ?_, ?_, ?_, ?_⟩
        · rw [ixs_take HJ.out, ← HQ.out]; simp [setsX]
        · have h := HN2.out.1
          rw [gap2_set HQL.out] at h
          rw [flatX_snoc]
          exact h
        · intro p hp
          rcases List.mem_append.1 hp with h | h
          · exact row_kept ((HROWS.out p h).below HB2.out) hgg fun k' hk' => by have := hlow p h k' hk'; omega
          · simp at h
            subst h
            exact row_kept (HO2.out.mono (by omega)) hgg fun k' hk' => by have := hnew k' hk'; omega
        · rw [List.pairwise_append]
          refine ⟨HDIS.out, by simp, fun p hp r hr k' hk' e => ?_⟩
          simp at hr
          subst hr
          have := hnew k' e
          have := hlow p hp k' hk'
          omega
        · exact (HB.out.trans (HB2.out.mono HB.out.size)).grown hgg (Nat.le_trans HB.out.size HB2.out.size) (fun j hj => by cases hj; exact Nat.le_refl _)
        · exact Nat.lt_of_lt_of_le hws (Nat.le_trans HB2.out.size hgg.size)
      case measure => simp [intOf]; omega
    · obtain rfl : k = S.length := by omega
      have HROW2 := Lib.hid hrow
      have HROWS := Lib.hid hrows
      have HDIS := Lib.hid hdis
      clear hrow hrows hdis
      go_wp2
      go_ret
      have h := HROW2.out
      rw [List.take_length] at hq
      have hql : q.length = S.length := by rw [← setsX_len, hq]
      have h1 := h.1
      rw [List.length_append, flatX_len, hql] at h1
      obtain rfl : rest = [] := List.eq_nil_of_length_eq_zero (by omega)
      rw [List.append_nil, ← hql] at h
      refine ⟨_, _, q, rfl, hq, ⟨by rw [← hql]; exact h, fun p hp => (HROWS.out p hp).mono (by omega), fun p hp k' hk' e => ?_, HDIS.out⟩, hb⟩
      have h4 := (World.ownsRow.lt (HROWS.out p hp) k' hk').1
      simp [Value.ownBlock] at e
      omega

end Go.Proofs.YthjbekgognfiiaaGreat

/-
  A prefix index: its keys, what inserting and removing a set does. By an AI agent.
-/
namespace Go.Proofs.YthjbekgognfiiaaGreat
open Go.RowKit Go.Maps Go.Sort
set_option linter.unusedVariables false

theorem one_empty (w : World) (g : Nat) (hg : w.heap.size = g) : OwnS (w.alloc (.cells #[.string ⟨#[]⟩] 9)) g (.slice (some ⟨g, 0, none⟩) 1 1) [[]] := by
  subst hg
  exact ⟨rfl, .inr ⟨w.heap.size, 1, _, rfl, Nat.le_refl _, heap_alloc_new w _, Nat.le_refl _, by unfold maxLen; omega, rfl, rfl⟩⟩

set_option maxRecDepth 100000 in
theorem keys_any (t : Int) (ta : Option Addr) (tc : Nat) (T : List TC) (V : Value) (a : Option Addr) (c : Nat) (l ks : List Str) (w : World) (hk : keysR T t l = ks) (hT : SmW w ta T tc) (hS : Sm w a l c) :
    Calls Tryz.prog 69 #[.agg #[.int .i64 t, .slice ta T.length tc, V], .slice a l.length c] w (GivesS w ks) := by
  have HB := Lib.hid ((Below.refl w.heap.size w).alloc (Nat.le_refl _) (.cells #[.int .i64 t, .slice ta T.length tc, V] 64))
  have hl := hS.2.2.2.1
  by_cases h0 : l.length = 0
  · obtain rfl : [[]] = ks := by rw [← hk]; unfold keysR; rw [if_pos h0]
    clear hk hT hS
    go_enter Tryz.func69, Tryz.ntmps69
    go_wp2
    go_ret
    exact ⟨_, _, rfl, OwnS.mono (one_empty _ _ (by simp)) (by simp), HB.out.alloc HB.out.size _⟩
  · have HP := Lib.hid (pt_impl ta a tc c T l t ks (w.alloc (.cells #[.int .i64 t, .slice ta T.length tc, V] 64)) (by rw [← hk]; unfold keysR; rw [if_neg h0]) (hT.below HB.out) (hS.below HB.out))
    have hz : ¬ ((l.length : Int) = 0) := by omega
    clear hk hT hS
    go_enter Tryz.func69, Tryz.ntmps69
    go_wp2_with (go_at_call 105; (refine HP.out.mono ?_); rintro e w1 ⟨a1, c1, rfl, ho, hb⟩; have HO := Lib.hid ho; have HB1 := Lib.hid hb; clear ho hb)
    go_ret
    exact ⟨_, _, rfl, OwnS.mono HO.out HB.out.size, HB.out.trans (HB1.out.mono HB.out.size)⟩

/-- what may change: the map of maps, its maps, and nothing else -/
structure HChg (w w' : World) (bH : Nat) (g : Str → Option Nat) : Prop where
  os : w'.os = w.os
  tape : w'.tape = w.tape
  output : w'.output = w.output
  size : w.heap.size ≤ w'.heap.size
  block : ∀ k, k < w.heap.size → k ≠ bH → (∀ x, g x ≠ some k) → w'.heap[k]? = w.heap[k]?
theorem HChg.of {w w' : World} {bH : Nat} {g : Str → Option Nat} (h : Below w.heap.size w w') : HChg w w' bH g := ⟨h.os, h.tape, h.output, h.size, fun k hk _ _ => h.block k hk⟩
theorem HChg.grown {w w1 w2 : World} {bH r : Nat} {g : Str → Option Nat} (h : HChg w w1 bH g) (hg : w1.grownBy w2 (some r)) (hr : r = bH ∨ (∃ x, g x = some r) ∨ w.heap.size ≤ r) : HChg w w2 bH g :=
  ⟨hg.os.trans h.os, hg.tape.trans h.tape, hg.output.trans h.output, Nat.le_trans h.size hg.size, fun k hk h1 h2 => (hg.block k (Nat.lt_of_lt_of_le hk h.size) (fun e => by
    injection e with e
    subst e
    rcases hr with h3 | ⟨x, h3⟩ | h3
    · exact h1 h3
    · exact h2 x h3
    · omega)).trans (h.block k hk h1 h2)⟩
theorem HChg.below {w w' : World} {lo bH : Nat} {g : Str → Option Nat} (h : HChg w w' bH g) (h1 : lo ≤ bH) (h2 : ∀ x b, g x = some b → lo ≤ b) (hlo : lo ≤ w.heap.size) : Below lo w w' :=
  ⟨h.os, h.tape, h.output, h.size, fun k hk => h.block k (by omega) (by omega) (fun x e => by have := h2 x k e; omega)⟩
theorem BlkV.hchg {w w' : World} {gg bH : Nat} {t : TypeId} {cs : Array Value} {g : Str → Option Nat} (h : BlkV w gg t cs) (hc : HChg w w' bH g) (h1 : gg ≠ bH) (h2 : ∀ x, g x ≠ some gg) : BlkV w' gg t cs := (hc.block gg h.lt h1 h2).trans h

theorem q_mapnil (t k e : TypeId) (ht : Tryz.prog.underlying t = some (.map k e)) (w : World) (o : Option Nat) : (binOp .eql t (.map o) (.map none)).run Tryz.prog w = .ok (.bool o.isNone) w := by
  have h : (Op.equal t (.map o) (.map none)).run Tryz.prog w = .ok o.isNone w := by
    have h2 : ∀ d : Nat, (Op.equalIn (d + 1) t (.map o) (.map none)).run Tryz.prog w = .ok o.isNone w := fun d => by
      cases o <;> simp [Op.equalIn, run_underlying ht]
    simp [Op.equal, Op.maxDepth, h2 9999]
  simp [binOp, go_sem, h]
theorem zeroMap (w : World) : (zeroValue 61).run Tryz.prog w = .ok (.map none) w := by kernel_rfl

end Go.Proofs.YthjbekgognfiiaaGreat

/-
  What the laws' own markTokenCountS and heldTokenCountS do. By an AI agent.
-/
namespace Go.Proofs.YthjbekgognfiiaaGreat
open Go.RowKit
set_option linter.unusedVariables false

def tmarks (k0 n : Nat) : List TC := (List.range n).map fun j => (markL (k0 + 2 * j), ((k0 + 2 * j + 1 : Nat) : Int))
theorem tmarks_len (k0 n : Nat) : (tmarks k0 n).length = n := by simp [tmarks]
theorem tmarks_succ (k0 n : Nat) : tmarks k0 (n + 1) = tmarks k0 n ++ [(markL (k0 + 2 * n), ((k0 + 2 * n + 1 : Nat) : Int))] := by simp [tmarks, List.range_succ]
theorem tmarks_at {k0 n j : Nat} (h : j < n) : (tmarks k0 n)[j]? = some (markL (k0 + 2 * j), ((k0 + 2 * j + 1 : Nat) : Int)) := by simp [tmarks, h]

theorem gap_at {p : List TC} {k : Nat} {y0 y1 : Value} {r : List Value} (hp : p.length = k) : (flatT p ++ y0 :: y1 :: r)[k * 2]? = some y0 ∧ (flatT p ++ y0 :: y1 :: r)[k * 2 + 1]? = some y1 := by
  have h : (flatT p).length = k * 2 := by rw [flat_len, hp]
  constructor
  · rw [List.getElem?_append_right (by omega), h, Nat.sub_self]; rfl
  · rw [List.getElem?_append_right (by omega), h, show k * 2 + 1 - k * 2 = 1 by omega]; rfl
theorem gap_set0 {p : List TC} {k : Nat} {y0 y1 u : Value} {r : List Value} (hp : p.length = k) : (flatT p ++ y0 :: y1 :: r).set (k * 2) u = flatT p ++ u :: y1 :: r := by
  have h : (flatT p).length = k * 2 := by rw [flat_len, hp]
  rw [List.set_append_right _ _ (by omega), h, Nat.sub_self]; rfl
theorem gap_set1 {p : List TC} {k : Nat} {y0 y1 u : Value} {r : List Value} (hp : p.length = k) : (flatT p ++ y0 :: y1 :: r).set (k * 2 + 1) u = flatT p ++ y0 :: u :: r := by
  have h : (flatT p).length = k * 2 := by rw [flat_len, hp]
  rw [List.set_append_right _ _ (by omega), h, show k * 2 + 1 - k * 2 = 1 by omega]; rfl
theorem flat_drop {l : List TC} {k : Nat} {x : TC} (h : l[k]? = some x) : flatT (l.drop k) = encStr x.1 :: .int .i64 x.2 :: flatT (l.drop (k + 1)) := by
  obtain ⟨hlt, he⟩ := List.getElem?_eq_some_iff.1 h
  rw [List.drop_eq_getElem_cons hlt, he]
  simp [flatT, encT]

def MarkedT (w : World) (base : Nat) (a : Option Addr) (n cap k0 : Nat) (e : Ending) (w' : World) : Prop :=
  e = .returned (.int .i64 ((k0 + 2 * n : Nat) : Int)) ∧ OwnT w' base (.slice a n cap) (tmarks k0 n) ∧ w.grownBy w' (Value.slice a n cap).ownBlock

set_option maxRecDepth 100000 in
theorem tmark_any (base : Nat) (a : Option Addr) (cap : Nat) (l : List TC) (k0 : Nat) (w : World) (hl : l.length ≤ 4000000) (hk0 : 0 < k0) (hk1 : k0 ≤ 4000000) (hown : OwnT w base (.slice a l.length cap) l) :
    Calls Tryz.prog 59 #[.slice a l.length cap, .int .i64 k0] w (MarkedT w base a l.length cap k0) := by
  have HOWN := Lib.hid hown
  clear hown
  go_enter Tryz.func59, Tryz.ntmps59
  go_wp2
  go_loopw [1, 5] (fun kk i wr => ∃ k : Nat, k ≤ l.length ∧ i = .int .i64 k ∧ kk = .int .i64 ((k0 + 2 * k : Nat) : Int) ∧ wr.ownsRow base 109 2 (.slice a l.length cap) l.length (flatT (tmarks k0 k) ++ flatT (l.drop k)) ∧ w.grownBy wr (Value.slice a l.length cap).ownBlock) (fun _ i _ => l.length - (intOf i).toNat)
  case atStart => exact ⟨0, Nat.zero_le _, rfl, by go_num, HOWN.out, World.grownBy.refl _ _⟩
  case round =>
    obtain ⟨k, hk, rfl, rfl, hrow, hg⟩ := hrel
    have HROW := Lib.hid hrow
    have HG := Lib.hid hg
    clear hrow hg
    by_cases hlt : k < l.length
    · obtain ⟨g, rfl, hbg, hgl⟩ := ownT_at HROW.out (by omega)
      have HGL := Lib.hid hgl
      clear hgl hbg
      go_wp2_with (go_at_call 94; (refine (mark_text (k0 + 2 * k) _ (by omega) (by omega)).mono ?_); rintro e w1 ⟨rfl, hb1⟩; refine Hid.out ?_)
      refine Lib.hid ?_
      have HB1 := Lib.hid hb1
      have hrow1 := World.ownsRow.kept HROW.out (row := none) (grown_of_below hb1 none) (.inr (by simp [Value.ownBlock]))
      have hx := List.getElem?_eq_getElem hlt
      rw [flat_drop hx] at hrow1
      have q0 := hrow1.cellAt (k * 2) (by omega)
      have q1 := hrow1.cellAt (k * 2 + 1) (by omega)
      rw [(gap_at (tmarks_len k0 k)).1] at q0
      rw [(gap_at (tmarks_len k0 k)).2] at q1
      have f0 := hrow1.frozenAt (k * 2)
      have f1 := hrow1.frozenAt (k * 2 + 1)
      have HN := Lib.hid (hrow1.stored (k * 2) (encStr (markL (k0 + 2 * k))))
      have HN2 := Lib.hid (HN.out.1.stored (k * 2 + 1) (.int .i64 ((k0 + 2 * k + 1 : Nat) : Int)))
      clear hb1 hrow1 hx
      go_wp2
      go_roundw
      case rel =>
        refine ⟨k + 1, by omega, by go_num, by go_num, ?_, ?_⟩
        · have h := HN2.out.1
          rw [gap_set0 (tmarks_len k0 k), gap_set1 (tmarks_len k0 k)] at h
          rw [tmarks_succ, flat_snoc, List.append_assoc]
          exact h
        · exact grown_trans' (grown_trans' (grown_trans' HG.out (grown_of_below HB1.out _)) HN.out.2) HN2.out.2
      case measure => simp [intOf]; omega
    · obtain rfl : k = l.length := by omega
      go_wp2
      go_ret
      refine ⟨rfl, ?_, HG.out⟩
      have h := HROW.out
      rw [List.drop_length, flat_nil, List.append_nil] at h
      unfold OwnT
      rw [tmarks_len]
      exact h

end Go.Proofs.YthjbekgognfiiaaGreat

/-
  Slices of integers: one that reads as a list; what impl.allWithin answers. By an AI agent.
-/
namespace Go.Proofs.YthjbekgognfiiaaGreat
open Go.RowKit
set_option linter.unusedVariables false

/-- a slice whose elements are the integers of a list -/
def InI (w : World) (a : Option Addr) (l : List Int) : Prop :=
  0 < l.length → ∃ b off, a = some ⟨b, off, none⟩ ∧ b < w.heap.size ∧ ∀ j x, l[j]? = some x → w.cell? ⟨b, off + j, none⟩ = some (.int .i64 x)

theorem InI.keep {w w' : World} {a : Option Addr} {l : List Int} (h : InI w a l) (hs : w.heap.size ≤ w'.heap.size) (hk : ∀ b off, a = some ⟨b, off, none⟩ → b < w.heap.size → w'.heap[b]? = w.heap[b]?) : InI w' a l := by
  intro h0
  obtain ⟨b, off, ha, hb, hc⟩ := h h0
  exact ⟨b, off, ha, Nat.lt_of_lt_of_le hb hs, fun j x hj => (World.cell?_of_block (hk b off ha hb)).trans (hc j x hj)⟩
theorem InI.below {w w' : World} {a : Option Addr} {l : List Int} (h : InI w a l) (hb : Below w.heap.size w w') : InI w' a l :=
  h.keep hb.size fun b _ _ hlt => hb.block b hlt
theorem InI.alloc {w : World} {a : Option Addr} {l : List Int} (h : InI w a l) (o : Obj) : InI (w.alloc o) a l := h.below ((Below.refl _ _).alloc (Nat.le_refl _) o)
theorem InI.new (w : World) (l : List Int) : InI (w.alloc (.cells (l.map fun z => Value.int .i64 z).toArray 3)) (some ⟨w.heap.size, 0, none⟩) l := by
  intro h0
  refine ⟨w.heap.size, 0, rfl, by simp, fun j x hj => ?_⟩
  rw [World.cell?_alloc_at _ _ _ _ rfl]
  simp [hj]

/-- every number lies from lo to hi -/
def withinB (lo hi : Int) (l : List Int) : Bool := l.all fun x => decide (lo ≤ x) && decide (x ≤ hi)
theorem within_zero (lo hi : Int) (l : List Int) : withinB lo hi (l.take 0) = true := by simp [withinB]
theorem within_yes {lo hi x : Int} {l : List Int} {k : Nat} (h : withinB lo hi (l.take k) = true) (hx : l[k]? = some x) (h1 : lo ≤ x) (h2 : x ≤ hi) : withinB lo hi (l.take (k + 1)) = true := by
  obtain ⟨hlt, he⟩ := List.getElem?_eq_some_iff.1 hx
  rw [List.take_succ_eq_append_getElem hlt, he]
  unfold withinB at h ⊢
  rw [List.all_append, h]
  simp [h1, h2]
theorem within_no {lo hi x : Int} {l : List Int} (hx : x ∈ l) (h : ¬ (lo ≤ x ∧ x ≤ hi)) : withinB lo hi l = false := by
  rw [Bool.eq_false_iff]
  intro e
  have h1 := List.all_eq_true.1 e x hx
  simp at h1
  exact h h1
theorem within_mem {lo hi x : Int} {l : List Int} (h : withinB lo hi l = true) (hx : x ∈ l) : lo ≤ x ∧ x ≤ hi := by
  have h1 := List.all_eq_true.1 h x hx
  simpa using h1

theorem iret_bool {a b : Bool} (h : a = b) : Ending.returned (.bool a) = .returned (.bool b) := by rw [h]
theorem iret_int {k : IntKind} {a b : Int} (h : a = b) : Ending.returned (.int k a) = .returned (.int k b) := by rw [h]

set_option maxRecDepth 100000 in
theorem within_is (lo hi : Int) (a : Option Addr) (cap : Nat) (l : List Int) (r : Bool) (w : World) (hl : l.length ≤ 4000000) (hin : InI w a l) (hr : withinB lo hi l = r) :
    Calls Tryz.prog 70 #[.int .i64 lo, .int .i64 hi, .slice a l.length cap] w fun e w' => e = .returned (.bool r) ∧ w' = w := by
  have HR := Lib.hid hr
  have HIN := Lib.hid hin
  clear hr hin
  go_enter Tryz.func70, Tryz.ntmps70
  go_wp2
  go_loop [11] (fun i => ∃ k : Nat, k ≤ l.length ∧ i = .int .i64 k ∧ withinB lo hi (l.take k) = true) (fun i => l.length - (intOf i).toNat)
  case atStart => exact ⟨0, Nat.zero_le _, rfl, within_zero _ _ _⟩
  case round =>
    obtain ⟨k, hk, rfl, hw⟩ := hrel
    have HW := Lib.hid hw
    clear hw
    by_cases hlt : k < l.length
    · obtain ⟨b, off, rfl, hb, hc⟩ := HIN.out (by omega)
      obtain ⟨x, hx⟩ : ∃ x, l[k]? = some x := ⟨_, List.getElem?_eq_getElem hlt⟩
      have hcell : w.cell? ⟨b, off + k, none⟩ = some (.int .i64 x) := hc k x hx
      have HX := Lib.hid hx
      clear hc hx
      by_cases h1 : lo ≤ x
      · by_cases h2 : x ≤ hi
        · go_wp2
          go_round
          case rel => exact ⟨k + 1, by omega, by go_num, within_yes HW.out HX.out h1 h2⟩
          case measure => simp [intOf]; omega
        · go_wp2
          go_ret
          exact ⟨iret_bool (by rw [← HR.out, within_no (List.mem_of_getElem? HX.out) (fun e => by omega)]), rfl⟩
      · go_wp2
        go_ret
        exact ⟨iret_bool (by rw [← HR.out, within_no (List.mem_of_getElem? HX.out) (fun e => by omega)]), rfl⟩
    · obtain rfl : k = l.length := by omega
      go_wp2
      go_ret
      exact ⟨iret_bool (by have := HW.out; rw [List.take_length, HR.out] at this; exact this.symm), rfl⟩

end Go.Proofs.YthjbekgognfiiaaGreat

/-
  What the laws' own toIntS and eqIntS do; an argument of a law that is a slice of integers. By an AI agent.
-/
namespace Go.Proofs.YthjbekgognfiiaaGreat
open Go.RowKit
set_option linter.unusedVariables false

theorem info_i64 : (Tryz.prog.info? 3).map (fun i => (i.zero, i.size, i.bytes)) = some (some (.int .i64 0), 1, 8) := by kernel_rfl

def encI (z : Int) : Value := .int .i64 z
/-- the first k numbers are copied, the rest is 0 -/
def fillI (l : List Int) (k : Nat) : List Value := (l.take k).map encI ++ List.replicate (l.length - k) (.int .i64 0)
theorem filli_zero (l : List Int) : fillI l 0 = List.replicate l.length (.int .i64 0) := by simp [fillI]
theorem filli_all (l : List Int) : fillI l l.length = l.map encI := by simp [fillI]
theorem filli_len {l : List Int} {k : Nat} (h : k < l.length) : ((l.take k).map encI).length = k := by
  rw [List.length_map, List.length_take]; omega
theorem filli_at {l : List Int} {k : Nat} (h : k < l.length) : (fillI l k)[k]? = some (.int .i64 0) := by
  unfold fillI
  rw [List.getElem?_append_right (by rw [filli_len h]; omega), filli_len h, Nat.sub_self, List.getElem?_replicate, if_pos (by omega)]
theorem filli_set {l : List Int} {k : Nat} {x : Int} (h : l[k]? = some x) : (fillI l k).set k (encI x) = fillI l (k + 1) := by
  obtain ⟨hlt, he⟩ := List.getElem?_eq_some_iff.1 h
  have e1 : l.length - k = (l.length - (k + 1)) + 1 := by omega
  unfold fillI
  rw [List.set_append_right _ _ (by rw [filli_len hlt]; omega), filli_len hlt, Nat.sub_self, e1, List.replicate_succ, List.take_succ_eq_append_getElem hlt, he, List.set_cons_zero]
  simp

/-- a slice of integers of the call's own -/
def OwnI (w : World) (base : Nat) (v : Value) (l : List Int) : Prop := w.ownsRow base 3 1 v l.length (l.map encI)

theorem OwnI.inI {w : World} {base : Nat} {a : Option Addr} {n cap : Nat} {l : List Int} (h : OwnI w base (.slice a n cap) l) : InI w a l := by
  intro h0
  rcases h.2 with ⟨_, h1⟩ | ⟨g, cap', cur, hv, hb, hg, _, _, _, ht⟩
  · omega
  · simp only [Value.slice.injEq] at hv
    obtain ⟨rfl, -, -⟩ := hv
    refine ⟨g, 0, rfl, (Array.getElem?_eq_some_iff.1 hg).1, fun j x hj => ?_⟩
    obtain ⟨hlt, he⟩ := List.getElem?_eq_some_iff.1 hj
    rw [Nat.zero_add, cell_of_row w g j cur _ (0, 0) hg, ← Array.getElem?_toList]
    have h2 : (cur.toList.take (l.length * 1))[j]? = (l.map encI)[j]? := by rw [ht]
    rw [List.getElem?_take_of_lt (by omega)] at h2
    rw [h2]
    simp [he, hlt, encI]

theorem OwnI.shape {w : World} {base : Nat} {v : Value} {l : List Int} (h : OwnI w base v l) : ∃ a cap, v = .slice a l.length cap := by
  rcases h.2 with ⟨rfl, h0⟩ | ⟨g, cap, cur, rfl, _⟩
  · exact ⟨none, 0, by rw [h0]⟩
  · exact ⟨_, _, rfl⟩
theorem OwnI.alloc {w : World} {base : Nat} {v : Value} {l : List Int} (h : OwnI w base v l) (o : Obj) : OwnI (w.alloc o) base v l := World.ownsRow.alloc h o
theorem OwnI.made (w : World) (base : Nat) (cur : Array Value) (cap : Nat) (hb : base ≤ w.heap.size) (hm : cap ≤ maxLen) (hs : cur.size = cap) :
    OwnI (w.alloc (.cells cur 3)) base (.slice (some ⟨w.heap.size, 0, none⟩) 0 cap) [] :=
  World.ownsRow_made w cur cap hb hm (by omega)

/-- append of one integer, which lies in a new block of one cell -/
theorem append_i {ops : Array Oper} {rest : List Oper} {o : Oper} {a : Act} {Q : Exit → Act → World → Prop} {w0 : World} (hgd : o.guard = none) (s y : Operand)
    (ho : o.op = .call { callee := .builtin .append, args := #[s, y], argTypes := #[31, 31] })
    (base : Nat) (v : Value) (l : List Int) (x : Int) (hown : OwnI w0 base v l) (hs : a.eval s = v)
    (hy : a.eval y = .slice (some ⟨w0.heap.size, 0, none⟩) 1 1) (hlen : l.length ≤ 4000000) (hbase : base ≤ w0.heap.size)
    (h : ∀ v' w', OwnI w' base v' (l ++ [x]) → w0.grownBy w' v.ownBlock → (v'.ownBlock = v.ownBlock ∨ v'.ownBlock = some (w0.heap.size + 1)) → wpList Tryz.prog ops Q rest (a.put o.dst v') w') :
    wpList Tryz.prog ops Q (o :: rest) a (w0.alloc (.cells #[.int .i64 x] 3)) := by
  obtain ⟨i0, hi, hz0, hz1, hz2⟩ := info_parts info_i64
  refine wpList_append_own_at _ hgd s y 31 ho base 3 i0 (.int .i64 0) 1 8 Tryz.underlying31 hi hz0 hz1 hz2 rfl (by decide) v l.length (l.map encI) hs (World.ownsRow.alloc hown _)
    ⟨w0.heap.size, 0, none⟩ 1 1 [.int .i64 x] hy rfl (cell_one_new _ _ _) ?_ (by unfold maxLen; omega) (by omega) (by simp; omega) ?_
  · intro u hu
    simp at hu
    subst hu
    rfl
  · intro v' w' h2 h3 _ h5
    refine h v' w' ?_ ((World.grownBy_alloc w0 _ _).trans h3) (by rcases h5 with e | e; exact .inl e; exact .inr (by rw [e]; simp))
    have e1 : (l ++ [x]).length = l.length + 1 := by simp
    have e2 : (l ++ [x]).map encI = l.map encI ++ [.int .i64 x] := by simp [encI]
    unfold OwnI
    rw [e1, e2]
    exact h2

/-- two slices of integers of the call's own, in different blocks -/
def PairI (w : World) (base : Nat) (u v : Value) (l m : List Int) : Prop := OwnI w base u l ∧ OwnI w base v m ∧ ∀ k, u.ownBlock = some k → v.ownBlock ≠ some k
theorem PairI.swap {w : World} {base : Nat} {u v : Value} {l m : List Int} (h : PairI w base u v l m) : PairI w base v u m l := ⟨h.2.1, h.1, fun k hk e => h.2.2 k e hk⟩
theorem PairI.alloc {w : World} {base : Nat} {u v : Value} {l m : List Int} (h : PairI w base u v l m) (o : Obj) : PairI (w.alloc o) base u v l m := ⟨h.1.alloc o, h.2.1.alloc o, h.2.2⟩
theorem PairI.keptc {w w' : World} {base c : Nat} {u v : Value} {l m : List Int} (h : PairI w base u v l m) (hg : w.grownBy w' (some c)) (hc : c < base) : PairI w' base u v l m := by
  refine ⟨World.ownsRow.kept h.1 hg (.inr fun e => ?_), World.ownsRow.kept h.2.1 hg (.inr fun e => ?_), h.2.2⟩
  · have := (World.ownsRow.lt h.1 c e).1; omega
  · have := (World.ownsRow.lt h.2.1 c e).1; omega
theorem PairI.first {w w' : World} {base : Nat} {u v u' : Value} {l m l' : List Int} (h : PairI w base u v l m) (ho : OwnI w' base u' l') (hg : w.grownBy w' u.ownBlock) (hat : u'.ownBlock = u.ownBlock ∨ u'.ownBlock = some (w.heap.size + 1)) : PairI w' base u' v l' m := by
  refine ⟨ho, World.ownsRow.kept h.2.1 hg ?_, fun k hk e => ?_⟩
  · cases hv : v.ownBlock with
    | none => exact .inl rfl
    | some k => exact .inr fun e => h.2.2 k e.symm hv
  · rcases hat with e1 | e1
    · exact h.2.2 k (by rw [← e1]; exact hk) e
    · rw [e1] at hk
      injection hk with hk
      have := (World.ownsRow.lt h.2.1 k e).2
      omega
theorem PairI.below {w w' : World} {base : Nat} {u v : Value} {l m : List Int} (h : PairI w base u v l m) (hb : base ≤ w.heap.size) (hg : w.grownBy w' u.ownBlock) : Below base w w' :=
  (Below.refl base w).grown hg hb (fun k hk => (World.ownsRow.lt h.1 k hk).1)

/-- a slice that reads as the list is handed back -/
def GivesI (w : World) (l : List Int) (e : Ending) (w' : World) : Prop := ∃ a cap, e = .returned (.slice a l.length cap) ∧ InI w' a l ∧ Below w.heap.size w w'

theorem quiet_i (B : Nat) (w : World) (n : Nat) : Below B w (w.drewN n) := ⟨rfl, rfl, rfl, Nat.le_refl _, fun _ _ => rfl⟩

/-- an argument of a law -/
def ArgI (w : World) (a : Option Addr) (l : List Int) : Prop := InI w a l ∧ l.length ≤ maxLen

theorem ArgI.inI {w : World} {a : Option Addr} {l : List Int} (h : ArgI w a l) : InI w a l := h.1
theorem argI_of {w : World} {x : Addr} {l c : Nat} {zs : List Int} (hl : l ≤ c) (hm : c ≤ maxLen) (hz : zs.length = c)
    (hcell : ∀ i, i < zs.length → w.cell? (x.add i) = some (.int .i64 (zs.getD i 0))) : ∃ L : List Int, l = L.length ∧ ArgI w (some x) L := by
  refine ⟨zs.take l, by simp; omega, fun h0 => ?_, by simp; omega⟩
  simp at h0
  obtain ⟨b, off, spot⟩ := x
  have hspot : spot = none := by simpa [Addr.add] using World.cell?_spot (hcell 0 (by omega))
  subst hspot
  refine ⟨b, off, rfl, ?_, fun j y hj => ?_⟩
  · exact World.block_lt_of_cell? w _ (hcell 0 (by omega))
  · obtain ⟨hlt, he⟩ := List.getElem?_eq_some_iff.1 hj
    simp at hlt
    have h1 := hcell j (by omega)
    have h2 : (⟨b, off, none⟩ : Addr).add j = ⟨b, off + j, none⟩ := by unfold Addr.add; split <;> simp_all
    rw [h2] at h1
    rw [h1]
    simp only [List.getElem_take] at he
    rw [← he, List.getD, List.getElem?_eq_getElem (by omega)]
    rfl

end Go.Proofs.YthjbekgognfiiaaGreat

/-
  What the laws' own markIntS and heldIntS do; a slice of integers of the call's own in a span of blocks. By an AI agent.
-/
namespace Go.Proofs.YthjbekgognfiiaaGreat
open Go.RowKit
set_option linter.unusedVariables false

theorem OwnI.below {w w' : World} {base : Nat} {v : Value} {l : List Int} (h : OwnI w base v l) (hb : Below w.heap.size w w') : OwnI w' base v l :=
  World.ownsRow.kept h (row := none) ⟨hb.os, hb.tape, hb.output, hb.size, fun i hi _ => hb.block i hi⟩ (by cases hv : v.ownBlock <;> simp)
theorem OwnI.mono {w : World} {base base' : Nat} {v : Value} {l : List Int} (h : OwnI w base v l) (hb : base' ≤ base) : OwnI w base' v l := by
  refine ⟨h.1, ?_⟩
  rcases h.2 with hn | ⟨g, cap', cur, hv, hbg, rest⟩
  · exact .inl hn
  · exact .inr ⟨g, cap', cur, hv, Nat.le_trans hb hbg, rest⟩
theorem OwnI.nil (w : World) (base : Nat) : OwnI w base (.slice none 0 0) [] := World.ownsRow_nil _ _ _ _

/-- a slice of the call's own, in blocks from lo on and below hi -/
def OwnJ (w : World) (lo hi : Nat) (v : Value) (l : List Int) : Prop := OwnI w lo v l ∧ ∀ k, v.ownBlock = some k → k < hi
theorem OwnJ.of {w w' : World} {a : Option Addr} {cap n : Nat} {l : List Int} (h : OwnI w' w.heap.size (.slice a n cap) l) : OwnJ w' w.heap.size w'.heap.size (.slice a n cap) l :=
  ⟨h, fun k hk => (World.ownsRow.lt h k hk).2⟩
theorem OwnJ.below {w w' : World} {lo hi : Nat} {v : Value} {l : List Int} (h : OwnJ w lo hi v l) (hb : Below w.heap.size w w') : OwnJ w' lo hi v l := ⟨h.1.below hb, h.2⟩
theorem OwnJ.inI {w : World} {lo hi : Nat} {a : Option Addr} {n cap : Nat} {l : List Int} (h : OwnJ w lo hi (.slice a n cap) l) : InI w a l := h.1.inI
/-- what is written into one slice leaves another as it was -/
theorem OwnJ.other {w w' : World} {lo hi lo' hi' : Nat} {v u : Value} {l : List Int} (h : OwnJ w lo hi v l) (hg : w.grownBy w' u.ownBlock) (hu : ∀ k, u.ownBlock = some k → lo' ≤ k ∧ k < hi') (hd : hi ≤ lo' ∨ hi' ≤ lo) : OwnJ w' lo hi v l := by
  refine ⟨World.ownsRow.kept h.1 hg ?_, h.2⟩
  cases hv : v.ownBlock with
  | none => exact .inl rfl
  | some k =>
    refine .inr fun e => ?_
    have h1 := (World.ownsRow.lt h.1 k hv).1
    have h2 := h.2 k hv
    have h3 := hu k e.symm
    omega
theorem OwnJ.row {w : World} {lo hi : Nat} {v : Value} {l : List Int} (h : OwnJ w lo hi v l) : ∀ k, v.ownBlock = some k → lo ≤ k ∧ k < hi := fun k hk => ⟨(World.ownsRow.lt h.1 k hk).1, h.2 k hk⟩
theorem below_rowj {w0 w w' : World} {lo hi : Nat} {v : Value} {l : List Int} (hb : Below w0.heap.size w0 w) (h : OwnJ w lo hi v l) (hg : w.grownBy w' v.ownBlock) (hlo : w0.heap.size ≤ lo) : Below w0.heap.size w0 w' :=
  hb.grown hg hb.size fun k hk => Nat.le_trans hlo (h.row k hk).1

def marksI (k n : Nat) : List Int := (List.range n).map fun i => ((k + i : Nat) : Int)
theorem marksI_length (k n : Nat) : (marksI k n).length = n := by simp [marksI]
theorem marksI_at {k n j : Nat} (h : j < n) : (marksI k n)[j]? = some ((k + j : Nat) : Int) := by simp [marksI, h]
theorem marksI_succ (k n : Nat) : marksI k (n + 1) = marksI k n ++ [((k + n : Nat) : Int)] := by simp [marksI, List.range_succ]
/-- the first k are marked -/
def markW (l : List Int) (k0 k : Nat) : List Value := (marksI k0 k).map encI ++ (l.drop k).map encI
theorem markW_zero (l : List Int) (k0 : Nat) : markW l k0 0 = l.map encI := by simp [markW, marksI]
theorem markW_all (l : List Int) (k0 : Nat) : markW l k0 l.length = (marksI k0 l.length).map encI := by simp [markW]
theorem markW_at {l : List Int} {k0 k : Nat} {x : Int} (h : l[k]? = some x) : (markW l k0 k)[k]? = some (encI x) := by
  unfold markW
  rw [List.getElem?_append_right (by simp [marksI_length]), List.length_map, marksI_length, Nat.sub_self, List.getElem?_map, List.getElem?_drop, Nat.add_zero, h]
  rfl
theorem markW_set {l : List Int} {k0 k : Nat} (hlt : k < l.length) : (markW l k0 k).set k (encI ((k0 + k : Nat) : Int)) = markW l k0 (k + 1) := by
  unfold markW
  rw [List.set_append_right _ _ (by simp [marksI_length]), List.length_map, marksI_length, Nat.sub_self, List.drop_eq_getElem_cons hlt, List.map_cons, List.set_cons_zero, marksI_succ]
  simp
theorem owni_at {w : World} {base : Nat} {a : Option Addr} {n cap : Nat} {xs : List Value} (h : w.ownsRow base 3 1 (.slice a n cap) n xs) (h0 : 0 < n) : ∃ g, a = some ⟨g, 0, none⟩ ∧ g < w.heap.size := by
  rcases h.2 with ⟨_, h1⟩ | ⟨g, cap', cur, hv, hb, hg, _⟩
  · omega
  · simp only [Value.slice.injEq] at hv
    exact ⟨g, hv.1, (Array.getElem?_eq_some_iff.1 hg).1⟩
theorem grownI_trans {a b d : World} {r : Option Nat} (h1 : a.grownBy b r) (h2 : b.grownBy d r) : a.grownBy d r :=
  ⟨h2.os.trans h1.os, h2.tape.trans h1.tape, h2.output.trans h1.output, Nat.le_trans h1.size h2.size, fun k hk hne => (h2.block k (Nat.lt_of_lt_of_le hk h1.size) hne).trans (h1.block k hk hne)⟩

end Go.Proofs.YthjbekgognfiiaaGreat

