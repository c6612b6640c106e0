/-
  append and slices.Clone at slices of structs. By an AI agent.
-/
import Derived.Test.YthjbekgognfiiaaGreatJ8
import Derived.Test.YthjbekgognfiiaaGreatJ4
namespace Go.Proofs.YthjbekgognfiiaaGreat
open Go.RowKit
set_option linter.unusedVariables false

/-- the cells of a slice -/
def CellsAt (w : World) (a : Option Addr) (us : List Value) : Prop := 0 < us.length → ∃ b off, a = some ⟨b, off, none⟩ ∧ b < w.heap.size ∧ ∀ (j : Nat) (u : Value), us[j]? = some u → w.cell? ⟨b, off + j, none⟩ = some u
theorem CellsAt.below {w w' : World} {a : Option Addr} {us : List Value} (h : CellsAt w a us) (hb : Below w.heap.size w w') : CellsAt w' a us := by
  intro h0
  obtain ⟨b, off, ha, hlt, hc⟩ := h h0
  exact ⟨b, off, ha, Nat.lt_of_lt_of_le hlt hb.size, fun j u hj => (World.cell?_of_block (hb.block b hlt)).trans (hc j u hj)⟩
theorem inT_cells {w : World} {a : Option Addr} {T : List TC} (h : InT w a T) : CellsAt w a (flatT T) := by
  intro h0
  rw [flat_len] at h0
  obtain ⟨b, off, ha, hlt, hc⟩ := h (by omega)
  refine ⟨b, off, ha, hlt, fun j u hj => ?_⟩
  have hjl := (List.getElem?_eq_some_iff.1 hj).1
  rw [flat_len] at hjl
  have hi : T[j / 2]? = some (T[j / 2]'(by omega)) := List.getElem?_eq_getElem _
  obtain ⟨e0, e1⟩ := flat_at hi
  obtain ⟨c0, c1⟩ := hc _ _ hi
  rcases Nat.mod_two_eq_zero_or_one j with h | h
  · have e : j / 2 * 2 = j := by omega
    rw [e] at e0 c0
    rw [c0, ← e0, hj]
  · have e : j / 2 * 2 + 1 = j := by omega
    rw [e] at e1
    rw [Nat.add_assoc, e] at c1
    rw [c1, ← e1, hj]
/-- a slice of indexed sets, its elements with the values of their tokens -/
structure ReadX (w : World) (a : Option Addr) (S : List IS) (q : List XS) : Prop where
  sets : setsX q = S
  cells : CellsAt w a (flatX q)
  toks : ∀ p ∈ q, ∃ a' c', p.2 = .slice a' p.1.2.length c' ∧ Sm w a' p.1.2 c'
theorem ReadX.below {w w' : World} {a : Option Addr} {S : List IS} {q : List XS} (h : ReadX w a S q) (hb : Below w.heap.size w w') : ReadX w' a S q :=
  ⟨h.sets, h.cells.below hb, fun p hp => by obtain ⟨a', c', e, hs⟩ := h.toks p hp; exact ⟨a', c', e, hs.below hb⟩⟩
theorem readX {w : World} {a : Option Addr} {S : List IS} {c : Nat} (h : SmX w a S c) : ∃ q, ReadX w a S q := by
  by_cases h0 : S.length = 0
  · obtain rfl := List.eq_nil_of_length_eq_zero h0
    exact ⟨[], rfl, fun h => absurd h (Nat.lt_irrefl 0), fun p hp => by cases hp⟩
  · obtain ⟨b, off, ha, hlt, hc⟩ := h.1 (by omega)
    obtain ⟨f, hf⟩ := Go.Deep.choose_lt (n := S.length) (p := fun j (v : Value) => ∀ x, S[j]? = some x → w.cell? ⟨b, off + j * 2, none⟩ = some (.int .i64 x.1) ∧ w.cell? ⟨b, off + j * 2 + 1, none⟩ = some v ∧ ∃ a' c', v = .slice a' x.2.length c' ∧ Sm w a' x.2 c') (fun j hj => by
      have hx := List.getElem?_eq_getElem hj
      obtain ⟨a', c', h1, h2, h3, h4, h5⟩ := hc j _ hx
      obtain ⟨h6, h7⟩ := h.2.2.2.2 _ (List.mem_of_getElem? hx)
      refine ⟨.slice a' S[j].2.length c', fun x hx' => ?_⟩
      rw [hx] at hx'
      obtain rfl := Option.some.inj hx'
      exact ⟨h1, h2, a', c', rfl, h5, h3, h4, h6, h7⟩)
    have hq : ∀ (j : Nat) (p : XS), ((List.range S.length).map fun j => (S.getD j (0, []), f j))[j]? = some p → S[j]? = some p.1 ∧ p.2 = f j := fun j p hj => by
      obtain ⟨hlt2, he⟩ := List.getElem?_eq_some_iff.1 hj
      simp at hlt2 he
      subst he
      simp [hlt2]
    refine ⟨(List.range S.length).map fun j => (S.getD j (0, []), f j), ?_, fun h1 => ⟨b, off, ha, hlt, fun j u hj => ?_⟩, fun p hp => ?_⟩
    · refine List.ext_getElem? fun j => ?_
      unfold setsX
      by_cases hj : j < S.length
      · simp [hj]
      · simp [hj]
    · have hjl := (List.getElem?_eq_some_iff.1 hj).1
      rw [flatX_len] at hjl
      simp at hjl
      obtain ⟨p, hp⟩ : ∃ p, ((List.range S.length).map fun j => (S.getD j (0, []), f j))[j / 2]? = some p := ⟨_, List.getElem?_eq_getElem (by simp; omega)⟩
      obtain ⟨e0, e1⟩ := flatX_at hp
      obtain ⟨g1, g2⟩ := hq _ _ hp
      obtain ⟨c0, c1, _⟩ := hf (j / 2) (by omega) _ g1
      rcases Nat.mod_two_eq_zero_or_one j with h | h
      · have e : j / 2 * 2 = j := by omega
        rw [e] at e0 c0
        rw [c0, ← e0, hj]
      · have e : j / 2 * 2 + 1 = j := by omega
        rw [e] at e1
        rw [Nat.add_assoc, e] at c1
        rw [c1, ← g2, ← e1, hj]
    · obtain ⟨j, hj⟩ := List.getElem?_of_mem hp
      obtain ⟨g1, g2⟩ := hq _ _ hj
      obtain ⟨_, _, h3⟩ := hf j (List.getElem?_eq_some_iff.1 g1).1 _ g1
      rw [g2]
      exact h3
theorem flatX_one {q : List XS} (h : ∀ p ∈ q, p.2.oneCell' = true) : ∀ u ∈ flatX q, u.oneCell' = true := by
  intro u hu
  obtain ⟨p, hp, h1⟩ := List.mem_flatMap.1 hu
  simp [encX] at h1
  rcases h1 with rfl | rfl
  · rfl
  · exact h p hp
theorem ReadX.one {w : World} {a : Option Addr} {S : List IS} {q : List XS} (h : ReadX w a S q) : ∀ u ∈ flatX q, u.oneCell' = true :=
  flatX_one fun p hp => by obtain ⟨a', c', e, _⟩ := h.toks p hp; rw [e]; rfl
theorem OwnX.one {w : World} {lo : Nat} {v : Value} {q : List XS} (h : OwnX w lo v q) : ∀ u ∈ flatX q, u.oneCell' = true :=
  flatX_one fun p hp => by obtain ⟨a', c', e⟩ := (h.row p hp).shape; rw [e]; rfl

theorem run_app_row {P : Program} (ST E ty : TypeId) (i0 : TypeInfo) (z : Value) (size bytes : Nat) (ht : P.underlying ST = some (.slice E)) (hi : P.info? E = some i0) (hz0 : i0.zero = some z) (hz1 : i0.size = size) (hz2 : i0.bytes = bytes) (hzs : z.cells.size = size) (hpos : 0 < size)
    (w : World) (base : Nat) (v : Value) (n : Nat) (xs : List Value) (hown : w.ownsRow base E size v n xs) (a : Option Addr) (m c : Nat) (us : List Value) (hl : us.length = m * size) (hin : CellsAt w a us) (hn : a = none → c = 0)
    (h1 : ∀ u ∈ us, u.oneCell' = true) (hsz : n + m ≤ maxLen) (hby : (n + m) * bytes ≤ 140737488355328) (hbase : base ≤ w.heap.size) :
    ∃ v' w', (Builtin.append_ #[ST, ST] ty #[v, .slice a m c]).run P w = .ok v' w' ∧ w'.ownsRow base E size v' (n + m) (xs ++ us) ∧ w.grownBy w' v.ownBlock ∧ (a ≠ none ∨ v' = v) := by
  cases a with
  | none =>
    have hm : m = 0 := by
      rcases Nat.eq_zero_or_pos us.length with h | h
      · rw [h] at hl
        rcases Nat.eq_zero_or_pos m with h2 | h2
        · exact h2
        · have := Nat.mul_pos h2 hpos
          omega
      · obtain ⟨_, _, h2, _⟩ := hin h
        cases h2
    subst hm
    obtain rfl : us = [] := List.eq_nil_of_length_eq_zero (by omega)
    rw [hn rfl]
    exact ⟨v, w, run_append_owned_none (P := P) (w := w) base ST ty E i0 size ht hi v n xs hown, by simpa using hown, World.grownBy.refl _ _, .inr rfl⟩
  | some ad =>
    obtain ⟨v', w', h2, h3, h4, -⟩ := run_append_own (P := P) w base ST ty E i0 z size bytes ht hi hz0 hz1 hz2 hzs hpos v n xs hown ad m c us hl (fun j u hj => by
      obtain ⟨b, off, e, _, hc⟩ := hin (by have := (List.getElem?_eq_some_iff.1 hj).1; omega)
      obtain rfl : ad = ⟨b, off, none⟩ := Option.some.inj e
      have h2 : (⟨b, off, none⟩ : Addr).add j = ⟨b, off + j, none⟩ := by unfold Addr.add; split <;> simp_all
      rw [h2]
      exact hc j u hj) h1 hsz hby hbase
    exact ⟨v', w', h2, h3, h4, .inl (by simp)⟩

theorem wpList_app_row {P : Program} {ops : Array Oper} {rest : List Oper} {o : Oper} {a : Act} {w : World} {Q : Exit → Act → World → Prop}
    (hg : o.guard = none) (s x : Operand) (ST E : TypeId) (hop : o.op = Op.call { callee := Callee.builtin Builtin.append, args := #[s, x], argTypes := #[ST, ST] })
    (i0 : TypeInfo) (z : Value) (size bytes : Nat) (ht : P.underlying ST = some (.slice E)) (hi : P.info? E = some i0) (hz0 : i0.zero = some z) (hz1 : i0.size = size) (hz2 : i0.bytes = bytes) (hzs : z.cells.size = size) (hpos : 0 < size)
    (base : Nat) (v : Value) (n : Nat) (xs : List Value) (hs : a.eval s = v) (hown : w.ownsRow base E size v n xs) (ad : Option Addr) (m c : Nat) (us : List Value) (hx : a.eval x = .slice ad m c) (hl : us.length = m * size) (hin : CellsAt w ad us) (hn : ad = none → c = 0)
    (h1 : ∀ u ∈ us, u.oneCell' = true) (hsz : n + m ≤ maxLen) (hby : (n + m) * bytes ≤ 140737488355328) (hbase : base ≤ w.heap.size)
    (hK : ∀ v' w', w'.ownsRow base E size v' (n + m) (xs ++ us) → w.grownBy w' v.ownBlock → wpList P ops Q rest (a.put o.dst v') w') : wpList P ops Q (o :: rest) a w := by
  refine wpList_plain hg fun K hK' => ?_
  obtain ⟨v', w', hrun, h2, h3, -⟩ := run_app_row ST E o.type i0 z size bytes ht hi hz0 hz1 hz2 hzs hpos w base v n xs hown ad m c us hl hin hn h1 hsz hby hbase
  unfold Oper.wp
  simp [execOp, hop, resolve, invoke, builtin, hs, hx, hrun, Result.andThen]
  exact hK' _ _ (hK v' w' h2 h3)

theorem q_nil (t E : TypeId) (ht : Tryz.prog.underlying t = some (.slice E)) : ∀ (w : World) (a : Option Addr) (n c n' c' : Nat), (binOp .eql t (.slice a n c) (.slice none n' c')).run Tryz.prog w = .ok (.bool a.isNone) w := fun w a n c n' c' => Lib.run_eql_slice_nil w _ _ a n c n' c' ht

set_option maxRecDepth 100000 in
theorem tclone_any (a : Option Addr) (c : Nat) (T : List TC) (w : World) (h : SmT w a T c) :
    Calls Tryz.prog 80 #[.slice a T.length c] w (GivesT w T) := by
  obtain ⟨i0, hi, hz0, hz1, hz2⟩ := info_parts info_tc
  have hq := q_nil 24 109 Tryz.underlying24
  have hl := h.2.2.2.1
  have HIN := Lib.hid (inT_cells h.1)
  have HN := Lib.hid h.2.1
  by_cases ha : a = none
  · subst ha
    obtain rfl : T = [] := by
      rcases Nat.eq_zero_or_pos T.length with h0 | h0
      · exact List.eq_nil_of_length_eq_zero h0
      · obtain ⟨_, _, e, _⟩ := h.1 h0; cases e
    clear h
    go_enter Tryz.func80, Tryz.ntmps80
    go_wp2
    go_ret
    exact GivesT.mk (OwnT.nil _ _) (Below.refl _ _)
  · obtain ⟨ad, rfl⟩ : ∃ ad, a = some ad := Option.ne_none_iff_exists'.1 ha
    clear h ha
    go_enter Tryz.func80, Tryz.ntmps80
    go_wp2_with (at_builtin; refine wpList_app_row rfl _ _ 24 109 rfl i0 _ 2 24 Tryz.underlying24 hi hz0 hz1 hz2 rfl (by decide) w.heap.size _ 0 [] rfl (World.ownsRow_made w #[] 0 (Nat.le_refl _) (Nat.zero_le _) (by simp)) (some ad) T.length c (flatT T) rfl (flat_len T) (HIN.out.below ((Below.refl _ _).alloc (Nat.le_refl _) _)) (fun e => by cases e) (flat_one T) (by unfold maxLen; omega) (by omega) (by simp) ?_; intro v' w1 ho hg; have HO := Lib.hid ho; have HG := Lib.hid hg; clear ho hg)
    go_ret
    refine GivesT.mk ?_ (((Below.refl _ w).alloc (Nat.le_refl _) _).grown HG.out (by simp) (by intro k hk; cases hk; exact Nat.le_refl _))
    have h := HO.out
    rw [Nat.zero_add, List.nil_append] at h
    exact h

/-- a slice of the cells of another is handed back -/
def GivesRow (w : World) (n : Nat) (us : List Value) (e : Ending) (w' : World) : Prop :=
  ∃ a cap, e = .returned (.slice a n cap) ∧ w'.ownsRow w.heap.size 71 2 (.slice a n cap) n us ∧ Below w.heap.size w w'
theorem GivesRow.mk {w w' : World} {n : Nat} {us : List Value} {v : Value} (h : w'.ownsRow w.heap.size 71 2 v n us) (hb : Below w.heap.size w w') : GivesRow w n us (.returned v) w' := by
  rcases h.2 with ⟨rfl, h0⟩ | ⟨g, cap, cur, rfl, h2⟩
  · subst h0
    exact ⟨none, 0, rfl, h, hb⟩
  · exact ⟨_, cap, rfl, h, hb⟩

set_option maxRecDepth 100000 in
theorem xclone_any (a : Option Addr) (c : Nat) (S : List IS) (q : List XS) (w : World) (h : SmX w a S c) (hr : ReadX w a S q) :
    Calls Tryz.prog 81 #[.slice a S.length c] w (GivesRow w S.length (flatX q)) := by
  obtain ⟨i0, hi, hz0, hz1, hz2⟩ := info_parts info_ixs
  have hq := q_nil 25 71 Tryz.underlying25
  have hl := h.2.2.2.1
  have HIN := Lib.hid hr.cells
  have HONE := Lib.hid hr.one
  have HQL := Lib.hid (show (flatX q).length = S.length * 2 by rw [flatX_len, ← setsX_len, hr.sets])
  by_cases ha : a = none
  · subst ha
    have hS : S.length = 0 := by
      rcases Nat.eq_zero_or_pos S.length with h0 | h0
      · exact h0
      · obtain ⟨_, _, e, _⟩ := h.1 h0; cases e
    have hqn : flatX q = [] := List.eq_nil_of_length_eq_zero (by have := HQL.out; omega)
    rw [hS, hqn]
    clear h hr
    go_enter Tryz.func81, Tryz.ntmps81
    go_wp2
    go_ret
    exact GivesRow.mk (World.ownsRow_nil _ _ _ _) (Below.refl _ _)
  · obtain ⟨ad, rfl⟩ : ∃ ad, a = some ad := Option.ne_none_iff_exists'.1 ha
    clear h ha hr
    go_enter Tryz.func81, Tryz.ntmps81
    go_wp2_with (at_builtin; refine wpList_app_row rfl _ _ 25 71 rfl i0 _ 2 32 Tryz.underlying25 hi hz0 hz1 hz2 rfl (by decide) w.heap.size _ 0 [] rfl (World.ownsRow_made w #[] 0 (Nat.le_refl _) (Nat.zero_le _) (by simp)) (some ad) S.length c (flatX q) rfl HQL.out (HIN.out.below ((Below.refl _ _).alloc (Nat.le_refl _) _)) (fun e => by cases e) HONE.out (by unfold maxLen; omega) (by omega) (by simp) ?_; intro v' w1 ho hg; have HO := Lib.hid ho; have HG := Lib.hid hg; clear ho hg)
    go_ret
    refine GivesRow.mk ?_ (((Below.refl _ w).alloc (Nat.le_refl _) _).grown HG.out (by simp) (by intro k hk; cases hk; exact Nat.le_refl _))
    have h := HO.out
    rw [Nat.zero_add, List.nil_append] at h
    exact h

end Go.Proofs.YthjbekgognfiiaaGreat
