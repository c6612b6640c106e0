/-
  What spec.l3Put does: one string more in an ascending list of the call's own. By an AI agent.
-/
import Derived.Test.YtknkhljegmielaaDoorGMem
import Derived.WalkLawsBesides
import Derived.Deep.RegionLaw
namespace Go.Proofs.YtknkhljegmielaaDoor
open Go.RowKit
set_option linter.unusedVariables false

theorem less_is : ∀ (x y : List UInt8), Op.bytesLess x y = decide (x < y)
  | [], [] => by simp [Op.bytesLess]
  | _ :: _, [] => by simp [Op.bytesLess]
  | [], _ :: _ => by simp [Op.bytesLess]
  | a :: x, b :: y => by
    rw [Op.bytesLess, less_is x y]
    simp only [List.cons_lt_cons_iff]
    by_cases h1 : a < b <;> by_cases h2 : a = b <;> by_cases h3 : x < y <;> simp [h1, h2, h3]
theorem less_yes {x y : Str} {s t : ByteArray} (hs : s.data.toList = x) (ht : t.data.toList = y) (h : x < y) : Op.bytesLess s.toList t.toList = true := by
  rw [less_is, ByteArray.toList_eq, ByteArray.toList_eq, hs, ht]
  exact decide_eq_true h
theorem less_no {x y : Str} {s t : ByteArray} (hs : s.data.toList = x) (ht : t.data.toList = y) (h : ¬ x < y) : Op.bytesLess s.toList t.toList = false := by
  rw [less_is, ByteArray.toList_eq, ByteArray.toList_eq, hs, ht]
  exact decide_eq_false h
theorem str_ne3 {x y : Str} {s t : ByteArray} (hs : s.data.toList = x) (ht : t.data.toList = y) (h : x ≠ y) : (s.toList == t.toList) = false := by
  rw [ByteArray.toList_eq, ByteArray.toList_eq, hs, ht]
  simpa using h
theorem str_eq3 {x y : Str} {s t : ByteArray} (hs : s.data.toList = x) (ht : t.data.toList = y) (h : x = y) : s = t := by
  have h2 : s.data.toList = t.data.toList := by rw [hs, ht, h]
  exact ByteArray.ext (Array.toList_inj.1 h2)

/-- append of a slice that reads as a list to a slice of the call's own -/
theorem run_app (ty : TypeId) (base : Nat) (v : Value) (l : List Str) (w : World) (hown : OwnS w base v l) (a : Option Addr) (c : Nat) (ms : List Str) (hin : InS w a ms) (hn : a = none → c = 0) (hsz : l.length + ms.length ≤ 9000000) (hbase : base ≤ w.heap.size) :
    ∃ v' w', (Builtin.append_ #[47, 47] ty #[v, .slice a ms.length c]).run Tryd.prog w = .ok v' w' ∧ OwnS w' base v' (l ++ ms) ∧ w.grownBy w' v.ownBlock := by
  obtain ⟨i0, hi, hz0, hz1, hz2⟩ := info_parts info_str
  have e1 : (l ++ ms).length = l.length + ms.length := by simp
  have e2 : (l ++ ms).map encStr = l.map encStr ++ ms.map encStr := by simp
  cases a with
  | none =>
    obtain rfl : ms = [] := by
      rcases Nat.eq_zero_or_pos ms.length with h | h
      · exact List.eq_nil_of_length_eq_zero h
      · obtain ⟨_, _, h2, _⟩ := hin h
        cases h2
    rw [hn rfl]
    refine ⟨v, w, run_append_owned_none (P := Tryd.prog) (w := w) base 47 ty 9 i0 1 Tryd.underlying47 hi v l.length (l.map encStr) hown, ?_, World.grownBy.refl _ _⟩
    rw [List.append_nil]
    exact hown
  | some ad =>
    obtain ⟨v', w', h1, h2, h3, -⟩ := run_append_own (P := Tryd.prog) w base 47 ty 9 i0 (.string ⟨#[]⟩) 1 16 Tryd.underlying47 hi hz0 hz1 hz2 rfl (by decide) v l.length (l.map encStr) hown
      ad ms.length c (ms.map encStr) (by simp) (fun j u hj => by
        rw [List.getElem?_map] at hj
        cases hx : ms[j]? with
        | none => rw [hx] at hj; cases hj
        | some x =>
          rw [hx] at hj
          have hlt := (List.getElem?_eq_some_iff.1 hx).1
          obtain ⟨b, off, e, _, hc⟩ := hin (by omega)
          obtain rfl : ad = ⟨b, off, none⟩ := Option.some.inj e
          have h2 : (⟨b, off, none⟩ : Addr).add j = ⟨b, off + j, none⟩ := by unfold Addr.add; split <;> simp_all
          rw [h2, hc j x hx]
          exact hj) (by intro u hu; obtain ⟨x, _, rfl⟩ := List.mem_map.1 hu; rfl) (by unfold maxLen; omega) (by omega) hbase
    refine ⟨v', w', h1, ?_, h3⟩
    unfold OwnS
    rw [e1, e2]
    exact h2

theorem step_app {ops : Array Oper} {o : Oper} {a : Act} {w : World} {K : Act → World → Prop} {Q : Exit → Act → World → Prop} {E : Prop}
    (hg : o.guard = none) (s x : Operand) (hop : o.op = Op.call { callee := Callee.builtin Builtin.append, args := #[s, x], argTypes := #[47, 47] })
    (base : Nat) (v : Value) (l : List Str) (hs : a.eval s = v) (ad : Option Addr) (m c : Nat) (ms : List Str) (hx : a.eval x = .slice ad m c) (hm : m = ms.length)
    (hown : OwnS w base v l) (hin : InS w ad ms) (hn : ad = none → c = 0) (hsz : l.length + ms.length ≤ 9000000) (hbase : base ≤ w.heap.size)
    (hK : ∀ v' w', OwnS w' base v' (l ++ ms) → w.grownBy w' v.ownBlock → K (a.put o.dst v') w') :
    if Region.wanted o (yielded ops a.tmps) = true then Oper.wp Tryd.prog o a w K Q else E := by
  subst hm
  rw [if_pos (by simp [Region.wanted, hg])]
  obtain ⟨v', w', hrun, h1, h2⟩ := run_app o.type base v l w hown ad c ms hin hn hsz hbase
  unfold Oper.wp
  simp [execOp, hop, resolve, invoke, builtin, hs, hx, hrun, Result.andThen]
  exact hK v' w' h1 h2

theorem own_new (w : World) (base g : Nat) (hg : w.heap.size = g) (hb : base ≤ g) : OwnS (w.alloc (.cells #[] 9)) base (.slice (some ⟨g, 0, none⟩) 0 0) [] := by
  subst hg
  exact OwnS.made w base #[] 0 hb (Nat.zero_le _) rfl
theorem in_one (w : World) (g : Nat) (t : ByteArray) (y : Str) (hg : w.heap.size = g) (ht : t.data.toList = y) : InS (w.alloc (.cells #[.string t] 9)) (some ⟨g, 0, none⟩) [y] := by
  subst hg
  intro _
  refine ⟨w.heap.size, 0, rfl, by simp, fun j x hj => ?_⟩
  cases j with
  | zero =>
    simp at hj
    subst hj
    rw [World.cell?_alloc_at _ _ _ _ rfl]
    subst ht
    rfl
  | succ j => simp at hj
theorem InS.grown {w w' : World} {a : Option Addr} {l : List Str} {r : Option Nat} (h : InS w a l) (hg : w.grownBy w' r) (hne : ∀ b off, a = some ⟨b, off, none⟩ → some b ≠ r) : InS w' a l :=
  h.keep hg.size fun b off ha hb => hg.block b hb (hne b off ha)
theorem InS.take' {w : World} {a : Option Addr} {l : List Str} (h : InS w a l) (k : Nat) : InS w a (l.take k) := by
  intro h0
  obtain ⟨b', off', e, hb, hc⟩ := h (by rw [List.length_take] at h0; omega)
  refine ⟨b', off', e, hb, fun j x hj => hc j x ?_⟩
  rw [List.getElem?_take] at hj
  split at hj
  · exact hj
  · cases hj
theorem InS.drop {w : World} {b off : Nat} {l : List Str} (h : InS w (some ⟨b, off, none⟩) l) (k : Nat) : InS w (some ⟨b, off + k, none⟩) (l.drop k) := by
  intro h0
  obtain ⟨b', off', e, hb, hc⟩ := h (by rw [List.length_drop] at h0; omega)
  obtain ⟨rfl, rfl⟩ : b = b' ∧ off = off' := by simpa using e
  refine ⟨b, off + k, rfl, hb, fun j x hj => ?_⟩
  rw [List.getElem?_drop] at hj
  rw [Nat.add_assoc]
  exact hc (k + j) x hj

theorem InS.drop0 {w : World} {b : Nat} {l : List Str} (h : InS w (some ⟨b, 0, none⟩) l) (k : Nat) : InS w (some ⟨b, k, none⟩) (l.drop k) := by
  have h2 := h.drop k
  rw [Nat.zero_add] at h2
  exact h2

/-- what is handed back: a slice of the caller's own -/
def PutsS (w : World) (base : Nat) (l : List Str) (e : Ending) (w' : World) : Prop :=
  ∃ a cap, e = .returned (.slice a l.length cap) ∧ OwnS w' base (.slice a l.length cap) l ∧ Below w.heap.size w w'
theorem PutsS.mk {w w' : World} {base : Nat} {v : Value} {l : List Str} (h : OwnS w' base v l) (hb : Below w.heap.size w w') : PutsS w base l (.returned v) w' := by
  obtain ⟨a, cap, rfl⟩ := h.shape
  exact ⟨a, cap, rfl, h, hb⟩
theorem grown_old {w0 w w' : World} {v : Value} {l : List Str} (hb : Below w0.heap.size w0 w) (hg : w.grownBy w' v.ownBlock) (ho : OwnS w w0.heap.size v l) : Below w0.heap.size w0 w' :=
  hb.grown hg hb.size fun k hk => (World.ownsRow.lt ho k hk).1

end Go.Proofs.YtknkhljegmielaaDoor
