/-
  Texts laid together: IntT, IntM, PutI, RuS, Bounds, RuI. By an AI agent.
-/
import Derived.Test.YtpmfabpnjacegaaGreatDoorGQ1
import Derived.OwnWalk
import Derived.Laws.OwnMore
import Derived.Maps.AppendAt
import Derived.WalkLawsBesides
import Derived.Deep.RegionLaw
import Derived.Test.YtpmfabpnjacegaaGreatDoorGQ5
import Derived.BigQuiet
import Derived.Deep.QuietTactic
import Derived.Lib.Hide
import Derived.Below
import Derived.Deep.RegionHeld3
/-
  What the laws' own toIntS and eqIntS do; an argument of a law that is a slice of integers. By an AI agent.
-/
namespace Go.Proofs.YtpmfabpnjacegaaGreatDoor
open Go.RowKit
set_option linter.unusedVariables false

theorem info_i64 : (Tryz.prog.info? 3).map (fun i => (i.zero, i.size, i.bytes)) = some (some (.int .i64 0), 1, 8) := by kernel_rfl

def encI (z : Int) : Value := .int .i64 z
/-- the first k numbers are copied, the rest is 0 -/
def fillI (l : List Int) (k : Nat) : List Value := (l.take k).map encI ++ List.replicate (l.length - k) (.int .i64 0)
theorem filli_zero (l : List Int) : fillI l 0 = List.replicate l.length (.int .i64 0) := by simp [fillI]
theorem filli_all (l : List Int) : fillI l l.length = l.map encI := by simp [fillI]
theorem filli_len {l : List Int} {k : Nat} (h : k < l.length) : ((l.take k).map encI).length = k := by
  rw [List.length_map, List.length_take]; omega
theorem filli_at {l : List Int} {k : Nat} (h : k < l.length) : (fillI l k)[k]? = some (.int .i64 0) := by
  unfold fillI
  rw [List.getElem?_append_right (by rw [filli_len h]; omega), filli_len h, Nat.sub_self, List.getElem?_replicate, if_pos (by omega)]
theorem filli_set {l : List Int} {k : Nat} {x : Int} (h : l[k]? = some x) : (fillI l k).set k (encI x) = fillI l (k + 1) := by
  obtain ⟨hlt, he⟩ := List.getElem?_eq_some_iff.1 h
  have e1 : l.length - k = (l.length - (k + 1)) + 1 := by omega
  unfold fillI
  rw [List.set_append_right _ _ (by rw [filli_len hlt]; omega), filli_len hlt, Nat.sub_self, e1, List.replicate_succ, List.take_succ_eq_append_getElem hlt, he, List.set_cons_zero]
  simp

/-- a slice of integers of the call's own -/
def OwnI (w : World) (base : Nat) (v : Value) (l : List Int) : Prop := w.ownsRow base 3 1 v l.length (l.map encI)

theorem OwnI.inI {w : World} {base : Nat} {a : Option Addr} {n cap : Nat} {l : List Int} (h : OwnI w base (.slice a n cap) l) : InI w a l := by
  intro h0
  rcases h.2 with ⟨_, h1⟩ | ⟨g, cap', cur, hv, hb, hg, _, _, _, ht⟩
  · omega
  · simp only [Value.slice.injEq] at hv
    obtain ⟨rfl, -, -⟩ := hv
    refine ⟨g, 0, rfl, (Array.getElem?_eq_some_iff.1 hg).1, fun j x hj => ?_⟩
    obtain ⟨hlt, he⟩ := List.getElem?_eq_some_iff.1 hj
    rw [Nat.zero_add, cell_of_row w g j cur _ (0, 0) hg, ← Array.getElem?_toList]
    have h2 : (cur.toList.take (l.length * 1))[j]? = (l.map encI)[j]? := by rw [ht]
    rw [List.getElem?_take_of_lt (by omega)] at h2
    rw [h2]
    simp [he, hlt, encI]

theorem OwnI.shape {w : World} {base : Nat} {v : Value} {l : List Int} (h : OwnI w base v l) : ∃ a cap, v = .slice a l.length cap := by
  rcases h.2 with ⟨rfl, h0⟩ | ⟨g, cap, cur, rfl, _⟩
  · exact ⟨none, 0, by rw [h0]⟩
  · exact ⟨_, _, rfl⟩
theorem OwnI.alloc {w : World} {base : Nat} {v : Value} {l : List Int} (h : OwnI w base v l) (o : Obj) : OwnI (w.alloc o) base v l := World.ownsRow.alloc h o
theorem OwnI.made (w : World) (base : Nat) (cur : Array Value) (cap : Nat) (hb : base ≤ w.heap.size) (hm : cap ≤ maxLen) (hs : cur.size = cap) :
    OwnI (w.alloc (.cells cur 3)) base (.slice (some ⟨w.heap.size, 0, none⟩) 0 cap) [] :=
  World.ownsRow_made w cur cap hb hm (by omega)

/-- append of one integer, which lies in a new block of one cell -/
theorem append_i {ops : Array Oper} {rest : List Oper} {o : Oper} {a : Act} {Q : Exit → Act → World → Prop} {w0 : World} (hgd : o.guard = none) (s y : Operand)
    (ho : o.op = .call { callee := .builtin .append, args := #[s, y], argTypes := #[27, 27] })
    (base : Nat) (v : Value) (l : List Int) (x : Int) (hown : OwnI w0 base v l) (hs : a.eval s = v)
    (hy : a.eval y = .slice (some ⟨w0.heap.size, 0, none⟩) 1 1) (hlen : l.length ≤ 4000000) (hbase : base ≤ w0.heap.size)
    (h : ∀ v' w', OwnI w' base v' (l ++ [x]) → w0.grownBy w' v.ownBlock → (v'.ownBlock = v.ownBlock ∨ v'.ownBlock = some (w0.heap.size + 1)) → wpList Tryz.prog ops Q rest (a.put o.dst v') w') :
    wpList Tryz.prog ops Q (o :: rest) a (w0.alloc (.cells #[.int .i64 x] 3)) := by
  obtain ⟨i0, hi, hz0, hz1, hz2⟩ := info_parts info_i64
  refine wpList_append_own_at _ hgd s y 27 ho base 3 i0 (.int .i64 0) 1 8 Tryz.underlying27 hi hz0 hz1 hz2 rfl (by decide) v l.length (l.map encI) hs (World.ownsRow.alloc hown _)
    ⟨w0.heap.size, 0, none⟩ 1 1 [.int .i64 x] hy rfl (cell_one_new _ _ _) ?_ (by unfold maxLen; omega) (by omega) (by simp; omega) ?_
  · intro u hu
    simp at hu
    subst hu
    rfl
  · intro v' w' h2 h3 _ h5
    refine h v' w' ?_ ((World.grownBy_alloc w0 _ _).trans h3) (by rcases h5 with e | e; exact .inl e; exact .inr (by rw [e]; simp))
    have e1 : (l ++ [x]).length = l.length + 1 := by simp
    have e2 : (l ++ [x]).map encI = l.map encI ++ [.int .i64 x] := by simp [encI]
    unfold OwnI
    rw [e1, e2]
    exact h2

/-- two slices of integers of the call's own, in different blocks -/
def PairI (w : World) (base : Nat) (u v : Value) (l m : List Int) : Prop := OwnI w base u l ∧ OwnI w base v m ∧ ∀ k, u.ownBlock = some k → v.ownBlock ≠ some k
theorem PairI.swap {w : World} {base : Nat} {u v : Value} {l m : List Int} (h : PairI w base u v l m) : PairI w base v u m l := ⟨h.2.1, h.1, fun k hk e => h.2.2 k e hk⟩
theorem PairI.alloc {w : World} {base : Nat} {u v : Value} {l m : List Int} (h : PairI w base u v l m) (o : Obj) : PairI (w.alloc o) base u v l m := ⟨h.1.alloc o, h.2.1.alloc o, h.2.2⟩
theorem PairI.keptc {w w' : World} {base c : Nat} {u v : Value} {l m : List Int} (h : PairI w base u v l m) (hg : w.grownBy w' (some c)) (hc : c < base) : PairI w' base u v l m := by
  refine ⟨World.ownsRow.kept h.1 hg (.inr fun e => ?_), World.ownsRow.kept h.2.1 hg (.inr fun e => ?_), h.2.2⟩
  · have := (World.ownsRow.lt h.1 c e).1; omega
  · have := (World.ownsRow.lt h.2.1 c e).1; omega
theorem PairI.first {w w' : World} {base : Nat} {u v u' : Value} {l m l' : List Int} (h : PairI w base u v l m) (ho : OwnI w' base u' l') (hg : w.grownBy w' u.ownBlock) (hat : u'.ownBlock = u.ownBlock ∨ u'.ownBlock = some (w.heap.size + 1)) : PairI w' base u' v l' m := by
  refine ⟨ho, World.ownsRow.kept h.2.1 hg ?_, fun k hk e => ?_⟩
  · cases hv : v.ownBlock with
    | none => exact .inl rfl
    | some k => exact .inr fun e => h.2.2 k e.symm hv
  · rcases hat with e1 | e1
    · exact h.2.2 k (by rw [← e1]; exact hk) e
    · rw [e1] at hk
      injection hk with hk
      have := (World.ownsRow.lt h.2.1 k e).2
      omega
theorem PairI.below {w w' : World} {base : Nat} {u v : Value} {l m : List Int} (h : PairI w base u v l m) (hb : base ≤ w.heap.size) (hg : w.grownBy w' u.ownBlock) : Below base w w' :=
  (Below.refl base w).grown hg hb (fun k hk => (World.ownsRow.lt h.1 k hk).1)

/-- a slice that reads as the list is handed back -/
def GivesI (w : World) (l : List Int) (e : Ending) (w' : World) : Prop := ∃ a cap, e = .returned (.slice a l.length cap) ∧ InI w' a l ∧ Below w.heap.size w w'

theorem quiet_i (B : Nat) (w : World) (n : Nat) : Below B w (w.drewN n) := ⟨rfl, rfl, rfl, Nat.le_refl _, fun _ _ => rfl⟩

/-- an argument of a law -/
def ArgI (w : World) (a : Option Addr) (l : List Int) : Prop := InI w a l ∧ l.length ≤ maxLen

theorem ArgI.inI {w : World} {a : Option Addr} {l : List Int} (h : ArgI w a l) : InI w a l := h.1
theorem argI_of {w : World} {x : Addr} {l c : Nat} {zs : List Int} (hl : l ≤ c) (hm : c ≤ maxLen) (hz : zs.length = c)
    (hcell : ∀ i, i < zs.length → w.cell? (x.add i) = some (.int .i64 (zs.getD i 0))) : ∃ L : List Int, l = L.length ∧ ArgI w (some x) L := by
  refine ⟨zs.take l, by simp; omega, fun h0 => ?_, by simp; omega⟩
  simp at h0
  obtain ⟨b, off, spot⟩ := x
  have hspot : spot = none := by simpa [Addr.add] using World.cell?_spot (hcell 0 (by omega))
  subst hspot
  refine ⟨b, off, rfl, ?_, fun j y hj => ?_⟩
  · exact World.block_lt_of_cell? w _ (hcell 0 (by omega))
  · obtain ⟨hlt, he⟩ := List.getElem?_eq_some_iff.1 hj
    simp at hlt
    have h1 := hcell j (by omega)
    have h2 : (⟨b, off, none⟩ : Addr).add j = ⟨b, off + j, none⟩ := by unfold Addr.add; split <;> simp_all
    rw [h2] at h1
    rw [h1]
    simp only [List.getElem_take] at he
    rw [← he, List.getD, List.getElem?_eq_getElem (by omega)]
    rfl

end Go.Proofs.YtpmfabpnjacegaaGreatDoor

/-
  What the laws' own markIntS and heldIntS do; a slice of integers of the call's own in a span of blocks. By an AI agent.
-/
namespace Go.Proofs.YtpmfabpnjacegaaGreatDoor
open Go.RowKit
set_option linter.unusedVariables false

theorem OwnI.below {w w' : World} {base : Nat} {v : Value} {l : List Int} (h : OwnI w base v l) (hb : Below w.heap.size w w') : OwnI w' base v l :=
  World.ownsRow.kept h (row := none) ⟨hb.os, hb.tape, hb.output, hb.size, fun i hi _ => hb.block i hi⟩ (by cases hv : v.ownBlock <;> simp)
theorem OwnI.mono {w : World} {base base' : Nat} {v : Value} {l : List Int} (h : OwnI w base v l) (hb : base' ≤ base) : OwnI w base' v l := by
  refine ⟨h.1, ?_⟩
  rcases h.2 with hn | ⟨g, cap', cur, hv, hbg, rest⟩
  · exact .inl hn
  · exact .inr ⟨g, cap', cur, hv, Nat.le_trans hb hbg, rest⟩
theorem OwnI.nil (w : World) (base : Nat) : OwnI w base (.slice none 0 0) [] := World.ownsRow_nil _ _ _ _

/-- a slice of the call's own, in blocks from lo on and below hi -/
def OwnJ (w : World) (lo hi : Nat) (v : Value) (l : List Int) : Prop := OwnI w lo v l ∧ ∀ k, v.ownBlock = some k → k < hi
theorem OwnJ.of {w w' : World} {a : Option Addr} {cap n : Nat} {l : List Int} (h : OwnI w' w.heap.size (.slice a n cap) l) : OwnJ w' w.heap.size w'.heap.size (.slice a n cap) l :=
  ⟨h, fun k hk => (World.ownsRow.lt h k hk).2⟩
theorem OwnJ.below {w w' : World} {lo hi : Nat} {v : Value} {l : List Int} (h : OwnJ w lo hi v l) (hb : Below w.heap.size w w') : OwnJ w' lo hi v l := ⟨h.1.below hb, h.2⟩
theorem OwnJ.inI {w : World} {lo hi : Nat} {a : Option Addr} {n cap : Nat} {l : List Int} (h : OwnJ w lo hi (.slice a n cap) l) : InI w a l := h.1.inI
/-- what is written into one slice leaves another as it was -/
theorem OwnJ.other {w w' : World} {lo hi lo' hi' : Nat} {v u : Value} {l : List Int} (h : OwnJ w lo hi v l) (hg : w.grownBy w' u.ownBlock) (hu : ∀ k, u.ownBlock = some k → lo' ≤ k ∧ k < hi') (hd : hi ≤ lo' ∨ hi' ≤ lo) : OwnJ w' lo hi v l := by
  refine ⟨World.ownsRow.kept h.1 hg ?_, h.2⟩
  cases hv : v.ownBlock with
  | none => exact .inl rfl
  | some k =>
    refine .inr fun e => ?_
    have h1 := (World.ownsRow.lt h.1 k hv).1
    have h2 := h.2 k hv
    have h3 := hu k e.symm
    omega
theorem OwnJ.row {w : World} {lo hi : Nat} {v : Value} {l : List Int} (h : OwnJ w lo hi v l) : ∀ k, v.ownBlock = some k → lo ≤ k ∧ k < hi := fun k hk => ⟨(World.ownsRow.lt h.1 k hk).1, h.2 k hk⟩
theorem below_rowj {w0 w w' : World} {lo hi : Nat} {v : Value} {l : List Int} (hb : Below w0.heap.size w0 w) (h : OwnJ w lo hi v l) (hg : w.grownBy w' v.ownBlock) (hlo : w0.heap.size ≤ lo) : Below w0.heap.size w0 w' :=
  hb.grown hg hb.size fun k hk => Nat.le_trans hlo (h.row k hk).1

def marksI (k n : Nat) : List Int := (List.range n).map fun i => ((k + i : Nat) : Int)
theorem marksI_length (k n : Nat) : (marksI k n).length = n := by simp [marksI]
theorem marksI_at {k n j : Nat} (h : j < n) : (marksI k n)[j]? = some ((k + j : Nat) : Int) := by simp [marksI, h]
theorem marksI_succ (k n : Nat) : marksI k (n + 1) = marksI k n ++ [((k + n : Nat) : Int)] := by simp [marksI, List.range_succ]
/-- the first k are marked -/
def markW (l : List Int) (k0 k : Nat) : List Value := (marksI k0 k).map encI ++ (l.drop k).map encI
theorem markW_zero (l : List Int) (k0 : Nat) : markW l k0 0 = l.map encI := by simp [markW, marksI]
theorem markW_all (l : List Int) (k0 : Nat) : markW l k0 l.length = (marksI k0 l.length).map encI := by simp [markW]
theorem markW_at {l : List Int} {k0 k : Nat} {x : Int} (h : l[k]? = some x) : (markW l k0 k)[k]? = some (encI x) := by
  unfold markW
  rw [List.getElem?_append_right (by simp [marksI_length]), List.length_map, marksI_length, Nat.sub_self, List.getElem?_map, List.getElem?_drop, Nat.add_zero, h]
  rfl
theorem markW_set {l : List Int} {k0 k : Nat} (hlt : k < l.length) : (markW l k0 k).set k (encI ((k0 + k : Nat) : Int)) = markW l k0 (k + 1) := by
  unfold markW
  rw [List.set_append_right _ _ (by simp [marksI_length]), List.length_map, marksI_length, Nat.sub_self, List.drop_eq_getElem_cons hlt, List.map_cons, List.set_cons_zero, marksI_succ]
  simp
theorem owni_at {w : World} {base : Nat} {a : Option Addr} {n cap : Nat} {xs : List Value} (h : w.ownsRow base 3 1 (.slice a n cap) n xs) (h0 : 0 < n) : ∃ g, a = some ⟨g, 0, none⟩ ∧ g < w.heap.size := by
  rcases h.2 with ⟨_, h1⟩ | ⟨g, cap', cur, hv, hb, hg, _⟩
  · omega
  · simp only [Value.slice.injEq] at hv
    exact ⟨g, hv.1, (Array.getElem?_eq_some_iff.1 hg).1⟩
theorem grownI_trans {a b d : World} {r : Option Nat} (h1 : a.grownBy b r) (h2 : b.grownBy d r) : a.grownBy d r :=
  ⟨h2.os.trans h1.os, h2.tape.trans h1.tape, h2.output.trans h1.output, Nat.le_trans h1.size h2.size, fun k hk hne => (h2.block k (Nat.lt_of_lt_of_le hk h1.size) hne).trans (h1.block k hk hne)⟩

end Go.Proofs.YtpmfabpnjacegaaGreatDoor

/-
  What spec.l14Put does, at any ascending list of the call's own. By an AI agent.
-/
namespace Go.Proofs.YtpmfabpnjacegaaGreatDoor
open Go.RowKit
set_option linter.unusedVariables false
set_option linter.unusedSimpArgs false

/-- append of a slice that reads as a list of integers to a slice of the call's own -/
theorem run_appI (ty : TypeId) (base : Nat) (v : Value) (l : List Int) (w : World) (hown : OwnI w base v l) (a : Option Addr) (c : Nat) (ms : List Int) (hin : InI w a ms) (hn : a = none → c = 0) (hsz : l.length + ms.length ≤ 9000000) (hbase : base ≤ w.heap.size) :
    ∃ v' w', (Builtin.append_ #[27, 27] ty #[v, .slice a ms.length c]).run Tryz.prog w = .ok v' w' ∧ OwnI w' base v' (l ++ ms) ∧ w.grownBy w' v.ownBlock := by
  obtain ⟨i0, hi, hz0, hz1, hz2⟩ := info_parts info_i64
  have e1 : (l ++ ms).length = l.length + ms.length := by simp
  have e2 : (l ++ ms).map encI = l.map encI ++ ms.map encI := by simp
  cases a with
  | none =>
    obtain rfl : ms = [] := by
      rcases Nat.eq_zero_or_pos ms.length with h | h
      · exact List.eq_nil_of_length_eq_zero h
      · obtain ⟨_, _, h2, _⟩ := hin h
        cases h2
    rw [hn rfl]
    refine ⟨v, w, run_append_owned_none (P := Tryz.prog) (w := w) base 27 ty 3 i0 1 Tryz.underlying27 hi v l.length (l.map encI) hown, ?_, World.grownBy.refl _ _⟩
    rw [List.append_nil]
    exact hown
  | some ad =>
    obtain ⟨v', w', h1, h2, h3, -⟩ := run_append_own (P := Tryz.prog) w base 27 ty 3 i0 (.int .i64 0) 1 8 Tryz.underlying27 hi hz0 hz1 hz2 rfl (by decide) v l.length (l.map encI) hown
      ad ms.length c (ms.map encI) (by simp) (fun j u hj => by
        rw [List.getElem?_map] at hj
        cases hx : ms[j]? with
        | none => rw [hx] at hj; cases hj
        | some x =>
          rw [hx] at hj
          have hlt := (List.getElem?_eq_some_iff.1 hx).1
          obtain ⟨b, off, e, _, hc⟩ := hin (by omega)
          obtain rfl : ad = ⟨b, off, none⟩ := Option.some.inj e
          have h2 : (⟨b, off, none⟩ : Addr).add j = ⟨b, off + j, none⟩ := by unfold Addr.add; split <;> simp_all
          rw [h2, hc j x hx]
          exact hj) (by intro u hu; obtain ⟨x, _, rfl⟩ := List.mem_map.1 hu; rfl) (by unfold maxLen; omega) (by omega) hbase
    refine ⟨v', w', h1, ?_, h3⟩
    unfold OwnI
    rw [e1, e2]
    exact h2

theorem step_appI {ops : Array Oper} {o : Oper} {a : Act} {w : World} {K : Act → World → Prop} {Q : Exit → Act → World → Prop} {E : Prop}
    (hg : o.guard = none) (s x : Operand) (hop : o.op = Op.call { callee := Callee.builtin Builtin.append, args := #[s, x], argTypes := #[27, 27] })
    (base : Nat) (v : Value) (l : List Int) (hs : a.eval s = v) (ad : Option Addr) (m c : Nat) (ms : List Int) (hx : a.eval x = .slice ad m c) (hm : m = ms.length)
    (hown : OwnI w base v l) (hin : InI w ad ms) (hn : ad = none → c = 0) (hsz : l.length + ms.length ≤ 9000000) (hbase : base ≤ w.heap.size)
    (hK : ∀ v' w', OwnI w' base v' (l ++ ms) → w.grownBy w' v.ownBlock → K (a.put o.dst v') w') :
    if Region.wanted o (yielded ops a.tmps) = true then Oper.wp Tryz.prog o a w K Q else E := by
  subst hm
  rw [if_pos (by simp [Region.wanted, hg])]
  obtain ⟨v', w', hrun, h1, h2⟩ := run_appI o.type base v l w hown ad c ms hin hn hsz hbase
  unfold Oper.wp
  simp [execOp, hop, resolve, invoke, builtin, hs, hx, hrun, Result.andThen]
  exact hK v' w' h1 h2

theorem own_newI (w : World) (base g : Nat) (hg : w.heap.size = g) (hb : base ≤ g) : OwnI (w.alloc (.cells #[] 3)) base (.slice (some ⟨g, 0, none⟩) 0 0) [] := by
  subst hg
  exact OwnI.made w base #[] 0 hb (Nat.zero_le _) rfl
theorem in_oneI (w : World) (g : Nat) (y : Int) (hg : w.heap.size = g) : InI (w.alloc (.cells #[.int .i64 y] 3)) (some ⟨g, 0, none⟩) [y] := by
  subst hg
  exact InI.new w [y]
theorem InI.grown {w w' : World} {a : Option Addr} {l : List Int} {r : Option Nat} (h : InI w a l) (hg : w.grownBy w' r) (hne : ∀ b off, a = some ⟨b, off, none⟩ → some b ≠ r) : InI w' a l :=
  h.keep hg.size fun b off ha hb => hg.block b hb (hne b off ha)
theorem InI.take' {w : World} {a : Option Addr} {l : List Int} (h : InI w a l) (k : Nat) : InI w a (l.take k) := by
  intro h0
  obtain ⟨b', off', e, hb, hc⟩ := h (by rw [List.length_take] at h0; omega)
  refine ⟨b', off', e, hb, fun j x hj => hc j x ?_⟩
  rw [List.getElem?_take] at hj
  split at hj
  · exact hj
  · cases hj
theorem InI.drop0 {w : World} {b : Nat} {l : List Int} (h : InI w (some ⟨b, 0, none⟩) l) (k : Nat) : InI w (some ⟨b, k, none⟩) (l.drop k) := by
  intro h0
  obtain ⟨b', off', e, hb, hc⟩ := h (by rw [List.length_drop] at h0; omega)
  obtain ⟨rfl, rfl⟩ : b = b' ∧ 0 = off' := by simpa using e
  refine ⟨b, k, rfl, hb, fun j x hj => ?_⟩
  rw [List.getElem?_drop] at hj
  have h2 := hc (k + j) x hj
  rwa [Nat.zero_add] at h2
theorem InI.empty (w : World) (a : Option Addr) {l : List Int} (h : l.length = 0) : InI w a l := fun h0 => absurd h0 (by omega)

/-- what is handed back: a slice of the caller's own -/
def PutsI (w : World) (base : Nat) (l : List Int) (e : Ending) (w' : World) : Prop :=
  ∃ a cap, e = .returned (.slice a l.length cap) ∧ OwnI w' base (.slice a l.length cap) l ∧ Below w.heap.size w w'
theorem PutsI.mk {w w' : World} {base : Nat} {v : Value} {l : List Int} (h : OwnI w' base v l) (hb : Below w.heap.size w w') : PutsI w base l (.returned v) w' := by
  obtain ⟨a, cap, rfl⟩ := h.shape
  exact ⟨a, cap, rfl, h, hb⟩
theorem grown_oldI {w0 w w' : World} {v : Value} {l : List Int} (hb : Below w0.heap.size w0 w) (hg : w.grownBy w' v.ownBlock) (ho : OwnI w w0.heap.size v l) : Below w0.heap.size w0 w' :=
  hb.grown hg hb.size fun k hk => (World.ownsRow.lt ho k hk).1
theorem owni_some {w : World} {base : Nat} {a : Option Addr} {n cap : Nat} {l : List Int} (h : OwnI w base (.slice a n cap) l) (h0 : 0 < l.length) : (∃ b, a = some ⟨b, 0, none⟩) ∧ l.length ≤ cap := by
  rcases h.2 with ⟨_, h1⟩ | ⟨g, cap', cur, hv, _, _, h2, _⟩
  · omega
  · simp only [Value.slice.injEq] at hv
    exact ⟨⟨g, hv.1⟩, by omega⟩

set_option maxRecDepth 100000 in
set_option maxHeartbeats 8000000 in
theorem puti_some (base b cap : Nat) (l : List Int) (y : Int) (w : World) (hl : l.length ≤ 8500000) (hown : OwnI w base (.slice (some ⟨b, 0, none⟩) l.length cap) l) (hlc : l.length ≤ cap) (hbase : base ≤ w.heap.size) :
    Calls Tryz.prog 85 #[.slice (some ⟨b, 0, none⟩) l.length cap, .int .i64 y] w (PutsI w base (putI l y)) := by
  have HIN := Lib.hid hown.inI
  have HB0 := Lib.hid hbase
  have HOWN := Lib.hid hown
  clear hown hbase
  go_enter Tryz.func85, Tryz.ntmps85
  go_wp2
  go_loop [5] (fun i => ∃ k : Nat, k ≤ l.length ∧ i = .int .i64 k ∧ ∀ (j : Nat) (x : Int), l[j]? = some x → j < k → x < y) (fun i => l.length - (intOf i).toNat)
  case atStart => exact ⟨0, Nat.zero_le _, rfl, fun j x _ hj => absurd hj (Nat.not_lt_zero _)⟩
  case round =>
    obtain ⟨k, hk, rfl, hall⟩ := hrel
    have HALL := Lib.hid hall
    clear hall
    have h1 : (0 : Int) ≤ (k : Int) := by omega
    have h2 : (k : Int) ≤ (cap : Int) := by omega
    have h3 : (k : Int) ≤ (l.length : Int) := by omega
    by_cases hlt : k < l.length
    · obtain ⟨b', off', e', hbw, hc⟩ := HIN.out (by omega)
      obtain ⟨rfl, rfl⟩ : b = b' ∧ 0 = off' := by simpa using e'
      obtain ⟨x, hx1⟩ : ∃ x, l[k]? = some x := ⟨_, List.getElem?_eq_getElem hlt⟩
      have hcell : w.cell? ⟨b, 0 + k, none⟩ = some (.int .i64 x) := hc k x hx1
      rw [Nat.zero_add] at hcell
      have hkc : ¬ cap = k := by omega
      have hkc2 : ¬ (cap : Int) = (k : Int) := by omega
      clear hc e'
      by_cases hxy : x < y
      · have HX := Lib.hid hx1
        have HXY := Lib.hid hxy
        clear hx1
        go_wp2
        go_round
        case rel =>
          refine ⟨k + 1, by omega, by go_num, fun j z hz hj => ?_⟩
          by_cases e : j = k
          · rw [e, HX.out] at hz
            cases hz
            exact HXY.out
          · exact HALL.out j z hz (by omega)
        case measure => simp [intOf]; omega
      · by_cases hq : x = y
        · have HE := Lib.hid (putI_same HALL.out (by rw [hx1, hq]))
          subst hq
          clear hx1
          go_wp2
          go_ret
          refine PutsI.mk ?_ (Below.refl _ _)
          rw [HE.out]
          exact HOWN.out
        · have HE := Lib.hid (putI_new HALL.out (fun z hz => by rw [hx1] at hz; cases hz; exact ⟨hxy, hq⟩) hk)
          have hse : (x == y) = false := by simpa using hq
          clear hx1
          have hmin : (l.take k).length = k := by rw [List.length_take]; omega
          have hdr : (l.drop k).length = (l.length - k) := List.length_drop
          have O1 : Hid (OwnI (w.alloc (.cells #[] 3)).drew w.heap.size (.slice (some ⟨w.heap.size, 0, none⟩) 0 0) []) := Lib.hid (own_newI w w.heap.size w.heap.size rfl (Nat.le_refl _))
          have B1 := Lib.hid ((Below.refl w.heap.size w).alloc (Nat.le_refl _) (.cells #[] 3)).drew
          have O2 : Hid (OwnI ((w.alloc (.cells #[] 3)).alloc (.cells #[.int .i64 y] 3)).drew w.heap.size (.slice (some ⟨w.heap.size, 0, none⟩) 0 0) []) := Lib.hid ((own_newI w w.heap.size w.heap.size rfl (Nat.le_refl _)).alloc (.cells #[.int .i64 y] 3))
          have B2 := Lib.hid (((Below.refl w.heap.size w).alloc (Nat.le_refl _) (.cells #[] 3)).alloc (by simp) (.cells #[.int .i64 y] 3)).drew
          have S2 : Hid (InI ((w.alloc (.cells #[] 3)).alloc (.cells #[.int .i64 y] 3)).drew (some ⟨w.heap.size + 1, 0, none⟩) [y]) := Lib.hid (in_oneI (w.alloc (.cells #[] 3)) (w.heap.size + 1) y (by simp))
          have O3 : Hid (OwnI ((w.alloc (.cells #[.int .i64 y] 3)).alloc (.cells #[] 3)).drew w.heap.size (.slice (some ⟨w.heap.size + 1, 0, none⟩) 0 0) []) := Lib.hid (own_newI (w.alloc (.cells #[.int .i64 y] 3)) w.heap.size (w.heap.size + 1) (by simp) (by omega))
          have B3 := Lib.hid (((Below.refl w.heap.size w).alloc (Nat.le_refl _) (.cells #[.int .i64 y] 3)).alloc (by simp) (.cells #[] 3)).drew
          have S3 : Hid (InI ((w.alloc (.cells #[.int .i64 y] 3)).alloc (.cells #[] 3)).drew (some ⟨w.heap.size, 0, none⟩) [y]) := Lib.hid ((in_oneI w w.heap.size y rfl).alloc (.cells #[] 3))
          have HM := Lib.hid hmin
          have HD := Lib.hid hdr
          clear hmin hdr
          go_wp2
          go_region_law (first
            | (refine step_appI (by rfl) (.tmp 33) (.tmp 36) (by rfl) w.heap.size (.slice (some ⟨w.heap.size, 0, none⟩) 0 0) [] (by rfl) (some ⟨b, 0, none⟩) k cap (l.take k) (by rfl) HM.out.symm O1.out ((HIN.out.below B1.out).take' k) nofun (by have e1 := HM.out; have e2 := HD.out; simp only [List.length_append, List.length_cons, List.length_nil] at e1 e2 ⊢; omega) B1.out.size ?_; intro v1 w1 ho1 hg1; have hb1 : Below w.heap.size w w1 := grown_oldI B1.out hg1 O1.out)
            | (refine step_appI (by rfl) (.tmp 33) (.tmp 36) (by rfl) w.heap.size (.slice (some ⟨w.heap.size, 0, none⟩) 0 0) [] (by rfl) (some ⟨b, 0, none⟩) k cap (l.take k) (by rfl) HM.out.symm O2.out ((HIN.out.below B2.out).take' k) nofun (by have e1 := HM.out; have e2 := HD.out; simp only [List.length_append, List.length_cons, List.length_nil] at e1 e2 ⊢; omega) B2.out.size ?_; intro v1 w1 ho1 hg1; have hb1 : Below w.heap.size w w1 := grown_oldI B2.out hg1 O2.out; have hs1 := S2.out.grown hg1 (by intro b off e; cases e; simp [Value.ownBlock]))
            | (refine step_appI (by rfl) (.tmp 33) (.tmp 36) (by rfl) w.heap.size (.slice (some ⟨w.heap.size + 1, 0, none⟩) 0 0) [] (by rfl) (some ⟨b, 0, none⟩) k cap (l.take k) (by rfl) HM.out.symm O3.out ((HIN.out.below B3.out).take' k) nofun (by have e1 := HM.out; have e2 := HD.out; simp only [List.length_append, List.length_cons, List.length_nil] at e1 e2 ⊢; omega) B3.out.size ?_; intro v1 w1 ho1 hg1; have hb1 : Below w.heap.size w w1 := grown_oldI B3.out hg1 O3.out; have hs1 := S3.out.grown hg1 (by intro b off e; cases e; simp [Value.ownBlock]))
            | (refine step_appI (by rfl) (.tmp 37) (.tmp 39) (by rfl) w.heap.size v1 ([] ++ (l.take k)) (by rfl) (some ⟨w.heap.size + 1, 0, none⟩) 1 1 [y] (by rfl) rfl ho1 hs1 nofun (by have e1 := HM.out; have e2 := HD.out; simp only [List.length_append, List.length_cons, List.length_nil] at e1 e2 ⊢; omega) hb1.size ?_; intro v2 w2 ho2 hg2; have hb2 : Below w.heap.size w w2 := grown_oldI hb1 hg2 ho1)
            | (refine step_appI (by rfl) (.tmp 37) (.tmp 39) (by rfl) w.heap.size v1 ([] ++ (l.take k)) (by rfl) (some ⟨w.heap.size, 0, none⟩) 1 1 [y] (by rfl) rfl ho1 hs1 nofun (by have e1 := HM.out; have e2 := HD.out; simp only [List.length_append, List.length_cons, List.length_nil] at e1 e2 ⊢; omega) hb1.size ?_; intro v2 w2 ho2 hg2; have hb2 : Below w.heap.size w w2 := grown_oldI hb1 hg2 ho1)
            | (refine step_appI (by rfl) (.tmp 37) (.tmp 39) (by rfl) w.heap.size v1 ([] ++ (l.take k)) (by rfl) (some ⟨w1.heap.size, 0, none⟩) 1 1 [y] (by rfl) rfl (ho1.alloc _) (in_oneI w1 w1.heap.size y rfl) nofun (by have e1 := HM.out; have e2 := HD.out; simp only [List.length_append, List.length_cons, List.length_nil] at e1 e2 ⊢; omega) (hb1.alloc hb1.size _).size ?_; intro v2 w2 ho2 hg2; have hb2 : Below w.heap.size w w2 := grown_oldI (hb1.alloc hb1.size _) hg2 (ho1.alloc _))
            | (refine step_appI (by rfl) (.tmp 40) (.tmp 43) (by rfl) w.heap.size v2 ([] ++ (l.take k) ++ [y]) (by rfl) (some ⟨b, k, none⟩) (l.length - k) (cap - k) (l.drop k) (by rfl) HD.out.symm ho2 ((HIN.out.below hb2).drop0 k) nofun (by have e1 := HM.out; have e2 := HD.out; simp only [List.length_append, List.length_cons, List.length_nil] at e1 e2 ⊢; omega) hb2.size ?_; intro v3 w3 ho3 hg3; have hb3 : Below w.heap.size w w3 := grown_oldI hb2 hg3 ho2))
          all_goals go_wp2
          all_goals go_ret
          all_goals
            have hfin : OwnI w3 base v3 (putI l y) := by
              rw [HE.out]
              have h := ho3.mono HB0.out
              simpa using h
            exact PutsI.mk hfin hb3
    · have HE := Lib.hid (putI_new HALL.out (fun z hz => absurd (List.getElem?_eq_some_iff.1 hz).1 hlt) hk)
      by_cases hkc : cap = k
      · subst hkc
        have hmin : (l.take cap).length = cap := by rw [List.length_take]; omega
        have hdr : (l.drop cap).length = 0 := by rw [List.length_drop]; omega
        have O1 : Hid (OwnI (w.alloc (.cells #[] 3)).drew w.heap.size (.slice (some ⟨w.heap.size, 0, none⟩) 0 0) []) := Lib.hid (own_newI w w.heap.size w.heap.size rfl (Nat.le_refl _))
        have B1 := Lib.hid ((Below.refl w.heap.size w).alloc (Nat.le_refl _) (.cells #[] 3)).drew
        have O2 : Hid (OwnI ((w.alloc (.cells #[] 3)).alloc (.cells #[.int .i64 y] 3)).drew w.heap.size (.slice (some ⟨w.heap.size, 0, none⟩) 0 0) []) := Lib.hid ((own_newI w w.heap.size w.heap.size rfl (Nat.le_refl _)).alloc (.cells #[.int .i64 y] 3))
        have B2 := Lib.hid (((Below.refl w.heap.size w).alloc (Nat.le_refl _) (.cells #[] 3)).alloc (by simp) (.cells #[.int .i64 y] 3)).drew
        have S2 : Hid (InI ((w.alloc (.cells #[] 3)).alloc (.cells #[.int .i64 y] 3)).drew (some ⟨w.heap.size + 1, 0, none⟩) [y]) := Lib.hid (in_oneI (w.alloc (.cells #[] 3)) (w.heap.size + 1) y (by simp))
        have O3 : Hid (OwnI ((w.alloc (.cells #[.int .i64 y] 3)).alloc (.cells #[] 3)).drew w.heap.size (.slice (some ⟨w.heap.size + 1, 0, none⟩) 0 0) []) := Lib.hid (own_newI (w.alloc (.cells #[.int .i64 y] 3)) w.heap.size (w.heap.size + 1) (by simp) (by omega))
        have B3 := Lib.hid (((Below.refl w.heap.size w).alloc (Nat.le_refl _) (.cells #[.int .i64 y] 3)).alloc (by simp) (.cells #[] 3)).drew
        have S3 : Hid (InI ((w.alloc (.cells #[.int .i64 y] 3)).alloc (.cells #[] 3)).drew (some ⟨w.heap.size, 0, none⟩) [y]) := Lib.hid ((in_oneI w w.heap.size y rfl).alloc (.cells #[] 3))
        have HM := Lib.hid hmin
        have HD := Lib.hid hdr
        clear hmin hdr
        go_wp2
        go_region_law (first
          | (refine step_appI (by rfl) (.tmp 33) (.tmp 36) (by rfl) w.heap.size (.slice (some ⟨w.heap.size, 0, none⟩) 0 0) [] (by rfl) (some ⟨b, 0, none⟩) cap cap (l.take cap) (by rfl) HM.out.symm O1.out ((HIN.out.below B1.out).take' cap) nofun (by have e1 := HM.out; have e2 := HD.out; simp only [List.length_append, List.length_cons, List.length_nil] at e1 e2 ⊢; omega) B1.out.size ?_; intro v1 w1 ho1 hg1; have hb1 : Below w.heap.size w w1 := grown_oldI B1.out hg1 O1.out)
          | (refine step_appI (by rfl) (.tmp 33) (.tmp 36) (by rfl) w.heap.size (.slice (some ⟨w.heap.size, 0, none⟩) 0 0) [] (by rfl) (some ⟨b, 0, none⟩) cap cap (l.take cap) (by rfl) HM.out.symm O2.out ((HIN.out.below B2.out).take' cap) nofun (by have e1 := HM.out; have e2 := HD.out; simp only [List.length_append, List.length_cons, List.length_nil] at e1 e2 ⊢; omega) B2.out.size ?_; intro v1 w1 ho1 hg1; have hb1 : Below w.heap.size w w1 := grown_oldI B2.out hg1 O2.out; have hs1 := S2.out.grown hg1 (by intro b off e; cases e; simp [Value.ownBlock]))
          | (refine step_appI (by rfl) (.tmp 33) (.tmp 36) (by rfl) w.heap.size (.slice (some ⟨w.heap.size + 1, 0, none⟩) 0 0) [] (by rfl) (some ⟨b, 0, none⟩) cap cap (l.take cap) (by rfl) HM.out.symm O3.out ((HIN.out.below B3.out).take' cap) nofun (by have e1 := HM.out; have e2 := HD.out; simp only [List.length_append, List.length_cons, List.length_nil] at e1 e2 ⊢; omega) B3.out.size ?_; intro v1 w1 ho1 hg1; have hb1 : Below w.heap.size w w1 := grown_oldI B3.out hg1 O3.out; have hs1 := S3.out.grown hg1 (by intro b off e; cases e; simp [Value.ownBlock]))
          | (refine step_appI (by rfl) (.tmp 37) (.tmp 39) (by rfl) w.heap.size v1 ([] ++ (l.take cap)) (by rfl) (some ⟨w.heap.size + 1, 0, none⟩) 1 1 [y] (by rfl) rfl ho1 hs1 nofun (by have e1 := HM.out; have e2 := HD.out; simp only [List.length_append, List.length_cons, List.length_nil] at e1 e2 ⊢; omega) hb1.size ?_; intro v2 w2 ho2 hg2; have hb2 : Below w.heap.size w w2 := grown_oldI hb1 hg2 ho1)
          | (refine step_appI (by rfl) (.tmp 37) (.tmp 39) (by rfl) w.heap.size v1 ([] ++ (l.take cap)) (by rfl) (some ⟨w.heap.size, 0, none⟩) 1 1 [y] (by rfl) rfl ho1 hs1 nofun (by have e1 := HM.out; have e2 := HD.out; simp only [List.length_append, List.length_cons, List.length_nil] at e1 e2 ⊢; omega) hb1.size ?_; intro v2 w2 ho2 hg2; have hb2 : Below w.heap.size w w2 := grown_oldI hb1 hg2 ho1)
          | (refine step_appI (by rfl) (.tmp 37) (.tmp 39) (by rfl) w.heap.size v1 ([] ++ (l.take cap)) (by rfl) (some ⟨w1.heap.size, 0, none⟩) 1 1 [y] (by rfl) rfl (ho1.alloc _) (in_oneI w1 w1.heap.size y rfl) nofun (by have e1 := HM.out; have e2 := HD.out; simp only [List.length_append, List.length_cons, List.length_nil] at e1 e2 ⊢; omega) (hb1.alloc hb1.size _).size ?_; intro v2 w2 ho2 hg2; have hb2 : Below w.heap.size w w2 := grown_oldI (hb1.alloc hb1.size _) hg2 (ho1.alloc _))
          | (refine step_appI (by rfl) (.tmp 40) (.tmp 43) (by rfl) w.heap.size v2 ([] ++ (l.take cap) ++ [y]) (by rfl) (some ⟨b, 0, none⟩) 0 0 (l.drop cap) (by rfl) HD.out.symm ho2 (InI.empty _ _ (by rw [List.length_drop]; omega)) nofun (by have e1 := HM.out; have e2 := HD.out; simp only [List.length_append, List.length_cons, List.length_nil] at e1 e2 ⊢; omega) hb2.size ?_; intro v3 w3 ho3 hg3; have hb3 : Below w.heap.size w w3 := grown_oldI hb2 hg3 ho2))
        all_goals go_wp2
        all_goals go_ret
        all_goals
          have hfin : OwnI w3 base v3 (putI l y) := by
            rw [HE.out]
            have h := ho3.mono HB0.out
            simpa using h
          exact PutsI.mk hfin hb3
      · have hkc2 : ¬ (cap : Int) = (k : Int) := by omega
        have hmin : (l.take k).length = k := by rw [List.length_take]; omega
        have hdr : (l.drop k).length = (l.length - k) := List.length_drop
        have O1 : Hid (OwnI (w.alloc (.cells #[] 3)).drew w.heap.size (.slice (some ⟨w.heap.size, 0, none⟩) 0 0) []) := Lib.hid (own_newI w w.heap.size w.heap.size rfl (Nat.le_refl _))
        have B1 := Lib.hid ((Below.refl w.heap.size w).alloc (Nat.le_refl _) (.cells #[] 3)).drew
        have O2 : Hid (OwnI ((w.alloc (.cells #[] 3)).alloc (.cells #[.int .i64 y] 3)).drew w.heap.size (.slice (some ⟨w.heap.size, 0, none⟩) 0 0) []) := Lib.hid ((own_newI w w.heap.size w.heap.size rfl (Nat.le_refl _)).alloc (.cells #[.int .i64 y] 3))
        have B2 := Lib.hid (((Below.refl w.heap.size w).alloc (Nat.le_refl _) (.cells #[] 3)).alloc (by simp) (.cells #[.int .i64 y] 3)).drew
        have S2 : Hid (InI ((w.alloc (.cells #[] 3)).alloc (.cells #[.int .i64 y] 3)).drew (some ⟨w.heap.size + 1, 0, none⟩) [y]) := Lib.hid (in_oneI (w.alloc (.cells #[] 3)) (w.heap.size + 1) y (by simp))
        have O3 : Hid (OwnI ((w.alloc (.cells #[.int .i64 y] 3)).alloc (.cells #[] 3)).drew w.heap.size (.slice (some ⟨w.heap.size + 1, 0, none⟩) 0 0) []) := Lib.hid (own_newI (w.alloc (.cells #[.int .i64 y] 3)) w.heap.size (w.heap.size + 1) (by simp) (by omega))
        have B3 := Lib.hid (((Below.refl w.heap.size w).alloc (Nat.le_refl _) (.cells #[.int .i64 y] 3)).alloc (by simp) (.cells #[] 3)).drew
        have S3 : Hid (InI ((w.alloc (.cells #[.int .i64 y] 3)).alloc (.cells #[] 3)).drew (some ⟨w.heap.size, 0, none⟩) [y]) := Lib.hid ((in_oneI w w.heap.size y rfl).alloc (.cells #[] 3))
        have HM := Lib.hid hmin
        have HD := Lib.hid hdr
        clear hmin hdr
        go_wp2
        go_region_law (first
          | (refine step_appI (by rfl) (.tmp 33) (.tmp 36) (by rfl) w.heap.size (.slice (some ⟨w.heap.size, 0, none⟩) 0 0) [] (by rfl) (some ⟨b, 0, none⟩) k cap (l.take k) (by rfl) HM.out.symm O1.out ((HIN.out.below B1.out).take' k) nofun (by have e1 := HM.out; have e2 := HD.out; simp only [List.length_append, List.length_cons, List.length_nil] at e1 e2 ⊢; omega) B1.out.size ?_; intro v1 w1 ho1 hg1; have hb1 : Below w.heap.size w w1 := grown_oldI B1.out hg1 O1.out)
          | (refine step_appI (by rfl) (.tmp 33) (.tmp 36) (by rfl) w.heap.size (.slice (some ⟨w.heap.size, 0, none⟩) 0 0) [] (by rfl) (some ⟨b, 0, none⟩) k cap (l.take k) (by rfl) HM.out.symm O2.out ((HIN.out.below B2.out).take' k) nofun (by have e1 := HM.out; have e2 := HD.out; simp only [List.length_append, List.length_cons, List.length_nil] at e1 e2 ⊢; omega) B2.out.size ?_; intro v1 w1 ho1 hg1; have hb1 : Below w.heap.size w w1 := grown_oldI B2.out hg1 O2.out; have hs1 := S2.out.grown hg1 (by intro b off e; cases e; simp [Value.ownBlock]))
          | (refine step_appI (by rfl) (.tmp 33) (.tmp 36) (by rfl) w.heap.size (.slice (some ⟨w.heap.size + 1, 0, none⟩) 0 0) [] (by rfl) (some ⟨b, 0, none⟩) k cap (l.take k) (by rfl) HM.out.symm O3.out ((HIN.out.below B3.out).take' k) nofun (by have e1 := HM.out; have e2 := HD.out; simp only [List.length_append, List.length_cons, List.length_nil] at e1 e2 ⊢; omega) B3.out.size ?_; intro v1 w1 ho1 hg1; have hb1 : Below w.heap.size w w1 := grown_oldI B3.out hg1 O3.out; have hs1 := S3.out.grown hg1 (by intro b off e; cases e; simp [Value.ownBlock]))
          | (refine step_appI (by rfl) (.tmp 37) (.tmp 39) (by rfl) w.heap.size v1 ([] ++ (l.take k)) (by rfl) (some ⟨w.heap.size + 1, 0, none⟩) 1 1 [y] (by rfl) rfl ho1 hs1 nofun (by have e1 := HM.out; have e2 := HD.out; simp only [List.length_append, List.length_cons, List.length_nil] at e1 e2 ⊢; omega) hb1.size ?_; intro v2 w2 ho2 hg2; have hb2 : Below w.heap.size w w2 := grown_oldI hb1 hg2 ho1)
          | (refine step_appI (by rfl) (.tmp 37) (.tmp 39) (by rfl) w.heap.size v1 ([] ++ (l.take k)) (by rfl) (some ⟨w.heap.size, 0, none⟩) 1 1 [y] (by rfl) rfl ho1 hs1 nofun (by have e1 := HM.out; have e2 := HD.out; simp only [List.length_append, List.length_cons, List.length_nil] at e1 e2 ⊢; omega) hb1.size ?_; intro v2 w2 ho2 hg2; have hb2 : Below w.heap.size w w2 := grown_oldI hb1 hg2 ho1)
          | (refine step_appI (by rfl) (.tmp 37) (.tmp 39) (by rfl) w.heap.size v1 ([] ++ (l.take k)) (by rfl) (some ⟨w1.heap.size, 0, none⟩) 1 1 [y] (by rfl) rfl (ho1.alloc _) (in_oneI w1 w1.heap.size y rfl) nofun (by have e1 := HM.out; have e2 := HD.out; simp only [List.length_append, List.length_cons, List.length_nil] at e1 e2 ⊢; omega) (hb1.alloc hb1.size _).size ?_; intro v2 w2 ho2 hg2; have hb2 : Below w.heap.size w w2 := grown_oldI (hb1.alloc hb1.size _) hg2 (ho1.alloc _))
          | (refine step_appI (by rfl) (.tmp 40) (.tmp 43) (by rfl) w.heap.size v2 ([] ++ (l.take k) ++ [y]) (by rfl) (some ⟨b, k, none⟩) (l.length - k) (cap - k) (l.drop k) (by rfl) HD.out.symm ho2 ((HIN.out.below hb2).drop0 k) nofun (by have e1 := HM.out; have e2 := HD.out; simp only [List.length_append, List.length_cons, List.length_nil] at e1 e2 ⊢; omega) hb2.size ?_; intro v3 w3 ho3 hg3; have hb3 : Below w.heap.size w w3 := grown_oldI hb2 hg3 ho2))
        all_goals go_wp2
        all_goals go_ret
        all_goals
          have hfin : OwnI w3 base v3 (putI l y) := by
            rw [HE.out]
            have h := ho3.mono HB0.out
            simpa using h
          exact PutsI.mk hfin hb3

theorem puti_any (base : Nat) (a : Option Addr) (cap : Nat) (l : List Int) (y : Int) (w : World) (hl : l.length ≤ 8500000) (h0 : 0 < l.length) (hown : OwnI w base (.slice a l.length cap) l) (hbase : base ≤ w.heap.size) :
    Calls Tryz.prog 85 #[.slice a l.length cap, .int .i64 y] w (PutsI w base (putI l y)) := by
  obtain ⟨⟨b, rfl⟩, hc⟩ := owni_some hown h0
  exact puti_some base b cap l y w hl hown hc hbase

end Go.Proofs.YtpmfabpnjacegaaGreatDoor

/-
  Slices of rules: one that reads as a list of lists of tests, one of the call's own. By an AI agent.
-/
namespace Go.Proofs.YtpmfabpnjacegaaGreatDoor
open Go.RowKit
set_option linter.unusedVariables false

/-- an element of a slice of the call's own: the rule, and the value of its tests -/
abbrev XU := List TS × Value
def valsU (q : List XU) : List Value := q.map Prod.snd
def rulesU (q : List XU) : List (List TS) := q.map Prod.fst
theorem rulesU_len (q : List XU) : (rulesU q).length = q.length := by simp [rulesU]
theorem valsU_len (q : List XU) : (valsU q).length = q.length := by simp [valsU]
theorem valsU_at {q : List XU} {j : Nat} {p : XU} (h : q[j]? = some p) : (valsU q)[j]? = some p.2 := by simp [valsU, h]
theorem rulesU_at {q : List XU} {j : Nat} {x : List TS} (h : (rulesU q)[j]? = some x) : ∃ p, q[j]? = some p ∧ p.1 = x := by
  unfold rulesU at h
  rw [List.getElem?_map] at h
  cases hq : q[j]? with
  | none => rw [hq] at h; cases h
  | some p => rw [hq] at h; exact ⟨p, rfl, by injection h⟩

/-- a slice whose elements are the rules of a list -/
def InRu (w : World) (a : Option Addr) (R : List (List TS)) : Prop :=
  0 < R.length → ∃ b off, a = some ⟨b, off, none⟩ ∧ b < w.heap.size ∧ ∀ j l, R[j]? = some l → ∃ a' c', w.cell? ⟨b, off + j, none⟩ = some (.slice a' l.length c') ∧ (a' = none → c' = 0) ∧ l.length ≤ c' ∧ InTs w a' l
theorem InRu.below {w w' : World} {a : Option Addr} {R : List (List TS)} (h : InRu w a R) (hb : Below w.heap.size w w') : InRu w' a R := by
  intro h0
  obtain ⟨b, off, ha, hlt, hc⟩ := h h0
  refine ⟨b, off, ha, Nat.lt_of_lt_of_le hlt hb.size, fun j l hj => ?_⟩
  obtain ⟨a', c', h1, h2, h3, h4⟩ := hc j l hj
  exact ⟨a', c', (World.cell?_of_block (hb.block b hlt)).trans h1, h2, h3, h4.below hb⟩
theorem InRu.alloc {w : World} {a : Option Addr} {R : List (List TS)} (h : InRu w a R) (o : Obj) : InRu (w.alloc o) a R := h.below ((Below.refl _ _).alloc (Nat.le_refl _) o)

/-- an argument of a law -/
def ArgRu (w : World) (a : Option Addr) (R : List (List TS)) : Prop := InRu w a R ∧ R.length ≤ maxLen ∧ ∀ l ∈ R, l.length ≤ maxLen
theorem ArgRu.below {w w' : World} {a : Option Addr} {R : List (List TS)} (h : ArgRu w a R) (hb : Below w.heap.size w w') : ArgRu w' a R := ⟨h.1.below hb, h.2⟩
theorem argRu_of {w : World} {x : Addr} {len cap : Nat} (hl : len ≤ cap) (hm : cap ≤ maxLen) (h : ∀ i, i < len → ∃ (a' : Option Addr) (l : List TS) (c' : Nat), w.cell? (x.add i) = some (.slice a' l.length c') ∧ (a' = none → c' = 0) ∧ l.length ≤ c' ∧ ArgTs w a' l) : ∃ L : List (List TS), len = L.length ∧ ArgRu w (some x) L := by
  obtain ⟨f, hf⟩ := Go.Deep.choose_lt (n := len) (p := fun i (q : Option Addr × List TS × Nat) => w.cell? (x.add i) = some (.slice q.1 q.2.1.length q.2.2) ∧ (q.1 = none → q.2.2 = 0) ∧ q.2.1.length ≤ q.2.2 ∧ ArgTs w q.1 q.2.1) (fun i hi => by obtain ⟨a', l, c', h1⟩ := h i hi; exact ⟨(a', l, c'), h1⟩)
  refine ⟨(List.range len).map fun i => (f i).2.1, by simp, fun h0 => ?_, by simp; omega, fun y hy => ?_⟩
  · simp at h0
    obtain ⟨b, off, spot⟩ := x
    have hspot : spot = none := by simpa [Addr.add] using World.cell?_spot (hf 0 (by omega)).1
    subst hspot
    have hadd : ∀ j, (⟨b, off, none⟩ : Addr).add j = ⟨b, off + j, none⟩ := fun j => by unfold Addr.add; split <;> simp_all
    refine ⟨b, off, rfl, World.block_lt_of_cell? w _ (hf 0 (by omega)).1, fun j y hj => ?_⟩
    obtain ⟨hlt, he⟩ := List.getElem?_eq_some_iff.1 hj
    simp at hlt he
    obtain ⟨h1, h2, h3, h4⟩ := hf j hlt
    rw [hadd] at h1
    subst he
    exact ⟨_, _, h1, h2, h3, h4.1⟩
  · obtain ⟨i, hi, rfl⟩ := List.mem_map.1 hy
    exact (hf i (List.mem_range.1 hi)).2.2.2.2

/-- an argument of moderate size -/
def SmRu (w : World) (a : Option Addr) (R : List (List TS)) (c : Nat) : Prop := InRu w a R ∧ (a = none → c = 0) ∧ R.length ≤ c ∧ R.length ≤ 4000000 ∧ ∀ l ∈ R, l.length ≤ 4000000
theorem SmRu.below {w w' : World} {a : Option Addr} {R : List (List TS)} {c : Nat} (h : SmRu w a R c) (hb : Below w.heap.size w w') : SmRu w' a R c := ⟨h.1.below hb, h.2⟩
theorem SmRu.alloc {w : World} {a : Option Addr} {R : List (List TS)} {c : Nat} (h : SmRu w a R c) (o : Obj) : SmRu (w.alloc o) a R c := ⟨h.1.alloc o, h.2⟩
theorem SmRu.len {w : World} {a : Option Addr} {R : List (List TS)} {c : Nat} (h : SmRu w a R c) : R.length ≤ 4000000 := h.2.2.2.1
/-- an element of a slice of moderate size -/
theorem SmRu.at_ {w : World} {a : Option Addr} {R : List (List TS)} {c j : Nat} (h : SmRu w a R c) (hj : j < R.length) : ∃ (b off : Nat) (l : List TS) (a' : Option Addr) (c' : Nat), a = some ⟨b, off, none⟩ ∧ b < w.heap.size ∧ R[j]? = some l ∧ w.cell? ⟨b, off + j, none⟩ = some (.slice a' l.length c') ∧ SmTs w a' l c' := by
  obtain ⟨b, off, ha, hlt, hc⟩ := h.1 (by omega)
  have hx := List.getElem?_eq_getElem hj
  obtain ⟨a', c', h1, h3, h4, h5⟩ := hc j _ hx
  have h6 := h.2.2.2.2 _ (List.mem_of_getElem? hx)
  exact ⟨b, off, _, a', c', ha, hlt, hx, h1, h5, h3, h4, h6⟩

/-- a slice of the call's own, its elements' tests in other blocks of the call's own -/
structure OwnRu (w : World) (lo : Nat) (v : Value) (q : List XU) : Prop where
  out : w.ownsRow lo 66 1 v q.length (valsU q)
  row : ∀ p ∈ q, OwnTs w lo p.2 p.1
  apart : ∀ p ∈ q, ∀ k, p.2.ownBlock = some k → v.ownBlock ≠ some k
  dis : q.Pairwise fun p r => ∀ k, p.2.ownBlock = some k → r.2.ownBlock ≠ some k
theorem info_ru : (Tryz.prog.info? 66).map (fun i => (i.zero, i.size, i.bytes)) = some (some (.agg #[.slice none 0 0]), 1, 24) := by kernel_rfl
theorem OwnRu.below {w w' : World} {lo : Nat} {v : Value} {q : List XU} (h : OwnRu w lo v q) (hb : Below w.heap.size w w') : OwnRu w' lo v q :=
  ⟨World.ownsRow.kept h.out (row := none) ⟨hb.os, hb.tape, hb.output, hb.size, fun i hi _ => hb.block i hi⟩ (by cases hv : v.ownBlock <;> simp), fun p hp => (h.row p hp).below hb, h.apart, h.dis⟩
theorem OwnRu.mono {w : World} {lo lo' : Nat} {v : Value} {q : List XU} (h : OwnRu w lo v q) (hb : lo' ≤ lo) : OwnRu w lo' v q :=
  ⟨row_mono h.out hb, fun p hp => (h.row p hp).mono hb, h.apart, h.dis⟩
theorem OwnRu.nil (w : World) (base : Nat) : OwnRu w base (.slice none 0 0) [] := ⟨World.ownsRow_nil _ _ _ _, (fun p h => by cases h), (fun p h => by cases h), List.Pairwise.nil⟩
theorem OwnRu.shape {w : World} {lo : Nat} {v : Value} {q : List XU} (h : OwnRu w lo v q) : ∃ a cap, v = .slice a q.length cap := by
  rcases h.out.2 with ⟨rfl, h0⟩ | ⟨g, cap, cur, rfl, _⟩
  · exact ⟨none, 0, by rw [h0]⟩
  · exact ⟨_, _, rfl⟩
theorem OwnRu.inRu {w : World} {lo : Nat} {a : Option Addr} {n cap : Nat} {q : List XU} (h : OwnRu w lo (.slice a n cap) q) : InRu w a (rulesU q) := by
  intro h0
  obtain ⟨a', cap', e⟩ := h.shape
  injection e with e1 e2 e3
  subst e2
  rw [rulesU_len] at h0
  obtain ⟨g, rfl, _, hg, hc⟩ := rowX_at h.out h0
  refine ⟨g, 0, rfl, hg, fun j x hj => ?_⟩
  obtain ⟨p, hp, rfl⟩ := rulesU_at hj
  have ho := h.row p (List.mem_of_getElem? hp)
  obtain ⟨a1, c1, e1⟩ := ho.shape
  rw [e1] at ho
  exact ⟨a1, c1, by rw [hc _ _ (valsU_at hp), e1], rowX_none ho, rowX_cap ho, ho.inTs⟩
theorem OwnRu.smRu {w : World} {lo : Nat} {a : Option Addr} {n cap : Nat} {q : List XU} {R : List (List TS)} (h : OwnRu w lo (.slice a n cap) q) (hq : rulesU q = R) (h1 : R.length ≤ 4000000) (h2 : ∀ x ∈ R, x.length ≤ 4000000) : SmRu w a R cap := by
  subst hq
  obtain ⟨a', cap', e⟩ := h.shape
  injection e with e1 e2 e3
  subst e2
  exact ⟨h.inRu, rowX_none h.out, by rw [rulesU_len]; exact rowX_cap h.out, h1, h2⟩

/-- .. in blocks from lo on and below hi -/
def OwnHRu (w : World) (lo hi : Nat) (v : Value) (q : List XU) : Prop := OwnRu w lo v q ∧ (∀ k, v.ownBlock = some k → k < hi) ∧ ∀ p ∈ q, ∀ k, p.2.ownBlock = some k → k < hi
theorem OwnHRu.of {w : World} {lo : Nat} {v : Value} {q : List XU} (h : OwnRu w lo v q) : OwnHRu w lo w.heap.size v q :=
  ⟨h, fun k hk => (World.ownsRow.lt h.out k hk).2, fun p hp k hk => (World.ownsRow.lt (h.row p hp) k hk).2⟩
theorem OwnHRu.below {w w' : World} {lo hi : Nat} {v : Value} {q : List XU} (h : OwnHRu w lo hi v q) (hb : Below w.heap.size w w') : OwnHRu w' lo hi v q := ⟨h.1.below hb, h.2⟩
theorem OwnHRu.chg {w w' : World} {lo hi lo' hi' : Nat} {v : Value} {q : List XU} (h : OwnHRu w lo hi v q) (hc : Chg w w' lo' hi') (hd : hi ≤ lo' ∨ hi' ≤ lo) : OwnHRu w' lo hi v q :=
  ⟨⟨row_chg h.1.out hc fun k hk => by have := (World.ownsRow.lt h.1.out k hk).1; have := h.2.1 k hk; omega,
    fun p hp => row_chg (h.1.row p hp) hc fun k hk => by have := (World.ownsRow.lt (h.1.row p hp) k hk).1; have := h.2.2 p hp k hk; omega, h.1.apart, h.1.dis⟩, h.2⟩

/-- sizes of an argument -/
def ruzT (R : List (List TS)) (k : Nat) : Nat := R.length + ((R.take k).map List.length).sum
def ruz (R : List (List TS)) : Nat := ruzT R R.length
theorem ruzT_succ {R : List (List TS)} {k : Nat} {l : List TS} (h : R[k]? = some l) : ruzT R (k + 1) = ruzT R k + l.length := by
  unfold ruzT
  rw [take_one h]
  simp
  omega
theorem ruzT_le {R : List (List TS)} {j k : Nat} (h : j ≤ k) : ruzT R j ≤ ruzT R k := by
  obtain ⟨d, rfl⟩ : ∃ d, k = j + d := ⟨k - j, by omega⟩
  unfold ruzT
  rw [List.take_add]
  simp
theorem ruz_len (R : List (List TS)) : R.length ≤ ruz R := by unfold ruz ruzT; omega
theorem ruz_mem {R : List (List TS)} {l : List TS} (h : l ∈ R) : l.length ≤ ruz R := by
  obtain ⟨k, hk⟩ := List.getElem?_of_mem h
  have h1 := ruzT_succ hk
  have h2 := ruzT_le (R := R) (show k + 1 ≤ R.length from (List.getElem?_eq_some_iff.1 hk).1)
  unfold ruz
  omega
theorem ru_len {R : List (List TS)} (hz : ruz R ≤ 1048576) : R.length ≤ 4000000 := by have := ruz_len R; omega
theorem ru_mem {R : List (List TS)} (hz : ruz R ≤ 1048576) : ∀ x ∈ R, x.length ≤ 4000000 := fun x hx => by have := ruz_mem hx; omega
def ruzR (R : List (List TS)) (left : Nat) : Int := if ruz R ≤ left then (left : Int) - (ruz R : Int) else -1
theorem ruzR_yes {R : List (List TS)} {left : Nat} (h : ruz R ≤ left) : ruzR R left = ((left - ruz R : Nat) : Int) := by unfold ruzR; rw [if_pos h]; omega
theorem ruzR_no {R : List (List TS)} {left : Nat} (h : ¬ ruz R ≤ left) : ruzR R left = -1 := by unfold ruzR; rw [if_neg h]

/-- a slice of rules of the call's own is handed back, in a rule set -/
def GivesRu (w : World) (R : List (List TS)) (e : Ending) (w' : World) : Prop :=
  ∃ a cap q, e = .returned (.slice a R.length cap) ∧ rulesU q = R ∧ OwnRu w' w.heap.size (.slice a R.length cap) q ∧ Below w.heap.size w w'
def GivesRs (w : World) (R : List (List TS)) (e : Ending) (w' : World) : Prop :=
  ∃ a cap q, e = .returned (.agg #[.slice a R.length cap]) ∧ rulesU q = R ∧ OwnRu w' w.heap.size (.slice a R.length cap) q ∧ Below w.heap.size w w'

end Go.Proofs.YtpmfabpnjacegaaGreatDoor

/-
  Chapter 5's numbers: spec.l5Good, MinOverlap and LengthBounds on both sides, the quotients in thousandths. By an AI agent.
-/
namespace Go.Proofs.YtpmfabpnjacegaaGreatDoor
open Go.RowKit
set_option linter.unusedVariables false

/-- a size from 0 to 1000, a threshold from 1 to 1000 -/
def okS (x : Int) : Bool := decide (0 ≤ x) && decide (x ≤ 1000)
def okT (x : Int) : Bool := decide (1 ≤ x) && decide (x ≤ 1000)
theorem okS_yes {x : Int} (h : okS x = true) : 0 ≤ x ∧ x ≤ 1000 := by simpa [okS] using h
theorem okS_no {x : Int} (h : okS x = false) : ¬ (0 ≤ x ∧ x ≤ 1000) := fun k => by simp [okS, k.1, k.2] at h
theorem okT_yes {x : Int} (h : okT x = true) : 1 ≤ x ∧ x ≤ 1000 := by simpa [okT] using h
theorem okT_no {x : Int} (h : okT x = false) : ¬ (1 ≤ x ∧ x ≤ 1000) := fun k => by simp [okT, k.1, k.2] at h
theorem sret_bool {a b : Bool} (h : a = b) : Ending.returned (.bool a) = .returned (.bool b) := by rw [h]
theorem sret_int {k : IntKind} {a b : Int} (h : a = b) : Ending.returned (.int k a) = .returned (.int k b) := by rw [h]

set_option maxRecDepth 100000 in
theorem threshold_is (x : Int) (b : Bool) (w : World) (hb : okT x = b) :
    Calls Tryz.prog 73 #[.int .i64 x] w fun e w' => e = .returned (.bool b) ∧ w' = w := by
  have HB := Lib.hid hb
  clear hb
  by_cases h1 : 1 ≤ x
  · by_cases h2 : x ≤ 1000
    · go_enter Tryz.func73, Tryz.ntmps73
      go_wp2
      go_ret
      exact ⟨sret_bool (by rw [← HB.out]; simp [okT, h1, h2]), rfl⟩
    · go_enter Tryz.func73, Tryz.ntmps73
      go_wp2
      go_ret
      exact ⟨sret_bool (by rw [← HB.out]; simp [okT, h1, h2]), rfl⟩
  · go_enter Tryz.func73, Tryz.ntmps73
    go_wp2
    go_ret
    exact ⟨sret_bool (by rw [← HB.out]; simp [okT]; intro _; omega), rfl⟩

theorem l1In_any (x a b : Int) (r : Bool) (w : World) (h : decide (a ≤ x ∧ x ≤ b) = r) :
    Calls Tryz.prog 45 #[.int .i64 x, .int .i64 a, .int .i64 b] w fun e w' => e = .returned (.bool r) ∧ w' = w := by
  cases r with
  | true =>
    have h1 := of_decide_eq_true h
    exact (l1In_yes x a b w h1.1 h1.2).mono fun e w' k => ⟨k.1, k.2.symm⟩
  | false => exact (l1In_no x a b w (of_decide_eq_false h)).mono fun e w' k => ⟨k.1, k.2.symm⟩
theorem okS_dec (x : Int) : decide (0 ≤ x ∧ x ≤ 1000) = okS x := by unfold okS; by_cases h1 : 0 ≤ x <;> by_cases h2 : x ≤ 1000 <;> simp [h1, h2]
theorem okT_dec (x : Int) : decide (1 ≤ x ∧ x ≤ 1000) = okT x := by unfold okT; by_cases h1 : 1 ≤ x <;> by_cases h2 : x ≤ 1000 <;> simp [h1, h2]

def goodR (x y t : Int) : Bool := okS x && (okS y && okT t)

/-- the least overlap -/
def moR (x y t : Int) : Int := (t * (x + y) + 999 + t) / (1000 + t)

theorem mul_range {a b m n : Int} (h1 : 0 ≤ a) (h2 : a ≤ m) (h3 : 0 ≤ b) (h4 : b ≤ n) : 0 ≤ a * b ∧ a * b ≤ m * n := by
  refine ⟨Int.mul_nonneg h1 h3, ?_⟩
  calc a * b ≤ m * b := Int.mul_le_mul_of_nonneg_right h2 h3
    _ ≤ m * n := Int.mul_le_mul_of_nonneg_left h4 (by omega)
theorem wrap_of {p : Int} (h1 : 0 ≤ p) (h2 : p ≤ 3000000) : IntKind.i64.wrap p = p := IntWalk.i64_in p (by omega)
theorem sret_two {a b c d : Int} (h1 : a = c) (h2 : b = d) : Ending.returned (.tuple #[.int .i64 a, .int .i64 b]) = .returned (.tuple #[.int .i64 c, .int .i64 d]) := by rw [h1, h2]
theorem quo_range {m d : Int} (h1 : 0 ≤ m) (h2 : 1 ≤ d) : 0 ≤ m / d ∧ m / d ≤ m := ⟨Int.ediv_nonneg h1 (by omega), Int.ediv_le_self d h1⟩

/-- the bounds of a size -/
def lbLo (x t : Int) : Int := (x * t + 999) / 1000
def lbHi (x t : Int) : Int := x * 1000 / t

end Go.Proofs.YtpmfabpnjacegaaGreatDoor

/-
  What impl.isFeature, Rule.isValid and IsValidRules answer. By an AI agent.
-/
namespace Go.Proofs.YtpmfabpnjacegaaGreatDoor
open Go.RowKit
set_option linter.unusedVariables false

theorem BlkV.one0 {w : World} {g : Nat} {t : TypeId} {a : Value} (h : BlkV w g t #[a]) : w.cell? ⟨g, 0, none⟩ = some a := h.cell 0
theorem uwithin (lo hi x : Int) (r : Bool) (w : World) (hr : decide (lo ≤ x ∧ x ≤ hi) = r) :
    Calls Tryz.prog 56 #[.int .i64 lo, .int .i64 hi, .slice (some ⟨w.heap.size, 0, none⟩) 1 1] (w.alloc (.cells #[.int .i64 x] 3)) fun e w' => e = .returned (.bool r) ∧ w' = w.alloc (.cells #[.int .i64 x] 3) := by
  refine within_is lo hi _ 1 [x] r _ (by simp) ?_ (by rw [← hr]; simp [withinB])
  exact InI.new w [x]
theorem uwithin2 (lo hi x : Int) (r : Bool) (o1 : Obj) (w : World) (hr : decide (lo ≤ x ∧ x ≤ hi) = r) :
    Calls Tryz.prog 56 #[.int .i64 lo, .int .i64 hi, .slice (some ⟨w.heap.size + 1, 0, none⟩) 1 1] ((w.alloc o1).alloc (.cells #[.int .i64 x] 3)) fun e w' => e = .returned (.bool r) ∧ w' = (w.alloc o1).alloc (.cells #[.int .i64 x] 3) := by
  have h := uwithin lo hi x r (w.alloc o1) hr
  simpa using h

set_option maxRecDepth 100000 in
theorem feat_is (x : Int) (r : Bool) (w : World) (hr : decide (0 ≤ x ∧ x ≤ 5) = r) :
    Calls Tryz.prog 72 #[.int .i64 x] w fun e w' => e = .returned (.bool r) ∧ Below w.heap.size w w' := by
  have HR := Lib.hid hr
  clear hr
  go_enter Tryz.func72, Tryz.ntmps72
  go_wp2_with (go_at_call 56; ((with_reducible refine (uwithin _ _ _ _ _ HR.out).mono ?_); rintro e w' ⟨rfl, rfl⟩))
  go_ret
  exact ⟨rfl, (Below.refl _ _).alloc (Nat.le_refl _) _⟩

set_option maxRecDepth 100000 in
set_option maxHeartbeats 2000000 in
theorem rv_impl (a : Option Addr) (c : Nat) (l : List TS) (r : Bool) (w : World) (hr : vrB l = r) (h : SmTs w a l c) :
    Calls Tryz.prog 57 #[.agg #[.slice a l.length c]] w fun e w' => e = .returned (.bool r) ∧ Below w.heap.size w w' := by
  have HR := Lib.hid hr
  have hl := h.len
  obtain ⟨w1, hw1⟩ : ∃ w1, w1 = (w.alloc (.cells #[.slice a l.length c] 66)).alloc (.cells #[.int .i64 (l.length : Int)] 3) := ⟨_, rfl⟩
  have HW := Lib.hid hw1
  have HB1 := Lib.hid (show Below w.heap.size w w1 by rw [hw1]; exact ((Below.refl w.heap.size w).alloc (Nat.le_refl _) _).alloc (by simp) _)
  have HBX := Lib.hid (show BlkV w1 w.heap.size 66 #[.slice a l.length c] by rw [hw1]; exact (BlkV.new _ _ _).alloc _)
  have HIN := Lib.hid (h.inTs.below HB1.out)
  have HGL := Lib.hid (show w.heap.size < w1.heap.size by rw [hw1]; simp; omega)
  by_cases h13 : 1 ≤ l.length ∧ l.length ≤ 3
  case neg =>
    obtain rfl : false = r := by rw [← HR.out, vr_bad h13]
    have HL := Lib.hid (show decide ((1 : Int) ≤ (l.length : Int) ∧ (l.length : Int) ≤ 3) = false from decide_eq_false (by omega))
    clear hr h hw1 h13
    go_enter Tryz.func57, Tryz.ntmps57
    go_wp2_with (go_at_call 56; ((with_reducible refine (uwithin2 _ _ _ _ _ _ HL.out).mono ?_); rintro e w' ⟨rfl, rfl⟩))
    go_ret
    exact ⟨rfl, by rw [← HW.out]; exact HB1.out⟩
  case pos =>
  have HL := Lib.hid (show decide ((1 : Int) ≤ (l.length : Int) ∧ (l.length : Int) ≤ 3) = true from decide_eq_true (by omega))
  have HR2 := Lib.hid (show (l.all vtB && ascB l) = r by rw [← HR.out, vr_ok h13])
  have q0 := HBX.out.one0
  clear hr h hw1 h13
  go_enter Tryz.func57, Tryz.ntmps57
  go_wp2_with (go_at_call 56; ((with_reducible refine (uwithin2 _ _ _ _ _ _ HL.out).mono ?_); rintro e w' ⟨rfl, rfl⟩); rw [← HW.out]; refine Hid.out ?_)
  refine Lib.hid ?_
  go_wp2
  go_loopw [14] (fun i wr => ∃ k : Nat, k ≤ l.length ∧ i = .int .i64 k ∧ (l.take k).all vtB = true ∧ ascB (l.take k) = true ∧ Below w1.heap.size w1 wr) (fun i _ => l.length - (intOf i).toNat)
  case atStart => exact ⟨0, Nat.zero_le _, rfl, rfl, rfl, Below.refl _ _⟩
  case round =>
    obtain ⟨k, hk, rfl, hall, hasc, hb⟩ := hrel
    have HALL := Lib.hid hall
    have HASC := Lib.hid hasc
    have HB := Lib.hid hb
    clear hall hasc hb q0
    by_cases hlt : k < l.length
    · obtain ⟨b, off, f, t, u, rfl, hbw, hx, c0, c1, c2⟩ := (HIN.out.below HB.out).at_ hlt
      have HX := Lib.hid hx
      have HBW := Lib.hid hbw
      obtain ⟨W1, hW1⟩ : ∃ W1, W1 = wr.alloc (.cells #[.int .i64 f, .int .i64 t, .bool u] 86) := ⟨_, rfl⟩
      have HWB := Lib.hid (show Below wr.heap.size wr W1 by rw [hW1]; exact (Below.refl _ _).alloc (Nat.le_refl _) _)
      have HT4 := Lib.hid (show BlkV W1 wr.heap.size 86 #[.int .i64 f, .int .i64 t, .bool u] by rw [hW1]; exact BlkV.new _ _ _)
      have x0 := HT4.out.three0
      have HWW := Lib.hid hW1
      clear hx hbw hW1
      obtain ⟨fb, hfb⟩ : ∃ fb, decide (0 ≤ f ∧ f ≤ 5) = fb := ⟨_, rfl⟩
      have HFB := Lib.hid hfb
      obtain ⟨tb, htb⟩ : ∃ tb, okT t = tb := ⟨_, rfl⟩
      have HTB := Lib.hid htb
      clear hfb htb
      cases fb
      · obtain rfl : false = r := by rw [← HR.out, vr_no HX.out (vt_feat (of_decide_eq_false HFB.out))]
        go_wp2_with (first
          | (go_at_call 72; rw [← HWW.out]; ((with_reducible refine (feat_is _ _ _ HFB.out).mono ?_); rintro e w2 ⟨rfl, hb2⟩; have HB2 := Lib.hid (HWB.out.trans (hb2.mono HWB.out.size)); clear hb2)))
        go_ret
        exact ⟨rfl, HB1.out.trans ((HB.out.trans (HB2.out.mono HB.out.size)).mono HB1.out.size)⟩
      have hf5 := of_decide_eq_true HFB.out
      cases tb
      · obtain rfl : false = r := by rw [← HR.out, vr_no HX.out (vt_thr (fun e => by have := HTB.out; simp [okT, e.1, e.2] at this))]
        clear hf5
        go_wp2_with (first
          | (go_at_call 72; rw [← HWW.out]; ((with_reducible refine (feat_is _ _ _ HFB.out).mono ?_); rintro e w2 ⟨rfl, hb2⟩; have x1 := (HT4.out.below hb2).three1; have HB2 := Lib.hid (HWB.out.trans (hb2.mono HWB.out.size)); clear hb2))
          | (go_at_call 73; (with_reducible refine (threshold_is t _ _ HTB.out).mono ?_); rintro e w3 ⟨rfl, rfl⟩))
        go_ret
        exact ⟨rfl, HB1.out.trans ((HB.out.trans (HB2.out.mono HB.out.size)).mono HB1.out.size)⟩
      have HVT := Lib.hid (show vtB ((f, t), u) = true from vt_yes hf5 (by have := HTB.out; simpa [okT] using this))
      clear hf5
      by_cases h0 : k = 0
      · subst h0
        rw [Nat.zero_mul, Nat.add_zero] at c0 c1 c2
        have d0 : decide ((0 : Int) < 0) = false := rfl
        go_wp2_with (first
          | (go_at_call 72; rw [← HWW.out]; ((with_reducible refine (feat_is _ _ _ HFB.out).mono ?_); rintro e w2 ⟨rfl, hb2⟩; have x1 := (HT4.out.below hb2).three1; have HB2 := Lib.hid (HWB.out.trans (hb2.mono HWB.out.size)); clear hb2))
          | (go_at_call 73; (with_reducible refine (threshold_is t _ _ HTB.out).mono ?_); rintro e w3 ⟨rfl, rfl⟩; refine Hid.out ?_))
        refine Lib.hid ?_
        go_wp2
        go_quiet (fail)
        go_wp2
        go_roundw
        case rel => exact ⟨0 + 1, by omega, by go_num, all_take HALL.out HX.out HVT.out, asc_take1 l, (HB.out.trans (HB2.out.mono HB.out.size)).trans (quiet_f _ _ _)⟩
        case measure => simp [intOf]; omega
      · obtain ⟨j, rfl⟩ : ∃ j, k = j + 1 := ⟨k - 1, by omega⟩
        obtain ⟨b', off', f', t', u', hb', hbw', hy, e0, e1, e2⟩ := (HIN.out.below HB.out).at_ (show j < l.length by omega)
        injection hb' with hb'
        injection hb' with hbb hoo
        subst hbb hoo
        have HY := Lib.hid hy
        have d0 : decide ((0 : Int) < (j : Int) + 1) = true := decide_eq_true (by omega)
        clear hy e1 e2 hbw' h0
        obtain ⟨ab, hab⟩ : ∃ ab, decide (f ≤ f') = ab := ⟨_, rfl⟩
        have HAB := Lib.hid hab
        clear hab
        have HE0 := Lib.hid (fun (W : World) (hW : Below wr.heap.size wr W) => (hW.cell (p := ⟨b, off + j * 3, none⟩) HBW.out).trans e0)
        have HQB := Lib.hid (fun (W : World) (hW : Below wr.heap.size wr W) => (HBX.out.below (HB.out.trans (hW.mono HB.out.size))).one0)
        clear e0
        cases ab
        · have HLT := Lib.hid (of_decide_eq_false HAB.out)
          go_wp2_with (first
            | (go_at_call 72; rw [← HWW.out]; ((with_reducible refine (feat_is _ _ _ HFB.out).mono ?_); rintro e w2 ⟨rfl, hb2⟩; have z0 := (HT4.out.below hb2).three0; have x1 := (HT4.out.below hb2).three1; have HB2 := Lib.hid (HWB.out.trans (hb2.mono HWB.out.size)); have y0 := HE0.out _ HB2.out; have q0 := HQB.out _ HB2.out; clear hb2))
            | (go_at_call 73; (with_reducible refine (threshold_is t _ _ HTB.out).mono ?_); rintro e w3 ⟨rfl, rfl⟩; refine Hid.out ?_))
          refine Lib.hid ?_
          have hab : decide (f ≤ f') = false := HAB.out
          go_wp2
          go_quiet (fail)
          go_wp2
          go_roundw
          case rel =>
            refine ⟨j + 1 + 1, by omega, by go_num, all_take HALL.out HX.out HVT.out, ?_, (HB.out.trans (HB2.out.mono HB.out.size)).trans (quiet_f _ _ _)⟩
            rw [asc_step HASC.out HY.out HX.out]
            have := HLT.out
            exact decide_eq_true (by show f' < f; omega)
          case measure => simp [intOf]; omega
        · have HLT := Lib.hid (of_decide_eq_true HAB.out)
          obtain rfl : false = r := by
            rw [← HR.out, vr_nasc (k := j + 1 + 1) (by rw [asc_step HASC.out HY.out HX.out]; have := HLT.out; exact decide_eq_false (by show ¬ f' < f; omega))]
          go_wp2_with (first
            | (go_at_call 72; rw [← HWW.out]; ((with_reducible refine (feat_is _ _ _ HFB.out).mono ?_); rintro e w2 ⟨rfl, hb2⟩; have z0 := (HT4.out.below hb2).three0; have x1 := (HT4.out.below hb2).three1; have HB2 := Lib.hid (HWB.out.trans (hb2.mono HWB.out.size)); have y0 := HE0.out _ HB2.out; have q0 := HQB.out _ HB2.out; clear hb2))
            | (go_at_call 73; (with_reducible refine (threshold_is t _ _ HTB.out).mono ?_); rintro e w3 ⟨rfl, rfl⟩; refine Hid.out ?_))
          refine Lib.hid ?_
          have hab : decide (f ≤ f') = true := HAB.out
          go_wp2
          go_quiet (fail)
          go_wp2
          go_ret
          exact ⟨rfl, HB1.out.trans (((HB.out.trans (HB2.out.mono HB.out.size)).trans (quiet_f _ _ _)).mono HB1.out.size)⟩
    · obtain rfl : k = l.length := by omega
      obtain rfl : true = r := by
        rw [← HR2.out]
        have h1 := HALL.out
        have h2 := HASC.out
        rw [List.take_length] at h1 h2
        rw [h1, h2]; rfl
      go_wp2
      go_ret
      exact ⟨rfl, HB1.out.trans (HB.out.mono HB1.out.size)⟩

set_option maxRecDepth 100000 in
set_option maxHeartbeats 2000000 in
theorem vs_impl (a : Option Addr) (c : Nat) (R : List (List TS)) (r : Bool) (w : World) (hr : vsB R = r) (h : SmRu w a R c) :
    Calls Tryz.prog 25 #[.agg #[.slice a R.length c]] w fun e w' => e = .returned (.bool r) ∧ Below w.heap.size w w' := by
  have HR := Lib.hid hr
  have hl := h.len
  obtain ⟨w1, hw1⟩ : ∃ w1, w1 = (w.alloc (.cells #[.slice a R.length c] 26)).alloc (.cells #[.int .i64 (R.length : Int)] 3) := ⟨_, rfl⟩
  have HW := Lib.hid hw1
  have HB1 := Lib.hid (show Below w.heap.size w w1 by rw [hw1]; exact ((Below.refl w.heap.size w).alloc (Nat.le_refl _) _).alloc (by simp) _)
  have HBX := Lib.hid (show BlkV w1 w.heap.size 26 #[.slice a R.length c] by rw [hw1]; exact (BlkV.new _ _ _).alloc _)
  have HS := Lib.hid (h.below HB1.out)
  by_cases h13 : 1 ≤ R.length ∧ R.length ≤ 3
  case neg =>
    obtain rfl : false = r := by rw [← HR.out, vs_bad h13]
    have HL := Lib.hid (show decide ((1 : Int) ≤ (R.length : Int) ∧ (R.length : Int) ≤ 3) = false from decide_eq_false (by omega))
    clear hr h hw1 h13
    go_enter Tryz.func25, Tryz.ntmps25
    go_wp2_with (go_at_call 56; ((with_reducible refine (uwithin2 _ _ _ _ _ _ HL.out).mono ?_); rintro e w' ⟨rfl, rfl⟩))
    go_ret
    exact ⟨rfl, by rw [← HW.out]; exact HB1.out⟩
  case pos =>
  have HL := Lib.hid (show decide ((1 : Int) ≤ (R.length : Int) ∧ (R.length : Int) ≤ 3) = true from decide_eq_true (by omega))
  have HR2 := Lib.hid (show R.all vrB = r by rw [← HR.out, vs_ok h13])
  have q0 := HBX.out.one0
  clear hr h hw1 h13
  go_enter Tryz.func25, Tryz.ntmps25
  go_wp2_with (go_at_call 56; ((with_reducible refine (uwithin2 _ _ _ _ _ _ HL.out).mono ?_); rintro e w' ⟨rfl, rfl⟩); rw [← HW.out]; refine Hid.out ?_)
  refine Lib.hid ?_
  go_wp2
  go_loopw [14] (fun i wr => ∃ k : Nat, k ≤ R.length ∧ i = .int .i64 k ∧ (R.take k).all vrB = true ∧ Below w1.heap.size w1 wr) (fun i _ => R.length - (intOf i).toNat)
  case atStart => exact ⟨0, Nat.zero_le _, rfl, rfl, Below.refl _ _⟩
  case round =>
    obtain ⟨k, hk, rfl, hall, hb⟩ := hrel
    have HALL := Lib.hid hall
    have HB := Lib.hid hb
    clear hall hb q0
    by_cases hlt : k < R.length
    · obtain ⟨b, off, l, a', c', rfl, hbw, hx, c0, hsm⟩ := (HS.out.below HB.out).at_ hlt
      have HX := Lib.hid hx
      obtain ⟨ok, hok⟩ : ∃ ok, vrB l = ok := ⟨_, rfl⟩
      have HOK := Lib.hid hok
      have HC := Lib.hid (fun (W : World) (hW : Below wr.heap.size wr W) => rv_impl a' c' l ok W hok (hsm.below hW))
      have HA1 := Lib.hid ((Below.refl wr.heap.size wr).alloc (Nat.le_refl _) (.cells #[.slice a' l.length c'] 66))
      clear hx hok hsm hbw
      cases ok
      · obtain rfl : false = r := by rw [← HR.out, vs_no HX.out HOK.out]
        go_wp2_with (go_at_call 57; ((with_reducible refine (HC.out _ HA1.out).mono ?_); rintro e w2 ⟨rfl, hb2⟩; have HB2 := Lib.hid (HA1.out.trans (hb2.mono HA1.out.size)); clear hb2))
        go_ret
        exact ⟨rfl, HB1.out.trans ((HB.out.trans (HB2.out.mono HB.out.size)).mono HB1.out.size)⟩
      · go_wp2_with (go_at_call 57; ((with_reducible refine (HC.out _ HA1.out).mono ?_); rintro e w2 ⟨rfl, hb2⟩; have HB2 := Lib.hid (HA1.out.trans (hb2.mono HA1.out.size)); clear hb2))
        go_roundw
        case rel => exact ⟨k + 1, by omega, by go_num, all_take HALL.out HX.out HOK.out, HB.out.trans (HB2.out.mono HB.out.size)⟩
        case measure => simp [intOf]; omega
    · obtain rfl : k = R.length := by omega
      obtain rfl : true = r := by
        rw [← HR2.out]
        have h1 := HALL.out
        rw [List.take_length] at h1
        rw [h1]
      go_wp2
      go_ret
      exact ⟨rfl, HB1.out.trans (HB.out.mono HB1.out.size)⟩

end Go.Proofs.YtpmfabpnjacegaaGreatDoor

