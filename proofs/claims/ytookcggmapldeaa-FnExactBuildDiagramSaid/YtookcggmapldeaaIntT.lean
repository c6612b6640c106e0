/-
  What the laws' own toIntS and eqIntS do; an argument of a law that is a slice of integers. By an AI agent.
-/
import Derived.Test.YtookcggmapldeaaInts
import Derived.OwnWalk
import Derived.Laws.OwnMore
import Derived.Maps.AppendAt
namespace Go.Proofs.Ytookcggmapldeaa
open Go.RowKit
set_option linter.unusedVariables false

theorem info_i64 : (Try.prog.info? 3).map (fun i => (i.zero, i.size, i.bytes)) = some (some (.int .i64 0), 1, 8) := by kernel_rfl

def encI (z : Int) : Value := .int .i64 z
/-- the first k numbers are copied, the rest is 0 -/
def fillI (l : List Int) (k : Nat) : List Value := (l.take k).map encI ++ List.replicate (l.length - k) (.int .i64 0)
theorem filli_zero (l : List Int) : fillI l 0 = List.replicate l.length (.int .i64 0) := by simp [fillI]
theorem filli_all (l : List Int) : fillI l l.length = l.map encI := by simp [fillI]
theorem filli_len {l : List Int} {k : Nat} (h : k < l.length) : ((l.take k).map encI).length = k := by
  rw [List.length_map, List.length_take]; omega
theorem filli_at {l : List Int} {k : Nat} (h : k < l.length) : (fillI l k)[k]? = some (.int .i64 0) := by
  unfold fillI
  rw [List.getElem?_append_right (by rw [filli_len h]; omega), filli_len h, Nat.sub_self, List.getElem?_replicate, if_pos (by omega)]
theorem filli_set {l : List Int} {k : Nat} {x : Int} (h : l[k]? = some x) : (fillI l k).set k (encI x) = fillI l (k + 1) := by
  obtain ⟨hlt, he⟩ := List.getElem?_eq_some_iff.1 h
  have e1 : l.length - k = (l.length - (k + 1)) + 1 := by omega
  unfold fillI
  rw [List.set_append_right _ _ (by rw [filli_len hlt]; omega), filli_len hlt, Nat.sub_self, e1, List.replicate_succ, List.take_succ_eq_append_getElem hlt, he, List.set_cons_zero]
  simp

/-- a slice of integers of the call's own -/
def OwnI (w : World) (base : Nat) (v : Value) (l : List Int) : Prop := w.ownsRow base 3 1 v l.length (l.map encI)

theorem OwnI.inI {w : World} {base : Nat} {a : Option Addr} {n cap : Nat} {l : List Int} (h : OwnI w base (.slice a n cap) l) : InI w a l := by
  intro h0
  rcases h.2 with ⟨_, h1⟩ | ⟨g, cap', cur, hv, hb, hg, _, _, _, ht⟩
  · omega
  · simp only [Value.slice.injEq] at hv
    obtain ⟨rfl, -, -⟩ := hv
    refine ⟨g, 0, rfl, (Array.getElem?_eq_some_iff.1 hg).1, fun j x hj => ?_⟩
    obtain ⟨hlt, he⟩ := List.getElem?_eq_some_iff.1 hj
    rw [Nat.zero_add, cell_of_row w g j cur _ (0, 0) hg, ← Array.getElem?_toList]
    have h2 : (cur.toList.take (l.length * 1))[j]? = (l.map encI)[j]? := by rw [ht]
    rw [List.getElem?_take_of_lt (by omega)] at h2
    rw [h2]
    simp [he, hlt, encI]

theorem OwnI.shape {w : World} {base : Nat} {v : Value} {l : List Int} (h : OwnI w base v l) : ∃ a cap, v = .slice a l.length cap := by
  rcases h.2 with ⟨rfl, h0⟩ | ⟨g, cap, cur, rfl, _⟩
  · exact ⟨none, 0, by rw [h0]⟩
  · exact ⟨_, _, rfl⟩
theorem OwnI.alloc {w : World} {base : Nat} {v : Value} {l : List Int} (h : OwnI w base v l) (o : Obj) : OwnI (w.alloc o) base v l := World.ownsRow.alloc h o
theorem OwnI.made (w : World) (base : Nat) (cur : Array Value) (cap : Nat) (hb : base ≤ w.heap.size) (hm : cap ≤ maxLen) (hs : cur.size = cap) :
    OwnI (w.alloc (.cells cur 3)) base (.slice (some ⟨w.heap.size, 0, none⟩) 0 cap) [] :=
  World.ownsRow_made w cur cap hb hm (by omega)

/-- append of one integer, which lies in a new block of one cell -/
theorem append_i {ops : Array Oper} {rest : List Oper} {o : Oper} {a : Act} {Q : Exit → Act → World → Prop} {w0 : World} (hgd : o.guard = none) (s y : Operand)
    (ho : o.op = .call { callee := .builtin .append, args := #[s, y], argTypes := #[51, 51] })
    (base : Nat) (v : Value) (l : List Int) (x : Int) (hown : OwnI w0 base v l) (hs : a.eval s = v)
    (hy : a.eval y = .slice (some ⟨w0.heap.size, 0, none⟩) 1 1) (hlen : l.length ≤ 4000000) (hbase : base ≤ w0.heap.size)
    (h : ∀ v' w', OwnI w' base v' (l ++ [x]) → w0.grownBy w' v.ownBlock → (v'.ownBlock = v.ownBlock ∨ v'.ownBlock = some (w0.heap.size + 1)) → wpList Try.prog ops Q rest (a.put o.dst v') w') :
    wpList Try.prog ops Q (o :: rest) a (w0.alloc (.cells #[.int .i64 x] 3)) := by
  obtain ⟨i0, hi, hz0, hz1, hz2⟩ := info_parts info_i64
  refine wpList_append_own_at _ hgd s y 51 ho base 3 i0 (.int .i64 0) 1 8 Try.underlying51 hi hz0 hz1 hz2 rfl (by decide) v l.length (l.map encI) hs (World.ownsRow.alloc hown _)
    ⟨w0.heap.size, 0, none⟩ 1 1 [.int .i64 x] hy rfl (cell_one_new _ _ _) ?_ (by unfold maxLen; omega) (by omega) (by simp; omega) ?_
  · intro u hu
    simp at hu
    subst hu
    rfl
  · intro v' w' h2 h3 _ h5
    refine h v' w' ?_ ((World.grownBy_alloc w0 _ _).trans h3) (by rcases h5 with e | e; exact .inl e; exact .inr (by rw [e]; simp))
    have e1 : (l ++ [x]).length = l.length + 1 := by simp
    have e2 : (l ++ [x]).map encI = l.map encI ++ [.int .i64 x] := by simp [encI]
    unfold OwnI
    rw [e1, e2]
    exact h2

/-- two slices of integers of the call's own, in different blocks -/
def PairI (w : World) (base : Nat) (u v : Value) (l m : List Int) : Prop := OwnI w base u l ∧ OwnI w base v m ∧ ∀ k, u.ownBlock = some k → v.ownBlock ≠ some k
theorem PairI.swap {w : World} {base : Nat} {u v : Value} {l m : List Int} (h : PairI w base u v l m) : PairI w base v u m l := ⟨h.2.1, h.1, fun k hk e => h.2.2 k e hk⟩
theorem PairI.alloc {w : World} {base : Nat} {u v : Value} {l m : List Int} (h : PairI w base u v l m) (o : Obj) : PairI (w.alloc o) base u v l m := ⟨h.1.alloc o, h.2.1.alloc o, h.2.2⟩
theorem PairI.keptc {w w' : World} {base c : Nat} {u v : Value} {l m : List Int} (h : PairI w base u v l m) (hg : w.grownBy w' (some c)) (hc : c < base) : PairI w' base u v l m := by
  refine ⟨World.ownsRow.kept h.1 hg (.inr fun e => ?_), World.ownsRow.kept h.2.1 hg (.inr fun e => ?_), h.2.2⟩
  · have := (World.ownsRow.lt h.1 c e).1; omega
  · have := (World.ownsRow.lt h.2.1 c e).1; omega
theorem PairI.first {w w' : World} {base : Nat} {u v u' : Value} {l m l' : List Int} (h : PairI w base u v l m) (ho : OwnI w' base u' l') (hg : w.grownBy w' u.ownBlock) (hat : u'.ownBlock = u.ownBlock ∨ u'.ownBlock = some (w.heap.size + 1)) : PairI w' base u' v l' m := by
  refine ⟨ho, World.ownsRow.kept h.2.1 hg ?_, fun k hk e => ?_⟩
  · cases hv : v.ownBlock with
    | none => exact .inl rfl
    | some k => exact .inr fun e => h.2.2 k e.symm hv
  · rcases hat with e1 | e1
    · exact h.2.2 k (by rw [← e1]; exact hk) e
    · rw [e1] at hk
      injection hk with hk
      have := (World.ownsRow.lt h.2.1 k e).2
      omega
theorem PairI.below {w w' : World} {base : Nat} {u v : Value} {l m : List Int} (h : PairI w base u v l m) (hb : base ≤ w.heap.size) (hg : w.grownBy w' u.ownBlock) : Below base w w' :=
  (Below.refl base w).grown hg hb (fun k hk => (World.ownsRow.lt h.1 k hk).1)

/-- a slice that reads as the list is handed back -/
def GivesI (w : World) (l : List Int) (e : Ending) (w' : World) : Prop := ∃ a cap, e = .returned (.slice a l.length cap) ∧ InI w' a l ∧ Below w.heap.size w w'

set_option maxRecDepth 100000 in
theorem to_int (a : Option Addr) (cap : Nat) (l : List Int) (w : World) (hl : l.length ≤ 4000000) (hin : InI w a l) :
    Calls Try.prog 28 #[.slice a l.length cap] w (GivesI w l) := by
  obtain ⟨i0, hi, hz0, hz1, hz2⟩ := info_parts info_i64
  have HIN := Lib.hid hin
  clear hin
  go_enter Try.func28, Try.ntmps28
  go_wp2_with (at_make; refine wpList_make_full _ rfl _ _ 51 rfl w.heap.size 3 i0 (.int .i64 0) 1 Try.underlying51 hi hz0 hz1 .i64 .i64 _ _ l.length rfl rfl rfl rfl (by rw [hz2]; omega) (by unfold maxLen; omega) (Nat.le_refl _) ?_; intro w1 hrow hg)
  have HROW := Lib.hid hrow
  have HB1 := Lib.hid ((Below.refl w.heap.size w).grown hg (Nat.le_refl _) (fun k hk => by cases hk))
  clear hrow hg
  go_loopw [4] (fun i wr => ∃ k : Nat, k ≤ l.length ∧ i = .int .i64 k ∧ wr.ownsRow w.heap.size 3 1 (.slice (some ⟨w.heap.size, 0, none⟩) l.length l.length) l.length (fillI l k) ∧ Below w.heap.size w wr) (fun i _ => l.length - (intOf i).toNat)
  case atStart =>
    refine ⟨0, Nat.zero_le _, rfl, ?_, HB1.out⟩
    have h := HROW.out
    rw [Nat.mul_one, show (Value.int .i64 0).cells = #[.int .i64 0] from rfl, toList_madeCells_one] at h
    rw [filli_zero]
    exact h
  case round =>
    obtain ⟨k, hk, rfl, hrow, hb⟩ := hrel
    by_cases hlt : k < l.length
    · obtain ⟨b, off, rfl, hbw, hc⟩ := HIN.out (by omega)
      obtain ⟨x, hx⟩ : ∃ x, l[k]? = some x := ⟨_, List.getElem?_eq_getElem hlt⟩
      have hcell : wr.cell? ⟨b, off + k, none⟩ = some (.int .i64 x) := by rw [hb.cell (p := ⟨b, off + k, none⟩) hbw]; exact hc k x hx
      have hold : wr.cell? ⟨w.heap.size, k, none⟩ = some (.int .i64 0) := by rw [hrow.cellAt k (by omega)]; exact filli_at hlt
      have hfz : wr.frozen? ⟨w.heap.size, k, none⟩ = false := hrow.frozenAt k
      have HN := Lib.hid (hrow.stored k (.int .i64 x))
      have HE := Lib.hid (filli_set hx)
      have HB := Lib.hid hb
      clear hc hx hrow hb
      go_wp2
      go_roundw
      case rel =>
        refine ⟨k + 1, by omega, by go_num, ?_, HB.out.setCell (by simp) _⟩
        rw [← HE.out]
        exact HN.out.1
      case measure => simp [intOf]; omega
    · obtain rfl : k = l.length := by omega
      have HROW2 := Lib.hid hrow
      clear hrow
      go_wp2
      go_ret
      refine ⟨_, _, rfl, ?_, hb⟩
      have h := HROW2.out
      rw [filli_all] at h
      exact OwnI.inI h

theorem quiet_i (B : Nat) (w : World) (n : Nat) : Below B w (w.drewN n) := ⟨rfl, rfl, rfl, Nat.le_refl _, fun _ _ => rfl⟩

set_option maxRecDepth 100000 in
theorem eq_int (a1 a2 : Option Addr) (c1 c2 : Nat) (l : List Int) (w : World) (hl : l.length ≤ maxLen) (h1 : InI w a1 l) (h2 : InI w a2 l) :
    Calls Try.prog 30 #[.slice a1 l.length c1, .slice a2 l.length c2] w fun e w' => e = .returned (.bool true) ∧ Below w.heap.size w w' := by
  unfold maxLen at hl
  have H1 := Lib.hid h1
  have H2 := Lib.hid h2
  clear h1 h2
  go_enter Try.func30, Try.ntmps30
  go_wp2
  go_loopw [5] (fun i wr => ∃ k n : Nat, k ≤ l.length ∧ i = .int .i64 k ∧ wr = w.drewN n) (fun i _ => l.length - (intOf i).toNat)
  case atStart => exact ⟨0, 0, Nat.zero_le _, rfl, rfl⟩
  case round =>
    obtain ⟨k, n, hk, rfl, rfl⟩ := hrel
    by_cases hlt : k < l.length
    · obtain ⟨b1, o1, rfl, hb1, hc1⟩ := H1.out (by omega)
      obtain ⟨b2, o2, rfl, hb2, hc2⟩ := H2.out (by omega)
      obtain ⟨x, hx⟩ : ∃ x, l[k]? = some x := ⟨_, List.getElem?_eq_getElem hlt⟩
      have hcell1 : w.cell? ⟨b1, o1 + k, none⟩ = some (.int .i64 x) := hc1 k x hx
      have hcell2 : w.cell? ⟨b2, o2 + k, none⟩ = some (.int .i64 x) := hc2 k x hx
      clear hc1 hc2 hx
      go_wp2
      go_quiet (fail)
      go_wp2
      go_roundw
      case rel => exact ⟨k + 1, _, by omega, by go_num, rfl⟩
      case measure => simp [intOf]; omega
    · obtain rfl : k = l.length := by omega
      go_wp2
      go_ret
      exact ⟨rfl, quiet_i _ _ _⟩

/-- an argument of a law -/
def ArgI (w : World) (a : Option Addr) (l : List Int) : Prop := InI w a l ∧ l.length ≤ maxLen

theorem ArgI.inI {w : World} {a : Option Addr} {l : List Int} (h : ArgI w a l) : InI w a l := h.1
theorem argI_of {w : World} {x : Addr} {l c : Nat} {zs : List Int} (hl : l ≤ c) (hm : c ≤ maxLen) (hz : zs.length = c)
    (hcell : ∀ i, i < zs.length → w.cell? (x.add i) = some (.int .i64 (zs.getD i 0))) : ∃ L : List Int, l = L.length ∧ ArgI w (some x) L := by
  refine ⟨zs.take l, by simp; omega, fun h0 => ?_, by simp; omega⟩
  simp at h0
  obtain ⟨b, off, spot⟩ := x
  have hspot : spot = none := by simpa [Addr.add] using World.cell?_spot (hcell 0 (by omega))
  subst hspot
  refine ⟨b, off, rfl, ?_, fun j y hj => ?_⟩
  · exact World.block_lt_of_cell? w _ (hcell 0 (by omega))
  · obtain ⟨hlt, he⟩ := List.getElem?_eq_some_iff.1 hj
    simp at hlt
    have h1 := hcell j (by omega)
    have h2 : (⟨b, off, none⟩ : Addr).add j = ⟨b, off + j, none⟩ := by unfold Addr.add; split <;> simp_all
    rw [h2] at h1
    rw [h1]
    simp only [List.getElem_take] at he
    rw [← he, List.getD, List.getElem?_eq_getElem (by omega)]
    rfl

end Go.Proofs.Ytookcggmapldeaa
