/-
  What spec.NewRecord and impl.NewRecord answer. By an AI agent.
-/
import Derived.Test.YtlapgcbeemdboaaDoorRecOk
import Derived.Test.YtlapgcbeemdboaaDoorPut
namespace Go.Proofs.YtlapgcbeemdboaaDoor
open Go.RowKit
set_option linter.unusedVariables false

theorem wpList_app {ops : Array Oper} {rest : List Oper} {o : Oper} {a : Act} {w : World} {Q : Exit → Act → World → Prop}
    (hg : o.guard = none) (s x : Operand) (hop : o.op = Op.call { callee := Callee.builtin Builtin.append, args := #[s, x], argTypes := #[22, 22] })
    (base : Nat) (v : Value) (l : List Str) (hs : a.eval s = v) (ad : Option Addr) (m c : Nat) (ms : List Str) (hx : a.eval x = .slice ad m c) (hm : m = ms.length)
    (hown : OwnS w base v l) (hin : InS w ad ms) (hn : ad = none → c = 0) (hsz : l.length + ms.length ≤ 9000000) (hbase : base ≤ w.heap.size)
    (hK : ∀ v' w', OwnS w' base v' (l ++ ms) → w.grownBy w' v.ownBlock → wpList Tryd.prog ops Q rest (a.put o.dst v') w') : wpList Tryd.prog ops Q (o :: rest) a w := by
  subst hm
  refine wpList_plain hg fun K hK' => ?_
  obtain ⟨v', w', hrun, h1, h2⟩ := run_app o.type base v l w hown ad c ms hin hn hsz hbase
  unfold Oper.wp
  simp [execOp, hop, resolve, invoke, builtin, hs, hx, hrun, Result.andThen]
  exact hK' _ _ (hK v' w' h1 h2)

/-- what NewRecord hands back -/
def NRout (s k v : Int) (l : List Str) (S K V : Int) (L : List Str) (r : Bool) : Prop :=
  (true = r ∧ recB s k v l = true ∧ s = S ∧ k = K ∧ v = V ∧ l = L) ∨ (false = r ∧ recB s k v l = false ∧ 0 = S ∧ 0 = K ∧ 0 = V ∧ [] = L)
theorem nr_some (s k v : Int) (l : List Str) : ∃ S K V L r, NRout s k v l S K V L r := by
  cases h : recB s k v l
  · exact ⟨0, 0, 0, [], false, .inr ⟨rfl, h, rfl, rfl, rfl, rfl⟩⟩
  · exact ⟨s, k, v, l, true, .inl ⟨rfl, h, rfl, rfl, rfl, rfl⟩⟩
def GivesRB (w : World) (S K V : Int) (L : List Str) (r : Bool) (e : Ending) (w' : World) : Prop :=
  ∃ a cap, e = .returned (.tuple #[.agg #[.int .i64 S, .int .i64 K, .int .i64 V, .slice a L.length cap], .bool r]) ∧ OwnS w' w.heap.size (.slice a L.length cap) L ∧ Below w.heap.size w w'

theorem RecB.grown {ty : TypeId} {w w' : World} {g : Nat} {s k v : Int} {V : Value} {row : Option Nat} (h : RecB ty w g s k v V) (hg : w.grownBy w' row) (hne : some g ≠ row) : RecB ty w' g s k v V :=
  (hg.block g h.lt hne).trans h

theorem clone_is (a : Option Addr) (c : Nat) (l : List Str) (w : World) (h : Sm w a l c) (h0 : 0 < l.length) :
    Calls Tryd.prog 46 #[.slice a l.length c] w (GivesS w l) := by
  obtain ⟨b, off, rfl, hb, hc⟩ := h.1 h0
  have hl := h.2.2.2.1
  refine (Tryd.slices_Clone_string b off l.length c (l.map fun x => ⟨x.toArray⟩) w (by simp) (by omega) (fun j hj => ?_)).mono fun e w' ⟨v', he, ho, _, hbl⟩ => ?_
  · rw [List.length_map] at hj
    have h1 := hc j l[j] (List.getElem?_eq_getElem hj)
    rw [h1]
    simp [List.getD, List.getElem?_eq_getElem hj, encStr]
  · have ho2 : OwnS w' w.heap.size v' l := by
      unfold OwnS
      have e1 : (List.take l.length (l.map fun x => (⟨x.toArray⟩ : ByteArray))).map Value.string = l.map encStr := by
        rw [List.take_of_length_le (by simp), List.map_map]
        rfl
      rw [← e1]
      exact ho
    obtain ⟨a', c', rfl⟩ := ho2.shape
    exact ⟨a', c', he, ho2, hbl⟩

theorem rec_len {s k v : Int} {l : List Str} (h : recB s k v l = true) : l.length = 4 := by
  unfold recB fieldsB at h
  simp at h
  exact h.2.1

set_option maxRecDepth 100000 in
set_option maxHeartbeats 1600000 in
theorem nr_impl (s k v : Int) (a : Option Addr) (c : Nat) (l : List Str) (S K V : Int) (L : List Str) (r : Bool) (w : World) (ho : NRout s k v l S K V L r) (h : Sm w a l c) :
    Calls Tryd.prog 31 #[.int .i64 s, .int .i64 k, .int .i64 v, .slice a l.length c] w (GivesRB w S K V L r) := by
  obtain ⟨w1, hw1⟩ : ∃ w1, w1 = (w.alloc (.cells #[.int .i64 0, .int .i64 0, .int .i64 0, .slice none 0 0] 27)).alloc (.cells #[.int .i64 s, .int .i64 k, .int .i64 v, .slice a l.length c] 27) := ⟨_, rfl⟩
  have hsz : w1.heap.size = w.heap.size + 2 := by rw [hw1]; simp
  have HB1 := Lib.hid (show Below w.heap.size w w1 by rw [hw1]; exact ((Below.refl w.heap.size w).alloc (Nat.le_refl _) _).alloc (by simp) _)
  have HR0 := Lib.hid (show RecB 27 w1 w.heap.size 0 0 0 (.slice none 0 0) by rw [hw1]; exact (RecB.new _ _ _ _ _ _ _ rfl).alloc _)
  have HR1 := Lib.hid (show RecB 27 w1 (w.heap.size + 1) s k v (.slice a l.length c) by rw [hw1]; exact RecB.new _ _ _ _ _ _ _ (by simp))
  have HX := Lib.hid (h.below HB1.out)
  have HW1 := Lib.hid hw1
  have HSZ := Lib.hid hsz
  clear h hw1 hsz
  rcases ho with ⟨rfl, hrec, rfl, rfl, rfl, rfl⟩ | ⟨rfl, hrec, rfl, rfl, rfl, rfl⟩
  all_goals
    have HREC := Lib.hid hrec
    clear hrec
    go_enter Tryd.func31, Tryd.ntmps31
    go_wp2_with (go_at_call 21; rw [← HW1.out]; (refine (iv_impl s k v a c l _ w1 HREC.out HX.out).mono ?_); rintro e w2 ⟨rfl, hb⟩; refine Hid.out ?_)
    have r0 := HR0.out.below hb
    have r1 := HR1.out.below hb
    have HB2 := Lib.hid (HB1.out.trans (hb.mono HB1.out.size))
    have HX2 := Lib.hid (HX.out.below hb)
    have HS2 := Lib.hid (show w.heap.size + 2 ≤ w2.heap.size by rw [← HSZ.out]; exact hb.size)
    clear hb
  · have HL := Lib.hid (show 0 < l.length by rw [rec_len HREC.out]; decide)
    clear HREC
    have RR0 := Lib.hid r0
    have RR1 := Lib.hid r1
    clear r0 r1
    refine Lib.hid ?_
    go_wp2_with (go_at_call 46; (refine (clone_is a c l _ HX2.out HL.out).mono ?_); rintro e w3 ⟨a1, c1, rfl, ho3, hb3⟩; refine Hid.out ?_)
    have r0 := RR0.out.below hb3
    have r1 := RR1.out.below hb3
    have HB3 := Lib.hid (HB2.out.trans (hb3.mono HB2.out.size))
    have HO3 := Lib.hid (ho3.mono (show w.heap.size + 2 ≤ w2.heap.size from HS2.out))
    have R0 := Lib.hid r0
    have q0 := r0.c0
    have q1 := r0.c1
    have q2 := r0.c2
    have q3 := r0.c3
    have f0 := r0.frozen 0
    have f1 := r0.frozen 1
    have f2 := r0.frozen 2
    have f3 := r0.frozen 3
    have p0 := r1.c0
    have p1 := r1.c1
    have p2 := r1.c2
    have p3 := r1.c3
    have g3 := r1.frozen 3
    clear r0 r1 hb3 ho3
    refine Lib.hid ?_
    go_wp2
    have z := ((((R0.out.other ⟨w.heap.size + 1, 3, none⟩ (.slice a1 l.length c1) (by simp)).set0 s).set1 k).set2 v).set3 (.slice a1 l.length c1)
    have e0 := z.c0
    have e1 := z.c1
    have e2 := z.c2
    have e3 := z.c3
    refine bodyPost_ret (v := .tuple #[.agg #[.int .i64 s, .int .i64 k, .int .i64 v, .slice a1 l.length c1], .bool true]) (by simp [results, Tryd.results31, go_sem, e0, e1, e2, e3]) rfl ⟨_, _, rfl, ?_, ?_⟩
    · exact (((((HO3.out.set_ _ _ (by simp)).set_ _ _ (by simp)).set_ _ _ (by simp)).set_ _ _ (by simp)).set_ _ _ (by simp)).mono (by omega)
    · exact ((((HB3.out.setCell (by simp) _).setCell (by simp) _).setCell (by simp) _).setCell (by simp) _).setCell (by simp) _
  · have R0 := Lib.hid r0
    have q0 := r0.c0
    have q1 := r0.c1
    have q2 := r0.c2
    have q3 := r0.c3
    have f0 := r0.frozen 0
    have f1 := r0.frozen 1
    have f2 := r0.frozen 2
    have f3 := r0.frozen 3
    clear r0 r1
    refine Lib.hid ?_
    go_wp2
    have z := (((R0.out.set0 0).set1 0).set2 0).set3 (.slice none 0 0)
    have e0 := z.c0
    have e1 := z.c1
    have e2 := z.c2
    have e3 := z.c3
    refine bodyPost_ret (v := .tuple #[.agg #[.int .i64 0, .int .i64 0, .int .i64 0, .slice none 0 0], .bool false]) (by simp [results, Tryd.results31, go_sem, e0, e1, e2, e3]) rfl ⟨_, _, rfl, OwnS.nil _ _, ?_⟩
    exact (((HB2.out.setCell (by simp) _).setCell (by simp) _).setCell (by simp) _).setCell (by simp) _

end Go.Proofs.YtlapgcbeemdboaaDoor
