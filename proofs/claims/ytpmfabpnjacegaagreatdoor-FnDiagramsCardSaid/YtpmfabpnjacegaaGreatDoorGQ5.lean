/-
  Texts laid together: TsS, CmpI, OrI, CmpV, CompV. By an AI agent.
-/
import Derived.Test.YtpmfabpnjacegaaGreatDoorGQ3
import Derived.Test.YtpmfabpnjacegaaGreatDoorGQ1
import Derived.Deep.Slices
import Derived.Test.YtpmfabpnjacegaaGreatDoorGQ2
import Derived.Deep.RegionWith
import Derived.Sort.Grow
import Derived.StillTailTactics
import Derived.Laws.StructEq
import Derived.Lib.SliceRun
/-
  Slices of tests: one that reads as a list, one of the call's own. By an AI agent.
-/
namespace Go.Proofs.YtpmfabpnjacegaaGreatDoor
open Go.RowKit
set_option linter.unusedVariables false

def encTs (x : TS) : List Value := [.int .i64 x.1.1, .int .i64 x.1.2, .bool x.2]
abbrev aggTs (x : TS) : Value := .agg #[.int .i64 x.1.1, .int .i64 x.1.2, .bool x.2]
def flatTs (l : List TS) : List Value := l.flatMap encTs
theorem flatTs_nil : flatTs [] = [] := rfl
theorem flatTs_cons (x : TS) (l : List TS) : flatTs (x :: l) = .int .i64 x.1.1 :: .int .i64 x.1.2 :: .bool x.2 :: flatTs l := by simp [flatTs, encTs]
theorem flatTs_len (l : List TS) : (flatTs l).length = l.length * 3 := by
  induction l with
  | nil => rfl
  | cons x l ih =>
    rw [flatTs_cons]
    simp only [List.length_cons, ih]
    omega
theorem flatTs_snoc (l : List TS) (x : TS) : flatTs (l ++ [x]) = flatTs l ++ encTs x := by simp [flatTs]
theorem flatTs_append (l m : List TS) : flatTs (l ++ m) = flatTs l ++ flatTs m := by simp [flatTs]
theorem flatTs_at : ∀ {l : List TS} {j : Nat} {x : TS}, l[j]? = some x → (flatTs l)[j * 3]? = some (.int .i64 x.1.1) ∧ (flatTs l)[j * 3 + 1]? = some (.int .i64 x.1.2) ∧ (flatTs l)[j * 3 + 2]? = some (.bool x.2)
  | [], j, x, h => by simp at h
  | y :: l, j, x, h => by
    rw [flatTs_cons]
    cases j with
    | zero =>
      simp at h
      subst h
      exact ⟨rfl, rfl, rfl⟩
    | succ j =>
      have h1 : l[j]? = some x := by simpa using h
      have h2 := flatTs_at h1
      rw [show (j + 1) * 3 = j * 3 + 1 + 1 + 1 by omega]
      exact h2
theorem encTs_one (x : TS) : ∀ v ∈ encTs x, v.oneCell' = true := by
  intro v hv
  simp [encTs] at hv
  rcases hv with rfl | rfl | rfl <;> rfl

/-- a slice whose elements are the tests of a list -/
def InTs (w : World) (a : Option Addr) (l : List TS) : Prop :=
  0 < l.length → ∃ b off, a = some ⟨b, off, none⟩ ∧ b < w.heap.size ∧ ∀ j x, l[j]? = some x → w.cell? ⟨b, off + j * 3, none⟩ = some (.int .i64 x.1.1) ∧ w.cell? ⟨b, off + j * 3 + 1, none⟩ = some (.int .i64 x.1.2) ∧ w.cell? ⟨b, off + j * 3 + 2, none⟩ = some (.bool x.2)
theorem InTs.keep {w w' : World} {a : Option Addr} {l : List TS} (h : InTs w a l) (hs : w.heap.size ≤ w'.heap.size) (hk : ∀ b off, a = some ⟨b, off, none⟩ → b < w.heap.size → w'.heap[b]? = w.heap[b]?) : InTs w' a l := by
  intro h0
  obtain ⟨b, off, ha, hlt, hc⟩ := h h0
  have hk := hk b off ha hlt
  exact ⟨b, off, ha, Nat.lt_of_lt_of_le hlt hs, fun j x hj => ⟨(World.cell?_of_block hk).trans (hc j x hj).1, (World.cell?_of_block hk).trans (hc j x hj).2.1, (World.cell?_of_block hk).trans (hc j x hj).2.2⟩⟩
theorem InTs.below {w w' : World} {a : Option Addr} {l : List TS} (h : InTs w a l) (hb : Below w.heap.size w w') : InTs w' a l := h.keep hb.size fun b _ _ hlt => hb.block b hlt
theorem InTs.alloc {w : World} {a : Option Addr} {l : List TS} (h : InTs w a l) (o : Obj) : InTs (w.alloc o) a l := h.below ((Below.refl _ _).alloc (Nat.le_refl _) o)

/-- a slice of the call's own -/
def OwnTs (w : World) (base : Nat) (v : Value) (l : List TS) : Prop := w.ownsRow base 86 3 v l.length (flatTs l)
theorem info_ts : (Tryz.prog.info? 86).map (fun i => (i.zero, i.size, i.bytes)) = some (some (.agg #[.int .i64 0, .int .i64 0, .bool false]), 3, 24) := by kernel_rfl
theorem OwnTs.shape {w : World} {base : Nat} {v : Value} {l : List TS} (h : OwnTs w base v l) : ∃ a cap, v = .slice a l.length cap := by
  rcases h.2 with ⟨rfl, h0⟩ | ⟨g, cap, cur, rfl, _⟩
  · exact ⟨none, 0, by rw [h0]⟩
  · exact ⟨_, _, rfl⟩
theorem OwnTs.inTs {w : World} {base : Nat} {a : Option Addr} {n cap : Nat} {l : List TS} (h : OwnTs w base (.slice a n cap) l) : InTs w a l := by
  intro h0
  obtain ⟨a', cap', e⟩ := h.shape
  injection e with e1 e2 e3
  subst e2
  obtain ⟨g, rfl, _, hg, hc⟩ := rowX_at h h0
  refine ⟨g, 0, rfl, hg, fun j x hj => ?_⟩
  obtain ⟨h1, h2, h3⟩ := flatTs_at hj
  exact ⟨hc _ _ h1, by rw [Nat.add_assoc]; exact hc _ _ h2, by rw [Nat.add_assoc]; exact hc _ _ h3⟩
theorem OwnTs.alloc {w : World} {base : Nat} {v : Value} {l : List TS} (h : OwnTs w base v l) (o : Obj) : OwnTs (w.alloc o) base v l := World.ownsRow.alloc h o
theorem OwnTs.below {w w' : World} {base : Nat} {v : Value} {l : List TS} (h : OwnTs w base v l) (hb : Below w.heap.size w w') : OwnTs w' base v l :=
  World.ownsRow.kept h (row := none) ⟨hb.os, hb.tape, hb.output, hb.size, fun i hi _ => hb.block i hi⟩ (by cases hv : v.ownBlock <;> simp)
theorem OwnTs.mono {w : World} {base base' : Nat} {v : Value} {l : List TS} (h : OwnTs w base v l) (hb : base' ≤ base) : OwnTs w base' v l := row_mono h hb
theorem OwnTs.nil (w : World) (base : Nat) : OwnTs w base (.slice none 0 0) [] := World.ownsRow_nil _ _ _ _

/-- a slice of the call's own is handed back -/
def GivesTs (w : World) (l : List TS) (e : Ending) (w' : World) : Prop :=
  ∃ a cap, e = .returned (.slice a l.length cap) ∧ OwnTs w' w.heap.size (.slice a l.length cap) l ∧ Below w.heap.size w w'

/-- an argument of moderate size -/
def SmTs (w : World) (a : Option Addr) (l : List TS) (c : Nat) : Prop := InTs w a l ∧ (a = none → c = 0) ∧ l.length ≤ c ∧ l.length ≤ 4000000
theorem SmTs.below {w w' : World} {a : Option Addr} {l : List TS} {c : Nat} (h : SmTs w a l c) (hb : Below w.heap.size w w') : SmTs w' a l c := ⟨h.1.below hb, h.2⟩
theorem SmTs.alloc {w : World} {a : Option Addr} {l : List TS} {c : Nat} (h : SmTs w a l c) (o : Obj) : SmTs (w.alloc o) a l c := ⟨h.1.alloc o, h.2⟩
theorem SmTs.inTs {w : World} {a : Option Addr} {l : List TS} {c : Nat} (h : SmTs w a l c) : InTs w a l := h.1
theorem SmTs.len {w : World} {a : Option Addr} {l : List TS} {c : Nat} (h : SmTs w a l c) : l.length ≤ 4000000 := h.2.2.2
theorem OwnTs.smTs {w : World} {base : Nat} {a : Option Addr} {n cap : Nat} {l : List TS} (h : OwnTs w base (.slice a n cap) l) (h1 : l.length ≤ 4000000) : SmTs w a l cap := by
  obtain ⟨a', cap', e⟩ := h.shape
  injection e with e1 e2 e3
  subst e2
  exact ⟨h.inTs, rowX_none h, rowX_cap h, h1⟩
/-- an element of a slice of tests -/
theorem InTs.at_ {w : World} {a : Option Addr} {l : List TS} {j : Nat} (h : InTs w a l) (hj : j < l.length) : ∃ (b off : Nat) (f t : Int) (u : Bool), a = some ⟨b, off, none⟩ ∧ b < w.heap.size ∧ l[j]? = some ((f, t), u) ∧ w.cell? ⟨b, off + j * 3, none⟩ = some (.int .i64 f) ∧ w.cell? ⟨b, off + j * 3 + 1, none⟩ = some (.int .i64 t) ∧ w.cell? ⟨b, off + j * 3 + 2, none⟩ = some (.bool u) := by
  obtain ⟨b, off, ha, hlt, hc⟩ := h (by omega)
  have hx := List.getElem?_eq_getElem hj
  obtain ⟨h1, h2, h3⟩ := hc j _ hx
  exact ⟨b, off, _, _, _, ha, hlt, hx, h1, h2, h3⟩

/-- an argument of a law -/
def ArgTs (w : World) (a : Option Addr) (l : List TS) : Prop := InTs w a l ∧ l.length ≤ maxLen
theorem ArgTs.below {w w' : World} {a : Option Addr} {l : List TS} (h : ArgTs w a l) (hb : Below w.heap.size w w') : ArgTs w' a l := ⟨h.1.below hb, h.2⟩
theorem argTs_of {w : World} {x : Addr} {len cap : Nat} (hl : len ≤ cap) (hm : cap ≤ maxLen) (h : ∀ i, i < len → ∃ (f t : Int) (u : Bool), w.cell? (x.add (i * 3)) = some (.int .i64 f) ∧ w.cell? (x.add (i * 3 + 1)) = some (.int .i64 t) ∧ w.cell? (x.add (i * 3 + 2)) = some (.bool u)) : ∃ L : List TS, len = L.length ∧ ArgTs w (some x) L := by
  obtain ⟨f, hf⟩ := Go.Deep.choose_lt (n := len) (p := fun i (q : TS) => w.cell? (x.add (i * 3)) = some (.int .i64 q.1.1) ∧ w.cell? (x.add (i * 3 + 1)) = some (.int .i64 q.1.2) ∧ w.cell? (x.add (i * 3 + 2)) = some (.bool q.2)) (fun i hi => by obtain ⟨f, t, u, h1⟩ := h i hi; exact ⟨((f, t), u), h1⟩)
  refine ⟨(List.range len).map f, by simp, fun h0 => ?_, by simp; omega⟩
  simp at h0
  obtain ⟨b, off, spot⟩ := x
  have hspot : spot = none := by simpa [Addr.add] using World.cell?_spot (hf 0 (by omega)).1
  subst hspot
  have hadd : ∀ j, (⟨b, off, none⟩ : Addr).add j = ⟨b, off + j, none⟩ := fun j => by unfold Addr.add; split <;> simp_all
  refine ⟨b, off, rfl, World.block_lt_of_cell? w _ (hf 0 (by omega)).1, fun j y hj => ?_⟩
  obtain ⟨hlt, he⟩ := List.getElem?_eq_some_iff.1 hj
  simp at hlt he
  obtain ⟨h1, h2, h3⟩ := hf j hlt
  rw [hadd] at h1 h2 h3
  subst he
  exact ⟨h1, h2, h3⟩

theorem ts_take {S : List TS} {k : Nat} {x : TS} (h : S[k]? = some x) : S.take (k + 1) = S.take k ++ [x] := by
  obtain ⟨hlt, he⟩ := List.getElem?_eq_some_iff.1 h
  rw [List.take_succ_eq_append_getElem hlt, he]
theorem gap3_at {p : List Value} {k : Nat} {y0 y1 y2 : Value} {r : List Value} (h : p.length = k * 3) : (p ++ y0 :: y1 :: y2 :: r)[k * 3]? = some y0 ∧ (p ++ y0 :: y1 :: y2 :: r)[k * 3 + 1]? = some y1 ∧ (p ++ y0 :: y1 :: y2 :: r)[k * 3 + 2]? = some y2 := by
  refine ⟨?_, ?_, ?_⟩
  · rw [List.getElem?_append_right (by omega), h, Nat.sub_self]; rfl
  · rw [List.getElem?_append_right (by omega), h, show k * 3 + 1 - k * 3 = 1 by omega]; rfl
  · rw [List.getElem?_append_right (by omega), h, show k * 3 + 2 - k * 3 = 2 by omega]; rfl
theorem gap3_set {p : List Value} {k : Nat} {y0 y1 y2 u0 u1 u2 : Value} {r : List Value} (h : p.length = k * 3) : (((p ++ y0 :: y1 :: y2 :: r).set (k * 3) u0).set (k * 3 + 1) u1).set (k * 3 + 2) u2 = (p ++ [u0, u1, u2]) ++ r := by
  rw [List.set_append_right _ _ (by omega), h, Nat.sub_self, List.set_append_right _ _ (by omega), h, show k * 3 + 1 - k * 3 = 1 by omega, List.set_append_right _ _ (by omega), h, show k * 3 + 2 - k * 3 = 2 by omega]
  simp
theorem gap3_rest {p rest : List Value} {k n : Nat} (h : (p ++ rest).length = n * 3) (hp : p.length = k * 3) (hk : k < n) : ∃ y0 y1 y2 r, rest = y0 :: y1 :: y2 :: r := by
  rw [List.length_append, hp] at h
  match rest, h with
  | [], h => simp at h; omega
  | [_], h => simp at h; omega
  | [_, _], h => simp at h; omega
  | y0 :: y1 :: y2 :: r, _ => exact ⟨y0, y1, y2, r, rfl⟩

end Go.Proofs.YtpmfabpnjacegaaGreatDoor

/-
  cmp.Compare at int. By an AI agent.
-/
namespace Go.Proofs.YtpmfabpnjacegaaGreatDoor
open Go.RowKit
set_option linter.unusedVariables false

def cmpI (x y : Int) : Int := if x < y then -1 else if y < x then 1 else 0

set_option maxRecDepth 100000 in
theorem nanI_is (x : Int) (w : World) :
    Calls Tryz.prog 103 #[.int .i64 x] w fun e w' => e = .returned (.bool false) ∧ w' = w := by
  go_enter Tryz.func103, Tryz.ntmps103
  go_wp2
  go_ret
  exact ⟨by first | rfl | simp, rfl⟩

set_option maxRecDepth 100000 in
theorem cmpI_is (x y r : Int) (w : World) (h : cmpI x y = r) :
    Calls Tryz.prog 79 #[.int .i64 x, .int .i64 y] w fun e w' => e = .returned (.int .i64 r) ∧ w' = w := by
  by_cases h1 : x < y
  · obtain rfl : -1 = r := by rw [← h, cmpI, if_pos h1]
    clear h
    go_enter Tryz.func79, Tryz.ntmps79
    go_wp2_with (go_at_call 103; refine (nanI_is _ _).mono ?_; rintro e w' ⟨rfl, rfl⟩)
    go_ret
    exact ⟨rfl, rfl⟩
  · by_cases h2 : y < x
    · obtain rfl : 1 = r := by rw [← h, cmpI, if_neg h1, if_pos h2]
      clear h
      go_enter Tryz.func79, Tryz.ntmps79
      go_wp2_with (go_at_call 103; refine (nanI_is _ _).mono ?_; rintro e w' ⟨rfl, rfl⟩)
      go_ret
      exact ⟨rfl, rfl⟩
    · obtain rfl : 0 = r := by rw [← h, cmpI, if_neg h1, if_neg h2]
      clear h
      go_enter Tryz.func79, Tryz.ntmps79
      go_wp2_with (go_at_call 103; refine (nanI_is _ _).mono ?_; rintro e w' ⟨rfl, rfl⟩)
      go_ret
      exact ⟨rfl, rfl⟩

end Go.Proofs.YtpmfabpnjacegaaGreatDoor

/-
  cmp.Or at int; worlds that grew by draws and new blocks alone. By an AI agent.
-/
namespace Go.Proofs.YtpmfabpnjacegaaGreatDoor
open Go.RowKit Go.Sort
set_option linter.unusedVariables false

def orI (x y : Int) : Int := if x = 0 then y else x
set_option maxRecDepth 100000 in
theorem or_is (g : Nat) (x y r : Int) (w : World) (h0 : w.cell? ⟨g, 0, none⟩ = some (.int .i64 x)) (h1 : w.cell? ⟨g, 1, none⟩ = some (.int .i64 y)) (h : orI x y = r) :
    Calls Tryz.prog 78 #[.slice (some ⟨g, 0, none⟩) 2 2] w fun e w' => e = .returned (.int .i64 r) ∧ w' = w := by
  by_cases hx : x = 0
  · subst hx
    obtain rfl : y = r := by rw [← h, orI, if_pos rfl]
    clear h
    go_enter Tryz.func78, Tryz.ntmps78
    go_wp2
    go_loop [8] (fun i => i = .int .i64 (0 : Nat) ∨ i = .int .i64 (1 : Nat) ∨ (i = .int .i64 (2 : Nat) ∧ y = 0)) (fun i => 2 - (intOf i).toNat)
    case atStart => exact .inl rfl
    case round =>
      rcases hrel with rfl | rfl | ⟨rfl, rfl⟩
      · go_wp2
        go_round
        case rel => exact .inr (.inl (by go_num))
        case measure => simp [intOf]
      · by_cases hy : y = 0
        · subst hy
          go_wp2
          go_round
          case rel => exact .inr (.inr ⟨by go_num, trivial⟩)
          case measure => simp [intOf]
        · go_wp2
          go_ret
          exact ⟨rfl, rfl⟩
      · go_wp2
        go_ret
        exact ⟨rfl, rfl⟩
  · obtain rfl : x = r := by rw [← h, orI, if_neg hx]
    clear h
    go_enter Tryz.func78, Tryz.ntmps78
    go_wp2
    go_loop [8] (fun i => i = .int .i64 (0 : Nat)) (fun i => 2 - (intOf i).toNat)
    case atStart => rfl
    case round =>
      subst hrel
      go_wp2
      go_ret
      exact ⟨rfl, rfl⟩

theorem cf_world (W : World) (o1 o2 o3 : Obj) : (((W.alloc o1).alloc o2).alloc o3).drew = grow (W.drewN 1) #[o1, o2, o3] := by
  have h : ((W.alloc o1).alloc o2).alloc o3 = grow W #[o1, o2, o3] := by
    rw [alloc_eq_grow, alloc_eq_grow, alloc_eq_grow, grow_grow, grow_grow]
    rfl
  rw [h]
  rfl
/-- draws and new blocks alone -/
def Grew (W w' : World) : Prop := ∃ q os', w' = grow (W.drewN q) os'
theorem grew_cf (W : World) (o1 o2 o3 : Obj) : Grew W (((W.alloc o1).alloc o2).alloc o3).drew := ⟨1, _, cf_world W o1 o2 o3⟩

end Go.Proofs.YtpmfabpnjacegaaGreatDoor

/-
  The order of variables: impl.compareVariables. By an AI agent.
-/
namespace Go.Proofs.YtpmfabpnjacegaaGreatDoor
open Go.RowKit Go.Sort
set_option linter.unusedVariables false
set_option linter.unusedSimpArgs false
set_option linter.unnecessarySimpa false

def cvP (x y : Int × Int) : Int := orI (cmpI x.1 y.1) (cmpI x.2 y.2)
def cvR (x y : TS) : Int := cvP x.1 y.1
theorem cvP_neg (x y : Int × Int) : cvP x y < 0 ↔ varLt x y = true := by
  unfold cvP orI cmpI varLt
  rw [decide_eq_true_eq]
  by_cases h1 : x.1 < y.1
  · simp [h1]
  · by_cases h2 : y.1 < x.1
    · simp [h1, h2]; omega
    · have e : x.1 = y.1 := by omega
      by_cases h3 : x.2 < y.2
      · simp [e, h3]
      · by_cases h4 : y.2 < x.2
        · simp [e, h3, h4]
        · simp [e, h3, h4]
theorem cvP_ge (x y : Int × Int) (b : Bool) (h : varLt x y = b) : decide (0 ≤ cvP x y) = !b := by
  have h1 := cvP_neg x y
  rw [h] at h1
  cases b
  · exact decide_eq_true (by have : ¬ cvP x y < 0 := fun e => by have := h1.1 e; cases this
                             omega)
  · exact decide_eq_false (by have := h1.2 rfl; omega)

set_option maxRecDepth 100000 in
set_option maxHeartbeats 400000 in
theorem cv_is (x0 x1 y0 y1 r : Int) (b c : Bool) (W : World) (h : orI (cmpI x0 y0) (cmpI x1 y1) = r) :
    Calls Tryz.prog 50 #[.agg #[.int .i64 x0, .int .i64 x1, .bool b], .agg #[.int .i64 y0, .int .i64 y1, .bool c]] W fun e w' => e = .returned (.int .i64 r) ∧ Grew W w' := by
  obtain ⟨u, hu⟩ : ∃ u, cmpI x0 y0 = u := ⟨_, rfl⟩
  obtain ⟨v, hv⟩ : ∃ v, cmpI x1 y1 = v := ⟨_, rfl⟩
  rw [hu, hv] at h
  have HU := Lib.hid hu
  have HV := Lib.hid hv
  have HR := Lib.hid h
  clear hu hv h
  obtain ⟨W2, hW2⟩ : ∃ W2, W2 = (W.alloc (.cells #[.int .i64 x0, .int .i64 x1, .bool b] 86)).alloc (.cells #[.int .i64 y0, .int .i64 y1, .bool c] 86) := ⟨_, rfl⟩
  have c0 : W2.cell? ⟨W.heap.size, 0, none⟩ = some (.int .i64 x0) := by rw [hW2]; simp [go_sem]
  have c1 : W2.cell? ⟨W.heap.size, 1, none⟩ = some (.int .i64 x1) := by rw [hW2]; simp [go_sem]
  have c2 : W2.cell? ⟨W.heap.size + 1, 0, none⟩ = some (.int .i64 y0) := by rw [hW2]; simp [go_sem]
  have c3 : W2.cell? ⟨W.heap.size + 1, 1, none⟩ = some (.int .i64 y1) := by rw [hW2]; simp [go_sem]
  have HW2 := Lib.hid hW2
  go_enter Tryz.func50, Tryz.ntmps50
  go_wp2
  rw [← hW2]
  clear hW2
  refine wp_region_still_tail 10 (by kernel_rfl) (by kernel_rfl) ?_
  simp only [List.take_succ_cons, List.take_zero, List.drop_succ_cons, List.drop_zero]
  still_step
  still_step
  still_step
  still_step
  still_call (cmpI_is _ _ _ _ HU.out)
  still_step
  still_step
  still_step
  still_step
  still_call (cmpI_is _ _ _ _ HV.out)
  refine wpStill_nil ?_
  change wpList _ _ _ _ _ W2.drew
  have hs : W2.heap.size = W.heap.size + 1 + 1 := by rw [HW2.out]; simp
  have HSZ := Lib.hid hs
  generalize hd : W2.drew = W3
  have HW3 := Lib.hid hd
  have h3 : W3.heap.size = W2.heap.size := by rw [← hd]; rfl
  have HO := Lib.hid (or_is W3.heap.size u v r (W3.alloc (.cells #[.int .i64 u, .int .i64 v] 3)) (by simp [go_sem]) (by simp [go_sem]) HR.out)
  clear hs hd h3 c0 c1 c2 c3
  go_wp2_with (go_at_call 78; (refine HO.out.mono ?_); rintro e w1 ⟨rfl, rfl⟩)
  go_ret
  refine ⟨rfl, ?_⟩
  rw [← HW3.out, HW2.out]
  exact grew_cf W _ _ _

end Go.Proofs.YtpmfabpnjacegaaGreatDoor

/-
  A row of variables (tests without Below) of the call's own: three cells written, cells past its end cleared. By an AI agent.
-/
namespace Go.Proofs.YtpmfabpnjacegaaGreatDoor
open Go.RowKit
set_option linter.unusedVariables false
set_option linter.unusedSimpArgs false
set_option linter.unnecessarySimpa false

def flatV (l : List IQ) : List Value := flatTs (l.map tsV)
theorem flatV_nil : flatV [] = [] := rfl
theorem flatV_cons (z : IQ) (D : List IQ) : flatV (z :: D) = .int .i64 z.1 :: .int .i64 z.2 :: .bool false :: flatV D := by simp [flatV, flatTs_cons, tsV]
theorem flatV_len (l : List IQ) : (flatV l).length = l.length * 3 := by unfold flatV; rw [flatTs_len, List.length_map]
theorem flatV_snoc (l : List IQ) (x : IQ) : flatV (l ++ [x]) = flatV l ++ [.int .i64 x.1, .int .i64 x.2, .bool false] := by simp [flatV, flatTs_append, flatTs, encTs, tsV]
theorem flatV_append (l m : List IQ) : flatV (l ++ m) = flatV l ++ flatV m := by simp [flatV, flatTs_append]
theorem flatV_at {l : List IQ} {j : Nat} {x : IQ} (h : l[j]? = some x) : (flatV l)[j * 3]? = some (.int .i64 x.1) ∧ (flatV l)[j * 3 + 1]? = some (.int .i64 x.2) ∧ (flatV l)[j * 3 + 2]? = some (.bool false) := by
  have h1 : (l.map tsV)[j]? = some (tsV x) := by rw [List.getElem?_map, h]; rfl
  exact flatTs_at h1
theorem same_ts (x y z u : Int) (r : Bool) (hr : (x == z && y == u) = r) (w : World) : (Op.equalIn 10000 86 (.agg #[.int .i64 x, .int .i64 y, .bool false]) (.agg #[.int .i64 z, .int .i64 u, .bool false])).run Tryz.prog w = .ok r w := by
  rw [run_equalIn_agg w 9999 _ _ _ (by kernel_rfl) (by kernel_rfl)]
  subst hr
  by_cases h1 : x = z
  · by_cases h2 : y = u
    · simp [go_sem, Program.fieldsOf, Tryz.underlying86, Tryz.underlying3, Tryz.underlying4, h1, h2]
    · simp [go_sem, Program.fieldsOf, Tryz.underlying86, Tryz.underlying3, Tryz.underlying4, h1, h2]
  · simp [go_sem, Program.fieldsOf, Tryz.underlying86, Tryz.underlying3, Tryz.underlying4, h1]
theorem eql_ts (x y z u : Int) (r : Bool) (hr : (x == z && y == u) = r) (w : World) : (binOp .eql 86 (.agg #[.int .i64 x, .int .i64 y, .bool false]) (.agg #[.int .i64 z, .int .i64 u, .bool false])).run Tryz.prog w = .ok (.bool r) w := by
  rw [run_eql_struct, same_ts x y z u r hr]
  rfl
theorem neql_ts (x y z u : Int) (r : Bool) (hr : (x == z && y == u) = r) (w : World) : (binOp .neq 86 (.agg #[.int .i64 x, .int .i64 y, .bool false]) (.agg #[.int .i64 z, .int .i64 u, .bool false])).run Tryz.prog w = .ok (.bool (!r)) w := by
  rw [run_neq_struct, same_ts x y z u r hr]
  rfl
theorem geql_ts (x y : Operand) (xs ys : Array Value) (w : World) : (eqGuard .eql 86 x y (.agg xs) (.agg ys)).run Tryz.prog w = .ok () w :=
  run_eqGuard_agg w _ _ _ _ _ _ (by kernel_rfl)
theorem gneq_ts (x y : Operand) (xs ys : Array Value) (w : World) : (eqGuard .neq 86 x y (.agg xs) (.agg ys)).run Tryz.prog w = .ok () w :=
  run_eqGuard_agg w _ _ _ _ _ _ (by kernel_rfl)
theorem same_boolV {p q : IQ} {r : Bool} (hr : (p.1 == q.1 && p.2 == q.2) = r) : r = decide (p = q) := by
  subst hr
  by_cases h : p = q
  · subst h; simp
  · have h2 : ¬ (p.1 = q.1 ∧ p.2 = q.2) := fun e => h (Prod.ext e.1 e.2)
    rw [decide_eq_false h]
    cases h3 : (p.1 == q.1 && p.2 == q.2) with
    | false => rfl
    | true => simp at h3; exact absurd h3 h2
theorem flatV_set : ∀ (C : List IQ) (i : Nat) (x y : Int), flatV (C.set i (x, y)) = (((flatV C).set (i * 3) (.int .i64 x)).set (i * 3 + 1) (.int .i64 y)).set (i * 3 + 2) (.bool false)
  | [], _, _, _ => by simp [flatV_nil]
  | z :: C, 0, x, y => by rw [List.set_cons_zero, flatV_cons, flatV_cons]; simp
  | z :: C, i + 1, x, y => by
    have ih := flatV_set C i x y
    rw [List.set_cons_succ, flatV_cons, flatV_cons, ih, show (i + 1) * 3 = i * 3 + 1 + 1 + 1 by omega]
    rfl
theorem flatV_take : ∀ (C : List IQ) (k : Nat), flatV (C.take k) = (flatV C).take (k * 3)
  | [], k => by simp [flatV_nil]
  | z :: C, 0 => by simp [flatV_nil]
  | z :: C, k + 1 => by
    have ih := flatV_take C k
    rw [List.take_succ_cons, flatV_cons, flatV_cons, ih, show (k + 1) * 3 = k * 3 + 1 + 1 + 1 by omega]
    rfl
theorem grownV {a b d : World} {r : Option Nat} (h1 : a.grownBy b r) (h2 : b.grownBy d r) : a.grownBy d r :=
  ⟨h2.os.trans h1.os, h2.tape.trans h1.tape, h2.output.trans h1.output, Nat.le_trans h1.size h2.size, fun k hk hne => (h2.block k (Nat.lt_of_lt_of_le hk h1.size) hne).trans (h1.block k hk hne)⟩
theorem grown_belowV {w w' : World} (h : Below w.heap.size w w') (r : Option Nat) : w.grownBy w' r := ⟨h.os, h.tape, h.output, h.size, fun k hk _ => h.block k hk⟩
theorem row_threeV {w : World} {base g n cap : Nat} {C : List IQ} (h : w.ownsRow base 86 3 (.slice (some ⟨g, 0, none⟩) n cap) n (flatV C)) (i : Nat) (x y : Int) :
    (((w.setCell ⟨g, i * 3, none⟩ (.int .i64 x)).setCell ⟨g, i * 3 + 1, none⟩ (.int .i64 y)).setCell ⟨g, i * 3 + 2, none⟩ (.bool false)).ownsRow base 86 3 (.slice (some ⟨g, 0, none⟩) n cap) n (flatV (C.set i (x, y))) ∧ w.grownBy (((w.setCell ⟨g, i * 3, none⟩ (.int .i64 x)).setCell ⟨g, i * 3 + 1, none⟩ (.int .i64 y)).setCell ⟨g, i * 3 + 2, none⟩ (.bool false)) (some g) := by
  have h1 := h.stored (i * 3) (.int .i64 x)
  have h2 := h1.1.stored (i * 3 + 1) (.int .i64 y)
  have h3 := h2.1.stored (i * 3 + 2) (.bool false)
  exact ⟨by rw [flatV_set]; exact h3.1, grownV (grownV h1.2 h2.2) h3.2⟩
theorem row_stillV {w w' : World} {base n size : Nat} {e : TypeId} {v : Value} {xs : List Value} (h : w.ownsRow base e size v n xs) (hb : Below w.heap.size w w') : w'.ownsRow base e size v n xs :=
  World.ownsRow.kept h (row := none) ⟨hb.os, hb.tape, hb.output, hb.size, fun i hi _ => hb.block i hi⟩ (by cases hv : v.ownBlock <;> simp)
/-- the row cut at k -/
theorem row_cutV {w : World} {base g n cap k : Nat} {C : List IQ} (h : w.ownsRow base 86 3 (.slice (some ⟨g, 0, none⟩) n cap) n (flatV C)) (hk : k ≤ n) :
    w.ownsRow base 86 3 (.slice (some ⟨g, 0, none⟩) k cap) k (flatV (C.take k)) := by
  have hl := h.1
  refine ⟨by rw [flatV_take, List.length_take]; omega, .inr ?_⟩
  rcases h.2 with ⟨hv, _⟩ | ⟨g', cap', cur, hv, hb, hg, h1, h2, h3, h4⟩
  · cases hv
  · simp only [Value.slice.injEq, Option.some.injEq, Addr.mk.injEq] at hv
    obtain ⟨⟨rfl, _⟩, _, rfl⟩ := hv
    refine ⟨g, cap, cur, rfl, hb, hg, by omega, h2, h3, ?_⟩
    rw [flatV_take, ← h4, List.take_take, Nat.min_eq_left (by omega)]
/-- a cell past the row's end -/
theorem row_pastV {w : World} {base g n cap k : Nat} {e : TypeId} {xs : List Value} (h : w.ownsRow base e k (.slice (some ⟨g, 0, none⟩) n cap) n xs) (o : Nat) (v : Value) (ho : n * k ≤ o) :
    (w.setCell ⟨g, o, none⟩ v).ownsRow base e k (.slice (some ⟨g, 0, none⟩) n cap) n xs ∧ w.grownBy (w.setCell ⟨g, o, none⟩ v) (some g) := by
  have h1 := h.stored o v
  rw [List.set_eq_of_length_le (by rw [h.1]; exact ho)] at h1
  exact h1
theorem row_clearV {base g n cap k : Nat} {e : TypeId} {xs : List Value} : ∀ (vs : List Value) (o : Nat) (w : World), w.ownsRow base e k (.slice (some ⟨g, 0, none⟩) n cap) n xs → n * k ≤ o →
    (w.setCells g o vs).ownsRow base e k (.slice (some ⟨g, 0, none⟩) n cap) n xs ∧ w.grownBy (w.setCells g o vs) (some g)
  | [], _, w, h, _ => ⟨h, World.grownBy.refl _ _⟩
  | v :: vs, o, w, h, ho => by
    have h1 := row_pastV h o v ho
    have h2 := row_clearV vs (o + 1) _ h1.1 (by omega)
    exact ⟨h2.1, grownV h1.2 h2.2⟩
/-- 'clear' of what lies behind the row's first k pairs -/
theorem run_clearV (w : World) (base g n cap k c : Nat) (C : List IQ) (h : w.ownsRow base 86 3 (.slice (some ⟨g, 0, none⟩) n cap) n (flatV C)) (hk : k < n) :
    ∃ w', (∀ ty, (Builtin.clear_ #[44] ty #[.slice (some ⟨g, k * 3, none⟩) (n - k) c]).run Tryz.prog w = .ok (.tuple #[]) w') ∧ w'.ownsRow base 86 3 (.slice (some ⟨g, 0, none⟩) k cap) k (flatV (C.take k)) ∧ w.grownBy w' (some g) := by
  have hv : ∀ w, (zeroValue 86).run Tryz.prog w = .ok (.agg #[.int .i64 0, .int .i64 0, .bool false]) w := fun w => by kernel_rfl
  have hl := h.1
  obtain ⟨m, hm⟩ : ∃ m, n - k = m + 1 := ⟨n - k - 1, by omega⟩
  obtain ⟨Z, hZ⟩ : ∃ Z, (Builtin.zeroCells (Value.agg #[.int .i64 0, .int .i64 0, .bool false]).cells (m + 1)).toList = Z := ⟨_, rfl⟩
  have hZl : Z.length = (m + 1) * 3 := by rw [← hZ]; simp [Builtin.zeroCells, Value.cells]
  have hZ1 : ∀ v ∈ Z, v.oneCell' = true := by
    intro v hv'
    rw [← hZ] at hv'
    simp [Builtin.zeroCells, Value.cells] at hv'
    obtain ⟨i, hi, rfl⟩ := hv'
    have h3 : i % 3 = 0 ∨ i % 3 = 1 ∨ i % 3 = 2 := by omega
    rcases h3 with h0 | h0 | h0
    · simp [h0, Value.oneCell']
    · simp [h0, Value.oneCell']
    · simp [h0, Value.oneCell']
  have hst := run_storeCells_cells (P := Tryz.prog) g (k * 3) Z 0 w (by
      intro j hj
      rw [hZl] at hj
      have hc := h.cellAt (k * 3 + 0 + j) (by omega)
      rw [hc, List.getElem?_eq_getElem (by omega)]
      rfl) (fun j hj => h.frozenAt _) hZ1
  simp only [Nat.add_zero] at hst
  have hr := row_clearV Z (k * 3) w (row_cutV h (by omega)) (Nat.le_refl _)
  refine ⟨_, fun ty => ?_, hr.1, hr.2⟩
  rw [hm]
  simp [Builtin.clear_, run_underlying Tryz.underlying44, hv, hZ, hst]

/-! ### equal neighbours once -/
theorem cmpP_snocV : ∀ (l : List IQ) (y x : IQ), cmpP (l ++ [y, x]) = if x = y then cmpP (l ++ [y]) else cmpP (l ++ [y]) ++ [x]
  | [], y, x => by
    show (if x = y then cmpP [x] else y :: cmpP [x]) = _
    split
    · rename_i e; subst e; rfl
    · rfl
  | [z], y, x => by
    have ih := cmpP_snocV [] y x
    rw [List.nil_append, List.nil_append] at ih
    show (if y = z then cmpP [y, x] else z :: cmpP [y, x]) = if x = y then (if y = z then cmpP [y] else z :: cmpP [y]) else (if y = z then cmpP [y] else z :: cmpP [y]) ++ [x]
    rw [ih]
    split <;> split <;> rfl
  | z :: u :: l, y, x => by
    have ih := cmpP_snocV (u :: l) y x
    show (if u = z then cmpP (u :: l ++ [y, x]) else z :: cmpP (u :: l ++ [y, x])) = if x = y then (if u = z then cmpP (u :: l ++ [y]) else z :: cmpP (u :: l ++ [y])) else (if u = z then cmpP (u :: l ++ [y]) else z :: cmpP (u :: l ++ [y])) ++ [x]
    rw [ih]
    split <;> split <;> rfl
theorem take_twoV {q : List IQ} {k : Nat} {y x : IQ} (hy : q[k]? = some y) (hx : q[k + 1]? = some x) : q.take (k + 2) = q.take k ++ [y, x] := by
  obtain ⟨h1, e1⟩ := List.getElem?_eq_some_iff.1 hy
  obtain ⟨h2, e2⟩ := List.getElem?_eq_some_iff.1 hx
  rw [List.take_succ_eq_append_getElem h2, List.take_succ_eq_append_getElem h1, e1, e2, List.append_assoc]
  rfl
theorem take_onepV {q : List IQ} {k : Nat} {y : IQ} (hy : q[k]? = some y) : q.take (k + 1) = q.take k ++ [y] := by
  obtain ⟨h1, e1⟩ := List.getElem?_eq_some_iff.1 hy
  rw [List.take_succ_eq_append_getElem h1, e1]
theorem cmpP_stepV {q : List IQ} {k : Nat} {y x : IQ} (hy : q[k]? = some y) (hx : q[k + 1]? = some x) : cmpP (q.take (k + 2)) = if x = y then cmpP (q.take (k + 1)) else cmpP (q.take (k + 1)) ++ [x] := by
  rw [take_twoV hy hx, take_onepV hy, cmpP_snocV]
theorem cmpP_smallV {q : List IQ} (h : q.length < 2) : cmpP q = q := by
  match q, h with
  | [], _ => rfl
  | [x], _ => rfl

end Go.Proofs.YtpmfabpnjacegaaGreatDoor

