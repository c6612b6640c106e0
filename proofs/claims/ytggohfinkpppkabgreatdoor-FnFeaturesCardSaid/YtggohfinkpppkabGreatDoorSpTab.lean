/-
  What spec.l4Table leaves: the table of the least costs of the prefixes. By an AI agent.
-/
import Derived.Test.YtggohfinkpppkabGreatDoorEdTab
import Derived.OwnWalk
import Derived.Laws.OwnMore
namespace Go.Proofs.YtggohfinkpppkabGreatDoor
open Go.RowKit
set_option linter.unusedVariables false

/-- the cost of the prefixes of lengths i and j -/
def Dt (sw : Bool) (A B : List UInt8) (i j : Nat) : Nat := lev sw (A.take i).reverse (B.take j).reverse

theorem Dt_row0 (sw : Bool) (A B : List UInt8) {j : Nat} (h : j ≤ B.length) : Dt sw A B 0 j = j := by
  unfold Dt
  rw [List.take_zero, List.reverse_nil, lev_nil, List.length_reverse, List.length_take]
  omega
theorem Dt_col0 (sw : Bool) (A B : List UInt8) {i : Nat} (h : i ≤ A.length) : Dt sw A B i 0 = i := by
  unfold Dt
  rw [List.take_zero, List.reverse_nil, lev_nil', List.length_reverse, List.length_take]
  omega
theorem Dt_all (sw : Bool) (A B : List UInt8) : Dt sw A B A.length B.length = lev sw A B := by
  unfold Dt
  rw [List.take_length, List.take_length, lev_rev]
theorem take_rev (s : ByteArray) (p : Nat) (h : p < s.size) : (s.data.toList.take (p + 1)).reverse = s[p] :: (s.data.toList.take p).reverse := by
  have hl : p < s.data.toList.length := by rw [ba_len]; exact h
  rw [List.take_succ_eq_append_getElem hl, List.reverse_append]
  rfl
theorem Dt_bound (sw : Bool) (a b : ByteArray) (i j : Nat) (ha : a.size ≤ 40) (hb : b.size ≤ 40) : Dt sw a.data.toList b.data.toList i j ≤ 1000 := by
  refine Nat.le_trans (lev_most _ _ _) ?_
  rw [List.length_reverse, List.length_reverse, List.length_take, List.length_take, ba_len, ba_len]
  omega

/-- two bytes exchanged at the ends of the prefixes -/
def XchD (a b : ByteArray) (p q : Nat) : Prop := ∃ (p2 q2 : Nat) (h1 : p2 + 1 < a.size) (h2 : q2 + 1 < b.size), p = p2 + 1 ∧ q = q2 + 1 ∧ a[p2 + 1] = b[q2] ∧ a[p2] = b[q2 + 1]

theorem xchD_iff (a b : ByteArray) (p q : Nat) (h1 : p < a.size) (h2 : q < b.size) :
    XchL (a[p] :: (a.data.toList.take p).reverse) (b[q] :: (b.data.toList.take q).reverse) ↔ XchD a b p q := by
  rw [xchL_iff]
  constructor
  · rintro ⟨e1, e2⟩
    cases p with
    | zero => simp at e1
    | succ p2 =>
      cases q with
      | zero => simp at e2
      | succ q2 =>
        rw [take_rev a p2 (by omega)] at e1
        rw [take_rev b q2 (by omega)] at e2
        simp only [List.head?_cons, Option.some.injEq] at e1 e2
        exact ⟨p2, q2, h1, h2, rfl, rfl, e2.symm, e1⟩
  · rintro ⟨p2, q2, g1, g2, rfl, rfl, e1, e2⟩
    rw [take_rev a p2 (by omega), take_rev b q2 (by omega)]
    simp only [List.head?_cons]
    exact ⟨by rw [e2], by rw [e1]⟩

theorem Dt_no {sw : Bool} {a b : ByteArray} {i j p q : Nat} (hi : i = p + 1) (hj : j = q + 1) (h1 : p < a.size) (h2 : q < b.size) (h : ¬ (sw = true ∧ XchD a b p q)) :
    Dt sw a.data.toList b.data.toList i j = mvL a[p] b[q] (Dt sw a.data.toList b.data.toList p q) (Dt sw a.data.toList b.data.toList p j) (Dt sw a.data.toList b.data.toList i q) := by
  subst hi hj
  unfold Dt
  rw [take_rev a p h1, take_rev b q h2]
  exact lev_no (fun e => h ⟨e.1, (xchD_iff a b p q h1 h2).1 e.2⟩)
theorem Dt_yes {sw : Bool} {a b : ByteArray} {i j p q p2 q2 : Nat} (hi : i = p + 1) (hj : j = q + 1) (hp : p = p2 + 1) (hq : q = q2 + 1) (h1 : p < a.size) (h2 : q < b.size) (hs : sw = true) (h : XchD a b p q) :
    Dt sw a.data.toList b.data.toList i j = min (mvL a[p] b[q] (Dt sw a.data.toList b.data.toList p q) (Dt sw a.data.toList b.data.toList p j) (Dt sw a.data.toList b.data.toList i q)) (1 + Dt sw a.data.toList b.data.toList p2 q2) := by
  have hx := (xchD_iff a b p q h1 h2).2 h
  subst hi hj
  unfold Dt
  rw [take_rev a p h1, take_rev b q h2, lev_yes hs hx]
  congr 2
  subst hp hq
  rw [take_rev a p2 (by omega), take_rev b q2 (by omega)]
  rfl
theorem mvL_ne {x y : UInt8} {x1 x2 x3 : Nat} (h : x ≠ y) : mvL x y x1 x2 x3 = 1 + min (min x2 x3) x1 := by
  unfold mvL
  rw [if_neg h]
  omega
theorem mvL_eq {x y : UInt8} {x1 x2 x3 : Nat} (h : x = y) : mvL x y x1 x2 x3 = x1 := by
  unfold mvL
  rw [if_pos h]

theorem min2c_val (x y : Nat) : (if (y : Int) + 1 < (x : Int) then (y : Int) + 1 else (x : Int)) = ((min x (1 + y) : Nat) : Int) := by
  by_cases c : y + 1 < x
  · rw [if_pos (by omega)]; omega
  · rw [if_neg (by omega)]; omega

/-- the row of i is filled up to k -/
def RowD (sw : Bool) (A B : List UInt8) (i : Nat) (cs : Array Value) (k : Nat) : Prop := cs.size = B.length + 1 ∧ ∀ q, q < k → cs[q]? = some (intC (Dt sw A B i q))
def rowV (W g : Nat) : Value := .slice (some ⟨g, 0, none⟩) W W
/-- the rows ahead of the i-th -/
def RowsD (sw : Bool) (A B : List UInt8) (w : World) (base : Nat) (v : Value) (gs : List Nat) : Prop :=
  w.ownsRow base 29 1 v gs.length (gs.map (rowV (B.length + 1))) ∧ ∀ k g, gs[k]? = some g → base ≤ g ∧ ∃ cs, BlkV w g 3 cs ∧ RowD sw A B k cs (B.length + 1)

theorem RowD.set {sw : Bool} {A B : List UInt8} {i k : Nat} {cs : Array Value} (h : RowD sw A B i cs k) (hk : k ≤ B.length) {u : Value} (hu : u = intC (Dt sw A B i k)) : RowD sw A B i (cs.setIfInBounds k u) (k + 1) := by
  refine ⟨by simp [h.1], fun q hq => ?_⟩
  by_cases e : k = q
  · subst e
    rw [set_at (by rw [h.1]; omega), hu]
  · rw [set_ne e]
    exact h.2 q (by omega)
theorem RowD.put {sw : Bool} {A B : List UInt8} {i k : Nat} {cs : Array Value} (h : RowD sw A B i cs k) (u : Value) : RowD sw A B i (cs.setIfInBounds k u) k := by
  refine ⟨by simp [h.1], fun q hq => ?_⟩
  rw [set_ne (by omega)]
  exact h.2 q hq
theorem RowD.more {sw : Bool} {A B : List UInt8} {i k : Nat} {cs : Array Value} (h : RowD sw A B i cs k) (hk : cs[k]? = some (intC (Dt sw A B i k))) : RowD sw A B i cs (k + 1) := by
  refine ⟨h.1, fun q hq => ?_⟩
  by_cases e : k = q
  · subst e; exact hk
  · exact h.2 q (by omega)

theorem OwnR.new (w : World) : (w.alloc (.cells #[] 29)).ownsRow w.heap.size 29 1 (.slice (some ⟨w.heap.size, 0, none⟩) 0 0) 0 [] :=
  World.ownsRow_made w #[] 0 (Nat.le_refl _) (Nat.zero_le _) rfl

theorem RowsD.own_ne {sw : Bool} {A B : List UInt8} {w : World} {base : Nat} {v : Value} {gs : List Nat} (h : RowsD sw A B w base v gs) {g : Nat} {cs : Array Value} (hb : BlkV w g 3 cs) : some g ≠ v.ownBlock := by
  rcases h.1.2 with ⟨rfl, _⟩ | ⟨g', cap, cur, rfl, _, hg, _⟩
  · simp [Value.ownBlock]
  · intro e
    simp [Value.ownBlock] at e
    subst e
    unfold BlkV at hb
    rw [hg] at hb
    simp at hb
theorem RowsD.keep {sw : Bool} {A B : List UInt8} {w w' : World} {base : Nat} {v : Value} {gs : List Nat} (h : RowsD sw A B w base v gs) {row : Option Nat} (hg : w.grownBy w' row) (h1 : v.ownBlock = none ∨ v.ownBlock ≠ row) (h2 : ∀ k g : Nat, gs[k]? = some g → some g ≠ row) :
    RowsD sw A B w' base v gs :=
  ⟨h.1.kept hg h1, fun k g hk => ⟨(h.2 k g hk).1, by obtain ⟨cs, hb, hr⟩ := (h.2 k g hk).2; exact ⟨cs, hb.grown hg (h2 k g hk), hr⟩⟩⟩
theorem RowsD.fresh {sw : Bool} {A B : List UInt8} {w w' : World} {base : Nat} {v : Value} {gs : List Nat} (h : RowsD sw A B w base v gs) {g0 : Nat} (hg : w.grownBy w' (some g0)) (hf : w.heap.size ≤ g0) : RowsD sw A B w' base v gs := by
  refine h.keep hg ?_ (fun k g hk => ?_)
  · rcases h.1.2 with ⟨rfl, _⟩ | ⟨g', cap, cur, rfl, _, hgg, _⟩
    · exact .inl rfl
    · refine .inr (fun e => ?_)
      simp [Value.ownBlock] at e
      have := (Array.getElem?_eq_some_iff.1 hgg).1
      omega
  · obtain ⟨cs, hb, _⟩ := (h.2 k g hk).2
    have := hb.lt
    intro e
    simp at e
    omega
theorem RowsD.shape {sw : Bool} {A B : List UInt8} {w : World} {base : Nat} {v : Value} {gs : List Nat} (h : RowsD sw A B w base v gs) {i : Nat} (hi : gs.length = i) (h0 : 0 < i) :
    ∃ gd cap, v = .slice (some ⟨gd, 0, none⟩) i cap ∧ i ≤ cap ∧ cap ≤ maxLen ∧ gd < w.heap.size ∧ ∀ k g, gs[k]? = some g → w.cell? ⟨gd, k, none⟩ = some (rowV (B.length + 1) g) := by
  subst hi
  rcases h.1.2 with ⟨rfl, h1⟩ | ⟨g', cap, cur, rfl, hb, hgg, h2, h3, _⟩
  · omega
  · refine ⟨g', cap, rfl, h2, h3, (Array.getElem?_eq_some_iff.1 hgg).1, fun k g hk => ?_⟩
    have := h.1.cells (g := g') rfl k (rowV (B.length + 1) g) (by simp [hk])
    rw [addr_add, Nat.zero_add] at this
    exact this

/-- append(d, row), the row in a new block of one cell -/
theorem append_row {ops : Array Oper} {rest : List Oper} {o : Oper} {a : Act} {Q : Exit → Act → World → Prop} {w0 : World} (hgd : o.guard = none) (s y : Operand)
    (ho : o.op = .call { callee := .builtin .append, args := #[s, y], argTypes := #[96, 96] })
    (base : Nat) (v : Value) (l : List Value) (x : Value) (hown : w0.ownsRow base 29 1 v l.length l) (hs : a.eval s = v)
    (hy : a.eval y = .slice (some ⟨w0.heap.size, 0, none⟩) 1 1) (hx : x.oneCell' = true) (hlen : l.length ≤ 100000) (hbase : base ≤ w0.heap.size)
    (h : ∀ v' w', w'.ownsRow base 29 1 v' (l ++ [x]).length (l ++ [x]) → Below base w0 w' → w0.grownBy w' v.ownBlock → wpList Tryz.prog ops Q rest (a.put o.dst v') w') :
    wpList Tryz.prog ops Q (o :: rest) a (w0.alloc (.cells #[x] 29)) := by
  obtain ⟨i0, hi, hz0, hz1, hz2⟩ := info_parts info_ints
  refine wpList_append_own _ hgd s y 96 ho base 29 i0 (.slice none 0 0) 1 24 Tryz.underlying96 hi hz0 hz1 hz2 rfl (by decide) v l.length l hs (World.ownsRow.alloc hown _)
    ⟨w0.heap.size, 0, none⟩ 1 1 [x] hy rfl ?_ ?_ (by unfold maxLen; omega) (by omega) (by simp; omega) ?_
  · intro j u hj
    match j, hj with
    | 0, hj => simp at hj; subst hj; simp [Addr.add, World.cell?_alloc_at _ _ _ _ rfl]
  · intro u hu
    simp at hu
    subst hu
    exact hx
  · intro v' w' h2 h3 _
    refine h v' w' ?_ ?_ ?_
    · rw [List.length_append]
      exact h2
    · exact ((Below.refl base w0).alloc hbase _).grown h3 (by simp; omega) (fun k hk => (World.ownsRow.lt hown k hk).1)
    · exact (World.grownBy_alloc w0 _ _).trans h3

def SomeD (sw : Bool) (a b : ByteArray) (w : World) (e : Ending) (w' : World) : Prop :=
  ∃ v gs, e = .returned v ∧ gs.length = a.size + 1 ∧ RowsD sw a.data.toList b.data.toList w' w.heap.size v gs ∧ Below w.heap.size w w'

set_option maxRecDepth 100000 in
set_option maxHeartbeats 4000000 in
theorem table_any (sw : Bool) (a b : ByteArray) (w : World) (ha : a.size ≤ 40) (hb : b.size ≤ 40) :
    Calls Tryz.prog 105 #[.string a, .string b, .bool sw] w (SomeD sw a b w) := by
  have HAL := Lib.hid (ba_len a)
  have HBL := Lib.hid (ba_len b)
  obtain ⟨W, hW⟩ : ∃ W, W = b.size + 1 := ⟨_, rfl⟩
  have hWI : (b.size : Int) + 1 = (W : Int) := by omega
  have hW1 : b.size < W := by omega
  have hW3 : W ≤ b.size + 1 := by omega
  have hW2 : W ≤ 41 := by omega
  have HW := Lib.hid hW
  have HWB := Lib.hid (show b.data.toList.length + 1 = W by rw [HBL.out, hW])
  have HSZ := Lib.hid (show (madeCells #[Value.int .i64 0] W).size = W from size_madeCells _ _)
  clear hW
  go_enter Tryz.func105, Tryz.ntmps105
  go_wp2
  go_loopw [7, 8] (fun v c wr => ∃ (i : Nat) (gs : List Nat), i ≤ a.size + 1 ∧ c = .int .i64 i ∧ gs.length = i ∧ RowsD sw a.data.toList b.data.toList wr w.heap.size v gs ∧ Below w.heap.size w wr) (fun _ c _ => a.size + 1 - (intOf c).toNat)
  case atStart => exact ⟨0, [], by omega, rfl, rfl, ⟨OwnR.new w, fun k g hk => by simp at hk⟩, (Below.refl _ _).alloc (Nat.le_refl _) _⟩
  case round =>
    obtain ⟨i, gs, hi, hci, hgl, hrd, hbl⟩ := hrel
    have HGL := Lib.hid hgl
    have HRD := Lib.hid hrd
    have HB := Lib.hid hbl
    clear hgl hrd hbl
    obtain ⟨g, hgg⟩ : ∃ g, wr.heap.size = g := ⟨_, rfl⟩
    have hmk := make_ints wr W (by omega)
    have HBM := Lib.hid (BlkV.new wr 3 (madeCells #[.int .i64 0] W))
    have HBMB := Lib.hid (HB.out.alloc HB.out.size (.cells (madeCells #[.int .i64 0] W) 3))
    have HRM := Lib.hid (HRD.out.fresh (World.grownBy_alloc wr (.cells (madeCells #[.int .i64 0] W) 3) (some g)) (by omega))
    have HBG := Lib.hid (show w.heap.size ≤ g by rw [← hgg]; exact HB.out.size)
    have HFRESH := Lib.hid (show ∀ (k g' : Nat), gs[k]? = some g' → g' ≠ g by
      intro k g' hk
      obtain ⟨cs, h1, _⟩ := (HRD.out.2 k g' hk).2
      have := h1.lt
      omega)
    rw [hgg] at hmk HBM
    have HGG := Lib.hid hgg
    clear hgg
    have HWM := Lib.hid (World.grownBy_alloc wr (.cells (madeCells #[.int .i64 0] W) 3) (some g))
    generalize hwm : wr.alloc (.cells (madeCells #[.int .i64 0] W) 3) = wm at hmk HBM HBMB HRM HWM
    clear hwm
    by_cases hlt : i ≤ a.size
    · by_cases hi0 : i = 0
      · subst hi0
        rw [show ((0 : Nat) : Int) = 0 from rfl] at hci
        obtain rfl := hci
        go_wp2
        go_loopw [10] (fun c w2 => ∃ (j : Nat) (cs : Array Value), j ≤ W ∧ c = .int .i64 j ∧ BlkV w2 g 3 cs ∧ RowD sw a.data.toList b.data.toList 0 cs j ∧ wm.grownBy w2 (some g)) (fun c _ => W - (intOf c).toNat)
        case atStart => exact ⟨0, _, by omega, rfl, HBM.out, ⟨by rw [HSZ.out, HWB.out], fun q hq => by omega⟩, World.grownBy.refl _ _⟩
        case round =>
          obtain ⟨j, cs, hj, hcj, hbw, hro0, hg0⟩ := hrel
          have HBW := Lib.hid hbw
          have HRO0 := Lib.hid hro0
          have HG0 := Lib.hid hg0
          clear hbw hro0 hg0
          by_cases hjl : j ≤ b.size
          · obtain rfl := hcj
            have hjW : j < W := by omega
            have hjI : (j : Int) < (W : Int) := by omega
            obtain ⟨vl, hvl⟩ : ∃ v, wr.cell? ⟨g, j, none⟩ = some v := ⟨_, by rw [HBW.out.cell, Array.getElem?_eq_getElem (by have := HRO0.out.1; have := HWB.out; omega)]⟩
            have hfr : wr.frozen? ⟨g, j, none⟩ = false := HBW.out.frozen _
            go_wp2
            have HCJ0 := Lib.hid (show (cs.setIfInBounds j (.int .i64 (j : Int)))[j]? = some (intC (Dt sw a.data.toList b.data.toList 0 j)) by
              rw [set_at (by have := HRO0.out.1; have := HWB.out; omega), Dt_row0 _ _ _ (by rw [HBL.out]; exact hjl)]
              rfl)
            obtain ⟨cs3, HB3, HRO, HCJ⟩ : ∃ cs3, Hid (BlkV (wr.setCell ⟨g, j, none⟩ (.int .i64 (j : Int))) g 3 cs3) ∧ Hid (RowD sw a.data.toList b.data.toList 0 cs3 j) ∧ Hid (cs3[j]? = some (intC (Dt sw a.data.toList b.data.toList 0 j))) := ⟨_, Lib.hid (HBW.out.set_ j _), Lib.hid (HRO0.out.put _), HCJ0⟩
            have HG3 := Lib.hid (HG0.out.trans (egrown_set wr g j (.int .i64 (j : Int))))
            generalize wr.setCell ⟨g, j, none⟩ (.int .i64 (j : Int)) = w3 at HB3 HG3 ⊢
            clear hvl hfr HCJ0
            cases sw
            · go_wp2
              go_quiet (fail)
              go_wp2
              go_roundw
              case rel => exact ⟨j + 1, cs3, by omega, by go_num, HB3.out.n _, HRO.out.more HCJ.out, egrown_n HG3.out _⟩
              case measure => simp [intOf] <;> omega
            · go_wp2
              go_quiet (fail)
              go_wp2
              go_roundw
              case rel => exact ⟨j + 1, cs3, by omega, by go_num, HB3.out.n _, HRO.out.more HCJ.out, egrown_n HG3.out _⟩
              case measure => simp [intOf] <;> omega
          ·       obtain rfl := hcj
                  have hjW : j = W := by omega
                  have HRW := Lib.hid (show RowD sw a.data.toList b.data.toList 0 cs (b.data.toList.length + 1) by rw [HWB.out, ← hjW]; exact HRO0.out)
                  have HRD2 := Lib.hid (HRD.out.fresh (HWM.out.trans HG0.out) (by have := HGG.out; omega))
                  have HBB := Lib.hid (below_grown HBMB.out HG0.out HBG.out HBMB.out.size)
                  have HLEN := Lib.hid (show (gs.map (rowV (b.data.toList.length + 1))).length ≤ 100000 by rw [List.length_map, HGL.out]; omega)
                  have HOWN := Lib.hid (show wr.ownsRow w.heap.size 29 1 u7 (gs.map (rowV (b.data.toList.length + 1))).length (gs.map (rowV (b.data.toList.length + 1))) by rw [List.length_map]; exact HRD2.out.1)
                  have HBS := Lib.hid HBB.out.size
                  have HONE := Lib.hid (show (Value.slice (some ⟨g, 0, none⟩) W W).oneCell' = true from rfl)
                  go_wp2_with (at_builtin; refine append_row rfl _ _ rfl w.heap.size _ (gs.map (rowV (b.data.toList.length + 1))) (.slice (some ⟨g, 0, none⟩) W W) HOWN.out rfl rfl HONE.out HLEN.out HBS.out ?_; intro v5 w5 hown5 hb5 hg5; have HO5 := Lib.hid hown5; have HB5 := Lib.hid hb5; have HG5 := Lib.hid hg5; clear hown5 hb5 hg5)
                  go_roundw
                  case rel =>
                    refine ⟨0 + 1, gs ++ [g], by omega, by go_num, by simp [HGL.out], ⟨?_, fun k g' hk => ?_⟩, HBB.out.trans HB5.out⟩
                    · have h := HO5.out
                      rw [show (gs.map (rowV (b.data.toList.length + 1))) ++ [Value.slice (some ⟨g, 0, none⟩) W W] = (gs ++ [g]).map (rowV (b.data.toList.length + 1)) by rw [List.map_append, HWB.out]; rfl] at h
                      rw [List.length_map] at h
                      exact h
                    · by_cases hkl : k < gs.length
                      · rw [List.getElem?_append_left hkl] at hk
                        obtain ⟨h1, cs6, h2, h3⟩ := HRD2.out.2 k g' hk
                        exact ⟨h1, cs6, h2.grown HG5.out (HRD2.out.own_ne h2), h3⟩
                      · obtain rfl : k = gs.length := by
                          have := (List.getElem?_eq_some_iff.1 hk).1
                          simp at this
                          omega
                        simp at hk
                        subst hk
                        refine ⟨HBG.out, cs, HBW.out.grown HG5.out (HRD2.out.own_ne HBW.out), ?_⟩
                        rw [HGL.out]
                        exact HRW.out
                  case measure => simp [intOf] <;> omega
      · obtain rfl := hci
        obtain ⟨gd, cap, hv, hcap, hcapm, hgd, hcell⟩ := HRM.out.shape HGL.out (by omega)
        subst hv
        obtain ⟨gd', cap', hv', _, _, hgd', _⟩ := HRD.out.shape HGL.out (by omega)
        have HGDNE := Lib.hid (show gd ≠ g by have := HGG.out; simp only [Value.slice.injEq, Option.some.injEq, Addr.mk.injEq] at hv'; omega)
        clear hv' hgd'
        unfold maxLen at hcapm
        rw [HWB.out] at hcell
        have HC := Lib.hid hcell
        clear hcell
        obtain ⟨p, hp⟩ : ∃ p, i = p + 1 := ⟨i - 1, by omega⟩
        have hp1 : (i : Int) - 1 = (p : Int) := by omega
        have hwp : IntKind.i64.wrap ((i : Int) - 1) = (p : Int) := by rw [hp1]; exact IntWalk.i64_in _ (by omega)
        have hpa : p < a.size := by omega
        have hpi : p < i := by omega
        have hpI : (p : Int) < (i : Int) := by omega
        have hiz : ((i : Int) == 0) = false := by simp; omega
        have HIP := Lib.hid hp
        clear hp hi0
        go_wp2
        go_loopw [10] (fun c w2 => ∃ (j : Nat) (cs : Array Value), j ≤ W ∧ c = .int .i64 j ∧ BlkV w2 g 3 cs ∧ RowD sw a.data.toList b.data.toList i cs j ∧ wm.grownBy w2 (some g)) (fun c _ => W - (intOf c).toNat)
        case atStart => exact ⟨0, _, by omega, rfl, HBM.out, ⟨by rw [HSZ.out, HWB.out], fun q hq => by omega⟩, World.grownBy.refl _ _⟩
        case round =>
          obtain ⟨j, cs, hj, hcj, hbw, hro0, hg0⟩ := hrel
          have HBW := Lib.hid hbw
          have HRO0 := Lib.hid hro0
          have HG0 := Lib.hid hg0
          clear hbw hro0 hg0
          by_cases hjl : j ≤ b.size
          · by_cases hj0 : j = 0
            · have hcj2 := hcj
              rw [hj0, show ((0 : Nat) : Int) = 0 from rfl] at hcj2
              subst hj0
              clear hcj
              obtain rfl := hcj2
              have hvl : wr.cell? ⟨g, 0, none⟩ = some (cs[0]'(by have := HRO0.out.1; have := HWB.out; omega)) := by rw [HBW.out.cell, Array.getElem?_eq_getElem (by have := HRO0.out.1; have := HWB.out; omega)]
              have hfr : wr.frozen? ⟨g, 0, none⟩ = false := HBW.out.frozen _
              have hzW : (0 : Int) < (W : Int) := by omega
              go_wp2
              have HCJ0 := Lib.hid (show (cs.setIfInBounds 0 (.int .i64 (i : Int)))[0]? = some (intC (Dt sw a.data.toList b.data.toList i 0)) by
                rw [set_at (by have := HRO0.out.1; have := HWB.out; omega), Dt_col0 _ _ _ (by rw [HAL.out]; exact hlt)]
                rfl)
              obtain ⟨cs3, HB3, HRO, HCJ⟩ : ∃ cs3, Hid (BlkV (wr.setCell ⟨g, 0, none⟩ (.int .i64 (i : Int))) g 3 cs3) ∧ Hid (RowD sw a.data.toList b.data.toList i cs3 0) ∧ Hid (cs3[0]? = some (intC (Dt sw a.data.toList b.data.toList i 0))) := ⟨_, Lib.hid (HBW.out.set_ 0 _), Lib.hid (HRO0.out.put _), HCJ0⟩
              have HG3 := Lib.hid (HG0.out.trans (egrown_set wr g 0 (.int .i64 (i : Int))))
              generalize wr.setCell ⟨g, 0, none⟩ (.int .i64 (i : Int)) = w3 at HB3 HG3 ⊢
              clear hvl hfr HCJ0
              cases sw
              · go_wp2
                go_quiet (fail)
                go_wp2
                go_roundw
                case rel => exact ⟨0 + 1, cs3, by omega, by go_num, HB3.out.n _, HRO.out.more HCJ.out, egrown_n HG3.out _⟩
                case measure => simp [intOf] <;> omega
              · by_cases e1 : 1 < i
                · have d1 : decide (1 < (i : Int)) = true := by simp; omega
                  go_wp2
                  go_quiet (fail)
                  go_wp2
                  go_roundw
                  case rel => exact ⟨0 + 1, cs3, by omega, by go_num, HB3.out.n _, HRO.out.more HCJ.out, egrown_n HG3.out _⟩
                  case measure => simp [intOf] <;> omega
                · have d1 : decide (1 < (i : Int)) = false := by simp; omega
                  go_wp2
                  go_quiet (fail)
                  go_wp2
                  go_roundw
                  case rel => exact ⟨0 + 1, cs3, by omega, by go_num, HB3.out.n _, HRO.out.more HCJ.out, egrown_n HG3.out _⟩
                  case measure => simp [intOf] <;> omega
            · obtain rfl := hcj
              have hjz : ((j : Int) == 0) = false := by simp; omega
              obtain ⟨q, hq⟩ : ∃ q, j = q + 1 := ⟨j - 1, by omega⟩
              have hq1 : (j : Int) - 1 = (q : Int) := by omega
              have hwq : IntKind.i64.wrap ((j : Int) - 1) = (q : Int) := by rw [hq1]; exact IntWalk.i64_in _ (by omega)
              have hqb : q < b.size := by omega
              have hqW : q < W := by omega
              have hqI : (q : Int) < (W : Int) := by omega
              have hjW : j < W := by omega
              have hjI : (j : Int) < (W : Int) := by omega
              have HJQ := Lib.hid hq
              have HJL := Lib.hid hjl
              clear hq hj0
              have hxa := a[p].toNat_lt
              have hyb := b[q].toNat_lt
              obtain ⟨g1, hg1⟩ : ∃ g1, gs[p]? = some g1 := ⟨_, List.getElem?_eq_getElem (by have := HGL.out; omega)⟩
              obtain ⟨cs1, hb1, hr1⟩ := (HRM.out.2 p g1 hg1).2
              have hne1 : g1 ≠ g := HFRESH.out p g1 hg1
              have HB1 := Lib.hid (hb1.grown HG0.out (by simp; exact hne1))
              have HR1 := Lib.hid hr1
              obtain ⟨x1, hx1⟩ : ∃ x, Dt sw a.data.toList b.data.toList p q = x := ⟨_, rfl⟩
              obtain ⟨x2, hx2⟩ : ∃ x, Dt sw a.data.toList b.data.toList p j = x := ⟨_, rfl⟩
              obtain ⟨x3, hx3⟩ : ∃ x, Dt sw a.data.toList b.data.toList i q = x := ⟨_, rfl⟩
              have hx2b : x2 ≤ 1000 := by rw [← hx2]; exact Dt_bound _ _ _ _ _ ha hb
              have HX1 := Lib.hid hx1
              have HX2 := Lib.hid hx2
              have HX3 := Lib.hid hx3
              have HG1 := Lib.hid hg1
              clear hx1 hx2 hx3 hb1 hr1 hg1
              by_cases c : a[p].toNat = b[q].toNat
              · have d : ((a[p].toNat : Int) == (b[q].toNat : Int)) = true := by simp; omega
                have HMV := Lib.hid (mvL_eq (x := a[p]) (y := b[q]) (x1 := x1) (x2 := x2) (x3 := x3) (u8_eq c))
                clear c
                go_wp2
                go_quiet (fail)
                have HBD := Lib.hid (HBW.out.n nq)
                have HBD1 := Lib.hid (HB1.out.n nq)
                have HGD := Lib.hid (egrown_n HG0.out nq)
                generalize wr.drewN nq = wd at HBD HBD1 HGD ⊢
                have kd : wd.cell? ⟨gd, p, none⟩ = some (.slice (some ⟨g1, 0, none⟩) W W) := HGD.out.cell (HC.out p g1 HG1.out) (by simp; exact HGDNE.out)
                have k1 : wd.cell? ⟨g1, q, none⟩ = some (.int .i64 x1) := by rw [HBD1.out.cell, ← HX1.out]; exact HR1.out.2 q (by have := HWB.out; omega)
                have k2 : wd.cell? ⟨g1, j, none⟩ = some (.int .i64 x2) := by rw [HBD1.out.cell, ← HX2.out]; exact HR1.out.2 j (by have := HWB.out; omega)
                have k3 : wd.cell? ⟨g, q, none⟩ = some (.int .i64 x3) := by rw [HBD.out.cell, ← HX3.out]; exact HRO0.out.2 q (by have := HJQ.out; omega)
                obtain ⟨vl, hvl⟩ : ∃ v, wd.cell? ⟨g, j, none⟩ = some v := ⟨_, by rw [HBD.out.cell, Array.getElem?_eq_getElem (by have := HRO0.out.1; have := HWB.out; omega)]⟩
                have hfr : wd.frozen? ⟨g, j, none⟩ = false := HBD.out.frozen _
                go_wp2

                have HCJ0 := Lib.hid (show (cs.setIfInBounds j (.int .i64 ((x1 : Int))))[j]? = some (intC (mvL a[p] b[q] x1 x2 x3)) by
                  rw [set_at (by have := HRO0.out.1; have := HWB.out; omega)]
                  rw [HMV.out]; rfl)
                obtain ⟨cs3, HB3, HRO, HCJ⟩ : ∃ cs3, Hid (BlkV (wd.setCell ⟨g, j, none⟩ (.int .i64 ((x1 : Int)))) g 3 cs3) ∧ Hid (RowD sw a.data.toList b.data.toList i cs3 j) ∧ Hid (cs3[j]? = some (intC (mvL a[p] b[q] x1 x2 x3))) := ⟨_, Lib.hid (HBD.out.set_ j _), Lib.hid (HRO0.out.put _), HCJ0⟩
                have HG3 := Lib.hid (HGD.out.trans (egrown_set wd g j (.int .i64 ((x1 : Int)))))
                generalize wd.setCell ⟨g, j, none⟩ (.int .i64 ((x1 : Int))) = w3 at HB3 HG3 ⊢
                clear HCJ0
                clear kd k1 k2 k3 hvl hfr hwp hwq d
                have hwp : IntKind.i64.wrap ((i : Int) - 1) = (p : Int) := by rw [hp1]; exact IntWalk.i64_in _ (by omega)
                have hwq : IntKind.i64.wrap ((j : Int) - 1) = (q : Int) := by rw [hq1]; exact IntWalk.i64_in _ (by omega)
                cases sw
                · have HLV := Lib.hid (show mvL a[p] b[q] x1 x2 x3 = Dt false a.data.toList b.data.toList i j by rw [← HX1.out, ← HX2.out, ← HX3.out]; exact (Dt_no HIP.out HJQ.out hpa hqb (by simp)).symm)
                  go_wp2
                  go_quiet (fail)
                  go_wp2
                  go_roundw
                  case rel => exact ⟨j + 1, cs3, by omega, by go_num, HB3.out.n _, HRO.out.more (by rw [HCJ.out, HLV.out]), egrown_n HG3.out _⟩
                  case measure => simp [intOf] <;> omega
                · by_cases hx : XchD a b p q
                  · obtain ⟨p2, q2, f1, f2, fp, fq, e3, e4⟩ := id hx
                    have d1 : decide (1 < (i : Int)) = true := by have := HIP.out; simp; omega
                    have d2 : decide (1 < (j : Int)) = true := by have := HJQ.out; simp; omega
                    have hp2 : (i : Int) - 2 = (p2 : Int) := by have := HIP.out; omega
                    have hq2 : (j : Int) - 2 = (q2 : Int) := by have := HJQ.out; omega
                    have hwp2 : IntKind.i64.wrap ((i : Int) - 2) = (p2 : Int) := by rw [hp2]; exact IntWalk.i64_in _ (by omega)
                    have hwq2 : IntKind.i64.wrap ((j : Int) - 2) = (q2 : Int) := by rw [hq2]; exact IntWalk.i64_in _ (by omega)
                    have hp2a : p2 < a.size := by omega
                    have hq2b : q2 < b.size := by omega
                    have d3 : ((a[p].toNat : Int) == (b[q2].toNat : Int)) = true := by subst fp; rw [e3]; simp
                    have d4 : ((a[p2].toNat : Int) == (b[q].toNat : Int)) = true := by subst fq; rw [e4]; simp
                    have HLV := Lib.hid (Dt_yes HIP.out HJQ.out fp fq hpa hqb rfl hx)
                    have HFP := Lib.hid fp
                    have HFQ := Lib.hid fq
                    have hp2i : p2 < i := by have := HIP.out; omega
                    have hq2W : q2 < W := by have := HJQ.out; omega
                    clear fp fq e3 e4 hx
                    go_wp2
                    go_quiet (fail)
                    obtain ⟨g2, hg2⟩ : ∃ g2, gs[p2]? = some g2 := ⟨_, List.getElem?_eq_getElem (by have := HGL.out; omega)⟩
                    obtain ⟨cs2, hb2, hr2⟩ := (HRM.out.2 p2 g2 hg2).2
                    obtain ⟨x4, hx4⟩ : ∃ x, Dt true a.data.toList b.data.toList p2 q2 = x := ⟨_, rfl⟩
                    have hx4b : x4 ≤ 1000 := by rw [← hx4]; exact Dt_bound _ _ _ _ _ ha hb
                    rw [hx4, HX1.out, HX2.out, HX3.out] at HLV
                    have hne2 : g2 ≠ g := HFRESH.out p2 g2 hg2
                    have HB4 := Lib.hid (HB3.out.n nq)
                    have HG4 := Lib.hid (egrown_n HG3.out nq)
                    generalize w3.drewN nq = w4 at HB4 HG4 ⊢
                    have k1 : w4.cell? ⟨g, j, none⟩ = some (.int .i64 ((mvL a[p] b[q] x1 x2 x3 : Nat) : Int)) := by rw [HB4.out.cell]; exact HCJ.out
                    have k2 : w4.cell? ⟨gd, p2, none⟩ = some (.slice (some ⟨g2, 0, none⟩) W W) := HG4.out.cell (HC.out p2 g2 hg2) (by simp; exact HGDNE.out)
                    have k3 : w4.cell? ⟨g2, q2, none⟩ = some (.int .i64 x4) := by
                      rw [(hb2.grown HG4.out (by simp; exact hne2)).cell, ← hx4]
                      exact hr2.2 q2 (by have := HWB.out; omega)
                    have hxw : IntKind.i64.wrap ((x4 : Int) + 1) = (x4 : Int) + 1 := IntWalk.i64_in _ (by omega)
                    have hp2I : (p2 : Int) < (i : Int) := by omega
                    have hq2I : (q2 : Int) < (W : Int) := by omega
                    have hjW : j < W := by have := HJL.out; omega
                    have hjI : (j : Int) < (W : Int) := by omega
                    clear hg2 hb2 hr2 hx4 d3 d4 d1 d2
                    go_wp2
                    have hwp3 : IntKind.i64.wrap (p2 : Int) = (p2 : Int) := IntWalk.i64_in _ (by omega)
                    have hwq3 : IntKind.i64.wrap (q2 : Int) = (q2 : Int) := IntWalk.i64_in _ (by omega)
                    go_still_tail 18, (by kernel_rfl)
                    rw [min2c_val, HLV.out.symm]
                    have HB5 := Lib.hid (show BlkV w4.drew g 3 cs3 from HB4.out)
                    have HG5 := Lib.hid (show wm.grownBy w4.drew (some g) from ⟨HG4.out.os, HG4.out.tape, HG4.out.output, HG4.out.size, HG4.out.block⟩)
                    change wpList _ _ _ _ _ w4.drew
                    generalize w4.drew = wb at HB5 HG5 ⊢
                    clear k1 k2 k3 hxw hwp2 hwq2 hwp3 hwq3
                    have hwm : wb.cell? ⟨g, j, none⟩ = some (intC (mvL a[p] b[q] x1 x2 x3)) := by rw [HB5.out.cell]; exact HCJ.out
                    have hfr2 : wb.frozen? ⟨g, j, none⟩ = false := HB5.out.frozen _
                    go_wp2
                    go_roundw
                    case rel => exact ⟨j + 1, _, by omega, by go_num, HB5.out.set_ j _, HRO.out.set (by have := HWB.out; omega) (u := .int .i64 ((Dt true a.data.toList b.data.toList i j : Nat) : Int)) rfl, HG5.out.trans (egrown_set wb g j _)⟩
                    case measure => simp [intOf] <;> omega
                  · have HLV := Lib.hid (show mvL a[p] b[q] x1 x2 x3 = Dt true a.data.toList b.data.toList i j by rw [← HX1.out, ← HX2.out, ← HX3.out]; exact (Dt_no HIP.out HJQ.out hpa hqb (fun e => hx e.2)).symm)
                    by_cases e1 : 1 < i
                    · have d1 : decide (1 < (i : Int)) = true := by simp; omega
                      by_cases e2 : 1 < j
                      · have d2 : decide (1 < (j : Int)) = true := by simp; omega
                        obtain ⟨p2, fp⟩ : ∃ p2, p = p2 + 1 := ⟨p - 1, by have := HIP.out; omega⟩
                        obtain ⟨q2, fq⟩ : ∃ q2, q = q2 + 1 := ⟨q - 1, by have := HJQ.out; omega⟩
                        have hp2 : (i : Int) - 2 = (p2 : Int) := by have := HIP.out; omega
                        have hq2 : (j : Int) - 2 = (q2 : Int) := by have := HJQ.out; omega
                        have hwp2 : IntKind.i64.wrap ((i : Int) - 2) = (p2 : Int) := by rw [hp2]; exact IntWalk.i64_in _ (by omega)
                        have hwq2 : IntKind.i64.wrap ((j : Int) - 2) = (q2 : Int) := by rw [hq2]; exact IntWalk.i64_in _ (by omega)
                        have hp2a : p2 < a.size := by omega
                        have hq2b : q2 < b.size := by omega
                        by_cases e3 : a[p].toNat = b[q2].toNat
                        · have d3 : ((a[p].toNat : Int) == (b[q2].toNat : Int)) = true := by simp; omega
                          have d4 : ((a[p2].toNat : Int) == (b[q].toNat : Int)) = false := by
                            simp
                            intro e4
                            refine hx ⟨p2, q2, by omega, by omega, fp, fq, ?_, ?_⟩
                            · subst fp; exact u8_eq e3
                            · subst fq; exact u8_eq (by omega)
                          have HHX := Lib.hid hx
                          have HFP := Lib.hid fp
                          have HFQ := Lib.hid fq
                          clear hx fp fq e3
                          go_wp2
                          go_quiet (fail)
                          go_wp2
                          go_roundw
                          case rel => exact ⟨j + 1, cs3, by omega, by go_num, HB3.out.n _, HRO.out.more (by rw [HCJ.out, HLV.out]), egrown_n HG3.out _⟩
                          case measure => simp [intOf] <;> omega
                        · have d3 : ((a[p].toNat : Int) == (b[q2].toNat : Int)) = false := by simp; omega
                          have HHX := Lib.hid hx
                          have HFP := Lib.hid fp
                          have HFQ := Lib.hid fq
                          clear hx fp fq e3
                          go_wp2
                          go_quiet (fail)
                          go_wp2
                          go_roundw
                          case rel => exact ⟨j + 1, cs3, by omega, by go_num, HB3.out.n _, HRO.out.more (by rw [HCJ.out, HLV.out]), egrown_n HG3.out _⟩
                          case measure => simp [intOf] <;> omega
                      · have d2 : decide (1 < (j : Int)) = false := by simp; omega
                        have HHX := Lib.hid hx
                        clear hx
                        go_wp2
                        go_quiet (fail)
                        go_wp2
                        go_roundw
                        case rel => exact ⟨j + 1, cs3, by omega, by go_num, HB3.out.n _, HRO.out.more (by rw [HCJ.out, HLV.out]), egrown_n HG3.out _⟩
                        case measure => simp [intOf] <;> omega
                    · have d1 : decide (1 < (i : Int)) = false := by simp; omega
                      have HHX := Lib.hid hx
                      clear hx
                      go_wp2
                      go_quiet (fail)
                      go_wp2
                      go_roundw
                      case rel => exact ⟨j + 1, cs3, by omega, by go_num, HB3.out.n _, HRO.out.more (by rw [HCJ.out, HLV.out]), egrown_n HG3.out _⟩
                      case measure => simp [intOf] <;> omega
              · have d : ((a[p].toNat : Int) == (b[q].toNat : Int)) = false := by simp; omega
                have HMV := Lib.hid (mvL_ne (x := a[p]) (y := b[q]) (x1 := x1) (x2 := x2) (x3 := x3) (fun e => c (by rw [e])))
                clear c
                go_wp2
                go_quiet (fail)
                have HBD := Lib.hid (HBW.out.n nq)
                have HBD1 := Lib.hid (HB1.out.n nq)
                have HGD := Lib.hid (egrown_n HG0.out nq)
                generalize wr.drewN nq = wd at HBD HBD1 HGD ⊢
                have kd : wd.cell? ⟨gd, p, none⟩ = some (.slice (some ⟨g1, 0, none⟩) W W) := HGD.out.cell (HC.out p g1 HG1.out) (by simp; exact HGDNE.out)
                have k1 : wd.cell? ⟨g1, q, none⟩ = some (.int .i64 x1) := by rw [HBD1.out.cell, ← HX1.out]; exact HR1.out.2 q (by have := HWB.out; omega)
                have k2 : wd.cell? ⟨g1, j, none⟩ = some (.int .i64 x2) := by rw [HBD1.out.cell, ← HX2.out]; exact HR1.out.2 j (by have := HWB.out; omega)
                have k3 : wd.cell? ⟨g, q, none⟩ = some (.int .i64 x3) := by rw [HBD.out.cell, ← HX3.out]; exact HRO0.out.2 q (by have := HJQ.out; omega)
                obtain ⟨vl, hvl⟩ : ∃ v, wd.cell? ⟨g, j, none⟩ = some v := ⟨_, by rw [HBD.out.cell, Array.getElem?_eq_getElem (by have := HRO0.out.1; have := HWB.out; omega)]⟩
                have hfr : wd.frozen? ⟨g, j, none⟩ = false := HBD.out.frozen _
                go_wp2
                have hwp3 : IntKind.i64.wrap (p : Int) = (p : Int) := IntWalk.i64_in _ (by omega)
                have hwq3 : IntKind.i64.wrap (q : Int) = (q : Int) := IntWalk.i64_in _ (by omega)
                go_still_tail 27, (by kernel_rfl)
                rw [min3_val x2 x3 x1 hx2b, min3i_val x2 x3 x1, ← HMV.out]
                have HBD2 := Lib.hid (show BlkV wd.drew g 3 cs from HBD.out)
                have HGD2 := Lib.hid (show wm.grownBy wd.drew (some g) from ⟨HGD.out.os, HGD.out.tape, HGD.out.output, HGD.out.size, HGD.out.block⟩)
                change wpList _ _ _ _ _ wd.drew
                clear kd k1 k2 k3 hvl hfr hwp hwq hwp3 hwq3 d HBD HGD
                generalize wd.drew = we at HBD2 HGD2 ⊢
                have HBD := HBD2
                have HGD := HGD2
                obtain ⟨vl, hvl⟩ : ∃ v, we.cell? ⟨g, j, none⟩ = some v := ⟨_, by rw [HBD.out.cell, Array.getElem?_eq_getElem (by have := HRO0.out.1; have := HWB.out; omega)]⟩
                have hfr : we.frozen? ⟨g, j, none⟩ = false := HBD.out.frozen _
                go_wp2

                have HCJ0 := Lib.hid (show (cs.setIfInBounds j (.int .i64 (((mvL a[p] b[q] x1 x2 x3 : Nat) : Int))))[j]? = some (intC (mvL a[p] b[q] x1 x2 x3)) by
                  rw [set_at (by have := HRO0.out.1; have := HWB.out; omega)]
                  rfl)
                obtain ⟨cs3, HB3, HRO, HCJ⟩ : ∃ cs3, Hid (BlkV (we.setCell ⟨g, j, none⟩ (.int .i64 (((mvL a[p] b[q] x1 x2 x3 : Nat) : Int)))) g 3 cs3) ∧ Hid (RowD sw a.data.toList b.data.toList i cs3 j) ∧ Hid (cs3[j]? = some (intC (mvL a[p] b[q] x1 x2 x3))) := ⟨_, Lib.hid (HBD.out.set_ j _), Lib.hid (HRO0.out.put _), HCJ0⟩
                have HG3 := Lib.hid (HGD.out.trans (egrown_set we g j (.int .i64 (((mvL a[p] b[q] x1 x2 x3 : Nat) : Int)))))
                generalize we.setCell ⟨g, j, none⟩ (.int .i64 (((mvL a[p] b[q] x1 x2 x3 : Nat) : Int))) = w3 at HB3 HG3 ⊢
                clear HCJ0
                clear hvl hfr
                have hwp : IntKind.i64.wrap ((i : Int) - 1) = (p : Int) := by rw [hp1]; exact IntWalk.i64_in _ (by omega)
                have hwq : IntKind.i64.wrap ((j : Int) - 1) = (q : Int) := by rw [hq1]; exact IntWalk.i64_in _ (by omega)
                cases sw
                · have HLV := Lib.hid (show mvL a[p] b[q] x1 x2 x3 = Dt false a.data.toList b.data.toList i j by rw [← HX1.out, ← HX2.out, ← HX3.out]; exact (Dt_no HIP.out HJQ.out hpa hqb (by simp)).symm)
                  go_wp2
                  go_quiet (fail)
                  go_wp2
                  go_roundw
                  case rel => exact ⟨j + 1, cs3, by omega, by go_num, HB3.out.n _, HRO.out.more (by rw [HCJ.out, HLV.out]), egrown_n HG3.out _⟩
                  case measure => simp [intOf] <;> omega
                · by_cases hx : XchD a b p q
                  · obtain ⟨p2, q2, f1, f2, fp, fq, e3, e4⟩ := id hx
                    have d1 : decide (1 < (i : Int)) = true := by have := HIP.out; simp; omega
                    have d2 : decide (1 < (j : Int)) = true := by have := HJQ.out; simp; omega
                    have hp2 : (i : Int) - 2 = (p2 : Int) := by have := HIP.out; omega
                    have hq2 : (j : Int) - 2 = (q2 : Int) := by have := HJQ.out; omega
                    have hwp2 : IntKind.i64.wrap ((i : Int) - 2) = (p2 : Int) := by rw [hp2]; exact IntWalk.i64_in _ (by omega)
                    have hwq2 : IntKind.i64.wrap ((j : Int) - 2) = (q2 : Int) := by rw [hq2]; exact IntWalk.i64_in _ (by omega)
                    have hp2a : p2 < a.size := by omega
                    have hq2b : q2 < b.size := by omega
                    have d3 : ((a[p].toNat : Int) == (b[q2].toNat : Int)) = true := by subst fp; rw [e3]; simp
                    have d4 : ((a[p2].toNat : Int) == (b[q].toNat : Int)) = true := by subst fq; rw [e4]; simp
                    have HLV := Lib.hid (Dt_yes HIP.out HJQ.out fp fq hpa hqb rfl hx)
                    have HFP := Lib.hid fp
                    have HFQ := Lib.hid fq
                    have hp2i : p2 < i := by have := HIP.out; omega
                    have hq2W : q2 < W := by have := HJQ.out; omega
                    clear fp fq e3 e4 hx
                    go_wp2
                    go_quiet (fail)
                    obtain ⟨g2, hg2⟩ : ∃ g2, gs[p2]? = some g2 := ⟨_, List.getElem?_eq_getElem (by have := HGL.out; omega)⟩
                    obtain ⟨cs2, hb2, hr2⟩ := (HRM.out.2 p2 g2 hg2).2
                    obtain ⟨x4, hx4⟩ : ∃ x, Dt true a.data.toList b.data.toList p2 q2 = x := ⟨_, rfl⟩
                    have hx4b : x4 ≤ 1000 := by rw [← hx4]; exact Dt_bound _ _ _ _ _ ha hb
                    rw [hx4, HX1.out, HX2.out, HX3.out] at HLV
                    have hne2 : g2 ≠ g := HFRESH.out p2 g2 hg2
                    have HB4 := Lib.hid (HB3.out.n nq)
                    have HG4 := Lib.hid (egrown_n HG3.out nq)
                    generalize w3.drewN nq = w4 at HB4 HG4 ⊢
                    have k1 : w4.cell? ⟨g, j, none⟩ = some (.int .i64 ((mvL a[p] b[q] x1 x2 x3 : Nat) : Int)) := by rw [HB4.out.cell]; exact HCJ.out
                    have k2 : w4.cell? ⟨gd, p2, none⟩ = some (.slice (some ⟨g2, 0, none⟩) W W) := HG4.out.cell (HC.out p2 g2 hg2) (by simp; exact HGDNE.out)
                    have k3 : w4.cell? ⟨g2, q2, none⟩ = some (.int .i64 x4) := by
                      rw [(hb2.grown HG4.out (by simp; exact hne2)).cell, ← hx4]
                      exact hr2.2 q2 (by have := HWB.out; omega)
                    have hxw : IntKind.i64.wrap ((x4 : Int) + 1) = (x4 : Int) + 1 := IntWalk.i64_in _ (by omega)
                    have hp2I : (p2 : Int) < (i : Int) := by omega
                    have hq2I : (q2 : Int) < (W : Int) := by omega
                    have hjW : j < W := by have := HJL.out; omega
                    have hjI : (j : Int) < (W : Int) := by omega
                    clear hg2 hb2 hr2 hx4 d3 d4 d1 d2
                    go_wp2
                    have hwp3 : IntKind.i64.wrap (p2 : Int) = (p2 : Int) := IntWalk.i64_in _ (by omega)
                    have hwq3 : IntKind.i64.wrap (q2 : Int) = (q2 : Int) := IntWalk.i64_in _ (by omega)
                    go_still_tail 18, (by kernel_rfl)
                    rw [min2c_val, HLV.out.symm]
                    have HB5 := Lib.hid (show BlkV w4.drew g 3 cs3 from HB4.out)
                    have HG5 := Lib.hid (show wm.grownBy w4.drew (some g) from ⟨HG4.out.os, HG4.out.tape, HG4.out.output, HG4.out.size, HG4.out.block⟩)
                    change wpList _ _ _ _ _ w4.drew
                    generalize w4.drew = wb at HB5 HG5 ⊢
                    clear k1 k2 k3 hxw hwp2 hwq2 hwp3 hwq3
                    have hwm : wb.cell? ⟨g, j, none⟩ = some (intC (mvL a[p] b[q] x1 x2 x3)) := by rw [HB5.out.cell]; exact HCJ.out
                    have hfr2 : wb.frozen? ⟨g, j, none⟩ = false := HB5.out.frozen _
                    go_wp2
                    go_roundw
                    case rel => exact ⟨j + 1, _, by omega, by go_num, HB5.out.set_ j _, HRO.out.set (by have := HWB.out; omega) (u := .int .i64 ((Dt true a.data.toList b.data.toList i j : Nat) : Int)) rfl, HG5.out.trans (egrown_set wb g j _)⟩
                    case measure => simp [intOf] <;> omega
                  · have HLV := Lib.hid (show mvL a[p] b[q] x1 x2 x3 = Dt true a.data.toList b.data.toList i j by rw [← HX1.out, ← HX2.out, ← HX3.out]; exact (Dt_no HIP.out HJQ.out hpa hqb (fun e => hx e.2)).symm)
                    by_cases e1 : 1 < i
                    · have d1 : decide (1 < (i : Int)) = true := by simp; omega
                      by_cases e2 : 1 < j
                      · have d2 : decide (1 < (j : Int)) = true := by simp; omega
                        obtain ⟨p2, fp⟩ : ∃ p2, p = p2 + 1 := ⟨p - 1, by have := HIP.out; omega⟩
                        obtain ⟨q2, fq⟩ : ∃ q2, q = q2 + 1 := ⟨q - 1, by have := HJQ.out; omega⟩
                        have hp2 : (i : Int) - 2 = (p2 : Int) := by have := HIP.out; omega
                        have hq2 : (j : Int) - 2 = (q2 : Int) := by have := HJQ.out; omega
                        have hwp2 : IntKind.i64.wrap ((i : Int) - 2) = (p2 : Int) := by rw [hp2]; exact IntWalk.i64_in _ (by omega)
                        have hwq2 : IntKind.i64.wrap ((j : Int) - 2) = (q2 : Int) := by rw [hq2]; exact IntWalk.i64_in _ (by omega)
                        have hp2a : p2 < a.size := by omega
                        have hq2b : q2 < b.size := by omega
                        by_cases e3 : a[p].toNat = b[q2].toNat
                        · have d3 : ((a[p].toNat : Int) == (b[q2].toNat : Int)) = true := by simp; omega
                          have d4 : ((a[p2].toNat : Int) == (b[q].toNat : Int)) = false := by
                            simp
                            intro e4
                            refine hx ⟨p2, q2, by omega, by omega, fp, fq, ?_, ?_⟩
                            · subst fp; exact u8_eq e3
                            · subst fq; exact u8_eq (by omega)
                          have HHX := Lib.hid hx
                          have HFP := Lib.hid fp
                          have HFQ := Lib.hid fq
                          clear hx fp fq e3
                          go_wp2
                          go_quiet (fail)
                          go_wp2
                          go_roundw
                          case rel => exact ⟨j + 1, cs3, by omega, by go_num, HB3.out.n _, HRO.out.more (by rw [HCJ.out, HLV.out]), egrown_n HG3.out _⟩
                          case measure => simp [intOf] <;> omega
                        · have d3 : ((a[p].toNat : Int) == (b[q2].toNat : Int)) = false := by simp; omega
                          have HHX := Lib.hid hx
                          have HFP := Lib.hid fp
                          have HFQ := Lib.hid fq
                          clear hx fp fq e3
                          go_wp2
                          go_quiet (fail)
                          go_wp2
                          go_roundw
                          case rel => exact ⟨j + 1, cs3, by omega, by go_num, HB3.out.n _, HRO.out.more (by rw [HCJ.out, HLV.out]), egrown_n HG3.out _⟩
                          case measure => simp [intOf] <;> omega
                      · have d2 : decide (1 < (j : Int)) = false := by simp; omega
                        have HHX := Lib.hid hx
                        clear hx
                        go_wp2
                        go_quiet (fail)
                        go_wp2
                        go_roundw
                        case rel => exact ⟨j + 1, cs3, by omega, by go_num, HB3.out.n _, HRO.out.more (by rw [HCJ.out, HLV.out]), egrown_n HG3.out _⟩
                        case measure => simp [intOf] <;> omega
                    · have d1 : decide (1 < (i : Int)) = false := by simp; omega
                      have HHX := Lib.hid hx
                      clear hx
                      go_wp2
                      go_quiet (fail)
                      go_wp2
                      go_roundw
                      case rel => exact ⟨j + 1, cs3, by omega, by go_num, HB3.out.n _, HRO.out.more (by rw [HCJ.out, HLV.out]), egrown_n HG3.out _⟩
                      case measure => simp [intOf] <;> omega
          ·       obtain rfl := hcj
                  have hjW : j = W := by omega
                  have HRW := Lib.hid (show RowD sw a.data.toList b.data.toList i cs (b.data.toList.length + 1) by rw [HWB.out, ← hjW]; exact HRO0.out)
                  have HRD2 := Lib.hid (HRD.out.fresh (HWM.out.trans HG0.out) (by have := HGG.out; omega))
                  have HBB := Lib.hid (below_grown HBMB.out HG0.out HBG.out HBMB.out.size)
                  have HLEN := Lib.hid (show (gs.map (rowV (b.data.toList.length + 1))).length ≤ 100000 by rw [List.length_map, HGL.out]; omega)
                  have HOWN := Lib.hid (show wr.ownsRow w.heap.size 29 1 (.slice (some ⟨gd, 0, none⟩) i cap) (gs.map (rowV (b.data.toList.length + 1))).length (gs.map (rowV (b.data.toList.length + 1))) by rw [List.length_map]; exact HRD2.out.1)
                  have HBS := Lib.hid HBB.out.size
                  have HONE := Lib.hid (show (Value.slice (some ⟨g, 0, none⟩) W W).oneCell' = true from rfl)
                  go_wp2_with (at_builtin; refine append_row rfl _ _ rfl w.heap.size _ (gs.map (rowV (b.data.toList.length + 1))) (.slice (some ⟨g, 0, none⟩) W W) HOWN.out rfl rfl HONE.out HLEN.out HBS.out ?_; intro v5 w5 hown5 hb5 hg5; have HO5 := Lib.hid hown5; have HB5 := Lib.hid hb5; have HG5 := Lib.hid hg5; clear hown5 hb5 hg5)
                  go_roundw
                  case rel =>
                    refine ⟨i + 1, gs ++ [g], by omega, by go_num, by simp [HGL.out], ⟨?_, fun k g' hk => ?_⟩, HBB.out.trans HB5.out⟩
                    · have h := HO5.out
                      rw [show (gs.map (rowV (b.data.toList.length + 1))) ++ [Value.slice (some ⟨g, 0, none⟩) W W] = (gs ++ [g]).map (rowV (b.data.toList.length + 1)) by rw [List.map_append, HWB.out]; rfl] at h
                      rw [List.length_map] at h
                      exact h
                    · by_cases hkl : k < gs.length
                      · rw [List.getElem?_append_left hkl] at hk
                        obtain ⟨h1, cs6, h2, h3⟩ := HRD2.out.2 k g' hk
                        exact ⟨h1, cs6, h2.grown HG5.out (HRD2.out.own_ne h2), h3⟩
                      · obtain rfl : k = gs.length := by
                          have := (List.getElem?_eq_some_iff.1 hk).1
                          simp at this
                          omega
                        simp at hk
                        subst hk
                        refine ⟨HBG.out, cs, HBW.out.grown HG5.out (HRD2.out.own_ne HBW.out), ?_⟩
                        rw [HGL.out]
                        exact HRW.out
                  case measure => simp [intOf] <;> omega
    · obtain rfl : i = a.size + 1 := by omega
      obtain rfl := hci
      go_wp2
      go_ret
      exact ⟨_, gs, rfl, HGL.out, HRD.out, HB.out⟩

end Go.Proofs.YtggohfinkpppkabGreatDoor
