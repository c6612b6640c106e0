/-
  Texts laid together: DnT, BuF, DnE, HeldE. By an AI agent.
-/
import Derived.Test.YtpmfabpnjacegaaGreatDoorGQ3
import Derived.Deep.RegionWith
import Derived.Deep.RegionHeld3
import Derived.Test.YtpmfabpnjacegaaGreatDoorGQ2
import Derived.Deep.AppendLies
import Derived.Laws.StructEq
import Derived.BigQuiet
import Derived.Deep.QuietTactic
import Derived.Test.YtpmfabpnjacegaaGreatDoorRows
import Derived.StillTail
/-
  Diagrams: what the laws' own szDiagram, toDiagram and eqDiagram do. By an AI agent.
-/
namespace Go.Proofs.YtpmfabpnjacegaaGreatDoor
open Go.RowKit
set_option linter.unusedVariables false
set_option linter.unusedSimpArgs false
set_option linter.unnecessarySimpa false

theorem dgrown_3 {a b d : World} {r : Option Nat} (h1 : a.grownBy b r) (h2 : b.grownBy d r) : a.grownBy d r :=
  ⟨h2.os.trans h1.os, h2.tape.trans h1.tape, h2.output.trans h1.output, Nat.le_trans h1.size h2.size, fun k hk hne => (h2.block k (Nat.lt_of_lt_of_le hk h1.size) hne).trans (h1.block k hk hne)⟩
theorem dinfo_get {i : Option TypeInfo} {z : Value} {n b : Nat} (h : i.map (fun i => (i.zero, i.size, i.bytes)) = some (some z, n, b)) : ∃ i0, i = some i0 ∧ i0.zero = some z ∧ i0.size = n ∧ i0.bytes = b := by
  cases i with
  | none => cases h
  | some i0 => simp at h; exact ⟨i0, rfl, h.1, h.2.1, h.2.2⟩
theorem dn_len {l : List DN} (h : l.length ≤ 1048576) : l.length ≤ 4000000 := by omega
theorem ArgDn.inDn {w : World} {a : Option Addr} {l : List DN} (h : ArgDn w a l) : InDn w a l := h.1

/-- a slice of nodes of the call's own is handed back -/
def GivesDn (w : World) (l : List DN) (e : Ending) (w' : World) : Prop :=
  ∃ a cap, e = .returned (.slice a l.length cap) ∧ OwnDn w' w.heap.size (.slice a l.length cap) l ∧ Below w.heap.size w w'
theorem dn_take {S : List DN} {k : Nat} {x : DN} (h : S[k]? = some x) : S.take (k + 1) = S.take k ++ [x] := by
  obtain ⟨hlt, he⟩ := List.getElem?_eq_some_iff.1 h
  rw [List.take_succ_eq_append_getElem hlt, he]

end Go.Proofs.YtpmfabpnjacegaaGreatDoor

/-
  Appending nodes to a row behind a pointer: what stays; bits. By an AI agent.
-/
namespace Go.Proofs.YtpmfabpnjacegaaGreatDoor
open Go.RowKit
set_option linter.unusedVariables false
set_option linter.unusedSimpArgs false
set_option linter.unnecessarySimpa false

/-- what a function that appends to a row behind a pointer leaves as it was -/
structure Fr (W W' : World) (g : Nat) (v v' : Value) : Prop where
  os : W'.os = W.os
  tape : W'.tape = W.tape
  output : W'.output = W.output
  size : W.heap.size ≤ W'.heap.size
  block : ∀ k, k < W.heap.size → k ≠ g → v.ownBlock ≠ some k → W'.heap[k]? = W.heap[k]?
  own : ∀ k, v'.ownBlock = some k → v.ownBlock = some k ∨ W.heap.size ≤ k
theorem Fr.refl (W : World) (g : Nat) (v : Value) : Fr W W g v v := ⟨rfl, rfl, rfl, Nat.le_refl _, fun _ _ _ _ => rfl, fun k h => .inl h⟩
theorem Fr.trans {W W1 W2 : World} {g : Nat} {v v1 v2 : Value} (h : Fr W W1 g v v1) (k : Fr W1 W2 g v1 v2) : Fr W W2 g v v2 := by
  refine ⟨k.os.trans h.os, k.tape.trans h.tape, k.output.trans h.output, Nat.le_trans h.size k.size, fun j hj hg hv => (k.block j (Nat.lt_of_lt_of_le hj h.size) hg fun e => ?_).trans (h.block j hj hg hv), fun j hj => ?_⟩
  · rcases h.own j e with h1 | h1
    · exact hv h1
    · omega
  · rcases k.own j hj with h1 | h1
    · exact h.own j h1
    · exact .inr (Nat.le_trans h.size h1)
theorem Fr.below {W W1 W2 : World} {g : Nat} {v v1 : Value} (h : Fr W W1 g v v1) (hb : Below W1.heap.size W1 W2) : Fr W W2 g v v1 :=
  h.trans ⟨hb.os, hb.tape, hb.output, hb.size, fun k hk _ _ => hb.block k hk, fun k h => .inl h⟩
theorem Fr.low {w0 W W' : World} {g : Nat} {v v' : Value} (h : Fr W W' g v v') (hb : Below w0.heap.size w0 W) (hg : w0.heap.size ≤ g) (hv : ∀ k, v.ownBlock = some k → w0.heap.size ≤ k) : Below w0.heap.size w0 W' :=
  ⟨h.os.trans hb.os, h.tape.trans hb.tape, h.output.trans hb.output, Nat.le_trans hb.size h.size, fun k hk => (h.block k (Nat.lt_of_lt_of_le hk hb.size) (by omega) (fun e => by have := hv k e; omega)).trans (hb.block k hk)⟩
/-- a block that came up after the row does not hold it -/
theorem Fr.apart {W W' : World} {g b : Nat} {v v' : Value} (h : Fr W W' g v v') (hv : v.ownBlock ≠ some b) (hb : b < W.heap.size) : v'.ownBlock ≠ some b := fun e => by
  rcases h.own b e with h1 | h1
  · exact hv h1
  · omega
theorem Fr.blk {W W' : World} {g b : Nat} {v v' : Value} {ty : TypeId} {cs : Array Value} (h : Fr W W' g v v') (hb : BlkV W b ty cs) (hg : b ≠ g) (hv : v.ownBlock ≠ some b) : BlkV W' b ty cs := (h.block b hb.lt hg hv).trans hb

theorem Fr.grown {W W1 W2 : World} {g b : Nat} {v v1 v2 : Value} (h : Fr W W1 g v v1) (hg : W1.grownBy W2 v1.ownBlock) (hv : v2.ownBlock = some b) (hb : v1.ownBlock = some b ∨ b = W1.heap.size) : Fr W W2 g v v2 :=
  h.trans ⟨hg.os, hg.tape, hg.output, hg.size, fun k hk _ hn => hg.block k hk (fun e => hn e.symm), fun k hk => by
    rw [hv] at hk
    injection hk with hk
    subst hk
    rcases hb with h1 | h1
    · exact .inl h1
    · exact .inr (by omega)⟩
theorem Fr.setg {W W1 : World} {g : Nat} {v v1 : Value} (h : Fr W W1 g v v1) (j : Nat) (u : Value) : Fr W (W1.setCell ⟨g, j, none⟩ u) g v v1 :=
  h.trans ⟨rfl, rfl, rfl, by simp [World.setCell], fun k _ hk _ => Below.heap_setCell W1 ⟨g, j, none⟩ u k hk, fun k hk => .inl hk⟩
theorem step_nodeP {ops : Array Oper} {o : Oper} {a : Act} {W : World} {K : Act → World → Prop} {Q : Exit → Act → World → Prop} {E : Prop} (hgd : o.guard = none) (s y : Operand)
    (hop : o.op = .call { callee := .builtin .append, args := #[s, y], argTypes := #[30, 30] })
    (base : Nat) (v : Value) (l F : List DN) (n m : Nat) (t : DN) (hown : OwnDn W base v l) (hs : a.eval s = v) (hF : l ++ [t] = F) (hn : l.length = n) (hm : n + 1 = m) (q : Nat)
    (hy : a.eval y = .slice (some ⟨q, 0, none⟩) 1 1) (hc : BlkV W q 59 #[.int .i64 t.1.1, .int .i64 t.1.2, .int .i64 t.2.1, .int .i64 t.2.2]) (hlen : n ≤ 4000000) (hbase : base ≤ W.heap.size)
    (h : ∀ g cap w', OwnDn w' base (.slice (some ⟨g, 0, none⟩) m cap) F → W.grownBy w' v.ownBlock → (v.ownBlock = some g ∨ g = W.heap.size) → K (a.put o.dst (.slice (some ⟨g, 0, none⟩) m cap)) w') :
    if Region.wanted o (yielded ops a.tmps) = true then Oper.wp Tryz.prog o a W K Q else E := by
  obtain ⟨i0, hi, hz0, hz1, hz2⟩ := dinfo_get info_dn
  subst hn
  refine step_append_lies _ hgd s y 30 hop base 59 i0 _ 4 32 Tryz.underlying30 hi hz0 hz1 hz2 rfl (by decide) v l.length (flatDn l) hs hown
    ⟨q, 0, none⟩ 1 1 [.int .i64 t.1.1, .int .i64 t.1.2, .int .i64 t.2.1, .int .i64 t.2.2] hy rfl (World.news_of_block (cs := #[.int .i64 t.1.1, .int .i64 t.1.2, .int .i64 t.2.1, .int .i64 t.2.2]) (fr := (0, 0)) hc) (by simp [Value.oneCell'])
    (by omega) (by unfold maxLen; omega) (by omega) hbase W.heap.size rfl ?_
  intro g cap w' h2 h3 h4 _
  rw [hm] at h2 ⊢
  refine h g cap w' ?_ h3 h4
  unfold OwnDn
  have e : F.length = m := by rw [← hF, ← hm]; simp
  rw [e, ← hF, flatDn_snoc]
  exact h2

theorem bit_or (N i : Nat) (h : N < 2 ^ i) (hi : i < 9) : bits BinOp.or IntKind.i64 (N : Int) (IntKind.i64.wrap (2 ^ i)) = ((N + 2 ^ i : Nat) : Int) := by
  have h1 : ∀ i : Fin 9, ∀ N : Fin 512, N.val < 2 ^ i.val → bits BinOp.or IntKind.i64 ((N.val : Nat) : Int) (IntKind.i64.wrap (2 ^ i.val)) = ((N.val + 2 ^ i.val : Nat) : Int) := by decide +kernel
  have h2 : 2 ^ i ≤ 2 ^ 9 := Nat.pow_le_pow_right (by decide) (by omega)
  exact h1 ⟨i, hi⟩ ⟨N, by omega⟩ h

theorem bld_zero {R : List (List TS)} {V : List IQ} {bs : List Bool} {D D' : List DN} {x : Int} (h : bldD R V 0 bs D = (x, D')) : (if vaR R V bs then (1 : Int) else 0) = x ∧ D = D' := by
  rw [bldD] at h
  exact Prod.mk.inj h


end Go.Proofs.YtpmfabpnjacegaaGreatDoor

/-
  Two nodes held against each other; what both EqualDiagrams answer. By an AI agent.
-/
namespace Go.Proofs.YtpmfabpnjacegaaGreatDoor
open Go.RowKit
set_option linter.unusedVariables false
set_option linter.unusedSimpArgs false
set_option linter.unnecessarySimpa false

theorem same_dn (x y : DN) (r : Bool) (hr : decide (x = y) = r) (w : World) : (Op.equalIn 10000 59 (.agg #[.int .i64 x.1.1, .int .i64 x.1.2, .int .i64 x.2.1, .int .i64 x.2.2]) (.agg #[.int .i64 y.1.1, .int .i64 y.1.2, .int .i64 y.2.1, .int .i64 y.2.2])).run Tryz.prog w = .ok r w := by
  obtain ⟨⟨a, b⟩, c, d⟩ := x
  obtain ⟨⟨a', b'⟩, c', d'⟩ := y
  rw [run_equalIn_agg w 9999 _ _ _ (by kernel_rfl) (by kernel_rfl)]
  subst hr
  simp only [Prod.mk.injEq]
  by_cases h1 : a = a'
  · by_cases h2 : b = b'
    · by_cases h3 : c = c'
      · by_cases h4 : d = d'
        · simp [go_sem, Program.fieldsOf, Tryz.underlying59, Tryz.underlying3, h1, h2, h3, h4]
        · simp [go_sem, Program.fieldsOf, Tryz.underlying59, Tryz.underlying3, h1, h2, h3, h4]
      · simp [go_sem, Program.fieldsOf, Tryz.underlying59, Tryz.underlying3, h1, h2, h3]
    · simp [go_sem, Program.fieldsOf, Tryz.underlying59, Tryz.underlying3, h1, h2]
  · simp [go_sem, Program.fieldsOf, Tryz.underlying59, Tryz.underlying3, h1]
theorem eql_dn (a b c d a' b' c' d' : Int) (r : Bool) (hr : decide ((((a, b), (c, d)) : DN) = ((a', b'), (c', d'))) = r) (w : World) : (binOp .eql 59 (.agg #[.int .i64 a, .int .i64 b, .int .i64 c, .int .i64 d]) (.agg #[.int .i64 a', .int .i64 b', .int .i64 c', .int .i64 d'])).run Tryz.prog w = .ok (.bool r) w := by
  rw [run_eql_struct, same_dn ((a, b), (c, d)) ((a', b'), (c', d')) r hr]
  rfl
theorem neql_dn (a b c d a' b' c' d' : Int) (r : Bool) (hr : decide ((((a, b), (c, d)) : DN) = ((a', b'), (c', d'))) = r) (w : World) : (binOp .neq 59 (.agg #[.int .i64 a, .int .i64 b, .int .i64 c, .int .i64 d]) (.agg #[.int .i64 a', .int .i64 b', .int .i64 c', .int .i64 d'])).run Tryz.prog w = .ok (.bool (!r)) w := by
  rw [run_neq_struct, same_dn ((a, b), (c, d)) ((a', b'), (c', d')) r hr]
  rfl
theorem geql_dn (x y : Operand) (xs ys : Array Value) (w : World) : (eqGuard .eql 59 x y (.agg xs) (.agg ys)).run Tryz.prog w = .ok () w :=
  run_eqGuard_agg w _ _ _ _ _ _ (by kernel_rfl)
theorem gneq_dn (x y : Operand) (xs ys : Array Value) (w : World) : (eqGuard .neq 59 x y (.agg xs) (.agg ys)).run Tryz.prog w = .ok () w :=
  run_eqGuard_agg w _ _ _ _ _ _ (by kernel_rfl)
theorem BlkV.four0' {w : World} {g : Nat} {t : TypeId} {a b c d : Value} (h : BlkV w g t #[a, b, c, d]) : w.cell? ⟨g, 0, none⟩ = some a := h.cell 0
theorem BlkV.four1' {w : World} {g : Nat} {t : TypeId} {a b c d : Value} (h : BlkV w g t #[a, b, c, d]) : w.cell? ⟨g, 1, none⟩ = some b := h.cell 1
theorem BlkV.four2' {w : World} {g : Nat} {t : TypeId} {a b c d : Value} (h : BlkV w g t #[a, b, c, d]) : w.cell? ⟨g, 2, none⟩ = some c := h.cell 2
theorem BlkV.four3' {w : World} {g : Nat} {t : TypeId} {a b c d : Value} (h : BlkV w g t #[a, b, c, d]) : w.cell? ⟨g, 3, none⟩ = some d := h.cell 3
theorem dn_eq_len {D1 D2 : List DN} (h : D1.length ≠ D2.length) : decide (D1 = D2) = false := decide_eq_false (fun e => h (by rw [e]))
theorem dn_eq_at {D1 D2 : List DN} {k : Nat} {x y : DN} (h1 : D1[k]? = some x) (h2 : D2[k]? = some y) (h : x ≠ y) : decide (D1 = D2) = false := decide_eq_false (fun e => h (by rw [e, h2] at h1; exact (Option.some.inj h1).symm))
theorem dn_eq_all {D1 D2 : List DN} {k : Nat} (h1 : D1.length = k) (h2 : D2.length = k) (h : D1.take k = D2.take k) : decide (D1 = D2) = true := by
  rw [List.take_of_length_le (by omega), List.take_of_length_le (by omega)] at h
  exact decide_eq_true h
theorem dquiet_f (b : Nat) (w : World) (n : Nat) : Below b w (w.drewN n) := ⟨rfl, rfl, rfl, Nat.le_refl _, fun _ _ => rfl⟩
def eqDB (z1 z2 : Int) (D1 D2 : List DN) : Bool := decide (z1 = z2) && decide (D1 = D2)

set_option maxRecDepth 100000 in
set_option maxHeartbeats 2000000 in
theorem eqd_impl (z1 : Int) (a1 : Option Addr) (c1 : Nat) (D1 : List DN) (z2 : Int) (a2 : Option Addr) (c2 : Nat) (D2 : List DN) (r : Bool) (w : World) (hr : eqDB z1 z2 D1 D2 = r) (h1 : SmDn w a1 D1 c1) (h2 : SmDn w a2 D2 c2) :
    Calls Tryz.prog 8 #[.agg #[.int .i64 z1, .slice a1 D1.length c1], .agg #[.int .i64 z2, .slice a2 D2.length c2]] w fun e w' => e = .returned (.bool r) ∧ Below w.heap.size w w' := by
  have hl1 := h1.len
  have hl2 := h2.len
  obtain ⟨w1, hw1⟩ : ∃ w1, (w.alloc (.cells #[.int .i64 z1, .slice a1 D1.length c1] 32)).alloc (.cells #[.int .i64 z2, .slice a2 D2.length c2] 32) = w1 := ⟨_, rfl⟩
  have HB1 := Lib.hid (show Below w.heap.size w w1 by rw [← hw1]; exact ((Below.refl w.heap.size w).alloc (Nat.le_refl _) _).alloc (by simp) _)
  have HX1 := Lib.hid (show BlkV w1 w.heap.size 32 #[.int .i64 z1, .slice a1 D1.length c1] by rw [← hw1]; exact (BlkV.new _ _ _).alloc _)
  have HX2 := Lib.hid (show BlkV w1 (w.heap.size + 1) 32 #[.int .i64 z2, .slice a2 D2.length c2] by rw [← hw1]; exact BlkV.new_ _ _ _ _ (by simp))
  have HS1 := Lib.hid (h1.below HB1.out).inDn
  have HS2 := Lib.hid (h2.below HB1.out).inDn
  clear h1 h2
  obtain ⟨n1, hn1⟩ : ∃ n, D1.length = n := ⟨_, rfl⟩
  obtain ⟨n2, hn2⟩ : ∃ n, D2.length = n := ⟨_, rfl⟩
  have HN1 := Lib.hid hn1
  have HN2 := Lib.hid hn2
  have HR := Lib.hid hr
  rw [hn1] at HX1 hw1 ⊢
  rw [hn2] at HX2 hw1 ⊢
  rw [hn1] at hl1
  rw [hn2] at hl2
  clear hn1 hn2 hr
  have q10 := HX1.out.two0
  have q11 := HX1.out.two1
  have q20 := HX2.out.two0
  have q21 := HX2.out.two1
  by_cases hz : z1 = z2
  · subst hz
    have hzb : (z1 != z1) = false := by simp
    by_cases hn : n1 = n2
    · subst hn
      have hnb : ((n1 : Int) != (n1 : Int)) = false := by simp
      have HRD := Lib.hid (show decide (D1 = D2) = r by rw [← HR.out]; unfold eqDB; simp)
      go_enter Tryz.func8, Tryz.ntmps8
      go_wp2
      go_loopw [24] (fun i wr => ∃ k : Nat, k ≤ n1 ∧ i = .int .i64 k ∧ D1.take k = D2.take k ∧ Below w1.heap.size w1 wr) (fun i _ => n1 - (intOf i).toNat)
      case atStart => exact ⟨0, Nat.zero_le _, rfl, rfl, Below.refl _ _⟩
      case round =>
        obtain ⟨k, hk, rfl, htk, hb⟩ := hrel
        have HB := Lib.hid hb
        have HTK := Lib.hid htk
        have q1 := (HX2.out.below hb).two1
        clear hb htk
        by_cases hlt : k < n1
        · obtain ⟨b1, o1, f, t, u, z, rfl, hb1, hx1, p0, p1, p2, p3⟩ := (HS1.out.below HB.out).at_ (show k < D1.length by rw [HN1.out]; exact hlt)
          obtain ⟨b2, o2, f', t', u', z', rfl, hb2, hx2, p4, p5, p6, p7⟩ := (HS2.out.below HB.out).at_ (show k < D2.length by rw [HN2.out]; exact hlt)
          obtain ⟨W1, hW1⟩ : ∃ W1, W1 = wr.alloc (.cells #[.int .i64 f, .int .i64 t, .int .i64 u, .int .i64 z] 59) := ⟨_, rfl⟩
          have HWB := Lib.hid (show Below wr.heap.size wr W1 by rw [hW1]; exact (Below.refl _ _).alloc (Nat.le_refl _) _)
          have HT4 := Lib.hid (show BlkV W1 wr.heap.size 59 #[.int .i64 f, .int .i64 t, .int .i64 u, .int .i64 z] by rw [hW1]; exact BlkV.new _ _ _)
          have x0 := HT4.out.four0'
          have x1 := HT4.out.four1'
          have x2 := HT4.out.four2'
          have x3 := HT4.out.four3'
          have y1 := (HX2.out.below (HB.out.trans (HWB.out.mono HB.out.size))).two1
          have y4 := (HWB.out.cell (p := ⟨b2, o2 + k * 4, none⟩) hb2).trans p4
          have y5 := (HWB.out.cell (p := ⟨b2, o2 + k * 4 + 1, none⟩) hb2).trans p5
          have y6 := (HWB.out.cell (p := ⟨b2, o2 + k * 4 + 2, none⟩) hb2).trans p6
          have y7 := (HWB.out.cell (p := ⟨b2, o2 + k * 4 + 3, none⟩) hb2).trans p7
          have HWW := Lib.hid hW1
          obtain ⟨b, hb⟩ : ∃ b, decide ((((f, t), (u, z)) : DN) = ((f', t'), (u', z'))) = b := ⟨_, rfl⟩
          have HBD := Lib.hid hb
          have he := fun W => neql_dn f t u z f' t' u' z' b hb W
          have hgd := fun x y xs ys W => gneq_dn x y xs ys W
          have H1 := Lib.hid hx1
          have H2 := Lib.hid hx2
          clear hx1 hx2 hb hb1 hb2 hW1 p4 p5 p6 p7 q1
          have hki : (k : Int) < (n1 : Int) := by omega
          cases b
          · obtain rfl : false = r := by rw [← HRD.out, dn_eq_at H1.out H2.out (of_decide_eq_false HBD.out)]
            go_wp2_with (fail)
            rw [← HWW.out]
            go_quiet (fail)
            go_wp2
            go_ret
            exact ⟨rfl, HB1.out.trans (((HB.out.trans (HWB.out.mono HB.out.size)).trans (dquiet_f _ _ _)).mono HB1.out.size)⟩
          · go_wp2_with (fail)
            rw [← HWW.out]
            go_quiet (fail)
            go_wp2
            go_roundw
            case rel => exact ⟨k + 1, by omega, by go_num, by rw [List.take_add_one, List.take_add_one, H1.out, H2.out, of_decide_eq_true HBD.out, HTK.out], (HB.out.trans (HWB.out.mono HB.out.size)).trans (dquiet_f _ _ _)⟩
            case measure => simp [intOf]; omega
        · obtain rfl : k = n1 := by omega
          obtain rfl : true = r := by rw [← HRD.out, dn_eq_all HN1.out HN2.out HTK.out]
          go_wp2
          go_ret
          exact ⟨rfl, HB1.out.trans (HB.out.mono HB1.out.size)⟩
    · obtain rfl : false = r := by rw [← HR.out]; unfold eqDB; rw [dn_eq_len (by rw [HN1.out, HN2.out]; exact hn), Bool.and_false]
      have hni : ((n1 : Int) != (n2 : Int)) = true := by simp; omega
      go_enter Tryz.func8, Tryz.ntmps8
      go_wp2
      go_ret
      exact ⟨rfl, HB1.out⟩
  · obtain rfl : false = r := by rw [← HR.out]; unfold eqDB; rw [decide_eq_false hz, Bool.false_and]
    have hzb : (z1 != z2) = true := by simp [hz]
    clear hz
    go_enter Tryz.func8, Tryz.ntmps8
    go_wp2
    go_ret
    exact ⟨rfl, HB1.out⟩

end Go.Proofs.YtpmfabpnjacegaaGreatDoor

/-
  A region that draws its order, whose loads are taken first under a condition S on the world, and whose LAST operation (number n, which waits for all others) writes one of the cells that S names: S is not asked behind it. By an AI agent.
-/
namespace Go.Proofs.YtpmfabpnjacegaaGreatDoor
open Go

variable {P : Program} {ops : Array Oper} {Q : Exit → Act → World → Prop} {md : Region.Mode} {S : World → Prop} {n : Nat}

/-- whichever comes up comes up; behind each but the last S holds -/
def anyE (P : Program) (md : Region.Mode) (ops : Array Oper) (Q : Exit → Act → World → Prop) (S : World → Prop) (n : Nat) : Nat → Array Bool → Act → World → Prop
  | 0, L, a, w => Region.ready md ops L = [] ∧ Q .normal a w
  | f + 1, L, a, w => (Region.ready md ops L = [] → Q .normal a w) ∧ ∀ i ∈ Region.ready md ops L, wpOp P ops Q i (fun a' w' => (i ≠ n → S w') ∧ anyE P md ops Q S n f (L.setIfInBounds i true) a' w') a w

theorem anyE_any : ∀ (f : Nat) (L : Array Bool) (a : Act) (w : World), anyE P md ops Q S n f L a w → wpAny P md ops Q f L a w
  | 0, _, _, _, h => h
  | f + 1, _, _, _, h => ⟨h.1, fun i hi => wpOp_mono (fun a' w' h' => anyE_any f _ a' w' h'.2) (h.2 i hi)⟩

/-- one that waits for i is not ready before i has come up -/
theorem not_ready {i j : Nat} {L : Array Bool} {oj : Oper} (hj : j ∈ Region.ready md ops L) (ho : ops[j]? = some oj) (hi : i ∈ Region.ready md ops L) : ∀ x ∈ oj.after, Region.binds md x = true → x.on ≠ i := by
  intro x hx hb he
  obtain ⟨_, o, ho', hall⟩ := mem_ready.1 hj
  rw [ho] at ho'
  obtain rfl := Option.some.inj ho'
  have h1 := hall x hx hb
  have h0 := (mem_ready.1 hi).1
  rw [he] at h1
  by_cases hs : i < L.size
  · simp [hs] at h0 h1
    rw [h0] at h1
    cases h1
  · simp [Array.getElem?_eq_none (Nat.le_of_not_lt hs)] at h1

/-- what is listed lists what it waits for -/
def Closed (md : Region.Mode) (ops : Array Oper) (L : Array Bool) : Prop := ∀ j oj, L.getD j false = true → ops[j]? = some oj → ∀ x ∈ oj.after, Region.binds md x = true → L.getD x.on false = true
def closedB (md : Region.Mode) (ops : Array Oper) (L : Array Bool) : Bool :=
  (List.range ops.size).all fun j => !(L.getD j false) || (match ops[j]? with
    | some oj => oj.after.all fun x => !(Region.binds md x) || L.getD x.on false
    | none => true)
theorem closed_of {L : Array Bool} (h : closedB md ops L = true) : Closed md ops L := by
  intro j oj hj ho x hx hb
  have hlt := (Array.getElem?_eq_some_iff.1 ho).1
  have h1 := List.all_eq_true.1 h j (List.mem_range.2 hlt)
  rw [hj, ho] at h1
  have h3 : oj.after.all (fun x => !(Region.binds md x) || L.getD x.on false) = true := by simpa only [Bool.not_true, Bool.false_or] using h1
  have h2 := Array.all_eq_true'.1 h3 x hx
  rw [hb] at h2
  simpa only [Bool.not_true, Bool.false_or] using h2
theorem closed_set {L : Array Bool} {j : Nat} (hc : Closed md ops L) (hj : j ∈ Region.ready md ops L) : Closed md ops (L.setIfInBounds j true) := by
  intro k ok hk ho x hx hb
  refine getD_set_true ?_
  obtain ⟨_, oj, hoj, hall⟩ := mem_ready.1 hj
  by_cases hjk : j = k
  · subst hjk
    rw [ho] at hoj
    obtain rfl := Option.some.inj hoj
    exact hall x hx hb
  · rw [getD_set_ne false hjk] at hk
    exact hc k ok hk ho x hx hb
/-- j waits for i, by way of others -/
def ancB (md : Region.Mode) (ops : Array Oper) : Nat → Nat → Nat → Bool
  | 0, _, _ => false
  | f + 1, j, i => match ops[j]? with
    | some oj => oj.after.any fun x => Region.binds md x && (x.on == i || ancB md ops f x.on i)
    | none => false
theorem anc_step {f j i : Nat} (h : ancB md ops (f + 1) j i = true) : ∃ oj, ops[j]? = some oj ∧ ∃ x ∈ oj.after, Region.binds md x = true ∧ (x.on = i ∨ ancB md ops f x.on i = true) := by
  unfold ancB at h
  split at h
  · rename_i oj hj
    obtain ⟨x, hx, hb⟩ := Array.any_eq_true'.1 h
    simp only [Bool.and_eq_true, Bool.or_eq_true, beq_iff_eq] at hb
    exact ⟨oj, hj, x, hx, hb.1, hb.2⟩
  · cases h
theorem anc_listed {L : Array Bool} (hc : Closed md ops L) : ∀ (f j i : Nat), ancB md ops f j i = true → L.getD j false = true → L.getD i false = true
  | 0, _, _, h, _ => by cases h
  | f + 1, j, i, h, hl => by
    obtain ⟨oj, hj, x, hx, hb, h1⟩ := anc_step h
    have h2 := hc j oj hl hj x hx hb
    rcases h1 with h1 | h1
    · rw [← h1]; exact h2
    · exact anc_listed hc f _ _ h1 h2
theorem anc_ready {L : Array Bool} (hc : Closed md ops L) {f j i : Nat} (h : ancB md ops f j i = true) (hr : j ∈ Region.ready md ops L) : L.getD i false = true := by
  cases f with
  | zero => cases h
  | succ f =>
    obtain ⟨oj, hj, x, hx, hb, h1⟩ := anc_step h
    obtain ⟨_, o, ho, hall⟩ := mem_ready.1 hr
    rw [hj] at ho
    obtain rfl := Option.some.inj ho
    have h2 := hall x hx hb
    rcases h1 with h1 | h1
    · rw [← h1]; exact h2
    · exact anc_listed hc f _ _ h1 h2

theorem anyE_first {i m : Nat} {oi : Oper} {v : Value} (hi : ops[i]? = some oi) (hsel : ∀ (j : Nat) (o : Oper) cs b, ops[j]? = some o → o.op ≠ .select cs b) (hQ : ∀ c a w, Q (.panic c) (a.put oi.dst v) w → Q (.panic c) a w)
    (hn : ancB md ops m n i = true) : ∀ (f : Nat) (L : Array Bool) (a : Act) (w : World), Closed md ops L →
    (∀ j oj, ops[j]? = some oj → j ≠ i → L.getD j true = false → (∀ x ∈ oj.after, Region.binds md x = true → x.on ≠ i) → oi.apart ops oj = true) →
    i ∈ Region.ready md ops L → YieldsIf P ops S oi v a → S w → anyE P md ops Q S n f (L.setIfInBounds i true) (a.put oi.dst v) w → anyE P md ops Q S n (f + 1) L a w
  | f, L, a, w, hc, hap, hr, hy, hS, H => by
    refine ⟨fun h0 => (by rw [h0] at hr; cases hr), fun j hj => ?_⟩
    by_cases hji : j = i
    · subst hji
      exact hy.wpOp hi hS ⟨fun _ => hS, H⟩
    cases f with
    | zero =>
      have h1 := ready_mono hj hji
      rw [H.1] at h1
      cases h1
    | succ f =>
      obtain ⟨hun, oj, hoj, -⟩ := mem_ready.1 hj
      have hno := not_ready hj hoj hr
      have hjn : j ≠ n := fun e => by
        subst e
        have h1 := anc_ready hc hn hj
        rw [getD_both (mem_ready.1 hr).1] at h1
        cases h1
      have hap' : ∀ k ok, ops[k]? = some ok → k ≠ i → (L.setIfInBounds j true).getD k true = false → (∀ x ∈ ok.after, Region.binds md x = true → x.on ≠ i) → oi.apart ops ok = true := fun k ok hk hki hku hkx => by
        by_cases hjk : j = k
        · subst hjk
          exact hap j ok hk hki hun hkx
        · rw [getD_set_ne true hjk] at hku
          exact hap k ok hk hki hku hkx
      have h2 := wpOp_putIf hoj (hap j oj hoj hji hun hno) (fun cs b => hsel i oi cs b hi) (fun cs b => hsel j oj cs b hoj) hQ hy (H.2 j (ready_mono hj hji))
      refine wpOp_mono (fun a' w' h3 => ?_) h2
      have hS' := h3.2.1 hjn
      refine ⟨fun _ => hS', anyE_first hi hsel hQ hn f _ a' w' (closed_set hc hj) hap' (ready_mono hr (Ne.symm hji)) h3.1 hS' ?_⟩
      rw [Array.setIfInBounds_comm _ _ hji]
      exact h3.2.2

theorem anyE_take {i : Nat} {oi : Oper} {v : Value} {f : Nat} {L : Array Bool} {a : Act} {w : World} (hi : ops[i]? = some oi) (hs : Region.noSelect ops = true) (hf : Region.free md ops L i = true) (hr : (Region.ready md ops L).contains i = true) (hn : ancB md ops ops.size n i = true) (hc : closedB md ops L = true)
    (hQ : ∀ c a w, Q (.panic c) (a.put oi.dst v) w → Q (.panic c) a w) (hy : YieldsIf P ops S oi v a) (hS : S w) (h : anyE P md ops Q S n f (L.setIfInBounds i true) (a.put oi.dst v) w) : anyE P md ops Q S n (f + 1) L a w :=
  anyE_first hi (Region.noSelect_spec hs) hQ hn f L a w (closed_of hc) (Region.free_spec hi hf) (by simpa using hr) hy hS h

theorem anyE_all {rs : List Nat} {f : Nat} {L : Array Bool} {a : Act} {w : World} (hr : Region.ready md ops L = rs) (hne : rs ≠ []) (h : ∀ i ∈ rs, wpOp P ops Q i (fun a' w' => (i ≠ n → S w') ∧ anyE P md ops Q S n f (L.setIfInBounds i true) a' w') a w) : anyE P md ops Q S n (f + 1) L a w :=
  ⟨fun h0 => absurd (hr ▸ h0) hne, hr ▸ h⟩
theorem anyE_one {i : Nat} {f : Nat} {L : Array Bool} {a : Act} {w : World} (hr : Region.ready md ops L = [i]) (h : wpOp P ops Q i (fun a' w' => (i ≠ n → S w') ∧ anyE P md ops Q S n f (L.setIfInBounds i true) a' w') a w) : anyE P md ops Q S n (f + 1) L a w :=
  anyE_all hr (by simp) (fun j hj => by simp at hj; subst hj; exact h)
theorem anyE_two {i j : Nat} {f : Nat} {L : Array Bool} {a : Act} {w : World} (hr : Region.ready md ops L = [i, j]) (h1 : wpOp P ops Q i (fun a' w' => (i ≠ n → S w') ∧ anyE P md ops Q S n f (L.setIfInBounds i true) a' w') a w)
    (h2 : wpOp P ops Q j (fun a' w' => (j ≠ n → S w') ∧ anyE P md ops Q S n f (L.setIfInBounds j true) a' w') a w) : anyE P md ops Q S n (f + 1) L a w :=
  anyE_all hr (by simp) (fun k hk => by simp at hk; rcases hk with rfl | rfl; exact h1; exact h2)
theorem anyE_step {i : Nat} {o : Oper} {f : Nat} {L : Array Bool} {a : Act} {w : World} (ho : ops[i]? = some o)
    (h : ∀ K' : Act → World → Prop, Shut (∀ a w, (i ≠ n → S w) → ((i ≠ n → S w) → anyE P md ops Q S n f (L.setIfInBounds i true) a w) → K' a w) → if Region.wanted o (yielded ops a.tmps) = true then Oper.wp P o a w K' Q else K' (a.put o.dst undef) w) :
    wpOp P ops Q i (fun a' w' => (i ≠ n → S w') ∧ anyE P md ops Q S n f (L.setIfInBounds i true) a' w') a w :=
  wpOp_step ho fun K' hK => h K' fun a w hS hW => hK a w ⟨hS, hW hS⟩
theorem anyE_done {L : Array Bool} {a : Act} {w : World} (hr : Region.ready md ops L = []) (h : Q .normal a w) : ∀ f, anyE P md ops Q S n f L a w
  | 0 => ⟨hr, h⟩
  | _ + 1 => ⟨fun _ => h, by rw [hr]; simp⟩
theorem wp_region_E {id : Nat} {a : Act} {w : World} (n : Nat) (hm : P.follows .mixedOrders = true) (hS : S w.drew) (h : S w.drew → anyE P .any ops Q S n ops.size (Array.replicate ops.size false) a w.drew) : (Code.region id ops true).wp P Q a w :=
  wp_region_any hm (anyE_any _ _ _ _ (h hS))

end Go.Proofs.YtpmfabpnjacegaaGreatDoor

