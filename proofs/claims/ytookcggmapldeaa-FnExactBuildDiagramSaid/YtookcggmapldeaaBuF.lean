/-
  Appending nodes to a row behind a pointer: what stays; bits. By an AI agent.
-/
import Derived.Test.YtookcggmapldeaaPlainBd
import Derived.Test.YtookcggmapldeaaDnT
import Derived.Deep.AppendLies
namespace Go.Proofs.Ytookcggmapldeaa
open Go.RowKit
set_option linter.unusedVariables false
set_option linter.unusedSimpArgs false
set_option linter.unnecessarySimpa false

/-- what a function that appends to a row behind a pointer leaves as it was -/
structure Fr (W W' : World) (g : Nat) (v v' : Value) : Prop where
  os : W'.os = W.os
  tape : W'.tape = W.tape
  output : W'.output = W.output
  size : W.heap.size ≤ W'.heap.size
  block : ∀ k, k < W.heap.size → k ≠ g → v.ownBlock ≠ some k → W'.heap[k]? = W.heap[k]?
  own : ∀ k, v'.ownBlock = some k → v.ownBlock = some k ∨ W.heap.size ≤ k
theorem Fr.refl (W : World) (g : Nat) (v : Value) : Fr W W g v v := ⟨rfl, rfl, rfl, Nat.le_refl _, fun _ _ _ _ => rfl, fun k h => .inl h⟩
theorem Fr.trans {W W1 W2 : World} {g : Nat} {v v1 v2 : Value} (h : Fr W W1 g v v1) (k : Fr W1 W2 g v1 v2) : Fr W W2 g v v2 := by
  refine ⟨k.os.trans h.os, k.tape.trans h.tape, k.output.trans h.output, Nat.le_trans h.size k.size, fun j hj hg hv => (k.block j (Nat.lt_of_lt_of_le hj h.size) hg fun e => ?_).trans (h.block j hj hg hv), fun j hj => ?_⟩
  · rcases h.own j e with h1 | h1
    · exact hv h1
    · omega
  · rcases k.own j hj with h1 | h1
    · exact h.own j h1
    · exact .inr (Nat.le_trans h.size h1)
theorem Fr.below {W W1 W2 : World} {g : Nat} {v v1 : Value} (h : Fr W W1 g v v1) (hb : Below W1.heap.size W1 W2) : Fr W W2 g v v1 :=
  h.trans ⟨hb.os, hb.tape, hb.output, hb.size, fun k hk _ _ => hb.block k hk, fun k h => .inl h⟩
theorem Fr.low {w0 W W' : World} {g : Nat} {v v' : Value} (h : Fr W W' g v v') (hb : Below w0.heap.size w0 W) (hg : w0.heap.size ≤ g) (hv : ∀ k, v.ownBlock = some k → w0.heap.size ≤ k) : Below w0.heap.size w0 W' :=
  ⟨h.os.trans hb.os, h.tape.trans hb.tape, h.output.trans hb.output, Nat.le_trans hb.size h.size, fun k hk => (h.block k (Nat.lt_of_lt_of_le hk hb.size) (by omega) (fun e => by have := hv k e; omega)).trans (hb.block k hk)⟩
/-- a block that came up after the row does not hold it -/
theorem Fr.apart {W W' : World} {g b : Nat} {v v' : Value} (h : Fr W W' g v v') (hv : v.ownBlock ≠ some b) (hb : b < W.heap.size) : v'.ownBlock ≠ some b := fun e => by
  rcases h.own b e with h1 | h1
  · exact hv h1
  · omega
theorem Fr.blk {W W' : World} {g b : Nat} {v v' : Value} {ty : TypeId} {cs : Array Value} (h : Fr W W' g v v') (hb : BlkV W b ty cs) (hg : b ≠ g) (hv : v.ownBlock ≠ some b) : BlkV W' b ty cs := (h.block b hb.lt hg hv).trans hb

theorem Fr.grown {W W1 W2 : World} {g b : Nat} {v v1 v2 : Value} (h : Fr W W1 g v v1) (hg : W1.grownBy W2 v1.ownBlock) (hv : v2.ownBlock = some b) (hb : v1.ownBlock = some b ∨ b = W1.heap.size) : Fr W W2 g v v2 :=
  h.trans ⟨hg.os, hg.tape, hg.output, hg.size, fun k hk _ hn => hg.block k hk (fun e => hn e.symm), fun k hk => by
    rw [hv] at hk
    injection hk with hk
    subst hk
    rcases hb with h1 | h1
    · exact .inl h1
    · exact .inr (by omega)⟩
theorem Fr.setg {W W1 : World} {g : Nat} {v v1 : Value} (h : Fr W W1 g v v1) (j : Nat) (u : Value) : Fr W (W1.setCell ⟨g, j, none⟩ u) g v v1 :=
  h.trans ⟨rfl, rfl, rfl, by simp [World.setCell], fun k _ hk _ => Below.heap_setCell W1 ⟨g, j, none⟩ u k hk, fun k hk => .inl hk⟩
theorem step_nodeP {ops : Array Oper} {o : Oper} {a : Act} {W : World} {K : Act → World → Prop} {Q : Exit → Act → World → Prop} {E : Prop} (hgd : o.guard = none) (s y : Operand)
    (hop : o.op = .call { callee := .builtin .append, args := #[s, y], argTypes := #[37, 37] })
    (base : Nat) (v : Value) (l F : List DN) (n m : Nat) (t : DN) (hown : OwnDn W base v l) (hs : a.eval s = v) (hF : l ++ [t] = F) (hn : l.length = n) (hm : n + 1 = m) (q : Nat)
    (hy : a.eval y = .slice (some ⟨q, 0, none⟩) 1 1) (hc : BlkV W q 86 #[.int .i64 t.1.1, .int .i64 t.1.2, .int .i64 t.2.1, .int .i64 t.2.2]) (hlen : n ≤ 4000000) (hbase : base ≤ W.heap.size)
    (h : ∀ g cap w', OwnDn w' base (.slice (some ⟨g, 0, none⟩) m cap) F → W.grownBy w' v.ownBlock → (v.ownBlock = some g ∨ g = W.heap.size) → K (a.put o.dst (.slice (some ⟨g, 0, none⟩) m cap)) w') :
    if Region.wanted o (yielded ops a.tmps) = true then Oper.wp Try.prog o a W K Q else E := by
  obtain ⟨i0, hi, hz0, hz1, hz2⟩ := dinfo_get info_dn
  subst hn
  refine step_append_lies _ hgd s y 37 hop base 86 i0 _ 4 32 Try.underlying37 hi hz0 hz1 hz2 rfl (by decide) v l.length (flatDn l) hs hown
    ⟨q, 0, none⟩ 1 1 [.int .i64 t.1.1, .int .i64 t.1.2, .int .i64 t.2.1, .int .i64 t.2.2] hy rfl (World.news_of_block (cs := #[.int .i64 t.1.1, .int .i64 t.1.2, .int .i64 t.2.1, .int .i64 t.2.2]) (fr := (0, 0)) hc) (by simp [Value.oneCell'])
    (by omega) (by unfold maxLen; omega) (by omega) hbase W.heap.size rfl ?_
  intro g cap w' h2 h3 h4 _
  rw [hm] at h2 ⊢
  refine h g cap w' ?_ h3 h4
  unfold OwnDn
  have e : F.length = m := by rw [← hF, ← hm]; simp
  rw [e, ← hF, flatDn_snoc]
  exact h2

theorem bit_or (N i : Nat) (h : N < 2 ^ i) (hi : i < 9) : bits BinOp.or IntKind.i64 (N : Int) (IntKind.i64.wrap (2 ^ i)) = ((N + 2 ^ i : Nat) : Int) := by
  have h1 : ∀ i : Fin 9, ∀ N : Fin 512, N.val < 2 ^ i.val → bits BinOp.or IntKind.i64 ((N.val : Nat) : Int) (IntKind.i64.wrap (2 ^ i.val)) = ((N.val + 2 ^ i.val : Nat) : Int) := by decide +kernel
  have h2 : 2 ^ i ≤ 2 ^ 9 := Nat.pow_le_pow_right (by decide) (by omega)
  exact h1 ⟨i, hi⟩ ⟨N, by omega⟩ h

theorem bld_zero {R : List (List TS)} {V : List IQ} {bs : List Bool} {D D' : List DN} {x : Int} (h : bldD R V 0 bs D = (x, D')) : (if vaR R V bs then (1 : Int) else 0) = x ∧ D = D' := by
  rw [bldD] at h
  exact Prod.mk.inj h


end Go.Proofs.Ytookcggmapldeaa
