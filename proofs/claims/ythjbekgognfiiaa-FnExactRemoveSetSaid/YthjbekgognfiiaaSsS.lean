/-
  Slices of slices of strings: one that reads as a list of lists, one of the call's own. By an AI agent.
-/
import Derived.Test.YthjbekgognfiiaaJ1
import Derived.Test.YthjbekgognfiiaaMarks
import Derived.Test.YthjbekgognfiiaaTcS
import Derived.Deep.Slices
namespace Go.Proofs.Ythjbekgognfiiaa
open Go.RowKit
set_option linter.unusedVariables false

/-- a slice whose elements are the lists of a list -/
def InSS (w : World) (a : Option Addr) (ls : List (List Str)) : Prop :=
  0 < ls.length → ∃ b off, a = some ⟨b, off, none⟩ ∧ b < w.heap.size ∧ ∀ j l, ls[j]? = some l → ∃ a' c', w.cell? ⟨b, off + j, none⟩ = some (.slice a' l.length c') ∧ (a' = none → c' = 0) ∧ l.length ≤ c' ∧ InS w a' l
theorem InSS.below {w w' : World} {a : Option Addr} {ls : List (List Str)} (h : InSS w a ls) (hb : Below w.heap.size w w') : InSS w' a ls := by
  intro h0
  obtain ⟨b, off, ha, hlt, hc⟩ := h h0
  refine ⟨b, off, ha, Nat.lt_of_lt_of_le hlt hb.size, fun j l hj => ?_⟩
  obtain ⟨a', c', h1, h2, h3, h4⟩ := hc j l hj
  exact ⟨a', c', (World.cell?_of_block (hb.block b hlt)).trans h1, h2, h3, h4.below hb⟩

/-- an argument of a law -/
def ArgSS (w : World) (a : Option Addr) (ls : List (List Str)) : Prop := InSS w a ls ∧ ls.length ≤ maxLen ∧ ∀ l ∈ ls, l.length ≤ maxLen ∧ ∀ x ∈ l, x.length ≤ maxLen
theorem argSS_of {w : World} {x : Addr} {len cap : Nat} (hl : len ≤ cap) (hm : cap ≤ maxLen) (h : ∀ i, i < len → ∃ (a' : Option Addr) (l : List Str) (c' : Nat), w.cell? (x.add i) = some (.slice a' l.length c') ∧ (a' = none → c' = 0) ∧ l.length ≤ c' ∧ ArgS w a' l) : ∃ L : List (List Str), len = L.length ∧ ArgSS w (some x) L := by
  obtain ⟨f, hf⟩ := Go.Deep.choose_lt (n := len) (p := fun i (q : Option Addr × List Str × Nat) => w.cell? (x.add i) = some (.slice q.1 q.2.1.length q.2.2) ∧ (q.1 = none → q.2.2 = 0) ∧ q.2.1.length ≤ q.2.2 ∧ ArgS w q.1 q.2.1) (fun i hi => by obtain ⟨a', l, c', h1⟩ := h i hi; exact ⟨(a', l, c'), h1⟩)
  refine ⟨(List.range len).map fun i => (f i).2.1, by simp, fun h0 => ?_, by simp; omega, fun y hy => ?_⟩
  · simp at h0
    obtain ⟨b, off, spot⟩ := x
    have hspot : spot = none := by simpa [Addr.add] using World.cell?_spot (hf 0 (by omega)).1
    subst hspot
    have hadd : ∀ j, (⟨b, off, none⟩ : Addr).add j = ⟨b, off + j, none⟩ := fun j => by unfold Addr.add; split <;> simp_all
    refine ⟨b, off, rfl, World.block_lt_of_cell? w _ (hf 0 (by omega)).1, fun j y hj => ?_⟩
    obtain ⟨hlt, he⟩ := List.getElem?_eq_some_iff.1 hj
    simp at hlt he
    obtain ⟨h1, h2, h3, h4⟩ := hf j hlt
    rw [hadd] at h1
    subst he
    exact ⟨_, _, h1, h2, h3, h4.1⟩
  · obtain ⟨i, hi, rfl⟩ := List.mem_map.1 hy
    exact (hf i (List.mem_range.1 hi)).2.2.2.2

/-- the values and letters of the lists -/
def yzT (ls : List (List Str)) (k : Nat) : Nat := ls.length + ((ls.take k).map szL).sum
def yzL (ls : List (List Str)) : Nat := yzT ls ls.length
theorem ss_take {ls : List (List Str)} {k : Nat} {l : List Str} (h : ls[k]? = some l) : ls.take (k + 1) = ls.take k ++ [l] := by
  obtain ⟨hlt, he⟩ := List.getElem?_eq_some_iff.1 h
  rw [List.take_succ_eq_append_getElem hlt, he]
theorem yzT_succ {ls : List (List Str)} {k : Nat} {l : List Str} (h : ls[k]? = some l) : yzT ls (k + 1) = yzT ls k + szL l := by
  unfold yzT
  rw [ss_take h]
  simp
  omega
theorem yzT_le {ls : List (List Str)} {j k : Nat} (h : j ≤ k) : yzT ls j ≤ yzT ls k := by
  obtain ⟨d, rfl⟩ : ∃ d, k = j + d := ⟨k - j, by omega⟩
  unfold yzT
  rw [List.take_add]
  simp
theorem yzL_len (ls : List (List Str)) : ls.length ≤ yzL ls := by unfold yzL yzT; omega
theorem yzL_mem {ls : List (List Str)} {l : List Str} (h : l ∈ ls) : szL l ≤ yzL ls := by
  obtain ⟨k, hk⟩ := List.getElem?_of_mem h
  have h1 := yzT_succ hk
  have h2 := yzT_le (ls := ls) (show k + 1 ≤ ls.length from (List.getElem?_eq_some_iff.1 hk).1)
  unfold yzL
  omega
theorem flat_sum (ls : List (List Str)) : ls.flatten.length ≤ (ls.map szL).sum := by
  induction ls with
  | nil => simp
  | cons l ls ih =>
    have := szL_len l
    simp only [List.flatten_cons, List.length_append, List.map_cons, List.sum_cons]
    omega
theorem yzL_flat (ls : List (List Str)) : ls.flatten.length ≤ yzL ls := by
  have h := flat_sum ls
  unfold yzL yzT
  rw [List.take_length]
  omega
theorem yz_len {ls : List (List Str)} (hs : yzL ls ≤ 1048576) : ls.length ≤ 4000000 := by have := yzL_len ls; omega
def yzR (ls : List (List Str)) (left : Nat) : Int := if yzL ls ≤ left then (left : Int) - (yzL ls : Int) else -1
theorem yzR_yes {ls : List (List Str)} {left : Nat} (h : yzL ls ≤ left) : yzR ls left = ((left - yzL ls : Nat) : Int) := by unfold yzR; rw [if_pos h]; omega
theorem yzR_no {ls : List (List Str)} {left : Nat} (h : ¬ yzL ls ≤ left) : yzR ls left = -1 := by unfold yzR; rw [if_neg h]

/-- an argument of moderate size -/
def SmSS (w : World) (a : Option Addr) (ls : List (List Str)) : Prop := InSS w a ls ∧ ls.length ≤ 4000000 ∧ ls.flatten.length ≤ 4000000 ∧ ∀ l ∈ ls, ∀ x ∈ l, x.length ≤ 1048576
theorem SmSS.below {w w' : World} {a : Option Addr} {ls : List (List Str)} (h : SmSS w a ls) (hb : Below w.heap.size w w') : SmSS w' a ls := ⟨h.1.below hb, h.2⟩

/-- what is written into the blocks from lo on and below hi alone -/
structure Chg (w w' : World) (lo hi : Nat) : Prop where
  os : w'.os = w.os
  tape : w'.tape = w.tape
  output : w'.output = w.output
  size : w.heap.size ≤ w'.heap.size
  block : ∀ k, k < w.heap.size → ¬ (lo ≤ k ∧ k < hi) → w'.heap[k]? = w.heap[k]?
theorem Chg.refl (w : World) (lo hi : Nat) : Chg w w lo hi := ⟨rfl, rfl, rfl, Nat.le_refl _, fun _ _ _ => rfl⟩
theorem Chg.grown {w w1 w2 : World} {lo hi : Nat} {r : Option Nat} (h : Chg w w1 lo hi) (hg : w1.grownBy w2 r) (hr : ∀ k, r = some k → lo ≤ k ∧ k < hi) : Chg w w2 lo hi :=
  ⟨hg.os.trans h.os, hg.tape.trans h.tape, hg.output.trans h.output, Nat.le_trans h.size hg.size, fun k hk hn => (hg.block k (Nat.lt_of_lt_of_le hk h.size) (fun e => hn (hr k e.symm))).trans (h.block k hk hn)⟩
theorem below_chg {w0 w w' : World} {lo hi : Nat} (hb : Below w0.heap.size w0 w) (h : Chg w w' lo hi) (hlo : w0.heap.size ≤ lo) : Below w0.heap.size w0 w' :=
  ⟨h.os.trans hb.os, h.tape.trans hb.tape, h.output.trans hb.output, Nat.le_trans hb.size h.size, fun k hk => (h.block k (Nat.lt_of_lt_of_le hk hb.size) (by omega)).trans (hb.block k hk)⟩
theorem row_chg {w w' : World} {lo hi base : Nat} {e : TypeId} {size n : Nat} {v : Value} {xs : List Value} (h : w.ownsRow base e size v n xs) (hc : Chg w w' lo hi) (hn : ∀ k, v.ownBlock = some k → ¬ (lo ≤ k ∧ k < hi)) : w'.ownsRow base e size v n xs := by
  refine ⟨h.1, ?_⟩
  rcases h.2 with h1 | ⟨g, cap, cur, rfl, hb, hg, rest⟩
  · exact .inl h1
  · exact .inr ⟨g, cap, cur, rfl, hb, (hc.block g (Array.getElem?_eq_some_iff.1 hg).1 (hn g rfl)).trans hg, rest⟩
theorem OwnHT.chg {w w' : World} {lo hi lo' hi' : Nat} {v : Value} {l : List TC} (h : OwnHT w lo hi v l) (hc : Chg w w' lo' hi') (hd : hi ≤ lo' ∨ hi' ≤ lo) : OwnHT w' lo hi v l :=
  ⟨row_chg h.1 hc fun k hk => by have := h.row k hk; omega, h.2⟩
theorem OwnH.chg {w w' : World} {lo hi lo' hi' : Nat} {v : Value} {l : List Str} (h : OwnH w lo hi v l) (hc : Chg w w' lo' hi') (hd : hi ≤ lo' ∨ hi' ≤ lo) : OwnH w' lo hi v l :=
  ⟨row_chg h.1 hc fun k hk => by have := h.row k hk; omega, h.2⟩

/-- a slice of slices of the call's own -/
structure OwnSS (w : World) (lo : Nat) (v : Value) (vs : List Value) (ls : List (List Str)) : Prop where
  len : vs.length = ls.length
  out : w.ownsRow lo 26 1 v ls.length vs
  row : ∀ (j : Nat) (u : Value) (l : List Str), vs[j]? = some u → ls[j]? = some l → OwnS w lo u l
  apart : ∀ (j : Nat) (u : Value) (k : Nat), vs[j]? = some u → u.ownBlock = some k → v.ownBlock ≠ some k
  dis : ∀ (i j : Nat) (u z : Value) (k : Nat), i ≠ j → vs[i]? = some u → vs[j]? = some z → u.ownBlock = some k → z.ownBlock ≠ some k
theorem OwnSS.below {w w' : World} {lo : Nat} {v : Value} {vs : List Value} {ls : List (List Str)} (h : OwnSS w lo v vs ls) (hb : Below w.heap.size w w') : OwnSS w' lo v vs ls :=
  ⟨h.len, World.ownsRow.kept h.out (row := none) ⟨hb.os, hb.tape, hb.output, hb.size, fun i hi _ => hb.block i hi⟩ (by cases hv : v.ownBlock <;> simp), fun j u l h1 h2 => (h.row j u l h1 h2).below hb, h.apart, h.dis⟩
theorem cell_own {w : World} {base : Nat} {e : TypeId} {a : Option Addr} {n cap : Nat} {xs : List Value} (h : w.ownsRow base e 1 (.slice a n cap) n xs) (h0 : 0 < n) : ∃ g, a = some ⟨g, 0, none⟩ ∧ base ≤ g ∧ g < w.heap.size ∧ ∀ j u, xs[j]? = some u → w.cell? ⟨g, 0 + j, none⟩ = some u := by
  rcases h.2 with ⟨_, h1⟩ | ⟨g, cap', cur, hv, hb, hg, _, _, _, ht⟩
  · omega
  · simp only [Value.slice.injEq] at hv
    refine ⟨g, hv.1, hb, (Array.getElem?_eq_some_iff.1 hg).1, fun j u hj => ?_⟩
    have hlt := (List.getElem?_eq_some_iff.1 hj).1
    rw [h.1] at hlt
    rw [Nat.zero_add, cell_of_row w g j cur _ (0, 0) hg, ← Array.getElem?_toList]
    have h2 : (cur.toList.take (n * 1))[j]? = xs[j]? := by rw [ht]
    rw [List.getElem?_take_of_lt hlt] at h2
    rw [h2, hj]
theorem OwnSS.inSS {w : World} {lo : Nat} {a : Option Addr} {cap : Nat} {vs : List Value} {ls : List (List Str)} (h : OwnSS w lo (.slice a ls.length cap) vs ls) : InSS w a ls := by
  intro h0
  obtain ⟨g, rfl, _, hg, hc⟩ := cell_own h.out h0
  refine ⟨g, 0, rfl, hg, fun j l hj => ?_⟩
  have hlt := (List.getElem?_eq_some_iff.1 hj).1
  have hv : vs[j]? = some (vs[j]'(by rw [h.len]; exact hlt)) := List.getElem?_eq_getElem _
  have ho := h.row j _ l hv hj
  obtain ⟨a', c', e⟩ := ho.shape
  have hcell := hc j _ hv
  rw [e] at ho hcell
  exact ⟨a', c', hcell, ho.none_cap, ho.cap_ge, ho.inS⟩

def OwnHS (w : World) (lo hi : Nat) (v : Value) (vs : List Value) (ls : List (List Str)) : Prop := OwnSS w lo v vs ls ∧ (∀ k, v.ownBlock = some k → lo ≤ k ∧ k < hi) ∧ ∀ (j : Nat) (u : Value) (k : Nat), vs[j]? = some u → u.ownBlock = some k → lo ≤ k ∧ k < hi
def GivesSS (w : World) (ls : List (List Str)) (e : Ending) (w' : World) : Prop :=
  ∃ a cap vs, e = .returned (.slice a ls.length cap) ∧ OwnSS w' w.heap.size (.slice a ls.length cap) vs ls ∧ Below w.heap.size w w'
theorem OwnHS.of {w w' : World} {a : Option Addr} {cap : Nat} {vs : List Value} {ls : List (List Str)} (h : OwnSS w' w.heap.size (.slice a ls.length cap) vs ls) : OwnHS w' w.heap.size w'.heap.size (.slice a ls.length cap) vs ls :=
  ⟨h, fun k hk => World.ownsRow.lt h.out k hk, fun j u k hj hk => by
    have hlt := (List.getElem?_eq_some_iff.1 hj).1
    rw [h.len] at hlt
    exact World.ownsRow.lt (h.row j u _ hj (List.getElem?_eq_getElem hlt)) k hk⟩
theorem OwnHS.below {w w' : World} {lo hi : Nat} {v : Value} {vs : List Value} {ls : List (List Str)} (h : OwnHS w lo hi v vs ls) (hb : Below w.heap.size w w') : OwnHS w' lo hi v vs ls := ⟨h.1.below hb, h.2⟩
theorem OwnHS.inSS {w : World} {lo hi : Nat} {a : Option Addr} {cap : Nat} {vs : List Value} {ls : List (List Str)} (h : OwnHS w lo hi (.slice a ls.length cap) vs ls) : InSS w a ls := h.1.inSS
theorem sm_of_yz {w : World} {a : Option Addr} {ls : List (List Str)} (h : InSS w a ls) (hz : yzL ls ≤ 1048576) : SmSS w a ls :=
  ⟨h, yz_len hz, by have := yzL_flat ls; omega, fun l hl x hx => by have := yzL_mem hl; have := szL_mem hx; omega⟩
theorem OwnHS.smS {w : World} {lo hi : Nat} {a : Option Addr} {cap : Nat} {vs : List Value} {ls : List (List Str)} (h : OwnHS w lo hi (.slice a ls.length cap) vs ls) (hz : yzL ls ≤ 1048576) : SmSS w a ls := sm_of_yz h.inSS hz

end Go.Proofs.Ythjbekgognfiiaa
