/-
  What stays of impl's builder while it builds. By an AI agent.
-/
import Derived.Test.YtpmfabpnjacegaaGreatDoorDcI
namespace Go.Proofs.YtpmfabpnjacegaaGreatDoor
open Go.RowKit Go.Maps
set_option linter.unusedVariables false
set_option linter.unusedSimpArgs false
set_option linter.unnecessarySimpa false

theorem GMap.same {α : Type} {k : TypeId} {kl : α → Lit} {ok : α → Prop} {w w' : World} {b n : Nat} {f : α → Option Value} (h : GMap k kl ok w b n f) (hb : w'.heap[b]? = w.heap[b]?) : GMap k kl ok w' b n f := by
  obtain ⟨D, ⟨es, clock, h1, h2⟩, h3⟩ := h
  exact ⟨D, ⟨es, clock, hb.trans h1, h2⟩, h3⟩
theorem FrB.apart {W W' : World} {G : List Nat} {b : Nat} {v v' : Value} (h : FrB W W' G v v') (hv : v.ownBlock ≠ some b) (hb : b < W.heap.size) : v'.ownBlock ≠ some b := fun e => by
  rcases h.own b e with h1 | h1
  · exact hv h1
  · omega
theorem FrB.blk {W W' : World} {G : List Nat} {b : Nat} {v v' : Value} {ty : TypeId} {cs : Array Value} (h : FrB W W' G v v') (hb : BlkV W b ty cs) (hg : b ∉ G) (hv : v.ownBlock ≠ some b) : BlkV W' b ty cs := (h.block b hb.lt hg hv).trans hb
theorem FrB.low {w0 W W' : World} {G : List Nat} {v v' : Value} (h : FrB W W' G v v') (hb : Below w0.heap.size w0 W) (hg : ∀ g ∈ G, w0.heap.size ≤ g) (hv : ∀ k, v.ownBlock = some k → w0.heap.size ≤ k) : Below w0.heap.size w0 W' :=
  ⟨h.os.trans hb.os, h.tape.trans hb.tape, h.output.trans hb.output, Nat.le_trans hb.size h.size, fun k hk => (h.block k (Nat.lt_of_lt_of_le hk hb.size) (fun e => by have := hg k e; omega) (fun e => by have := hv k e; omega)).trans (hb.block k hk)⟩
theorem BSt.one {W W' : World} {gB lo : Nat} {aR : Option Addr} {nR cR : Nat} {aV : Option Addr} {nV cV bm br : Nat} {a : Option Addr} {c m : Nat} {D : List DN} (h : BSt W gB lo aR nR cR aV nV cV bm br a c m D) (hg : W.grownBy W' (some bm)) (h1 : gB ≠ bm) (h2 : br ≠ bm) (h3 : bm < lo) : BSt W' gB lo aR nR cR aV nV cV bm br a c m D :=
  ⟨(hg.block gB h.box.lt (fun e => by injection e with e; exact h1 e)).trans h.box, h.len, h.refs.kept hg (fun e => by injection e with e; exact h2 e), row_keptO h.own hg (fun k hk e => by injection hk with hk; subst hk; have := (World.ownsRow.lt h.own _ e).1; omega), h.ok⟩

/-- the values that the variables have got -/
def Agree (fv : IQ → Option Value) (V : List IQ) (bs : List Bool) : Prop := ∀ (j : Nat) (p : IQ) (b : Bool), V[j]? = some p → bs[j]? = some b → fv p = some (.bool b)
def valG (fv : IQ → Option Value) (p : IQ) : Bool := match fv p with | some (.bool b) => b | _ => false
theorem Agree.none (fv : IQ → Option Value) (V : List IQ) : Agree fv V [] := fun j p b _ h => by simp at h
theorem Agree.cut {fv : IQ → Option Value} {V : List IQ} {bs : List Bool} {b : Bool} (h : Agree fv V (bs ++ [b])) : Agree fv V bs := fun j p x h1 h2 => h j p x h1 (by
  rw [List.getElem?_append_left (List.getElem?_eq_some_iff.1 h2).1]; exact h2)
theorem nodup_at {V : List IQ} {j k : Nat} {p : IQ} (hd : V.Nodup) (h1 : V[j]? = some p) (h2 : V[k]? = some p) : j = k := by
  obtain ⟨l1, e1⟩ := List.getElem?_eq_some_iff.1 h1
  obtain ⟨l2, e2⟩ := List.getElem?_eq_some_iff.1 h2
  rcases Nat.lt_trichotomy j k with h | h | h
  · exact absurd (e1.trans e2.symm) (List.pairwise_iff_getElem.1 hd j k l1 l2 h)
  · exact h
  · exact absurd (e2.trans e1.symm) (List.pairwise_iff_getElem.1 hd k j l2 l1 h)
theorem any_ext {α : Type} {p q : α → Bool} : ∀ {l : List α}, (∀ x ∈ l, p x = q x) → l.any p = l.any q
  | [], _ => rfl
  | x :: l, h => by rw [List.any_cons, List.any_cons, h x (List.mem_cons_self ..), any_ext fun y hy => h y (List.mem_cons_of_mem _ hy)]
theorem all_ext {α : Type} {p q : α → Bool} : ∀ {l : List α}, (∀ x ∈ l, p x = q x) → l.all p = l.all q
  | [], _ => rfl
  | x :: l, h => by rw [List.all_cons, List.all_cons, h x (List.mem_cons_self ..), all_ext fun y hy => h y (List.mem_cons_of_mem _ hy)]
theorem Agree.put {fv : IQ → Option Value} {V : List IQ} {bs : List Bool} {p : IQ} (h : Agree fv V bs) (hd : V.Nodup) (hp : V[bs.length]? = some p) (b : Bool) : Agree (fun x => if x = p then some (.bool b) else fv x) V (bs ++ [b]) := fun j y x h1 h2 => by
  show (if y = p then some (Value.bool b) else fv y) = some (.bool x)
  by_cases hj : j < bs.length
  · rw [List.getElem?_append_left hj] at h2
    have hne : y ≠ p := fun e => by subst e; have := nodup_at hd h1 hp; omega
    rw [if_neg hne]
    exact h j y x h1 h2
  · have hj2 : j = bs.length := by
      have := (List.getElem?_eq_some_iff.1 h2).1
      simp at this
      omega
    subst hj2
    rw [h1] at hp
    injection hp with hp
    rw [if_pos hp]
    simp at h2
    rw [h2]
theorem Agree.val {fv : IQ → Option Value} {V : List IQ} {bs : List Bool} (h : Agree fv V bs) (hl : bs.length = V.length) {p : IQ} (hp : p ∈ V) : ∃ (j : Nat) (b : Bool), V[j]? = some p ∧ bs[j]? = some b ∧ fv p = some (.bool b) ∧ valG fv p = b := by
  obtain ⟨j, hj⟩ := List.mem_iff_getElem?.1 hp
  have hb : bs[j]? = some (bs[j]'(by rw [hl]; exact (List.getElem?_eq_some_iff.1 hj).1)) := List.getElem?_eq_getElem _
  have hv := h j p _ hj hb
  exact ⟨j, _, hj, hb, hv, by unfold valG; rw [hv]⟩
theorem te_val {fv : IQ → Option Value} {V : List IQ} {bs : List Bool} (h : Agree fv V bs) (hl : bs.length = V.length) (hd : V.Nodup) {t : TS} (ht : t.1 ∈ V) : teB V bs t = teF (valG fv) t := by
  obtain ⟨j, b, hj, hb, _, hv⟩ := h.val hl ht
  unfold teF
  rw [hv]
  unfold teB
  rw [Bool.eq_iff_iff, List.all_eq_true]
  constructor
  · intro ha
    have hm : (t.1, b) ∈ V.zip bs := by
      refine List.mem_of_getElem? (i := j) ?_
      exact List.getElem?_zip_eq_some.2 ⟨hj, hb⟩
    have h1 := ha _ hm
    simp at h1
    simp only [bne_iff_ne]
    exact h1
  · intro ha q hq
    obtain ⟨k, hk⟩ := List.mem_iff_getElem?.1 hq
    obtain ⟨h1, h2⟩ := List.getElem?_zip_eq_some.1 hk
    simp only [bne_iff_ne] at ha
    by_cases e : q.1 = t.1
    · rw [e] at h1
      have := nodup_at hd hj h1
      subst this
      rw [hb] at h2
      injection h2 with h2
      rw [← h2]
      simp [e, ha]
    · simp [e]
theorem va_val {fv : IQ → Option Value} {V : List IQ} {bs : List Bool} {R : List (List TS)} (h : Agree fv V bs) (hl : bs.length = V.length) (hd : V.Nodup) (hm : ∀ l ∈ R, ∀ t ∈ l, t.1 ∈ V) : R.any (fun l => l.all (teF (valG fv))) = vaR R V bs := by
  unfold vaR
  exact any_ext fun l hl2 => all_ext fun t ht => (te_val h hl hd (hm l hl2 t ht)).symm

end Go.Proofs.YtpmfabpnjacegaaGreatDoor
