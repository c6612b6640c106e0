/-
  An index of the call's own, in a box, beside the result's block. By an AI agent.
-/
import Derived.Test.YthjbekgognfiiaaGreatIxC
namespace Go.Proofs.YthjbekgognfiiaaGreat
open Go.RowKit
set_option linter.unusedVariables false

/-- B: the box; g: the result's block -/
structure IxSt (w W : World) (B g : Nat) (t : Int) (T : List TC) (ta : Option Addr) (tc : Nat) (xa : Option Addr) (n xc : Nat) (q : List XS) : Prop where
  box : BlkV W B 27 #[.int .i64 t, .slice ta T.length tc, .slice xa n xc]
  res : BlkV W g 27 #[.int .i64 0, .slice none 0 0, .slice none 0 0]
  tab : OwnT W (g + 1) (.slice ta T.length tc) T
  sets : OwnX W (g + 1) (.slice xa n xc) q
  apart : ∀ k, (Value.slice ta T.length tc).ownBlock = some k → (Value.slice xa n xc).ownBlock ≠ some k ∧ ∀ p ∈ q, p.2.ownBlock ≠ some k
  nbT : (Value.slice ta T.length tc).ownBlock ≠ some B
  nbX : (Value.slice xa n xc).ownBlock ≠ some B
  nbQ : ∀ p ∈ q, p.2.ownBlock ≠ some B
  below : Below w.heap.size w W
  lowB : w.heap.size ≤ B
  lowg : w.heap.size ≤ g
  ne : B ≠ g
theorem IxSt.below_ {w W W' : World} {B g n : Nat} {t : Int} {T : List TC} {ta xa : Option Addr} {tc xc : Nat} {q : List XS} (h : IxSt w W B g t T ta tc xa n xc q) (hb : Below W.heap.size W W') : IxSt w W' B g t T ta tc xa n xc q :=
  ⟨h.box.below hb, h.res.below hb, h.tab.below hb, h.sets.below hb, h.apart, h.nbT, h.nbX, h.nbQ, h.below.trans (hb.mono h.below.size), h.lowB, h.lowg, h.ne⟩
theorem OwnX.len {w : World} {lo n xc : Nat} {xa : Option Addr} {q : List XS} (h : OwnX w lo (.slice xa n xc) q) : q.length = n := by
  obtain ⟨a, c, e⟩ := h.shape
  injection e with _ e2 _
  exact e2.symm
/-- it reads as the index that it was copied from -/
theorem IxSt.sm {w W w0 : World} {B g : Nat} {t : Int} {T : List TC} {S : List IS} {ta xa ta0 xa0 : Option Addr} {tc xc tc0 xc0 : Nat} {q : List XS} (h : IxSt w W B g t T ta tc xa S.length xc q) (hq : setsX q = S) (h0 : SmIx w0 ta0 T tc0 xa0 S xc0) : SmIx W ta T tc xa S xc :=
  ⟨⟨h.tab.smT h0.tab.1.2.2.2.1 h0.tab.1.2.2.2.2, h0.tab.2⟩, h.sets.smX hq h0.sets.2.2.2.1 h0.sets.2.2.2.2⟩
theorem IxSt.gives {w W : World} {B g : Nat} {t : Int} {T : List TC} {S : List IS} {ta xa : Option Addr} {tc xc : Nat} {q : List XS} (h : IxSt w W B g t T ta tc xa S.length xc q) (hq : setsX q = S) (r : Bool) :
    GivesIB w t T S r (.returned (.tuple #[.agg #[.int .i64 t, .slice ta T.length tc, .slice xa S.length xc], .bool r])) (((W.setCell ⟨g, 0, none⟩ (.int .i64 t)).setCell ⟨g, 1, none⟩ (.slice ta T.length tc)).setCell ⟨g, 2, none⟩ (.slice xa S.length xc)) :=
  ⟨_, _, _, _, q, rfl, hq, own_end _ _ _ h.tab h.sets h.apart h.lowg, ((h.below.setCell h.lowg _).setCell h.lowg _).setCell h.lowg _⟩
theorem IxSt.end_ {w W : World} {B g n : Nat} {t : Int} {T : List TC} {ta xa : Option Addr} {tc xc : Nat} {q : List XS} (h : IxSt w W B g t T ta tc xa n xc q) :
    BlkV (((W.setCell ⟨g, 0, none⟩ (.int .i64 t)).setCell ⟨g, 1, none⟩ (.slice ta T.length tc)).setCell ⟨g, 2, none⟩ (.slice xa n xc)) g 27 #[.int .i64 t, .slice ta T.length tc, .slice xa n xc] :=
  ((h.res.set_ 0 _).set_ 1 _).set_ 2 _

/-- the copy is stored into the box that it was made from -/
theorem ixst_impl {w w1 w2 : World} {t : Int} {T : List TC} {S : List IS} {ta xa : Option Addr} {tc xc : Nat} {q : List XS} {b0 b1 b2 : Value} (hs : w1.heap.size = w.heap.size + 2) (hb1 : Below w.heap.size w w1)
    (hx : BlkV w1 w.heap.size 27 #[b0, b1, b2]) (hr : BlkV w1 (w.heap.size + 1) 27 #[.int .i64 0, .slice none 0 0, .slice none 0 0])
    (ho : OwnIx w2 w1.heap.size w2.heap.size (.slice ta T.length tc) (.slice xa S.length xc) T q) (hb : Below w1.heap.size w1 w2) :
    IxSt w (((w2.setCell ⟨w.heap.size, 0, none⟩ (.int .i64 t)).setCell ⟨w.heap.size, 1, none⟩ (.slice ta T.length tc)).setCell ⟨w.heap.size, 2, none⟩ (.slice xa S.length xc)) w.heap.size (w.heap.size + 1) t T ta tc xa S.length xc q := by
  have h1 : OwnT w2 (w.heap.size + 1 + 1) (.slice ta T.length tc) T := ho.tab.1.mono (by omega)
  have h2 : OwnX w2 (w.heap.size + 1 + 1) (.slice xa S.length xc) q := ho.sets.1.mono (by omega)
  have hk1 := fun k hk => World.ownsRow.lt h1 k hk
  have hk2 := fun k hk => World.ownsRow.lt h2.out k hk
  have hk3 := fun p hp k hk => World.ownsRow.lt (h2.row p hp) k hk
  refine ⟨((((hx.below hb).set_ 0 _).set_ 1 _).set_ 2 _), (((hr.below hb).other _ _ (by simp)).other _ _ (by simp)).other _ _ (by simp), row_setCell (row_setCell (row_setCell h1 _ _ (by simp; omega)) _ _ (by simp; omega)) _ _ (by simp; omega), ((h2.setCell _ _ (by simp; omega)).setCell _ _ (by simp; omega)).setCell _ _ (by simp; omega), ho.apart,
    fun e => by have := hk1 _ e; omega, fun e => by have := hk2 _ e; omega, fun p hp e => by have := hk3 p hp _ e; omega,
    (((hb1.trans (hb.mono hb1.size)).setCell (by simp) _).setCell (by simp) _).setCell (by simp) _, Nat.le_refl _, by omega, by omega⟩

/-- a new slice of sets is stored into the box -/
theorem IxSt.store {w W W' : World} {B g n n' : Nat} {t : Int} {T : List TC} {ta xa xa' : Option Addr} {tc xc xc' : Nat} {q q' : List XS} (h : IxSt w W B g t T ta tc xa n xc q) (hg : W.grownBy W' (Value.slice xa n xc).ownBlock)
    (hX : OwnX W' (g + 1) (.slice xa' n' xc') q') (hap : ∀ k, (Value.slice ta T.length tc).ownBlock = some k → (Value.slice xa' n' xc').ownBlock ≠ some k ∧ ∀ p ∈ q', p.2.ownBlock ≠ some k) (hnX : (Value.slice xa' n' xc').ownBlock ≠ some B) (hnQ : ∀ p ∈ q', p.2.ownBlock ≠ some B) :
    IxSt w (W'.setCell ⟨B, 2, none⟩ (.slice xa' n' xc')) B g t T ta tc xa' n' xc' q' := by
  have hXg : ∀ k, (Value.slice xa n xc).ownBlock = some k → g + 1 ≤ k := fun k hk => (World.ownsRow.lt h.sets.out k hk).1
  have hset : W'.grownBy (W'.setCell ⟨B, 2, none⟩ (.slice xa' n' xc')) (some B) := egrown_set _ _ _ _
  have kT := row_keptO h.tab hg (fun k hk e => (h.apart k e).1 hk)
  refine ⟨(h.box.grown hg (fun e => h.nbX e.symm)).set_ 2 _, (h.res.grown hg (fun e => by have := hXg g e.symm; omega)).other _ _ (Ne.symm h.ne), ?_, ?_, hap, h.nbT, hnX, hnQ, ?_, h.lowB, h.lowg, h.ne⟩
  · exact row_keptO kT hset (fun k hk e => h.nbT (by cases hk; exact e))
  · exact ⟨row_keptO hX.out hset (fun k hk e => hnX (by cases hk; exact e)), fun p hp => row_keptO (hX.row p hp) hset (fun k hk e => hnQ p hp (by cases hk; exact e)), hX.apart, hX.dis⟩
  · exact (h.below.grown hg (h.below.size) (fun k hk => by have := hXg k hk; have := h.lowg; omega)).setCell h.lowB _

theorem flatX_take : ∀ (q : List XS) (k : Nat), (flatX q).take (k * 2) = flatX (q.take k)
  | [], k => by simp [flatX]
  | p :: q, 0 => by simp [flatX]
  | p :: q, k + 1 => by
    rw [flatX_cons, show (k + 1) * 2 = k * 2 + 1 + 1 by omega, List.take_succ_cons, List.take_succ_cons, flatX_take q k, List.take_succ_cons, flatX_cons]
theorem flatX_drop : ∀ (q : List XS) (k : Nat), (flatX q).drop (k * 2) = flatX (q.drop k)
  | [], k => by simp [flatX]
  | p :: q, 0 => by simp [flatX]
  | p :: q, k + 1 => by
    rw [flatX_cons, show (k + 1) * 2 = k * 2 + 1 + 1 by omega, List.drop_succ_cons, List.drop_succ_cons, flatX_drop q k, List.drop_succ_cons]
theorem row_shape {w : World} {base : Nat} {e : TypeId} {size n : Nat} {v : Value} {xs : List Value} (h : w.ownsRow base e size v n xs) : ∃ a c, v = .slice a n c := by
  rcases h.2 with ⟨rfl, h0⟩ | ⟨g, cap, cur, rfl, _⟩
  · exact ⟨none, 0, by rw [h0]⟩
  · exact ⟨_, _, rfl⟩
theorem own_same (xa : Option Addr) (n c m d : Nat) : (Value.slice xa n c).ownBlock = (Value.slice xa m d).ownBlock := by cases xa <;> rfl
theorem OwnX.cut {W W' : World} {lo n xc k : Nat} {xa : Option Addr} {q : List XS} (h : OwnX W lo (.slice xa n xc) q) (hg : W.grownBy W' (Value.slice xa n xc).ownBlock) (hk : k < q.length)
    (ho : W'.ownsRow lo 71 2 (.slice xa (n - 1) xc) (n - 1) ((flatX q).take (k * 2) ++ (flatX q).drop ((k + 1) * 2))) : OwnX W' lo (.slice xa (n - 1) xc) (q.take k ++ q.drop (k + 1)) := by
  have hn := h.len
  have hm : ∀ p ∈ q.take k ++ q.drop (k + 1), p ∈ q := fun p hp => by
    rcases List.mem_append.1 hp with h1 | h1
    · exact List.mem_of_mem_take h1
    · exact List.mem_of_mem_drop h1
  have hs : (q.take k ++ q.drop (k + 1)).Sublist q := by rw [← List.eraseIdx_eq_take_drop_succ]; exact List.eraseIdx_sublist ..
  have hl : (q.take k ++ q.drop (k + 1)).length = n - 1 := by rw [List.length_append, List.length_take, List.length_drop]; omega
  refine ⟨?_, fun p hp => row_keptO (h.row p (hm p hp)) hg (fun j hj e => h.apart p (hm p hp) j e hj), fun p hp j hj e => h.apart p (hm p hp) j hj ((own_same _ _ _ _ _).trans e), h.dis.sublist hs⟩
  rw [hl, flatX_append, ← flatX_take, ← flatX_drop]
  exact ho
theorem OwnX.ins {W W' : World} {lo n xc k : Nat} {xa : Option Addr} {q : List XS} {id : Int} {l : List Str} {vn v' : Value} (h : OwnX W lo (.slice xa n xc) q) (hv : OwnS W lo vn l) (hvx : ∀ j, vn.ownBlock = some j → (Value.slice xa n xc).ownBlock ≠ some j ∧ ∀ p ∈ q, p.2.ownBlock ≠ some j)
    (hg : W.grownBy W' (Value.slice xa n xc).ownBlock) (hat : v'.ownBlock = (Value.slice xa n xc).ownBlock ∨ v'.ownBlock = some W.heap.size) (hk : k ≤ q.length)
    (ho : W'.ownsRow lo 71 2 v' (n + 1) ((flatX q).take (k * 2) ++ [.int .i64 id, vn] ++ (flatX q).drop (k * 2))) : OwnX W' lo v' (q.take k ++ ((id, l), vn) :: q.drop k) := by
  have hn := h.len
  have hlt : ∀ p ∈ q, ∀ j, p.2.ownBlock = some j → j < W.heap.size := fun p hp j hj => (World.ownsRow.lt (h.row p hp) j hj).2
  have hlv : ∀ j, vn.ownBlock = some j → j < W.heap.size := fun j hj => (World.ownsRow.lt hv j hj).2
  have hl : (q.take k ++ ((id, l), vn) :: q.drop k).length = n + 1 := by rw [List.length_append, List.length_take, List.length_cons, List.length_drop]; omega
  have hm : ∀ p ∈ q.take k ++ ((id, l), vn) :: q.drop k, p = ((id, l), vn) ∨ p ∈ q := fun p hp => by
    rcases List.mem_append.1 hp with h1 | h1
    · exact .inr (List.mem_of_mem_take h1)
    · rcases List.mem_cons.1 h1 with h2 | h2
      · exact .inl h2
      · exact .inr (List.mem_of_mem_drop h2)
  have hx : ∀ p ∈ q.take k ++ ((id, l), vn) :: q.drop k, ∀ j, p.2.ownBlock = some j → (Value.slice xa n xc).ownBlock ≠ some j ∧ j < W.heap.size := fun p hp j hj => by
    rcases hm p hp with rfl | h1
    · exact ⟨(hvx j hj).1, hlv j hj⟩
    · exact ⟨h.apart p h1 j hj, hlt p h1 j hj⟩
  refine ⟨?_, fun p hp => ?_, fun p hp j hj e => ?_, ?_⟩
  · rw [hl, flatX_append, flatX_cons, ← flatX_take, ← flatX_drop]
    simpa using ho
  · rcases hm p hp with rfl | h1
    · exact row_keptO hv hg (fun j hj e => (hvx j e).1 hj)
    · exact row_keptO (h.row p h1) hg (fun j hj e => h.apart p h1 j e hj)
  · have h2 := hx p hp j hj
    rcases hat with h1 | h1
    · rw [h1] at e; exact h2.1 e
    · rw [h1] at e; cases e; omega
  · rw [List.pairwise_append]
    refine ⟨h.dis.sublist (List.take_sublist _ _), List.Pairwise.cons (fun p hp j hj e => (hvx j hj).2 p (List.mem_of_mem_drop hp) e) (h.dis.sublist (List.drop_sublist _ _)), fun p hp r hr j hj e => ?_⟩
    rcases List.mem_cons.1 hr with rfl | h2
    · exact (hvx j e).2 p (List.mem_of_mem_take hp) hj
    · have h3 := h.dis
      rw [← List.take_append_drop k q, List.pairwise_append] at h3
      exact h3.2.2 p hp r h2 j hj e

end Go.Proofs.YthjbekgognfiiaaGreat
