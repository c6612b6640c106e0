/-
  A drawn index while it grows. By an AI agent.
-/
import Derived.Test.YthjbekgognfiiaaGreatIxJ
import Derived.Test.YthjbekgognfiiaaGreatJ10
import Derived.Test.YthjbekgognfiiaaGreatJ9
namespace Go.Proofs.YthjbekgognfiiaaGreat
open Go.RowKit
set_option linter.unusedVariables false

/-- small enough -/
def BIx (m : Nat) (T : List TC) (S : List IS) : Prop := T.length ≤ 30 ∧ (∀ x ∈ T, x.1.length ≤ 10 ∧ 0 ≤ x.2 ∧ x.2 ≤ 5) ∧ S.length ≤ m ∧ ∀ x ∈ S, x.2.length ≤ 7 ∧ ∀ y ∈ x.2, y.length ≤ 10

theorem flat_small : ∀ (S : List IS), (∀ x ∈ S, x.2.length ≤ 7) → (toksX S).flatten.length ≤ 7 * S.length
  | [], _ => by simp [toksX]
  | x :: S, h => by
    rw [toks_cons, List.length_cons]
    have h1 := h x (List.mem_cons_self ..)
    have h2 := flat_small S fun y hy => h y (List.mem_cons_of_mem _ hy)
    omega
theorem bix_ins {T : List TC} {S : List IS} {t id : Int} {l : List Str} (h : BIx 12 T S) (hl : l.length ≤ 7) (hx : ∀ y ∈ l, y.length ≤ 10) : BIx 12 T (insR t T S id l) := by
  unfold insR
  split
  · rename_i hok
    refine ⟨h.1, h.2.1, ?_, fun x hx2 => ?_⟩
    · rw [insX_len]
      have h1 := h.2.2.1
      by_cases h12 : S.length = 12
      · have := ok_ins_no (t := t) (T := T) (id := id) (l := l) (.inr (.inr (.inl h12)))
        rw [this] at hok
        cases hok
      · omega
    · unfold insX at hx2
      rcases List.mem_append.1 hx2 with h1 | h1
      · exact h.2.2.2 x (List.mem_of_mem_take h1)
      · rcases List.mem_cons.1 h1 with rfl | h1
        · exact ⟨hl, hx⟩
        · exact h.2.2.2 x (List.mem_of_mem_drop h1)
  · exact h
theorem bix_more {m n : Nat} {T : List TC} {S : List IS} (h : BIx m T S) (hm : m ≤ n) : BIx n T S := ⟨h.1, h.2.1, Nat.le_trans h.2.2.1 hm, h.2.2.2⟩

theorem OwnX.keptc {w w' : World} {lo c : Nat} {v : Value} {q : List XS} (h : OwnX w lo v q) (hg : w.grownBy w' (some c)) (hc : c < lo) : OwnX w' lo v q :=
  ⟨row_keptc h.out hg hc, fun p hp => row_keptc (h.row p hp) hg hc, h.apart, h.dis⟩

theorem ownT_step {w w' : World} {lo c : Nat} {v : Value} {T : List TC} (h : OwnT w lo v T) (hg : w.grownBy w' (some c)) (hc : c < lo) : OwnT w' lo v T := row_keptc h hg hc
/-- BX: the box; g: the result's block; c: the cursor -/
structure DrIx (w W : World) (B c BX g : Nat) (t : Int) (T : List TC) (ta : Option Addr) (tc : Nat) (xa : Option Addr) (n xc : Nat) (q : List XS) : Prop where
  box : BlkV W BX 27 #[.int .i64 t, .slice ta T.length tc, .slice xa n xc]
  res : BlkV W g 27 #[.int .i64 0, .slice none 0 0, .slice none 0 0]
  tab : OwnT W (g + 1) (.slice ta T.length tc) T
  sets : OwnX W (g + 1) (.slice xa n xc) q
  apart : ∀ k, (Value.slice ta T.length tc).ownBlock = some k → (Value.slice xa n xc).ownBlock ≠ some k ∧ ∀ p ∈ q, p.2.ownBlock ≠ some k
  nbT : (Value.slice ta T.length tc).ownBlock ≠ some BX
  nbX : (Value.slice xa n xc).ownBlock ≠ some BX
  nbQ : ∀ p ∈ q, p.2.ownBlock ≠ some BX
  cur : Cur W B c
  grown : w.grownBy W (some c)
  hc : c < w.heap.size
  lowg : w.heap.size ≤ g
  ne : g < BX

theorem DrIx.step {w W W' : World} {B c BX g n : Nat} {t : Int} {T : List TC} {ta xa : Option Addr} {tc xc : Nat} {q : List XS} (h : DrIx w W B c BX g t T ta tc xa n xc q) (hg : W.grownBy W' (some c)) (hcur : Cur W' B c) : DrIx w W' B c BX g t T ta tc xa n xc q := by
  have hc := h.hc
  have hl := h.lowg
  have hn := h.ne
  exact ⟨h.box.grown hg (by simp; omega), h.res.grown hg (by simp; omega), row_keptc h.tab hg (by omega), h.sets.keptc hg (by omega), h.apart, h.nbT, h.nbX, h.nbQ, hcur, grown_trans h.grown hg, hc, hl, hn⟩
theorem DrIx.below_ {w W W' : World} {B c BX g n : Nat} {t : Int} {T : List TC} {ta xa : Option Addr} {tc xc : Nat} {q : List XS} (h : DrIx w W B c BX g t T ta tc xa n xc q) (hb : Below W.heap.size W W') : DrIx w W' B c BX g t T ta tc xa n xc q :=
  ⟨h.box.below hb, h.res.below hb, h.tab.below hb, h.sets.below hb, h.apart, h.nbT, h.nbX, h.nbQ, h.cur.below hb h.cur.lt, grown_below h.grown (hb.mono h.grown.size), h.hc, h.lowg, h.ne⟩
theorem DrIx.sm {w W : World} {B c BX g m : Nat} {t : Int} {T : List TC} {S : List IS} {ta xa : Option Addr} {tc xc : Nat} {q : List XS} (h : DrIx w W B c BX g t T ta tc xa S.length xc q) (hq : setsX q = S) (hb : BIx m T S) (hm : m ≤ 1000) : SmIx W ta T tc xa S xc :=
  ⟨tab_sm h.tab (by have := hb.1; omega) hb.2.1, h.sets.smX hq (by have := hb.2.2.1; omega) (fun x hx => ⟨by have := (hb.2.2.2 x hx).1; omega, fun y hy => by have := (hb.2.2.2 x hx).2 y hy; omega⟩)⟩

/-- an index is handed back -/
def SomeIx (m : Nat) (w : World) (B c : Nat) (e : Ending) (w' : World) : Prop :=
  ∃ (t : Int) (ta : Option Addr) (tc : Nat) (T : List TC) (xa : Option Addr) (xc : Nat) (S : List IS) (q : List XS), e = .returned (.agg #[.int .i64 t, .slice ta T.length tc, .slice xa S.length xc]) ∧ setsX q = S ∧ OwnIx w' w.heap.size w'.heap.size (.slice ta T.length tc) (.slice xa S.length xc) T q ∧ BIx m T S ∧ Cur w' B c ∧ w.grownBy w' (some c)
theorem DrIx.gives {w W : World} {B c BX g m : Nat} {t : Int} {T : List TC} {S : List IS} {ta xa : Option Addr} {tc xc : Nat} {q : List XS} (h : DrIx w W B c BX g t T ta tc xa S.length xc q) (hq : setsX q = S) (hb : BIx m T S) :
    SomeIx m w B c (.returned (.agg #[.int .i64 t, .slice ta T.length tc, .slice xa S.length xc])) (((W.setCell ⟨g, 0, none⟩ (.int .i64 t)).setCell ⟨g, 1, none⟩ (.slice ta T.length tc)).setCell ⟨g, 2, none⟩ (.slice xa S.length xc)) := by
  have hc := h.hc
  have hl := h.lowg
  have hbl : Below g W (((W.setCell ⟨g, 0, none⟩ (.int .i64 t)).setCell ⟨g, 1, none⟩ (.slice ta T.length tc)).setCell ⟨g, 2, none⟩ (.slice xa S.length xc)) := (((Below.refl g W).setCell (Nat.le_refl _) _).setCell (Nat.le_refl _) _).setCell (Nat.le_refl _) _
  exact ⟨t, ta, tc, T, xa, xc, S, q, rfl, hq, own_end _ _ _ h.tab h.sets h.apart h.lowg, hb, h.cur.below hbl (by omega), grown_below h.grown (hbl.mono (by omega))⟩
theorem DrIx.end_ {w W : World} {B c BX g n : Nat} {t : Int} {T : List TC} {ta xa : Option Addr} {tc xc : Nat} {q : List XS} (h : DrIx w W B c BX g t T ta tc xa n xc q) :
    BlkV (((W.setCell ⟨g, 0, none⟩ (.int .i64 t)).setCell ⟨g, 1, none⟩ (.slice ta T.length tc)).setCell ⟨g, 2, none⟩ (.slice xa n xc)) g 27 #[.int .i64 t, .slice ta T.length tc, .slice xa n xc] :=
  ((h.res.set_ 0 _).set_ 1 _).set_ 2 _

/-- a new index is stored into the box -/
theorem DrIx.renew {w W W' : World} {B c BX g n n' : Nat} {t t' : Int} {T T' : List TC} {ta xa ta' xa' : Option Addr} {tc xc tc' xc' : Nat} {q q' : List XS} (h : DrIx w W B c BX g t T ta tc xa n xc q) (hb : Below W.heap.size W W')
    (ho : OwnIx W' W.heap.size W'.heap.size (.slice ta' T'.length tc') (.slice xa' n' xc') T' q') :
    DrIx w (((W'.setCell ⟨BX, 0, none⟩ (.int .i64 t')).setCell ⟨BX, 1, none⟩ (.slice ta' T'.length tc')).setCell ⟨BX, 2, none⟩ (.slice xa' n' xc')) B c BX g t' T' ta' tc' xa' n' xc' q' := by
  have hc := h.hc
  have hl := h.lowg
  have hn := h.ne
  have hbx := h.box.lt
  have hg := h.res.lt
  have h1 : OwnT W' (g + 1) (.slice ta' T'.length tc') T' := ho.tab.1.mono (by omega)
  have h2 : OwnX W' (g + 1) (.slice xa' n' xc') q' := ho.sets.1.mono (by omega)
  have nT : (Value.slice ta' T'.length tc').ownBlock ≠ some BX := fun e => by have := (World.ownsRow.lt ho.tab.1 _ e).1; omega
  have nX : (Value.slice xa' n' xc').ownBlock ≠ some BX := fun e => by have := (World.ownsRow.lt ho.sets.1.out _ e).1; omega
  have nQ : ∀ p ∈ q', p.2.ownBlock ≠ some BX := fun p hp e => by have := (World.ownsRow.lt (ho.sets.1.row p hp) _ e).1; omega
  have st : ∀ (V : World) (i : Nat) (u : Value), OwnT V (g + 1) (.slice ta' T'.length tc') T' → OwnT (V.setCell ⟨BX, i, none⟩ u) (g + 1) (.slice ta' T'.length tc') T' := fun V i u h => row_keptO h (egrown_set V BX i u) (fun k hk e => nT (by cases hk; exact e))
  have sx : ∀ (V : World) (i : Nat) (u : Value), OwnX V (g + 1) (.slice xa' n' xc') q' → OwnX (V.setCell ⟨BX, i, none⟩ u) (g + 1) (.slice xa' n' xc') q' := fun V i u h =>
    ⟨row_keptO h.out (egrown_set V BX i u) (fun k hk e => nX (by cases hk; exact e)), fun p hp => row_keptO (h.row p hp) (egrown_set V BX i u) (fun k hk e => nQ p hp (by cases hk; exact e)), h.apart, h.dis⟩
  have hbb : Below BX W' (((W'.setCell ⟨BX, 0, none⟩ (.int .i64 t')).setCell ⟨BX, 1, none⟩ (.slice ta' T'.length tc')).setCell ⟨BX, 2, none⟩ (.slice xa' n' xc')) := (((Below.refl BX W').setCell (Nat.le_refl _) _).setCell (Nat.le_refl _) _).setCell (Nat.le_refl _) _
  have hgb := grown_below h.grown (hb.mono h.grown.size)
  exact ⟨(((h.box.below hb).set_ 0 _).set_ 1 _).set_ 2 _, (((h.res.below hb).other _ _ (by simp; omega)).other _ _ (by simp; omega)).other _ _ (by simp; omega), st _ _ _ (st _ _ _ (st _ _ _ h1)), sx _ _ _ (sx _ _ _ (sx _ _ _ h2)), ho.apart, nT, nX, nQ,
    (h.cur.below hb h.cur.lt).below hbb (by omega), grown_below hgb (hbb.mono (by omega)), hc, hl, hn⟩

/-- a pick with a property -/
def SomeIntP (P : Int → Prop) (w : World) (B c : Nat) (e : Ending) (w' : World) : Prop := ∃ x : Int, e = .returned (.int .i64 x) ∧ P x ∧ Cur w' B c ∧ w.grownBy w' (some c)
theorem lit_cellsP (P : Int → Prop) (w : World) (l : List Int) (hr : ∀ z ∈ l, P z) : ∀ j, j < l.length → ∃ z : Int, P z ∧ (w.alloc (.cells (l.map fun z => Value.int .i64 z).toArray 3)).cell? ⟨w.heap.size, j, none⟩ = some (.int .i64 z) := by
  intro j hj
  refine ⟨l[j], hr _ (List.getElem_mem hj), ?_⟩
  have h := BlkV.cell (BlkV.new w 3 (l.map fun z => Value.int .i64 z).toArray) j
  rw [h]
  simp [hj]
set_option maxRecDepth 100000 in
set_option maxHeartbeats 1000000 in
theorem l1PickIntP_any (P : Int → Prop) (B c g n : Nat) (w : World) (hcur : Cur w B c) (hn : 0 < n) (hn2 : n ≤ 65536) (hg : g ≠ c) (hl : ∀ j, j < n → ∃ z : Int, P z ∧ w.cell? ⟨g, j, none⟩ = some (.int .i64 z)) :
    Calls Tryz.prog 41 #[.pointer (some ⟨c, 0, none⟩), .slice (some ⟨g, 0, none⟩) n n] w (SomeIntP P w B c) := by
  have HC := Lib.hid hcur
  have HL := Lib.hid hl
  clear hcur hl
  go_enter Tryz.func41, Tryz.ntmps41
  go_wp2_with (go_at_call 62; (refine (l1Below_any B c _ _ HC.out (by omega) (by omega)).mono ?_); rintro e w1 ⟨x, rfl, hx0, hx1, hc1, hg1⟩; refine Hid.out ?_)
  refine Lib.hid ?_
  obtain ⟨k, rfl⟩ := Int.eq_ofNat_of_zero_le hx0
  obtain ⟨z, hz, hcell⟩ := HL.out k (by omega)
  have hcell1 : w1.cell? ⟨g, k, none⟩ = some (.int .i64 z) := hg1.cell hcell (by simpa using hg)
  have HC1 := Lib.hid hc1
  have HG1 := Lib.hid hg1
  clear hc1 hg1
  go_wp2
  go_ret
  exact ⟨_, rfl, hz, HC1.out, HG1.out⟩

end Go.Proofs.YthjbekgognfiiaaGreat
