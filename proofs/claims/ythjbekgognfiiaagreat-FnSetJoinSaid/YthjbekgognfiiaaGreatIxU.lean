/-
  Indexes of sets as values: what the laws' own toSetIndex, eqSetIndex, markSetIndex, heldSetIndex do. By an AI agent.
-/
import Derived.Test.YthjbekgognfiiaaGreatJ8
import Derived.Test.YthjbekgognfiiaaGreatJ2
import Derived.Test.YthjbekgognfiiaaGreatJ5
namespace Go.Proofs.YthjbekgognfiiaaGreat
open Go.RowKit
set_option linter.unusedVariables false

theorem OwnJ.chg {w w' : World} {lo hi lo' hi' : Nat} {v : Value} {l : List Int} (h : OwnJ w lo hi v l) (hc : Chg w w' lo' hi') (hd : hi ≤ lo' ∨ hi' ≤ lo) : OwnJ w' lo hi v l :=
  ⟨row_chg h.1 hc fun k hk => by have := (World.ownsRow.lt h.1 k hk).1; have := h.2 k hk; omega, h.2⟩

set_option maxRecDepth 100000 in
set_option maxHeartbeats 2000000 in
theorem toix_any (t : Int) (ta : Option Addr) (tc : Nat) (T : List TC) (xa : Option Addr) (xc : Nat) (S : List IS) (w : World) (hz : ixz T S ≤ 1048576) (h : ArgIx w ta T xa S) :
    Calls Tryz.prog 21 #[.agg #[.int .i64 t, .slice ta T.length tc, .slice xa S.length xc]] w (GivesIx w t T S) := by
  have HA := Lib.hid h
  have HZT := Lib.hid (tz_len (show tzL T ≤ 1048576 by unfold ixz at hz; omega))
  have HZX := Lib.hid (show yzL (toksX S) ≤ 1048576 by unfold ixz at hz; omega)
  clear h hz
  obtain ⟨w3, hw3⟩ : ∃ w3, w3 = ((w.alloc (.cells #[.int .i64 t, .slice ta T.length tc, .slice xa S.length xc] 48)).alloc (.cells #[.int .i64 0, .slice none 0 0, .slice none 0 0] 27)).alloc (.cells #[.int .i64 t, .slice none 0 0, .slice none 0 0] 27) := ⟨_, rfl⟩
  have HW := Lib.hid hw3
  have HB3 := Lib.hid (show Below w.heap.size w w3 by rw [hw3]; exact (((Below.refl _ _).alloc (Nat.le_refl _) _).alloc (by simp) _).alloc (by simp; omega) _)
  have HR0 := Lib.hid (show BlkV w3 w.heap.size 48 #[.int .i64 t, .slice ta T.length tc, .slice xa S.length xc] by rw [hw3]; exact ((BlkV.new_ _ _ _ _ rfl).alloc _).alloc _)
  have HR1 := Lib.hid (show BlkV w3 (w.heap.size + 1) 27 #[.int .i64 0, .slice none 0 0, .slice none 0 0] by rw [hw3]; exact (BlkV.new_ _ _ _ _ (by simp)).alloc _)
  have HR2 := Lib.hid (show BlkV w3 (w.heap.size + 1 + 1) 27 #[.int .i64 t, .slice none 0 0, .slice none 0 0] by rw [hw3]; exact BlkV.new_ _ _ _ _ (by simp))
  have HS3 := Lib.hid (show w3.heap.size = w.heap.size + 3 by rw [hw3]; simp)
  clear hw3
  go_enter Tryz.func21, Tryz.ntmps21
  go_wp2_with (go_at_call 54; rw [← HW.out]; (refine (tto_any ta tc T w3 HZT.out (HA.out.1.1.1.below HB3.out)).mono ?_); rintro e w4 ⟨a1, c1, rfl, ho, hb⟩; refine Hid.out ?_)
  obtain ⟨w5, hw5⟩ : ∃ w5, w5 = w4.setCell ⟨w.heap.size + 1 + 1, 1, none⟩ (.slice a1 T.length c1) := ⟨_, rfl⟩
  have HW5 := Lib.hid hw5
  have r0 := HR0.out.below hb
  have r1 := HR1.out.below hb
  have r2 := HR2.out.below hb
  have HB4 := Lib.hid (HB3.out.trans (hb.mono HB3.out.size))
  have HS4 := Lib.hid hb.size
  have HR05 := Lib.hid (show BlkV w5 w.heap.size 48 #[.int .i64 t, .slice ta T.length tc, .slice xa S.length xc] by rw [hw5]; exact r0.other _ _ (by simp; omega))
  have HR15 := Lib.hid (show BlkV w5 (w.heap.size + 1) 27 #[.int .i64 0, .slice none 0 0, .slice none 0 0] by rw [hw5]; exact r1.other _ _ (by simp))
  have HR25 := Lib.hid (show BlkV w5 (w.heap.size + 1 + 1) 27 #[.int .i64 t, .slice a1 T.length c1, .slice none 0 0] by rw [hw5]; exact r2.set_ 1 _)
  have HO5 := Lib.hid (show OwnT w5 w3.heap.size (.slice a1 T.length c1) T by rw [hw5]; exact row_setCell ho _ _ (by have := HS3.out; simp; omega))
  have HB5 := Lib.hid (show Below w.heap.size w w5 by rw [hw5]; exact HB4.out.setCell (by simp; omega) _)
  have HS5 := Lib.hid (show w5.heap.size = w4.heap.size by rw [hw5]; simp [World.setCell])
  have c21 := r2.three1
  have c02 := r0.three2
  have f21 := r2.frozen 1
  have c02' : (w4.setCell ⟨w.heap.size + 1 + 1, 1, none⟩ (.slice a1 T.length c1)).cell? ⟨w.heap.size, 2, none⟩ = some (.slice xa S.length xc) := by rw [← hw5]; exact HR05.out.three2
  clear ho hb hw5 r0 r1 r2
  refine Lib.hid ?_
  go_wp2_with (go_at_call 55; rw [← HW5.out]; (refine (xto_any xa xc S w5 HZX.out (HA.out.2.1.below HB5.out)).mono ?_); rintro e w6 ⟨a2, c2, q, rfl, hq, ho, hb⟩; refine Hid.out ?_)
  have r1 := HR15.out.below hb
  have r2 := HR25.out.below hb
  have HO6 := Lib.hid (HO5.out.below hb)
  have HX6 := Lib.hid ho
  have HQ := Lib.hid hq
  have HB6 := Lib.hid (HB5.out.trans (hb.mono HB5.out.size))
  have HS6 := Lib.hid hb.size
  have R1 := Lib.hid r1
  have c10 := r1.three0
  have c11 := r1.three1
  have c12 := r1.three2
  have f10 := r1.frozen 0
  have f11 := r1.frozen 1
  have f12 := r1.frozen 2
  have c20 := r2.three0
  have c21 := r2.three1
  have c22 := r2.three2
  have f22 := r2.frozen 2
  clear r1 r2 ho hb hq
  refine Lib.hid ?_
  go_wp2
  have z := (((R1.out.other ⟨w.heap.size + 1 + 1, 2, none⟩ (.slice a2 S.length c2) (by simp)).set_ 0 (.int .i64 t)).set_ 1 (.slice a1 T.length c1)).set_ 2 (.slice a2 S.length c2)
  have e0 : _ = some (Value.int .i64 t) := z.cell 0
  have e1 : _ = some (Value.slice a1 T.length c1) := z.cell 1
  have e2 : _ = some (Value.slice a2 S.length c2) := z.cell 2
  have hs3 := HS3.out
  have hs4 := HS4.out
  have hs5 := HS5.out
  have hs6 := HS6.out
  refine bodyPost_ret (v := .agg #[.int .i64 t, .slice a1 T.length c1, .slice a2 S.length c2]) (by simp [results, Tryz.results21, go_sem, e0, e1, e2]) rfl ⟨_, _, _, _, q, rfl, HQ.out, ?_, ?_⟩
  · have k1 : OwnT ((((w6.setCell ⟨w.heap.size + 1 + 1, 2, none⟩ (.slice a2 S.length c2)).setCell ⟨w.heap.size + 1, 0, none⟩ (.int .i64 t)).setCell ⟨w.heap.size + 1, 1, none⟩ (.slice a1 T.length c1)).setCell ⟨w.heap.size + 1, 2, none⟩ (.slice a2 S.length c2)) w3.heap.size (.slice a1 T.length c1) T := row_setCell (row_setCell (row_setCell (row_setCell HO6.out _ _ (by simp; omega)) _ _ (by simp; omega)) _ _ (by simp; omega)) _ _ (by simp; omega)
    have k2 : OwnX ((((w6.setCell ⟨w.heap.size + 1 + 1, 2, none⟩ (.slice a2 S.length c2)).setCell ⟨w.heap.size + 1, 0, none⟩ (.int .i64 t)).setCell ⟨w.heap.size + 1, 1, none⟩ (.slice a1 T.length c1)).setCell ⟨w.heap.size + 1, 2, none⟩ (.slice a2 S.length c2)) w5.heap.size (.slice a2 S.length c2) q := (((HX6.out.setCell _ _ (by simp; omega)).setCell _ _ (by simp; omega)).setCell _ _ (by simp; omega)).setCell _ _ (by simp; omega)
    have k3 : ∀ k, (Value.slice a1 T.length c1).ownBlock = some k → k < w5.heap.size := fun k hk => (World.ownsRow.lt HO5.out k hk).2
    exact ⟨⟨k1.mono (by omega), fun k hk => (World.ownsRow.lt k1 k hk).2⟩, OwnHX.of (k2.mono HB5.out.size), fun k hk => ⟨fun e => by have := (World.ownsRow.lt k2.out k e).1; have := k3 k hk; omega, fun p hp e => by have := (World.ownsRow.lt (k2.row p hp) k e).1; have := k3 k hk; omega⟩⟩
  · exact (((HB6.out.setCell (by simp; omega) _).setCell (by simp) _).setCell (by simp) _).setCell (by simp) _

/-! ### two that are the same -/
set_option maxRecDepth 100000 in
theorem xeq_one (id : Int) (a1 a2 : Option Addr) (c1 c2 : Nat) (l : List Str) (w : World) (hl : l.length ≤ maxLen) (h1 : InS w a1 l) (h2 : InS w a2 l) :
    Calls Tryz.prog 93 #[.agg #[.int .i64 id, .slice a1 l.length c1], .agg #[.int .i64 id, .slice a2 l.length c2]] w fun e w' => e = .returned (.bool true) ∧ Below w.heap.size w w' := by
  have HB := Lib.hid (((Below.refl w.heap.size w).alloc (Nat.le_refl _) (.cells #[.int .i64 id, .slice a1 l.length c1] 71)).alloc (by simp) (.cells #[.int .i64 id, .slice a2 l.length c2] 71))
  have H1 := Lib.hid (h1.below HB.out)
  have H2 := Lib.hid (h2.below HB.out)
  clear h1 h2
  go_enter Tryz.func93, Tryz.ntmps93
  go_wp2_with (go_at_call 115; (refine (eq_same a1 a2 c1 c2 l _ hl H1.out H2.out).mono ?_); rintro e w' ⟨rfl, hb⟩)
  go_ret
  exact ⟨rfl, HB.out.trans (hb.mono HB.out.size)⟩

set_option maxRecDepth 100000 in
theorem xeq_same (a1 a2 : Option Addr) (c1 c2 : Nat) (S : List IS) (w : World) (hl : S.length ≤ 3900000) (hx : ∀ x ∈ S, x.2.length ≤ 3900000) (h1 : InX w a1 S) (h2 : InX w a2 S) :
    Calls Tryz.prog 58 #[.slice a1 S.length c1, .slice a2 S.length c2] w fun e w' => e = .returned (.bool true) ∧ Below w.heap.size w w' := by
  have H1 := Lib.hid h1
  have H2 := Lib.hid h2
  have HX := Lib.hid hx
  clear h1 h2 hx
  go_enter Tryz.func58, Tryz.ntmps58
  go_wp2
  go_loopw [5] (fun i wr => ∃ k : Nat, k ≤ S.length ∧ i = .int .i64 k ∧ Below w.heap.size w wr) (fun i _ => S.length - (intOf i).toNat)
  case atStart => exact ⟨0, Nat.zero_le _, rfl, Below.refl _ _⟩
  case round =>
    obtain ⟨k, hk, rfl, hb⟩ := hrel
    have HB := Lib.hid hb
    clear hb
    by_cases hlt : k < S.length
    · obtain ⟨b1, o1, rfl, hb1, hc1⟩ := H1.out (by omega)
      obtain ⟨b2, o2, rfl, hb2, hc2⟩ := H2.out (by omega)
      have hj := List.getElem?_eq_getElem hlt
      obtain ⟨a', c', p0, p1, _, _, p2⟩ := hc1 k _ hj
      obtain ⟨a'', c'', q0, q1, _, _, q2⟩ := hc2 k _ hj
      have g0 : wr.cell? ⟨b1, o1 + k * 2, none⟩ = some (.int .i64 S[k].1) := by rw [HB.out.cell (p := ⟨b1, o1 + k * 2, none⟩) hb1]; exact p0
      have g1 : wr.cell? ⟨b1, o1 + k * 2 + 1, none⟩ = some (.slice a' S[k].2.length c') := by rw [HB.out.cell (p := ⟨b1, o1 + k * 2 + 1, none⟩) hb1]; exact p1
      have g2 : wr.cell? ⟨b2, o2 + k * 2, none⟩ = some (.int .i64 S[k].1) := by rw [HB.out.cell (p := ⟨b2, o2 + k * 2, none⟩) hb2]; exact q0
      have g3 : wr.cell? ⟨b2, o2 + k * 2 + 1, none⟩ = some (.slice a'' S[k].2.length c'') := by rw [HB.out.cell (p := ⟨b2, o2 + k * 2 + 1, none⟩) hb2]; exact q1
      have HM := Lib.hid (fun (W : World) (hW : Below w.heap.size w W) => xeq_one S[k].1 a' a'' c' c'' S[k].2 W (by have := HX.out _ (List.mem_of_getElem? hj); unfold maxLen; omega) (p2.below hW) (q2.below hW))
      generalize S[k].1 = id at g0 g2 HM
      generalize S[k].2 = l at g1 g3 HM
      clear hc1 hc2 hj p0 p1 p2 q0 q1 q2 hb1 hb2
      go_wp2
      go_region_with (go_at_call 93; refine (HM.out _ (HB.out.drew)).mono ?_; rintro e w1 ⟨rfl, hb1⟩; have HB1 := Lib.hid hb1; clear hb1)
      all_goals go_wp2
      all_goals go_roundw
      all_goals first
        | (case rel => exact ⟨k + 1, by omega, by go_num, (HB.out.drew).trans (HB1.out.mono HB.out.size)⟩)
        | skip
      all_goals (simp [intOf]; omega)
    · obtain rfl : k = S.length := by omega
      go_wp2
      go_ret
      exact ⟨rfl, HB.out⟩

set_option maxRecDepth 100000 in
theorem eqix_same (t : Int) (b1 : Option Addr) (d1 : Nat) (e1 : Option Addr) (f1 : Nat) (b2 : Option Addr) (d2 : Nat) (e2 : Option Addr) (f2 : Nat) (T : List TC) (S : List IS) (w : World) (hB : BndX T S) (h1 : InIx w b1 T e1 S) (h2 : InIx w b2 T e2 S) :
    Calls Tryz.prog 23 #[.agg #[.int .i64 t, .slice b1 T.length d1, .slice e1 S.length f1], .agg #[.int .i64 t, .slice b2 T.length d2, .slice e2 S.length f2]] w fun e w' => e = .returned (.bool true) ∧ Below w.heap.size w w' := by
  have HBX := Lib.hid hB
  obtain ⟨w2, hw2⟩ : ∃ w2, w2 = (w.alloc (.cells #[.int .i64 t, .slice b1 T.length d1, .slice e1 S.length f1] 27)).alloc (.cells #[.int .i64 t, .slice b2 T.length d2, .slice e2 S.length f2] 27) := ⟨_, rfl⟩
  have HW := Lib.hid hw2
  have HB := Lib.hid (show Below w.heap.size w w2 by rw [hw2]; exact ((Below.refl w.heap.size w).alloc (Nat.le_refl _) _).alloc (by simp) _)
  have HR0 := Lib.hid (show BlkV w2 w.heap.size 27 #[.int .i64 t, .slice b1 T.length d1, .slice e1 S.length f1] by rw [hw2]; exact (BlkV.new_ _ _ _ _ rfl).alloc _)
  have HR1 := Lib.hid (show BlkV w2 (w.heap.size + 1) 27 #[.int .i64 t, .slice b2 T.length d2, .slice e2 S.length f2] by rw [hw2]; exact BlkV.new_ _ _ _ _ (by simp))
  have H1 := Lib.hid (h1.below HB.out)
  have H2 := Lib.hid (h2.below HB.out)
  clear h1 h2 hB hw2
  go_enter Tryz.func23, Tryz.ntmps23
  go_wp2_with (go_at_call 57; rw [← HW.out]; (refine (teq_same b1 b2 d1 d2 T w2 (by have := (bnd_parts HBX.out).1; unfold maxLen; omega) H1.out.1 H2.out.1).mono ?_); rintro e w3 ⟨rfl, hb⟩; refine Hid.out ?_)
  have q0 := (HR0.out.below hb).three2
  have q1 := (HR1.out.below hb).three2
  have K1 := Lib.hid (H1.out.2.below hb)
  have K2 := Lib.hid (H2.out.2.below hb)
  have HB3 := Lib.hid (HB.out.trans (hb.mono HB.out.size))
  clear hb
  refine Lib.hid ?_
  go_wp2_with (go_at_call 58; (refine (xeq_same e1 e2 f1 f2 S _ (bnd_parts HBX.out).2.1 (bnd_mem HBX.out) K1.out K2.out).mono ?_); rintro e w4 ⟨rfl, hb⟩; have HB4 := Lib.hid (HB3.out.trans (hb.mono HB3.out.size)); clear hb)
  go_ret
  exact ⟨rfl, HB4.out⟩

theorem BlkV.chg {w w' : World} {g : Nat} {t : TypeId} {cs : Array Value} {lo hi : Nat} (h : BlkV w g t cs) (hc : Chg w w' lo hi) (hn : ¬ (lo ≤ g ∧ g < hi)) : BlkV w' g t cs := (hc.block g h.lt hn).trans h

/-! ### marks -/
def xmk : Nat → List XS → List XS
  | _, [] => []
  | k, p :: q => ((((k : Nat) : Int), marksL (k + 1) p.1.2.length), p.2) :: xmk (k + 1 + p.1.2.length) q
def xmn : Nat → List XS → Nat
  | k, [] => k
  | k, p :: q => xmn (k + 1 + p.1.2.length) q
theorem xmk_len : ∀ (k : Nat) (q : List XS), (xmk k q).length = q.length
  | _, [] => rfl
  | k, p :: q => by rw [xmk, List.length_cons, xmk_len, List.length_cons]
theorem xmn_is : ∀ (k : Nat) (q : List XS), xmn k q = k + (q.length + (toksX (setsX q)).flatten.length)
  | _, [] => rfl
  | k, p :: q => by
    rw [xmn, xmn_is]
    simp [toksX, setsX]
    omega
theorem xmn_le (k : Nat) (q : List XS) : k ≤ xmn k q := by rw [xmn_is]; omega
theorem xmk_snoc : ∀ (k : Nat) (q : List XS) (p : XS), xmk k (q ++ [p]) = xmk k q ++ [((((xmn k q : Nat) : Int), marksL (xmn k q + 1) p.1.2.length), p.2)]
  | _, [], p => rfl
  | k, r :: q, p => by rw [List.cons_append, xmk, xmk_snoc, xmk, xmn, List.cons_append]
theorem xmn_snoc : ∀ (k : Nat) (q : List XS) (p : XS), xmn k (q ++ [p]) = xmn k q + 1 + p.1.2.length
  | _, [], p => rfl
  | k, r :: q, p => by rw [List.cons_append, xmn, xmn_snoc, xmn]
theorem xmn_append : ∀ (k : Nat) (q r : List XS), xmn k (q ++ r) = xmn (xmn k q) r
  | _, [], r => rfl
  | k, p :: q, r => by rw [List.cons_append, xmn, xmn_append, xmn]
theorem xmn_take {k : Nat} {q : List XS} {j : Nat} : xmn k (q.take j) ≤ xmn k q := by
  have h := xmn_append k (q.take j) (q.drop j)
  rw [List.take_append_drop] at h
  rw [h]
  exact xmn_le _ _
theorem xs_take {q : List XS} {k : Nat} {p : XS} (h : q[k]? = some p) : q.take (k + 1) = q.take k ++ [p] := by
  obtain ⟨hlt, he⟩ := List.getElem?_eq_some_iff.1 h
  rw [List.take_succ_eq_append_getElem hlt, he]
theorem xs_drop {q : List XS} {k : Nat} {p : XS} (h : q[k]? = some p) : q.drop k = p :: q.drop (k + 1) := by
  obtain ⟨hlt, he⟩ := List.getElem?_eq_some_iff.1 h
  rw [List.drop_eq_getElem_cons hlt, he]
theorem xmk_val : ∀ (k : Nat) (q : List XS) (r : XS), r ∈ xmk k q → ∃ p ∈ q, p.2 = r.2
  | _, [], r, h => by cases h
  | k, p :: q, r, h => by
    rw [xmk] at h
    rcases List.mem_cons.1 h with rfl | h
    · exact ⟨p, List.mem_cons_self .., rfl⟩
    · obtain ⟨p', h1, h2⟩ := xmk_val _ q r h
      exact ⟨p', List.mem_cons_of_mem _ h1, h2⟩
theorem xmk_vals : ∀ (k : Nat) (q : List XS), (xmk k q).map Prod.snd = q.map Prod.snd
  | _, [] => rfl
  | k, p :: q => by rw [xmk, List.map_cons, List.map_cons, xmk_vals]

theorem dis_map {q : List XS} : (q.Pairwise fun p r => ∀ k, p.2.ownBlock = some k → r.2.ownBlock ≠ some k) ↔ ((q.map Prod.snd).Pairwise fun u z => ∀ k, u.ownBlock = some k → z.ownBlock ≠ some k) := by rw [List.pairwise_map]
theorem row_keptO {w w' : World} {base : Nat} {e : TypeId} {size n : Nat} {v : Value} {xs : List Value} {r : Option Nat} (h : w.ownsRow base e size v n xs) (hg : w.grownBy w' r) (hn : ∀ k, r = some k → v.ownBlock ≠ some k) : w'.ownsRow base e size v n xs := by
  refine World.ownsRow.kept h hg ?_
  cases hv : v.ownBlock with
  | none => exact .inl rfl
  | some k => exact .inr fun e => hn k e.symm hv
theorem flatX_mid (q1 q2 : List XS) (p : XS) : flatX (q1 ++ p :: q2) = flatX q1 ++ .int .i64 p.1.1 :: p.2 :: flatX q2 := by rw [flatX_append, flatX_cons]
/-- another identifier is stored -/
theorem OwnX.setid {w : World} {lo g n cap : Nat} {q1 q2 : List XS} {p : XS} (h : OwnX w lo (.slice (some ⟨g, 0, none⟩) n cap) (q1 ++ p :: q2)) (z : Int) : OwnX (w.setCell ⟨g, q1.length * 2, none⟩ (.int .i64 z)) lo (.slice (some ⟨g, 0, none⟩) n cap) (q1 ++ ((z, p.1.2), p.2) :: q2) := by
  have hon := h.out
  obtain ⟨a9, cap9, e9⟩ := h.shape
  injection e9 with e91 e92 e93
  rw [← e92] at hon
  have hs := hon.stored (q1.length * 2) (.int .i64 z)
  have hne : ∀ r ∈ q1 ++ p :: q2, ∀ k, some g = some k → r.2.ownBlock ≠ some k := fun r hr k hk e => h.apart r hr k e (by rw [← hk]; rfl)
  have hm : ∀ r ∈ q1 ++ ((z, p.1.2), p.2) :: q2, ∃ r' ∈ q1 ++ p :: q2, r'.2 = r.2 ∧ r'.1.2 = r.1.2 := fun r hr => by
    rcases List.mem_append.1 hr with h1 | h1
    · exact ⟨r, List.mem_append_left _ h1, rfl, rfl⟩
    · rcases List.mem_cons.1 h1 with rfl | h1
      · exact ⟨p, List.mem_append_right _ (List.mem_cons_self ..), rfl, rfl⟩
      · exact ⟨r, List.mem_append_right _ (List.mem_cons_of_mem _ h1), rfl, rfl⟩
  refine ⟨?_, fun r hr => ?_, fun r hr k hk => ?_, ?_⟩
  · have h1 := hs.1
    rw [flatX_mid, List.set_append_right _ _ (by rw [flatX_len]; exact Nat.le_refl _), flatX_len, Nat.sub_self, List.set_cons_zero] at h1
    rw [flatX_mid]
    have hlen : (q1 ++ ((z, p.1.2), p.2) :: q2).length = n := by rw [e92]; simp
    rw [hlen]
    exact h1
  · obtain ⟨r', h1, h2, h3⟩ := hm r hr
    rw [← h2, ← h3]
    exact row_keptO (h.row r' h1) hs.2 (hne r' h1)
  · obtain ⟨r', h1, h2, h3⟩ := hm r hr
    exact h.apart r' h1 k (by rw [h2]; exact hk)
  · rw [dis_map]
    have := dis_map.1 h.dis
    simpa using this
/-- other tokens of as many are stored -/
theorem OwnX.settok {w w' : World} {lo : Nat} {v : Value} {q1 q2 : List XS} {p : XS} {l : List Str} (h : OwnX w lo v (q1 ++ p :: q2)) (hg : w.grownBy w' p.2.ownBlock) (ho : OwnS w' lo p.2 l) : OwnX w' lo v (q1 ++ ((p.1.1, l), p.2) :: q2) := by
  have hp : p ∈ q1 ++ p :: q2 := List.mem_append_right _ (List.mem_cons_self ..)
  have hd := List.pairwise_append.1 h.dis
  have hd2 := List.pairwise_cons.1 hd.2.1
  refine ⟨?_, fun r hr => ?_, fun r hr k hk => ?_, ?_⟩
  · have h1 := row_keptO h.out hg (fun k hk => h.apart p hp k hk)
    rw [flatX_mid] at h1
    rw [flatX_mid]
    simpa using h1
  · rcases List.mem_append.1 hr with h1 | h1
    · exact row_keptO (h.row r (List.mem_append_left _ h1)) hg (fun k hk e => hd.2.2 r h1 p (List.mem_cons_self ..) k e hk)
    · rcases List.mem_cons.1 h1 with rfl | h1
      · exact ho
      · exact row_keptO (h.row r (List.mem_append_right _ (List.mem_cons_of_mem _ h1))) hg (fun k hk e => hd2.1 r h1 k hk e)
  · rcases List.mem_append.1 hr with h1 | h1
    · exact h.apart r (List.mem_append_left _ h1) k hk
    · rcases List.mem_cons.1 h1 with rfl | h1
      · exact h.apart p hp k hk
      · exact h.apart r (List.mem_append_right _ (List.mem_cons_of_mem _ h1)) k hk
  · rw [dis_map]
    have := dis_map.1 h.dis
    simpa using this
theorem OwnHX.setid {w : World} {lo hi g n cap : Nat} {q1 q2 : List XS} {p : XS} (h : OwnHX w lo hi (.slice (some ⟨g, 0, none⟩) n cap) (q1 ++ p :: q2)) (z : Int) : OwnHX (w.setCell ⟨g, q1.length * 2, none⟩ (.int .i64 z)) lo hi (.slice (some ⟨g, 0, none⟩) n cap) (q1 ++ ((z, p.1.2), p.2) :: q2) :=
  ⟨h.1.setid z, h.2.1, fun r hr k hk => by
    rcases List.mem_append.1 hr with h1 | h1
    · exact h.2.2 r (List.mem_append_left _ h1) k hk
    · rcases List.mem_cons.1 h1 with rfl | h1
      · exact h.2.2 p (List.mem_append_right _ (List.mem_cons_self ..)) k hk
      · exact h.2.2 r (List.mem_append_right _ (List.mem_cons_of_mem _ h1)) k hk⟩
theorem OwnHX.settok {w w' : World} {lo hi : Nat} {v : Value} {q1 q2 : List XS} {p : XS} {l : List Str} (h : OwnHX w lo hi v (q1 ++ p :: q2)) (hg : w.grownBy w' p.2.ownBlock) (ho : OwnS w' lo p.2 l) : OwnHX w' lo hi v (q1 ++ ((p.1.1, l), p.2) :: q2) :=
  ⟨h.1.settok hg ho, h.2.1, fun r hr k hk => by
    rcases List.mem_append.1 hr with h1 | h1
    · exact h.2.2 r (List.mem_append_left _ h1) k hk
    · rcases List.mem_cons.1 h1 with rfl | h1
      · exact h.2.2 p (List.mem_append_right _ (List.mem_cons_self ..)) k hk
      · exact h.2.2 r (List.mem_append_right _ (List.mem_cons_of_mem _ h1)) k hk⟩

/-- blocks that hold nothing of a slice of sets are as they were -/
def XKept (w w' : World) (v : Value) (q : List XS) : Prop := ∀ k, k < w.heap.size → v.ownBlock ≠ some k → (∀ p ∈ q, p.2.ownBlock ≠ some k) → w'.heap[k]? = w.heap[k]?
theorem Chg.trans {w w1 w2 : World} {lo hi : Nat} (h : Chg w w1 lo hi) (h' : Chg w1 w2 lo hi) : Chg w w2 lo hi :=
  ⟨h'.os.trans h.os, h'.tape.trans h.tape, h'.output.trans h.output, Nat.le_trans h.size h'.size, fun k hk hn => (h'.block k (Nat.lt_of_lt_of_le hk h.size) hn).trans (h.block k hk hn)⟩
theorem row_block {w w' : World} {base : Nat} {e : TypeId} {size n : Nat} {v : Value} {xs : List Value} (h : w.ownsRow base e size v n xs) (hb : ∀ k, v.ownBlock = some k → w'.heap[k]? = w.heap[k]?) : w'.ownsRow base e size v n xs := by
  refine ⟨h.1, ?_⟩
  rcases h.2 with h1 | ⟨g, cap, cur, rfl, hbg, hg, rest⟩
  · exact .inl h1
  · exact .inr ⟨g, cap, cur, rfl, hbg, (hb g rfl).trans hg, rest⟩

set_option maxRecDepth 100000 in
set_option maxHeartbeats 2000000 in
theorem xmark_q (lo hi : Nat) (a : Option Addr) (cap : Nat) (q : List XS) (k0 : Nat) (w : World) (hk0 : 0 < k0) (hn : xmn k0 q ≤ 4000000) (hown : OwnHX w lo hi (.slice a q.length cap) q) :
    Calls Tryz.prog 60 #[.slice a q.length cap, .int .i64 k0] w fun e w' => e = .returned (.int .i64 ((xmn k0 q : Nat) : Int)) ∧ OwnHX w' lo hi (.slice a q.length cap) (xmk k0 q) ∧ Chg w w' lo hi ∧ XKept w w' (.slice a q.length cap) q := by
  have HOWN := Lib.hid hown
  have HN := Lib.hid (fun j => show k0 ≤ xmn k0 (q.take j) ∧ xmn k0 (q.take j) ≤ 4000000 from ⟨xmn_le _ _, Nat.le_trans xmn_take hn⟩)
  have hql : q.length ≤ 4000000 := by rw [xmn_is] at hn; omega
  have HNL := Lib.hid (show ∀ j p, q[j]? = some p → xmn k0 (q.take j) + 1 + p.1.2.length ≤ 4000000 from fun j p hj => by
    have h1 := (HN.out (j + 1)).2
    rw [xs_take hj, xmn_snoc] at h1
    exact h1)
  clear hown
  go_enter Tryz.func60, Tryz.ntmps60
  go_wp2
  go_loopw [1, 5] (fun kk i wr => ∃ k : Nat, k ≤ q.length ∧ i = .int .i64 k ∧ kk = .int .i64 ((xmn k0 (q.take k) : Nat) : Int) ∧ OwnHX wr lo hi (.slice a q.length cap) (xmk k0 (q.take k) ++ q.drop k) ∧ Chg w wr lo hi ∧ XKept w wr (.slice a q.length cap) q) (fun _ i _ => q.length - (intOf i).toNat)
  case atStart => exact ⟨0, Nat.zero_le _, rfl, by simp [xmn], by simpa [xmk] using HOWN.out, Chg.refl _ _ _, fun _ _ _ _ => rfl⟩
  case round =>
    obtain ⟨k, hk, rfl, rfl, hox, hch, hxk⟩ := hrel
    have HCH := Lib.hid hch
    have HXK := Lib.hid hxk
    clear hch hxk
    by_cases hlt : k < q.length
    · have hj := List.getElem?_eq_getElem hlt
      have HJ := Lib.hid (show q[k]? = some q[k] from hj)
      generalize q[k] = p at HJ
      rw [xs_drop HJ.out] at hox
      have hlen : (xmk k0 (q.take k) ++ p :: q.drop (k + 1)).length = q.length := by
        rw [List.length_append, xmk_len, List.length_take, List.length_cons, List.length_drop]
        omega
      have hkl : (xmk k0 (q.take k)).length = k := by rw [xmk_len, List.length_take]; omega
      have hout := hox.1.out
      rw [hlen] at hout
      obtain ⟨g, rfl, hbg, hgl, -⟩ := rowX_at hout (by omega)
      have HGB := Lib.hid (hox.2.1 g rfl)
      have HBG := Lib.hid hbg
      obtain ⟨m, hm⟩ : ∃ m, xmn k0 (q.take k) = m := ⟨_, rfl⟩
      have HM := Lib.hid hm
      have hm2 : m + 1 + p.1.2.length ≤ 4000000 := by rw [← hm]; exact HNL.out k p HJ.out
      have hm1 : k0 ≤ m := by rw [← hm]; exact (HN.out k).1
      have hor := hox.1.row p (List.mem_append_right _ (List.mem_cons_self ..))
      obtain ⟨a', c', hp2⟩ := hor.shape
      have HP2 := Lib.hid hp2
      have q0 := hout.cellAt (k * 2) (by omega)
      have q1 := hout.cellAt (k * 2 + 1) (by omega)
      have hfm : flatX (xmk k0 (q.take k) ++ p :: q.drop (k + 1)) = flatX (xmk k0 (q.take k)) ++ .int .i64 p.1.1 :: p.2 :: flatX (q.drop (k + 1)) := flatX_mid _ _ _
      rw [hfm, (gap2_at (by rw [flatX_len, hkl])).1] at q0
      rw [hfm, (gap2_at (by rw [flatX_len, hkl])).2, hp2] at q1
      have f0 := hout.frozenAt (k * 2)
      have hsi := hox.setid (m : Int)
      rw [hkl] at hsi
      have hg1 : wr.grownBy (wr.setCell ⟨g, k * 2, none⟩ (.int .i64 (m : Int))) (some g) := egrown_set _ _ _ _
      have q2 : (wr.setCell ⟨g, k * 2, none⟩ (.int .i64 (m : Int))).cell? ⟨g, k * 2 + 1, none⟩ = some (.slice a' p.1.2.length c') := by
        rw [World.cell?_setCell_other _ _ _ _ (by simp)]
        exact q1
      have HSI := Lib.hid hsi
      have HC1 := Lib.hid (HCH.out.grown hg1 (fun j hj => by injection hj with hj; subst hj; exact ⟨HBG.out, HGB.out⟩))
      have hos := HSI.out.1.row (((m : Int), p.1.2), p.2) (List.mem_append_right _ (List.mem_cons_self ..))
      have HOS := Lib.hid (show OwnS _ lo (.slice a' p.1.2.length c') p.1.2 by rw [← hp2]; exact hos)
      rw [hm]
      clear hox hout hor hsi hos hj hfm q1 hg1 hp2 hlen hbg hgl
      go_wp2_with (go_at_call 95; (refine (mark_any lo a' c' p.1.2 (m + 1) _ (by omega) (by omega) (by omega) HOS.out).mono ?_); rintro e w2 ⟨rfl, ho, hg⟩; have HO := Lib.hid ho; have HG := Lib.hid hg; clear ho hg)
      go_roundw
      case rel =>
        have hP := HP2.out
        have hst := HSI.out.settok (l := marksL (m + 1) p.1.2.length) (by rw [hP]; exact HG.out) (by rw [hP]; exact HO.out)
        refine ⟨k + 1, by omega, by go_num, ?_, ?_, ?_, fun j hj hv hp => ?_⟩
        · rw [xs_take HJ.out, xmn_snoc, HM.out]; go_num
        · rw [xs_take HJ.out, xmk_snoc, HM.out, List.append_assoc]
          exact hst
        · refine HC1.out.grown HG.out fun j hj => ?_
          have h1 := World.ownsRow.lt HOS.out j hj
          exact ⟨h1.1, HSI.out.2.2 (((m : Int), p.1.2), p.2) (List.mem_append_right _ (List.mem_cons_self ..)) j (by rw [hP]; exact hj)⟩
        · have hjr : j < wr.heap.size := Nat.lt_of_lt_of_le hj HCH.out.size
          have h2 := HG.out.block j (by simpa [World.setCell] using hjr) (fun e => hp p (List.mem_of_getElem? HJ.out) (by rw [hP]; exact e.symm))
          rw [h2, Below.heap_setCell wr ⟨g, k * 2, none⟩ _ j (fun e => hv (by rw [e]; rfl))]
          exact HXK.out j hj hv hp
      case measure => simp [intOf]; omega
    · obtain rfl : k = q.length := by omega
      have HOX := Lib.hid hox
      clear hox
      go_wp2
      go_ret
      have h := HOX.out
      rw [List.take_length, List.drop_length, List.append_nil] at h
      rw [List.take_length]
      exact ⟨rfl, h, HCH.out, HXK.out⟩

theorem xmark_any (lo hi : Nat) (a : Option Addr) (cap n : Nat) (q : List XS) (k0 : Nat) (w : World) (hqn : q.length = n) (hk0 : 0 < k0) (hn : xmn k0 q ≤ 4000000) (hown : OwnHX w lo hi (.slice a n cap) q) :
    Calls Tryz.prog 60 #[.slice a n cap, .int .i64 k0] w fun e w' => e = .returned (.int .i64 ((xmn k0 q : Nat) : Int)) ∧ OwnHX w' lo hi (.slice a n cap) (xmk k0 q) ∧ Chg w w' lo hi ∧ XKept w w' (.slice a n cap) q := by
  subst hqn
  exact xmark_q lo hi a cap q k0 w hk0 hn hown

theorem xmk_append : ∀ (k : Nat) (q r : List XS), xmk k (q ++ r) = xmk k q ++ xmk (xmn k q) r
  | _, [], r => rfl
  | k, p :: q, r => by rw [List.cons_append, xmk, xmk_append, xmk, xmn, List.cons_append]
theorem xmk_at {k0 k : Nat} {q : List XS} {p : XS} (h : q[k]? = some p) : (setsX (xmk k0 q))[k]? = some (((xmn k0 (q.take k) : Nat) : Int), marksL (xmn k0 (q.take k) + 1) p.1.2.length) := by
  have hlt := (List.getElem?_eq_some_iff.1 h).1
  have e : q = q.take k ++ p :: q.drop (k + 1) := by rw [← xs_drop h, List.take_append_drop]
  have hkl : (xmk k0 (q.take k)).length = k := by rw [xmk_len, List.length_take]; omega
  unfold setsX
  rw [List.getElem?_map]
  conv => lhs; rw [e, xmk_append, List.getElem?_append_right (by omega), hkl, Nat.sub_self, xmk]
  rfl

theorem xmn_ix {q : List XS} {S : List IS} {T : List TC} {k0 : Nat} (hq : setsX q = S) : xmn (k0 + 2 * T.length) q = k0 + ixn T S := by
  subst hq
  rw [xmn_is]
  unfold ixn
  rw [setsX_len]
  omega

set_option maxRecDepth 100000 in
theorem markix_any (lo hi : Nat) (t : Int) (b : Option Addr) (d : Nat) (e : Option Addr) (f : Nat) (T : List TC) (q : List XS) (S : List IS) (k0 : Nat) (w : World) (hq : setsX q = S) (hB : BndX T S) (h0 : 0 < k0) (h1 : k0 ≤ 90000) (h : OwnIx w lo hi (.slice b T.length d) (.slice e S.length f) T q) :
    Calls Tryz.prog 24 #[.agg #[.int .i64 t, .slice b T.length d, .slice e S.length f], .int .i64 k0] w fun en w' => en = .returned (.int .i64 ((k0 + ixn T S : Nat) : Int)) ∧ OwnIx w' lo hi (.slice b T.length d) (.slice e S.length f) (tmarks k0 T.length) (xmk (k0 + 2 * T.length) q) ∧ Chg w w' lo hi := by
  have HO := Lib.hid (h.below ((Below.refl _ _).alloc (Nat.le_refl _) (.cells #[.int .i64 t, .slice b T.length d, .slice e S.length f] 27)))
  have HQL := Lib.hid (show q.length = S.length by rw [← hq, setsX_len])
  have HXN := Lib.hid (xmn_ix (T := T) (k0 := k0) hq)
  have HBD := Lib.hid (show k0 + ixn T S ≤ 4000000 by unfold BndX at hB; omega)
  have htl := (bnd_parts hB).1
  have HHI := Lib.hid (show ∀ k, (Value.slice b T.length d).ownBlock = some k → k < w.heap.size from fun k hk => (World.ownsRow.lt h.tab.1 k hk).2)
  have HHX := Lib.hid (show ∀ k, (Value.slice e S.length f).ownBlock = some k → k < w.heap.size from fun k hk => (World.ownsRow.lt h.sets.1.out k hk).2)
  have HHY := Lib.hid (show ∀ p ∈ q, ∀ k, p.2.ownBlock = some k → k < w.heap.size from fun p hp k hk => (World.ownsRow.lt (h.sets.1.row p hp) k hk).2)
  clear h hq hB
  go_enter Tryz.func24, Tryz.ntmps24
  go_wp2_with (go_at_call 59; (refine (tmark_any lo b d T k0 _ (by omega) h0 (by omega) HO.out.tab.1).mono ?_); rintro en w1 ⟨rfl, ho, hg⟩; refine Hid.out ?_)
  have hc1 := (Chg.refl (w.alloc (.cells #[.int .i64 t, .slice b T.length d, .slice e S.length f] 27)) lo hi).grown hg (fun j hj => ⟨(World.ownsRow.lt HO.out.tab.1 j hj).1, HO.out.tab.2 j hj⟩)
  have q2 : w1.cell? ⟨w.heap.size, 2, none⟩ = some (.slice e S.length f) := ((BlkV.new w 27 #[.int .i64 t, .slice b T.length d, .slice e S.length f]).grown hg (fun e9 => by have := HHI.out _ e9.symm; omega)).three2
  have hx1 : OwnX w1 lo (.slice e S.length f) q := ⟨row_keptO HO.out.sets.1.out hg (fun k hk => (HO.out.apart k hk).1), fun p hp => row_keptO (HO.out.sets.1.row p hp) hg (fun k hk => (HO.out.apart k hk).2 p hp), HO.out.sets.1.apart, HO.out.sets.1.dis⟩
  have HX1 := Lib.hid (show OwnHX w1 lo hi (.slice e S.length f) q from ⟨hx1, HO.out.sets.2⟩)
  have HT1 := Lib.hid ho
  have HC1 := Lib.hid hc1
  clear ho hg hc1 hx1
  refine Lib.hid ?_
  go_wp2_with (go_at_call 60; (refine (xmark_any lo hi e f S.length q (k0 + 2 * T.length) _ HQL.out (by omega) (by rw [HXN.out]; exact HBD.out) HX1.out).mono ?_); rw [HXN.out]; rintro en w2 ⟨rfl, ho, hc, hk⟩; refine Hid.out ?_)
  have HX2 := Lib.hid ho
  have HC2 := Lib.hid hc
  have HK2 := Lib.hid hk
  clear ho hc hk
  refine Lib.hid ?_
  go_wp2
  go_ret
  refine ⟨rfl, ⟨⟨?_, HO.out.tab.2⟩, HX2.out, fun k hk => ⟨(HO.out.apart k hk).1, fun p hp => ?_⟩⟩, ?_⟩
  · exact row_block HT1.out fun k hk => HK2.out k (World.ownsRow.lt HT1.out k hk).2 (HO.out.apart k hk).1 (HO.out.apart k hk).2
  · obtain ⟨p', h1, h2⟩ := xmk_val _ _ _ hp
    rw [← h2]
    exact (HO.out.apart k hk).2 p' h1
  · exact ((Chg.refl w lo hi).grown (World.grownBy_alloc w _ none) (fun k hk => by cases hk)).trans (HC1.out.trans HC2.out)

end Go.Proofs.YthjbekgognfiiaaGreat
