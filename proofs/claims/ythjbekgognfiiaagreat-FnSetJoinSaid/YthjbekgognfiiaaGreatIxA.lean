/-
  append at slices of structs inside a region that draws its order; spec.l12Copy. By an AI agent.
-/
import Derived.Test.YthjbekgognfiiaaGreatIxM
import Derived.Test.YthjbekgognfiiaaGreatJ12
import Derived.Deep.AppendLies
import Derived.Deep.DeepCutAuto
namespace Go.Proofs.YthjbekgognfiiaaGreat
open Go.RowKit
set_option linter.unusedVariables false

theorem step_app_row {P : Program} {ops : Array Oper} {o : Oper} {a : Act} {w : World} {K : Act → World → Prop} {Q : Exit → Act → World → Prop} {G : Prop}
    (hg : o.guard = none) (s x : Operand) (ST E : TypeId) (hop : o.op = Op.call { callee := Callee.builtin Builtin.append, args := #[s, x], argTypes := #[ST, ST] })
    (i0 : TypeInfo) (z : Value) (size bytes : Nat) (ht : P.underlying ST = some (.slice E)) (hi : P.info? E = some i0) (hz0 : i0.zero = some z) (hz1 : i0.size = size) (hz2 : i0.bytes = bytes) (hzs : z.cells.size = size) (hpos : 0 < size)
    (base : Nat) (v : Value) (n : Nat) (xs : List Value) (hs : a.eval s = v) (ad : Option Addr) (m c : Nat) (us : List Value) (hx : a.eval x = .slice ad m c) (hown : w.ownsRow base E size v n xs) (hl : us.length = m * size) (hin : CellsAt w ad us) (hn : ad = none → c = 0)
    (h1 : ∀ u ∈ us, u.oneCell' = true) (hsz : n + m ≤ maxLen) (hby : (n + m) * bytes ≤ 140737488355328) (hbase : base ≤ w.heap.size)
    (hK : ∀ v' w', w'.ownsRow base E size v' (n + m) (xs ++ us) → w.grownBy w' v.ownBlock → K (a.put o.dst v') w') :
    if Region.wanted o (yielded ops a.tmps) = true then Oper.wp P o a w K Q else G := by
  rw [if_pos (by simp [Region.wanted, hg])]
  obtain ⟨v', w', hrun, h2, h3, -⟩ := run_app_row ST E o.type i0 z size bytes ht hi hz0 hz1 hz2 hzs hpos w base v n xs hown ad m c us hl hin hn h1 hsz hby hbase
  unfold Oper.wp
  simp [execOp, hop, resolve, invoke, builtin, hs, hx, hrun, Result.andThen]
  exact hK v' w' h2 h3

theorem cells_row {w : World} {base : Nat} {e : TypeId} {size g n c : Nat} {xs : List Value} (h : w.ownsRow base e size (.slice (some ⟨g, 0, none⟩) n c) n xs) : CellsAt w (some ⟨g, 0, none⟩) xs := fun h0 => by
  have hn : 0 < n := by
    rcases Nat.eq_zero_or_pos n with h1 | h1
    · have := h.1; rw [h1, Nat.zero_mul] at this; omega
    · exact h1
  obtain ⟨g', e', _, hl, hc⟩ := rowX_at h hn
  injection e' with e'
  injection e' with e'
  subst e'
  exact ⟨g, 0, rfl, hl, hc⟩
theorem cells_take {w : World} {a : Option Addr} {us : List Value} (h : CellsAt w a us) (k : Nat) : CellsAt w a (us.take k) := fun h0 => by
  rw [List.length_take] at h0
  obtain ⟨b, off, e, hl, hc⟩ := h (by omega)
  refine ⟨b, off, e, hl, fun j u hj => hc j u ?_⟩
  have h1 := (List.getElem?_eq_some_iff.1 hj).1
  rw [List.length_take] at h1
  rwa [List.getElem?_take_of_lt (by omega)] at hj
theorem cells_drop {w : World} {b off : Nat} {us : List Value} (h : CellsAt w (some ⟨b, off, none⟩) us) (k : Nat) : CellsAt w (some ⟨b, off + k, none⟩) (us.drop k) := fun h0 => by
  rw [List.length_drop] at h0
  obtain ⟨b', off', e, hl, hc⟩ := h (by omega)
  injection e with e
  injection e with e1 e2
  subst e1 e2
  refine ⟨b, off + k, rfl, hl, fun j u hj => ?_⟩
  rw [List.getElem?_drop] at hj
  rw [Nat.add_assoc]
  exact hc _ _ hj

/-- one struct is appended -/
theorem step_ixs {ops : Array Oper} {o : Oper} {a : Act} {w : World} {K : Act → World → Prop} {Q : Exit → Act → World → Prop} {G : Prop} (hgd : o.guard = none) (s y : Operand)
    (ho : o.op = .call { callee := .builtin .append, args := #[s, y], argTypes := #[25, 25] })
    (base : Nat) (v : Value) (n : Nat) (xs : List Value) (p : Nat) (id : Int) (vn : Value) (hs : a.eval s = v) (hy : a.eval y = .slice (some ⟨p, 0, none⟩) 1 1) (H : Nat) (hown : w.ownsRow base 71 2 v n xs) (hp : BlkV w p 71 #[.int .i64 id, vn]) (h1 : vn.oneCell' = true)
    (hlen : n ≤ 4000000) (hbase : base ≤ w.heap.size) (hH : w.heap.size = H)
    (h : ∀ g cap w', w'.ownsRow base 71 2 (.slice (some ⟨g, 0, none⟩) (n + 1) cap) (n + 1) (xs ++ [.int .i64 id, vn]) → w.grownBy w' v.ownBlock → (v.ownBlock = some g ∨ g = H) → K (a.put o.dst (.slice (some ⟨g, 0, none⟩) (n + 1) cap)) w') :
    if Region.wanted o (yielded ops a.tmps) = true then Oper.wp Tryz.prog o a w K Q else G := by
  obtain ⟨i0, hi, hz0, hz1, hz2⟩ := info_parts info_ixs
  refine step_append_lies _ hgd s y 25 ho base 71 i0 _ 2 32 Tryz.underlying25 hi hz0 hz1 hz2 rfl (by decide) v n xs hs hown
    ⟨p, 0, none⟩ 1 1 [.int .i64 id, vn] hy rfl (World.news_of_block (cs := #[.int .i64 id, vn]) (t := 71) (fr := (0, 0)) hp) (fun u hu => by rcases List.mem_cons.1 hu with rfl | h2; exact rfl; simp at h2; subst h2; exact h1)
    (by omega) (by unfold maxLen; omega) (by omega) hbase H hH ?_
  intro g cap w' h2 h3 h4 _
  exact h g cap w' h2 h3 h4

theorem ownsRow_made_at {e : TypeId} {size : Nat} (w : World) (base g : Nat) (hg : w.heap.size = g) (hb : base ≤ g) : (w.alloc (.cells #[] e)).ownsRow base e size (.slice (some ⟨g, 0, none⟩) 0 0) 0 [] := by
  subst hg
  exact World.ownsRow_made w #[] 0 hb (Nat.zero_le _) (by simp)
/-- a row and a box of another type lie apart -/
theorem own_ne {w : World} {base B : Nat} {e t : TypeId} {size n : Nat} {v : Value} {xs : List Value} {cs : Array Value} (h : w.ownsRow base e size v n xs) (hB : BlkV w B t cs) (hne : e ≠ t) : v.ownBlock ≠ some B := by
  intro hk
  rcases h.2 with ⟨rfl, _⟩ | ⟨g, cap, cur, rfl, _, hg, _⟩
  · simp [Value.ownBlock] at hk
  · simp [Value.ownBlock] at hk
    subst hk
    unfold BlkV at hB
    rw [hg] at hB
    injection hB with h1
    injection h1 with _ h2 _
    exact hne h2

/-- the copy's head is stored into its box -/
theorem ixst_spec {w w3 : World} {BY g : Nat} {t : Int} {T : List TC} {a1 : Option Addr} {c1 : Nat} {b0 b1 b2 : Value} (hy : BlkV w3 BY 27 #[b0, b1, b2]) (hr : BlkV w3 g 27 #[.int .i64 0, .slice none 0 0, .slice none 0 0])
    (hT : OwnT w3 (g + 1) (.slice a1 T.length c1) T) (hb : Below w.heap.size w w3) (hn : (Value.slice a1 T.length c1).ownBlock ≠ some BY) (hB : g < BY) (hg : w.heap.size ≤ g) :
    IxSt w (((w3.setCell ⟨BY, 0, none⟩ (.int .i64 t)).setCell ⟨BY, 1, none⟩ (.slice a1 T.length c1)).setCell ⟨BY, 2, none⟩ (.slice none 0 0)) BY g t T a1 c1 none 0 0 [] := by
  have hset : ∀ (W : World) (i : Nat) (u : Value), OwnT W (g + 1) (.slice a1 T.length c1) T → OwnT (W.setCell ⟨BY, i, none⟩ u) (g + 1) (.slice a1 T.length c1) T := fun W i u h => row_keptO h (egrown_set W BY i u) (fun k hk e => hn (by cases hk; exact e))
  exact ⟨((hy.set_ 0 _).set_ 1 _).set_ 2 _, ((hr.other _ _ (by simp; omega)).other _ _ (by simp; omega)).other _ _ (by simp; omega), hset _ _ _ (hset _ _ _ (hset _ _ _ hT)), OwnX.nil _ _, ap_nil, hn, nofun, nofun, ((hb.setCell (by simp; omega) _).setCell (by simp; omega) _).setCell (by simp; omega) _, by omega, hg, by omega⟩

set_option maxRecDepth 100000 in
set_option maxHeartbeats 4000000 in
theorem copy_spec (t : Int) (ta : Option Addr) (tc : Nat) (T : List TC) (xa : Option Addr) (xc : Nat) (S : List IS) (w : World) (h : SmIx w ta T tc xa S xc) :
    Calls Tryz.prog 47 #[.agg #[.int .i64 t, .slice ta T.length tc, .slice xa S.length xc]] w (GivesIx w t T S) := by
  obtain ⟨i0, hi0, hz0, hz1, hz2⟩ := info_parts info_tc
  obtain ⟨w1, hw1⟩ : ∃ w1, w1 = (w.alloc (.cells #[.int .i64 t, .slice ta T.length tc, .slice xa S.length xc] 27)).alloc (.cells #[.int .i64 0, .slice none 0 0, .slice none 0 0] 27) := ⟨_, rfl⟩
  have HW1 := Lib.hid hw1
  have HB1 := Lib.hid (show Below w.heap.size w w1 by rw [hw1]; exact ((Below.refl w.heap.size w).alloc (Nat.le_refl _) _).alloc (by simp) _)
  have HBX := Lib.hid (show BlkV w1 w.heap.size 27 #[.int .i64 t, .slice ta T.length tc, .slice xa S.length xc] by rw [hw1]; exact (BlkV.new _ _ _).alloc _)
  have HRC := Lib.hid (show BlkV w1 (w.heap.size + 1) 27 #[.int .i64 0, .slice none 0 0, .slice none 0 0] by rw [hw1]; exact BlkV.new_ _ _ _ _ (by simp))
  have HS1 := Lib.hid (show w1.heap.size = w.heap.size + 2 by rw [hw1]; simp)
  have HX := Lib.hid (h.below HB1.out)
  have HXW := Lib.hid h
  have hl := h.sets.2.2.2.1
  have htl := h.tab.1.2.2.2.1
  clear h hw1
  have q0 := HBX.out.three0
  have q1 := HBX.out.three1
  have qa := HBX.out.alloc (.cells #[] 109)
  have q0a := qa.three0
  have q1a := qa.three1
  clear qa
  have qz := HBX.out.alloc (.cells #[.int .i64 0, .slice none 0 0, .slice none 0 0] 27)
  have q0z := qz.three0
  have q1z := qz.three1
  clear qz
  have HAA := Lib.hid (show Below w1.heap.size w1 ((w1.alloc (.cells #[] 109)).drew) from ((Below.refl _ _).alloc (Nat.le_refl _) _).drew)
  have HOWA := Lib.hid (show ((w1.alloc (.cells #[] 109)).drew).ownsRow w1.heap.size 109 2 (.slice (some ⟨w1.heap.size, 0, none⟩) 0 0) 0 [] from World.ownsRow_made w1 #[] 0 (Nat.le_refl _) (Nat.zero_le _) (by simp))
  have HCAA := Lib.hid ((inT_cells HX.out.tab.1.1).below HAA.out)
  have HAB := Lib.hid (show Below w1.heap.size w1 (((w1.alloc (.cells #[] 109)).alloc (.cells #[.int .i64 0, .slice none 0 0, .slice none 0 0] 27)).drew) from (((Below.refl _ _).alloc (Nat.le_refl _) _).alloc (by simp) _).drew)
  have HOWB := Lib.hid (show (((w1.alloc (.cells #[] 109)).alloc (.cells #[.int .i64 0, .slice none 0 0, .slice none 0 0] 27)).drew).ownsRow w1.heap.size 109 2 (.slice (some ⟨w1.heap.size, 0, none⟩) 0 0) 0 [] from World.ownsRow.alloc (World.ownsRow_made w1 #[] 0 (Nat.le_refl _) (Nat.zero_le _) (by simp)) _)
  have HCAB := Lib.hid ((inT_cells HX.out.tab.1.1).below HAB.out)
  have qB := HBX.out.below (show Below w1.heap.size w1 ((w1.alloc (.cells #[] 109)).alloc (.cells #[.int .i64 0, .slice none 0 0, .slice none 0 0] 27)) from ((Below.refl _ _).alloc (Nat.le_refl _) _).alloc (by simp) _)
  have q0B : (((w1.alloc (.cells #[] 109)).alloc (.cells #[.int .i64 0, .slice none 0 0, .slice none 0 0] 27)).drew).cell? ⟨w.heap.size, 0, none⟩ = some (.int .i64 t) := qB.three0
  have q1B : (((w1.alloc (.cells #[] 109)).alloc (.cells #[.int .i64 0, .slice none 0 0, .slice none 0 0] 27)).drew).cell? ⟨w.heap.size, 1, none⟩ = some (.slice ta T.length tc) := qB.three1
  clear qB
  have HAC := Lib.hid (show Below w1.heap.size w1 (((w1.alloc (.cells #[.int .i64 0, .slice none 0 0, .slice none 0 0] 27)).alloc (.cells #[] 109)).drew) from (((Below.refl _ _).alloc (Nat.le_refl _) _).alloc (by simp) _).drew)
  have HOWC := Lib.hid (show (((w1.alloc (.cells #[.int .i64 0, .slice none 0 0, .slice none 0 0] 27)).alloc (.cells #[] 109)).drew).ownsRow w1.heap.size 109 2 (.slice (some ⟨w1.heap.size + 1, 0, none⟩) 0 0) 0 [] from ownsRow_made_at (w1.alloc (.cells #[.int .i64 0, .slice none 0 0, .slice none 0 0] 27)) w1.heap.size (w1.heap.size + 1) (by simp) (by omega))
  have HCAC := Lib.hid ((inT_cells HX.out.tab.1.1).below HAC.out)
  have qC := HBX.out.below (show Below w1.heap.size w1 ((w1.alloc (.cells #[.int .i64 0, .slice none 0 0, .slice none 0 0] 27)).alloc (.cells #[] 109)) from ((Below.refl _ _).alloc (Nat.le_refl _) _).alloc (by simp) _)
  have q0C : (((w1.alloc (.cells #[.int .i64 0, .slice none 0 0, .slice none 0 0] 27)).alloc (.cells #[] 109)).drew).cell? ⟨w.heap.size, 0, none⟩ = some (.int .i64 t) := qC.three0
  have q1C : (((w1.alloc (.cells #[.int .i64 0, .slice none 0 0, .slice none 0 0] 27)).alloc (.cells #[] 109)).drew).cell? ⟨w.heap.size, 1, none⟩ = some (.slice ta T.length tc) := qC.three1
  clear qC
  have HYB := Lib.hid (show BlkV ((w1.alloc (.cells #[] 109)).alloc (.cells #[.int .i64 0, .slice none 0 0, .slice none 0 0] 27)).drew (w1.heap.size + 1) 27 #[.int .i64 0, .slice none 0 0, .slice none 0 0] from BlkV.new_ _ _ _ _ (by simp))
  have HYC := Lib.hid (show BlkV ((w1.alloc (.cells #[.int .i64 0, .slice none 0 0, .slice none 0 0] 27)).alloc (.cells #[] 109)).drew w1.heap.size 27 #[.int .i64 0, .slice none 0 0, .slice none 0 0] from (BlkV.new w1 _ _).alloc _)
  go_enter Tryz.func47, Tryz.ntmps47
  go_upto_region 1 with (fail)
  rw [← HW1.out]
  go_cut [3] (fun s wx => ∃ (BY : Nat) (a1 : Option Addr) (c1 : Nat), s = .pointer (some ⟨BY, 0, none⟩) ∧ w.heap.size < BY ∧ IxSt w wx BY (w.heap.size + 1) t T a1 c1 none 0 0 [] ∧ BlkV wx w.heap.size 27 #[.int .i64 t, .slice ta T.length tc, .slice xa S.length xc])
  case first =>
    go_region_held3 (fun w' => w'.cell? ⟨w.heap.size, 0, none⟩ = some (.int .i64 t) ∧ w'.cell? ⟨w.heap.size, 1, none⟩ = some (.slice ta T.length tc))
      (first | exact ⟨u0, u1⟩ | exact ⟨q0, q1⟩ | with_reducible exact ⟨q0B, q1B⟩ | with_reducible exact ⟨q0C, q1C⟩ | exact ⟨q0a, q1a⟩ | exact ⟨q0z, q1z⟩ | with_reducible exact ⟨x0, x1⟩ | with_reducible exact ⟨v0, v1⟩)
      (first
        | (refine step_app_row rfl _ _ 24 109 rfl i0 _ 2 24 Tryz.underlying24 hi0 hz0 hz1 hz2 rfl (by decide) w1.heap.size (.slice (some ⟨w1.heap.size, 0, none⟩) 0 0) 0 [] rfl ta T.length tc (flatT T) rfl HOWA.out (flat_len T) HCAA.out HX.out.tab.1.2.1 (flat_one T) (by unfold maxLen; omega) (by omega) HAA.out.size ?_; intro vt w3 ho hg; have hb3 := HAA.out.grown hg HAA.out.size (fun k hk => by cases hk; simp); rw [Nat.zero_add, List.nil_append] at ho; obtain ⟨a1, c1, rfl⟩ := OwnT.shape ho; have HO3 := Lib.hid (show OwnT w3 w1.heap.size (.slice a1 T.length c1) T from ho); have HB3 := Lib.hid hb3; have u0 := (HBX.out.below hb3).three0; have u1 := (HBX.out.below hb3).three1; have hv3 := (HBX.out.below hb3).alloc (.cells #[.int .i64 t, .slice a1 T.length c1, .slice none 0 0] 27); have v0 := hv3.three0; have v1 := hv3.three1; have hz3 := (HBX.out.below hb3).alloc (.cells #[.int .i64 0, .slice none 0 0, .slice none 0 0] 27); have x0 := hz3.three0; have x1 := hz3.three1; clear hv3 hz3; clear ho hg hb3)
        | (refine step_app_row rfl _ _ 24 109 rfl i0 _ 2 24 Tryz.underlying24 hi0 hz0 hz1 hz2 rfl (by decide) w1.heap.size (.slice (some ⟨w1.heap.size, 0, none⟩) 0 0) 0 [] rfl ta T.length tc (flatT T) rfl HOWB.out (flat_len T) HCAB.out HX.out.tab.1.2.1 (flat_one T) (by unfold maxLen; omega) (by omega) HAB.out.size ?_; intro vt w3 ho hg; have hb3 := HAB.out.grown hg HAB.out.size (fun k hk => by cases hk; simp); rw [Nat.zero_add, List.nil_append] at ho; obtain ⟨a1, c1, rfl⟩ := OwnT.shape ho; have HO3 := Lib.hid (show OwnT w3 w1.heap.size (.slice a1 T.length c1) T from ho); have HB3 := Lib.hid hb3; have u0 := (HBX.out.below hb3).three0; have u1 := (HBX.out.below hb3).three1; have hy := HYB.out.grown hg (by simp [Value.ownBlock]); have HY3 := Lib.hid hy; have y0 := hy.three0; have y1 := hy.three1; have y2 := hy.three2; have fy0 := hy.frozen 0; have fy1 := hy.frozen 1; have fy2 := hy.frozen 2; have hv3 := (((HBX.out.below hb3).other ⟨w1.heap.size + 1, 0, none⟩ (.int .i64 t) (by have := HS1.out; simp; omega)).other ⟨w1.heap.size + 1, 1, none⟩ (.slice a1 T.length c1) (by have := HS1.out; simp; omega)).other ⟨w1.heap.size + 1, 2, none⟩ (.slice none 0 0) (by have := HS1.out; simp; omega); have v0 := hv3.three0; have v1 := hv3.three1; clear hv3 hy; clear ho hg hb3)
        | (refine step_app_row rfl _ _ 24 109 rfl i0 _ 2 24 Tryz.underlying24 hi0 hz0 hz1 hz2 rfl (by decide) w1.heap.size (.slice (some ⟨w1.heap.size + 1, 0, none⟩) 0 0) 0 [] rfl ta T.length tc (flatT T) rfl HOWC.out (flat_len T) HCAC.out HX.out.tab.1.2.1 (flat_one T) (by unfold maxLen; omega) (by omega) HAC.out.size ?_; intro vt w3 ho hg; have hb3 := HAC.out.grown hg HAC.out.size (fun k hk => by cases hk; simp); rw [Nat.zero_add, List.nil_append] at ho; obtain ⟨a1, c1, rfl⟩ := OwnT.shape ho; have HO3 := Lib.hid (show OwnT w3 w1.heap.size (.slice a1 T.length c1) T from ho); have HB3 := Lib.hid hb3; have u0 := (HBX.out.below hb3).three0; have u1 := (HBX.out.below hb3).three1; have hy := HYC.out.grown hg (by simp [Value.ownBlock]); have HY3 := Lib.hid hy; have y0 := hy.three0; have y1 := hy.three1; have y2 := hy.three2; have fy0 := hy.frozen 0; have fy1 := hy.frozen 1; have fy2 := hy.frozen 2; have hv3 := (((HBX.out.below hb3).other ⟨w1.heap.size, 0, none⟩ (.int .i64 t) (by have := HS1.out; simp; omega)).other ⟨w1.heap.size, 1, none⟩ (.slice a1 T.length c1) (by have := HS1.out; simp; omega)).other ⟨w1.heap.size, 2, none⟩ (.slice none 0 0) (by have := HS1.out; simp; omega); have v0 := hv3.three0; have v1 := hv3.three1; clear hv3 hy; clear ho hg hb3))
    all_goals go_wp2_with fail
    all_goals go_meet
    all_goals
      have hb3 := HB3.out
      have hsz3 := hb3.size
      have hs1 := HS1.out
      have hbw := HB1.out.trans (hb3.mono HB1.out.size)
      have hrc := HRC.out.below hb3
      have hbx := HBX.out.below hb3
      have hT := HO3.out.mono (show w.heap.size + 1 + 1 ≤ w1.heap.size by omega)
    all_goals first
      | exact ⟨w3.heap.size, a1, c1, rfl, by omega, ⟨BlkV.new w3 _ _, hrc.alloc _, World.ownsRow.alloc hT _, OwnX.nil _ _, ap_nil, (fun e => by have := (World.ownsRow.lt hT _ e).2; omega), nofun, nofun, hbw.alloc hbw.size _, by omega, by omega, by omega⟩, hbx.alloc _⟩
      | exact ⟨w1.heap.size + 1, a1, c1, rfl, by omega, ixst_spec HY3.out hrc hT hbw (own_ne hT HY3.out (by decide)) (by omega) (by omega), ((hbx.other _ _ (by simp; omega)).other _ _ (by simp; omega)).other _ _ (by simp; omega)⟩
      | exact ⟨w1.heap.size, a1, c1, rfl, by omega, ixst_spec HY3.out hrc hT hbw (own_ne hT HY3.out (by decide)) (by omega) (by omega), ((hbx.other _ _ (by simp; omega)).other _ _ (by simp; omega)).other _ _ (by simp; omega)⟩
  case rest =>
    obtain ⟨BY, a1, c1, rfl, hyl, hst, hbx⟩ := hcut
    have HYL := Lib.hid hyl
    clear hyl
    have HSTC := Lib.hid hst
    have HBXC := Lib.hid hbx
    clear hst hbx
    go_wp2
    go_loopw [4] (fun i wr => ∃ (k : Nat) (q : List XS) (xa1 : Option Addr) (xc1 : Nat), k ≤ S.length ∧ i = .int .i64 k ∧ setsX q = S.take k ∧ IxSt w wr BY (w.heap.size + 1) t T a1 c1 xa1 k xc1 q ∧ BlkV wr w.heap.size 27 #[.int .i64 t, .slice ta T.length tc, .slice xa S.length xc]) (fun i _ => S.length - (intOf i).toNat)
    case atStart => exact ⟨0, [], none, 0, Nat.zero_le _, rfl, rfl, HSTC.out, HBXC.out⟩
    case round =>
      obtain ⟨k, q, xa1, xc1, hk, rfl, hq, hst, hbx⟩ := hrel
      have HQ := Lib.hid hq
      have HST := Lib.hid hst
      have HBX2 := Lib.hid hbx
      have HQL := Lib.hid hst.sets.len
      clear hq hst hbx
      have x2 := HBX2.out.three2
      by_cases hlt : k < S.length
      · obtain ⟨b, off, x, a', c', rfl, hbl, hx1, hc0, hc1, hSm⟩ := HXW.out.sets.at_ hlt
        obtain ⟨id, l⟩ := x
        replace hc0 : w.cell? ⟨b, off + k * 2, none⟩ = some (.int .i64 id) := hc0
        replace hc1 : w.cell? ⟨b, off + k * 2 + 1, none⟩ = some (.slice a' l.length c') := hc1
        replace hSm : Sm w a' l c' := hSm
        have HX1 := Lib.hid hx1
        have HBLW := Lib.hid hbl
        have hbw := HST.out.below
        have HWR := Lib.hid (show w.heap.size + 1 + 1 ≤ wr.heap.size by have := HST.out.res.lt; omega)
        have HBL := Lib.hid (show b < wr.heap.size from Nat.lt_of_lt_of_le hbl hbw.size)
        have c0 := (hbw.cell (p := ⟨b, off + k * 2, none⟩) hbl).trans hc0
        have c1' := (hbw.cell (p := ⟨b, off + k * 2 + 1, none⟩) hbl).trans hc1
        have y2 := HST.out.box.three2
        have hba := (Below.refl wr.heap.size wr).alloc (Nat.le_refl _) (.cells #[] 9)
        have HBA := Lib.hid hba.drew
        have y2a := (HST.out.box.below hba).three2
        have x2a := (HBX2.out.below hba).three2
        have c0a := (hba.cell (p := ⟨b, off + k * 2, none⟩) HBL.out).trans c0
        have c1a := (hba.cell (p := ⟨b, off + k * 2 + 1, none⟩) HBL.out).trans c1'
        have HOA := Lib.hid (show OwnS ((wr.alloc (.cells #[] 9)).drew) wr.heap.size (.slice (some ⟨wr.heap.size, 0, none⟩) 0 0) [] from own_new wr wr.heap.size wr.heap.size rfl (Nat.le_refl _))
        have HIA := Lib.hid (show InS ((wr.alloc (.cells #[] 9)).drew) a' l from (hSm.1.below hbw).below hba.drew)
        have HNN := Lib.hid hSm.2.1
        have HLL := Lib.hid hSm.2.2.2.1
        clear hx1 hc0 hc1 hSm hba hbw hbl
        go_wp2_with (fail)
        refine wp_region_noPanic ?_
        refine wp_region_E (S := fun w' => w'.cell? ⟨BY, 2, none⟩ = some (.slice xa1 k xc1) ∧ w'.cell? ⟨w.heap.size, 2, none⟩ = some (.slice (some ⟨b, off, none⟩) S.length xc) ∧ w'.cell? ⟨b, off + k * 2, none⟩ = some (.int .i64 id) ∧ w'.cell? ⟨b, off + k * 2 + 1, none⟩ = some (.slice a' l.length c')) 20 (by kernel_rfl) (⟨y2, x2, c0, c1'⟩) (fun hHeld => ?_)
        refine anyE_take (i := 0) (v := ?vz1) rfl (by kernel_rfl) (by kernel_rfl) (by kernel_rfl) (by kernel_rfl) (by kernel_rfl) (fun _ _ _ h => h) (Or.inl ⟨by kernel_rfl, ?yz1⟩) (by assumption) ?rz1
        case yz1 => (intro w' hSw; (try dsimp only at hSw); go_simp; (try with_reducible rfl))
        (try simp only [Act.put, List.getElem_toArray, List.getElem_cons_succ, List.getElem_cons_zero, List.setIfInBounds_toArray, List.set_cons_zero, List.set_cons_succ])
        refine anyE_take (i := 1) (v := ?vz2) rfl (by kernel_rfl) (by kernel_rfl) (by kernel_rfl) (by kernel_rfl) (by kernel_rfl) (fun _ _ _ h => h) (Or.inl ⟨by kernel_rfl, ?yz2⟩) (by assumption) ?rz2
        case yz2 => (intro w' hSw; (try dsimp only at hSw); go_simp; (try with_reducible rfl))
        (try simp only [Act.put, List.getElem_toArray, List.getElem_cons_succ, List.getElem_cons_zero, List.setIfInBounds_toArray, List.set_cons_zero, List.set_cons_succ])
        refine anyE_take (i := 2) (v := ?vz3) rfl (by kernel_rfl) (by kernel_rfl) (by kernel_rfl) (by kernel_rfl) (by kernel_rfl) (fun _ _ _ h => h) (Or.inl ⟨by kernel_rfl, ?yz3⟩) (by assumption) ?rz3
        case yz3 => (intro w' hSw; (try dsimp only at hSw); go_simp; (try with_reducible rfl))
        (try simp only [Act.put, List.getElem_toArray, List.getElem_cons_succ, List.getElem_cons_zero, List.setIfInBounds_toArray, List.set_cons_zero, List.set_cons_succ])
        refine anyE_take (i := 3) (v := ?vz4) rfl (by kernel_rfl) (by kernel_rfl) (by kernel_rfl) (by kernel_rfl) (by kernel_rfl) (fun _ _ _ h => h) (Or.inl ⟨by kernel_rfl, ?yz4⟩) (by assumption) ?rz4
        case yz4 => (intro w' hSw; (try dsimp only at hSw); go_simp; (try with_reducible rfl))
        (try simp only [Act.put, List.getElem_toArray, List.getElem_cons_succ, List.getElem_cons_zero, List.setIfInBounds_toArray, List.set_cons_zero, List.set_cons_succ])
        refine anyE_take (i := 4) (v := ?vz5) rfl (by kernel_rfl) (by kernel_rfl) (by kernel_rfl) (by kernel_rfl) (by kernel_rfl) (fun _ _ _ h => h) (Or.inl ⟨by kernel_rfl, ?yz5⟩) (by assumption) ?rz5
        case yz5 => (intro w' hSw; (try dsimp only at hSw); go_simp; (try with_reducible rfl))
        (try simp only [Act.put, List.getElem_toArray, List.getElem_cons_succ, List.getElem_cons_zero, List.setIfInBounds_toArray, List.set_cons_zero, List.set_cons_succ])
        refine anyE_take (i := 5) (v := ?vz6) rfl (by kernel_rfl) (by kernel_rfl) (by kernel_rfl) (by kernel_rfl) (by kernel_rfl) (fun _ _ _ h => h) (Or.inl ⟨by kernel_rfl, ?yz6⟩) (by assumption) ?rz6
        case yz6 => (intro w' hSw; (try dsimp only at hSw); go_simp; (try with_reducible rfl))
        (try simp only [Act.put, List.getElem_toArray, List.getElem_cons_succ, List.getElem_cons_zero, List.setIfInBounds_toArray, List.set_cons_zero, List.set_cons_succ])
        refine anyE_take (i := 6) (v := ?vz7) rfl (by kernel_rfl) (by kernel_rfl) (by kernel_rfl) (by kernel_rfl) (by kernel_rfl) (fun _ _ _ h => h) (Or.inl ⟨by kernel_rfl, ?yz7⟩) (by assumption) ?rz7
        case yz7 => (intro w' hSw; (try dsimp only at hSw); go_simp; (try with_reducible rfl))
        (try simp only [Act.put, List.getElem_toArray, List.getElem_cons_succ, List.getElem_cons_zero, List.setIfInBounds_toArray, List.set_cons_zero, List.set_cons_succ])
        refine anyE_take (i := 7) (v := ?vz8) rfl (by kernel_rfl) (by kernel_rfl) (by kernel_rfl) (by kernel_rfl) (by kernel_rfl) (fun _ _ _ h => h) (Or.inl ⟨by kernel_rfl, ?yz8⟩) (by assumption) ?rz8
        case yz8 => (intro w' hSw; (try dsimp only at hSw); go_simp; (try with_reducible rfl))
        (try simp only [Act.put, List.getElem_toArray, List.getElem_cons_succ, List.getElem_cons_zero, List.setIfInBounds_toArray, List.set_cons_zero, List.set_cons_succ])
        refine anyE_take (i := 9) (v := ?vz9) rfl (by kernel_rfl) (by kernel_rfl) (by kernel_rfl) (by kernel_rfl) (by kernel_rfl) (fun _ _ _ h => h) (Or.inl ⟨by kernel_rfl, ?yz9⟩) (by assumption) ?rz9
        case yz9 => (intro w' hSw; (try dsimp only at hSw); go_simp; (try with_reducible rfl))
        (try simp only [Act.put, List.getElem_toArray, List.getElem_cons_succ, List.getElem_cons_zero, List.setIfInBounds_toArray, List.set_cons_zero, List.set_cons_succ])
        refine anyE_take (i := 10) (v := ?vz10) rfl (by kernel_rfl) (by kernel_rfl) (by kernel_rfl) (by kernel_rfl) (by kernel_rfl) (fun _ _ _ h => h) (Or.inl ⟨by kernel_rfl, ?yz10⟩) (by assumption) ?rz10
        case yz10 => (intro w' hSw; (try dsimp only at hSw); go_simp; (try with_reducible rfl))
        (try simp only [Act.put, List.getElem_toArray, List.getElem_cons_succ, List.getElem_cons_zero, List.setIfInBounds_toArray, List.set_cons_zero, List.set_cons_succ])
        refine anyE_take (i := 11) (v := ?vz11) rfl (by kernel_rfl) (by kernel_rfl) (by kernel_rfl) (by kernel_rfl) (by kernel_rfl) (fun _ _ _ h => h) (Or.inl ⟨by kernel_rfl, ?yz11⟩) (by assumption) ?rz11
        case yz11 => (intro w' hSw; (try dsimp only at hSw); go_simp; (try with_reducible rfl))
        (try simp only [Act.put, List.getElem_toArray, List.getElem_cons_succ, List.getElem_cons_zero, List.setIfInBounds_toArray, List.set_cons_zero, List.set_cons_succ])
        refine anyE_take (i := 12) (v := ?vz12) rfl (by kernel_rfl) (by kernel_rfl) (by kernel_rfl) (by kernel_rfl) (by kernel_rfl) (fun _ _ _ h => h) (Or.inl ⟨by kernel_rfl, ?yz12⟩) (by assumption) ?rz12
        case yz12 => (intro w' hSw; (try dsimp only at hSw); go_simp; (try with_reducible rfl))
        (try simp only [Act.put, List.getElem_toArray, List.getElem_cons_succ, List.getElem_cons_zero, List.setIfInBounds_toArray, List.set_cons_zero, List.set_cons_succ])
        refine anyE_take (i := 13) (v := ?vz13) rfl (by kernel_rfl) (by kernel_rfl) (by kernel_rfl) (by kernel_rfl) (by kernel_rfl) (fun _ _ _ h => h) (Or.inl ⟨by kernel_rfl, ?yz13⟩) (by assumption) ?rz13
        case yz13 => (intro w' hSw; (try dsimp only at hSw); go_simp; (try with_reducible rfl))
        (try simp only [Act.put, List.getElem_toArray, List.getElem_cons_succ, List.getElem_cons_zero, List.setIfInBounds_toArray, List.set_cons_zero, List.set_cons_succ])
        refine anyE_take (i := 14) (v := ?vz14) rfl (by kernel_rfl) (by kernel_rfl) (by kernel_rfl) (by kernel_rfl) (by kernel_rfl) (fun _ _ _ h => h) (Or.inl ⟨by kernel_rfl, ?yz14⟩) (by assumption) ?rz14
        case yz14 => (intro w' hSw; (try dsimp only at hSw); go_simp; (try with_reducible rfl))
        (try simp only [Act.put, List.getElem_toArray, List.getElem_cons_succ, List.getElem_cons_zero, List.setIfInBounds_toArray, List.set_cons_zero, List.set_cons_succ])
        refine anyE_one (i := 8) (by kernel_rfl) (anyE_step rfl (fun K hK => ?_))
        go_simp
        refine hK.out _ _ (fun _ => ⟨y2a, x2a, c0a, c1a⟩) (fun hH => ?_)
        have hHeld := hH (by decide)
        clear hH
        clear hK K
        (try simp only [Act.put, List.getElem_toArray, List.getElem_cons_succ, List.getElem_cons_zero, List.setIfInBounds_toArray, List.set_cons_zero, List.set_cons_succ])
        refine anyE_one (i := 15) (by kernel_rfl) (anyE_step rfl (fun K hK => ?_))
        refine step_app rfl _ _ rfl wr.heap.size (.slice (some ⟨wr.heap.size, 0, none⟩) 0 0) [] rfl a' l.length c' l rfl rfl HOA.out HIA.out HNN.out (by have := HLL.out; simp only [List.length_nil]; omega) HBA.out.size ?_
        intro vn w3 ho hg
        rw [List.nil_append] at ho
        obtain ⟨an, cn, rfl⟩ := ho.shape
        have hb3 := HBA.out.grown hg HBA.out.size (fun j hj => by cases hj; exact Nat.le_refl _)
        have HON := Lib.hid ho
        have HB3 := Lib.hid hb3
        have HST3 := Lib.hid (HST.out.below_ hb3)
        have HBX3 := Lib.hid (HBX2.out.below hb3)
        have y23 := HST3.out.box.three2
        have x23 := HBX3.out.three2
        have d0 := (hb3.cell (p := ⟨b, off + k * 2, none⟩) HBL.out).trans c0
        have d1 := (hb3.cell (p := ⟨b, off + k * 2 + 1, none⟩) HBL.out).trans c1'
        clear ho hg hb3
        have hba := (Below.refl w3.heap.size w3).alloc (Nat.le_refl _) (.cells #[.int .i64 id, .slice an l.length cn] 71)
        have HBA4 := Lib.hid hba
        have HST4 := Lib.hid (HST3.out.below_ hba)
        have HBX4 := Lib.hid (HBX3.out.below hba)
        have HBW3 := Lib.hid (show b < w3.heap.size from Nat.lt_of_lt_of_le HBL.out HB3.out.size)
        have y24 := HST4.out.box.three2
        have x24 := HBX4.out.three2
        have e0 := (hba.cell (p := ⟨b, off + k * 2, none⟩) HBW3.out).trans d0
        have e1 := (hba.cell (p := ⟨b, off + k * 2 + 1, none⟩) HBW3.out).trans d1
        clear hba
        refine hK.out _ _ (fun _ => ⟨y23, x23, d0, d1⟩) (fun hH => ?_)
        have hHeld := hH (by decide)
        clear hH
        clear hK K
        (try simp only [Act.put, List.getElem_toArray, List.getElem_cons_succ, List.getElem_cons_zero, List.setIfInBounds_toArray, List.set_cons_zero, List.set_cons_succ])
        refine anyE_take (i := 16) (v := ?vz16) rfl (by kernel_rfl) (by kernel_rfl) (by kernel_rfl) (by kernel_rfl) (by kernel_rfl) (fun _ _ _ h => h) (Or.inl ⟨by kernel_rfl, ?yz16⟩) (by assumption) ?rz16
        case yz16 => (intro w' hSw; (try dsimp only at hSw); go_simp; (try with_reducible rfl))
        (try simp only [Act.put, List.getElem_toArray, List.getElem_cons_succ, List.getElem_cons_zero, List.setIfInBounds_toArray, List.set_cons_zero, List.set_cons_succ])
        refine anyE_one (i := 17) (by kernel_rfl) (anyE_step rfl (fun K hK => ?_))
        go_simp
        refine hK.out _ _ (fun _ => ⟨y24, x24, e0, e1⟩) (fun hH => ?_)
        have hHeld := hH (by decide)
        clear hH
        clear hK K
        (try simp only [Act.put, List.getElem_toArray, List.getElem_cons_succ, List.getElem_cons_zero, List.setIfInBounds_toArray, List.set_cons_zero, List.set_cons_succ])
        refine anyE_one (i := 18) (by kernel_rfl) (anyE_step rfl (fun K hK => ?_))
        refine step_ixs rfl _ _ rfl (w.heap.size + 1 + 1) (.slice xa1 k xc1) k (flatX q) w3.heap.size id (.slice an l.length cn) rfl rfl (w3.heap.size + 1) (by have h := HST4.out.sets.out; rw [HQL.out] at h; exact h) (BlkV.new w3 _ _) rfl (by omega) (by have h1 := HBA4.out.size; have h2 := HB3.out.size; have h3 := HWR.out; omega) (by simp) ?_
        intro g5 cap5 w5 ho5 hg5 hat5
        have HO5 := Lib.hid ho5
        have HG5 := Lib.hid hg5
        have HAT5 := Lib.hid hat5
        have hyb := HST4.out.box.grown hg5 (fun e => HST4.out.nbX e.symm)
        have y25 := hyb.three2
        have fy5 := hyb.frozen 2
        have hxb := HBX4.out.grown hg5 (fun e => by have h1 := (World.ownsRow.lt HST4.out.sets.out _ e.symm).1; omega)
        have HXB5 := Lib.hid hxb
        have x25 := hxb.three2
        have hob : ∀ j, (Value.slice xa1 k xc1).ownBlock = some j → b ≠ j := fun j hj e => by have h1 := (World.ownsRow.lt HST4.out.sets.out _ hj).1; have := HBLW.out; omega
        have g0 := (World.cell?_of_block (a := ⟨b, off + k * 2, none⟩) (hg5.block b (by have h1 := HBA4.out.size; have h2 := HBW3.out; omega) (fun e => hob b e.symm rfl))).trans e0
        have g1 := (World.cell?_of_block (a := ⟨b, off + k * 2 + 1, none⟩) (hg5.block b (by have h1 := HBA4.out.size; have h2 := HBW3.out; omega) (fun e => hob b e.symm rfl))).trans e1
        clear ho5 hg5 hat5 hyb hxb hob
        refine hK.out _ _ (fun _ => ⟨y25, x25, g0, g1⟩) (fun hH => ?_)
        have hHeld := hH (by decide)
        clear hH
        clear hK K
        (try simp only [Act.put, List.getElem_toArray, List.getElem_cons_succ, List.getElem_cons_zero, List.setIfInBounds_toArray, List.set_cons_zero, List.set_cons_succ])
        refine anyE_take (i := 19) (v := ?vz15) rfl (by kernel_rfl) (by kernel_rfl) (by kernel_rfl) (by kernel_rfl) (by kernel_rfl) (fun _ _ _ h => h) (Or.inl ⟨by kernel_rfl, ?yz15⟩) (by assumption) ?rz15
        case yz15 => (intro w' hSw; (try dsimp only at hSw); go_simp; (try with_reducible rfl))
        (try simp only [Act.put, List.getElem_toArray, List.getElem_cons_succ, List.getElem_cons_zero, List.setIfInBounds_toArray, List.set_cons_zero, List.set_cons_succ])
        refine anyE_one (i := 20) (by kernel_rfl) (anyE_step rfl (fun K hK => ?_))
        go_simp
        refine hK.out _ _ (fun h => absurd rfl h) (fun _ => ?_)
        clear hK K
        (try simp only [Act.put, List.getElem_toArray, List.getElem_cons_succ, List.getElem_cons_zero, List.setIfInBounds_toArray, List.set_cons_zero, List.set_cons_succ])
        refine anyE_done (by kernel_rfl) ?_ _
        refine NoPanic.normal ?_
        go_wp2
        go_roundw
        case rel =>
          have hnew : ∀ j, (Value.slice an l.length cn).ownBlock = some j → wr.heap.size ≤ j ∧ j < w3.heap.size := fun j hj => World.ownsRow.lt HON.out j hj
          have hsz4 := HBA4.out.size
          have hsz3 := HB3.out.size
          have hold := HST.out
          have hw4 : (w3.alloc (.cells #[.int .i64 id, .slice an l.length cn] 71)).heap.size = w3.heap.size + 1 := by simp
          have hX := HST4.out.sets.ins (k := q.length) (id := id) (l := l) (vn := .slice an l.length cn) (v' := .slice (some ⟨g5, 0, none⟩) (k + 1) cap5) ((HON.out.below HBA4.out).mono (by have := HWR.out; omega))
            (fun j hj => ⟨fun e => by have h1 := (World.ownsRow.lt hold.sets.out j e).2; have := (hnew j hj).1; omega, fun p hp e => by have h1 := (World.ownsRow.lt (hold.sets.row p hp) j e).2; have := (hnew j hj).1; omega⟩) HG5.out
            (by rcases HAT5.out with h | h; exact .inl h.symm; exact .inr (by rw [h, hw4]; rfl)) (Nat.le_refl _)
            (by rw [List.take_of_length_le (by rw [flatX_len]; omega), List.drop_eq_nil_of_le (by rw [flatX_len]; omega), List.append_nil]; exact HO5.out)
          rw [List.take_length, List.drop_length] at hX
          have hne : ∀ j, (Value.slice (some ⟨g5, 0, none⟩) (k + 1) cap5).ownBlock = some j → (Value.slice xa1 k xc1).ownBlock = some j ∨ j = w3.heap.size + 1 := fun j hj => by
            have e : g5 = j := by simpa [Value.ownBlock] using hj
            subst e
            exact HAT5.out
          have hm : ∀ p ∈ q ++ [((id, l), .slice an l.length cn)], p ∈ q ∨ p = ((id, l), .slice an l.length cn) := fun p hp => by simpa using hp
          have hTl : ∀ j, (Value.slice a1 T.length c1).ownBlock = some j → j < wr.heap.size := fun j hj => (World.ownsRow.lt hold.tab j hj).2
          have hBl : BY < wr.heap.size := hold.box.lt
          have hst := HST4.out.store HG5.out hX
            (fun j hj => ⟨fun e => by
              have := hTl j hj
              rcases hne j e with h | h
              · exact (hold.apart j hj).1 h
              · omega, fun p hp e => by
              have := hTl j hj
              rcases hm p hp with h | rfl
              · exact (hold.apart j hj).2 p h e
              · have := (hnew j e).1; omega⟩)
            (fun e => by
              rcases hne _ e with h | h
              · exact hold.nbX h
              · omega)
            (fun p hp e => by
              rcases hm p hp with h | rfl
              · exact hold.nbQ p h e
              · have := (hnew _ e).1; omega)
          refine ⟨k + 1, q ++ [((id, l), .slice an l.length cn)], _, _, by omega, by go_num, ?_, hst, HXB5.out.other _ _ (by have := HYL.out; intro e; exact absurd e (by simp; omega))⟩
          rw [ixs_take HX1.out, ← HQ.out]
          simp [setsX]
        case measure => simp [intOf]; omega
      · obtain rfl : k = S.length := by omega
        have hold := HST.out
        have q0 := hold.box.three0
        have q1 := hold.box.three1
        have q2 := hold.box.three2
        have r0 := hold.res.three0
        have r1 := hold.res.three1
        have r2 := hold.res.three2
        have f0 := hold.res.frozen 0
        have f1 := hold.res.frozen 1
        have f2 := hold.res.frozen 2
        clear hold
        go_wp2
        have z := HST.out.end_
        have z0 : _ = some _ := z.three0
        have z1 : _ = some _ := z.three1
        have z2 : _ = some _ := z.three2
        have hq := HQ.out
        rw [List.take_length] at hq
        refine bodyPost_ret (v := .agg #[.int .i64 t, .slice a1 T.length c1, .slice xa1 S.length xc1]) (by simp [results, Tryz.results47, go_sem, z0, z1, z2]) rfl ?_
        exact ⟨_, _, _, _, q, rfl, hq, own_end _ _ _ HST.out.tab HST.out.sets HST.out.apart HST.out.lowg, ((HST.out.below.setCell HST.out.lowg _).setCell HST.out.lowg _).setCell HST.out.lowg _⟩

end Go.Proofs.YthjbekgognfiiaaGreat
