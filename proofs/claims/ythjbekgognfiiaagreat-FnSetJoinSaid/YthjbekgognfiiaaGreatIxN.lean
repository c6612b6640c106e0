/-
  What NewSetIndex answers, on both sides. By an AI agent.
-/
import Derived.Test.YthjbekgognfiiaaGreatIxV2
import Derived.Test.YthjbekgognfiiaaGreatRowApp
namespace Go.Proofs.YthjbekgognfiiaaGreat
open Go.RowKit
set_option linter.unusedVariables false

theorem OwnX.nil (w : World) (lo : Nat) : OwnX w lo (.slice none 0 0) [] := ⟨World.ownsRow_nil _ _ _ _, (fun p h => by cases h), (fun p h => by cases h), List.Pairwise.nil⟩
/-- an index that is laid into the result's block -/
theorem own_end {w W : World} {g n tc xc : Nat} {ta xa : Option Addr} {T : List TC} {q : List XS} (a b c : Value) (hT : OwnT W (g + 1) (.slice ta T.length tc) T) (hX : OwnX W (g + 1) (.slice xa n xc) q)
    (hap : ∀ k, (Value.slice ta T.length tc).ownBlock = some k → (Value.slice xa n xc).ownBlock ≠ some k ∧ ∀ p ∈ q, p.2.ownBlock ≠ some k) (hg : w.heap.size ≤ g) :
    OwnIx (((W.setCell ⟨g, 0, none⟩ a).setCell ⟨g, 1, none⟩ b).setCell ⟨g, 2, none⟩ c) w.heap.size (((W.setCell ⟨g, 0, none⟩ a).setCell ⟨g, 1, none⟩ b).setCell ⟨g, 2, none⟩ c).heap.size (.slice ta T.length tc) (.slice xa n xc) T q := by
  have k1 : OwnT (((W.setCell ⟨g, 0, none⟩ a).setCell ⟨g, 1, none⟩ b).setCell ⟨g, 2, none⟩ c) (g + 1) (.slice ta T.length tc) T := row_setCell (row_setCell (row_setCell hT _ _ (by simp)) _ _ (by simp)) _ _ (by simp)
  have k2 : OwnX (((W.setCell ⟨g, 0, none⟩ a).setCell ⟨g, 1, none⟩ b).setCell ⟨g, 2, none⟩ c) (g + 1) (.slice xa n xc) q := ((hX.setCell _ _ (by simp)).setCell _ _ (by simp)).setCell _ _ (by simp)
  exact ⟨⟨k1.mono (by omega), fun k hk => (World.ownsRow.lt k1 k hk).2⟩, OwnHX.of (k2.mono (by omega)), hap⟩
theorem ap_nil {ta : Option Addr} {n tc : Nat} : ∀ k, (Value.slice ta n tc).ownBlock = some k → (Value.slice none 0 0).ownBlock ≠ some k ∧ ∀ p ∈ ([] : List XS), p.2.ownBlock ≠ some k := fun k _ => ⟨(fun e => by simp [Value.ownBlock] at e), (fun p h => by cases h)⟩
theorem ix_new (t : Int) (T : List TC) : ixB t T [] = newR t T := by
  unfold ixB newR
  rw [gxB_true.2 gx_nil]
  simp

set_option maxRecDepth 100000 in
set_option maxHeartbeats 1600000 in
theorem new_spec (a : Option Addr) (c : Nat) (T : List TC) (t : Int) (rt : Int) (rT : List TC) (rS : List IS) (rb : Bool) (w : World) (hrt : (if newR t T then t else 0) = rt) (hrT : (if newR t T then T else []) = rT) (hrS : ([] : List IS) = rS) (hrb : newR t T = rb) (h : SmW w a T c) :
    Calls Tryz.prog 96 #[.slice a T.length c, .int .i64 t] w (GivesIB w rt rT rS rb) := by
  subst hrS
  obtain ⟨i0, hi, hz0, hz1, hz2⟩ := info_parts info_tc
  obtain ⟨w1, hw1⟩ : ∃ w1, w1 = w.alloc (.cells #[.int .i64 0, .slice none 0 0, .slice none 0 0] 27) := ⟨_, rfl⟩
  have HW1 := Lib.hid hw1
  have HB1 := Lib.hid (show Below w.heap.size w w1 by rw [hw1]; exact (Below.refl w.heap.size w).alloc (Nat.le_refl _) _)
  have HR0 := Lib.hid (show BlkV w1 w.heap.size 27 #[.int .i64 0, .slice none 0 0, .slice none 0 0] by rw [hw1]; exact BlkV.new _ _ _)
  have HS1 := Lib.hid (show w1.heap.size = w.heap.size + 1 by rw [hw1]; simp)
  have HX := Lib.hid (h.below HB1.out)
  have hl := h.1.2.2.2.1
  obtain ⟨tt, htt⟩ : ∃ b, ttB T = b := ⟨_, rfl⟩
  obtain ⟨tf, htf⟩ : ∃ b, okT t = b := ⟨_, rfl⟩
  obtain rfl : (tt && tf) = rb := by rw [← hrb, ← htt, ← htf]; rfl
  rw [hrb] at hrt hrT
  have HTT := Lib.hid (ttab_specC a c T tt w1 htt HX.out.1)
  have HTF := Lib.hid (fun W => l1In_any t 1 1000 tf W (by rw [okT_dec]; exact htf))
  clear h hw1 hrb htt htf
  have hs1 := HS1.out
  cases tt
  · obtain rfl : (0 : Int) = rt := hrt
    obtain rfl : [] = rT := hrT
    go_enter Tryz.func96, Tryz.ntmps96
    go_wp2_with (go_at_call 72; rw [← HW1.out]; (refine HTT.out.mono ?_); rintro e w2 ⟨rfl, hb⟩; refine Hid.out ?_)
    have r0 := HR0.out.below hb
    have R0 := Lib.hid r0
    have HB4 := Lib.hid (HB1.out.trans (hb.mono HB1.out.size))
    have q0 := r0.three0
    have q1 := r0.three1
    have q2 := r0.three2
    have f0 := r0.frozen 0
    have f1 := r0.frozen 1
    have f2 := r0.frozen 2
    clear r0 hb
    refine Lib.hid ?_
    go_wp2
    have z := ((R0.out.set_ 0 (.int .i64 0)).set_ 1 (.slice none 0 0)).set_ 2 (.slice none 0 0)
    have e0 : _ = some (Value.int .i64 0) := z.cell 0
    have e1 : _ = some (Value.slice none 0 0) := z.cell 1
    have e2 : _ = some (Value.slice none 0 0) := z.cell 2
    refine bodyPost_ret (v := .tuple #[.agg #[.int .i64 0, .slice none 0 0, .slice none 0 0], .bool false]) (by simp [results, Tryz.results96, go_sem, e0, e1, e2]) rfl ⟨_, _, _, _, [], rfl, rfl, own_end _ _ _ (OwnT.nil _ _) (OwnX.nil _ _) ap_nil (Nat.le_refl _), ?_⟩
    exact ((HB4.out.setCell (by simp) _).setCell (by simp) _).setCell (by simp) _
  cases tf
  · obtain rfl : (0 : Int) = rt := hrt
    obtain rfl : [] = rT := hrT
    go_enter Tryz.func96, Tryz.ntmps96
    go_wp2_with (go_at_call 72; rw [← HW1.out]; (refine HTT.out.mono ?_); rintro e w2 ⟨rfl, hb⟩; refine Hid.out ?_)
    have r0 := HR0.out.below hb
    have R0 := Lib.hid r0
    have HB4 := Lib.hid (HB1.out.trans (hb.mono HB1.out.size))
    have q0 := r0.three0
    have q1 := r0.three1
    have q2 := r0.three2
    have f0 := r0.frozen 0
    have f1 := r0.frozen 1
    have f2 := r0.frozen 2
    clear r0 hb
    refine Lib.hid ?_
    go_wp2_with (go_at_call 37; (with_reducible refine (HTF.out _).mono ?_); rintro e w3 ⟨rfl, rfl⟩)
    have z := ((R0.out.set_ 0 (.int .i64 0)).set_ 1 (.slice none 0 0)).set_ 2 (.slice none 0 0)
    have e0 : _ = some (Value.int .i64 0) := z.cell 0
    have e1 : _ = some (Value.slice none 0 0) := z.cell 1
    have e2 : _ = some (Value.slice none 0 0) := z.cell 2
    refine bodyPost_ret (v := .tuple #[.agg #[.int .i64 0, .slice none 0 0, .slice none 0 0], .bool false]) (by simp [results, Tryz.results96, go_sem, e0, e1, e2]) rfl ⟨_, _, _, _, [], rfl, rfl, own_end _ _ _ (OwnT.nil _ _) (OwnX.nil _ _) ap_nil (Nat.le_refl _), ?_⟩
    exact ((HB4.out.setCell (by simp) _).setCell (by simp) _).setCell (by simp) _
  · obtain rfl : t = rt := hrt
    obtain rfl : T = rT := hrT
    go_enter Tryz.func96, Tryz.ntmps96
    go_wp2_with (go_at_call 72; rw [← HW1.out]; (refine HTT.out.mono ?_); rintro e w2 ⟨rfl, hb⟩; refine Hid.out ?_)
    have r0 := HR0.out.below hb
    have R0 := Lib.hid r0
    have HB4 := Lib.hid (HB1.out.trans (hb.mono HB1.out.size))
    have HX2 := Lib.hid ((inT_cells (HX.out.1.1.below hb)).below ((Below.refl _ _).alloc (Nat.le_refl _) (.cells #[] 109)))
    have HZ2 := Lib.hid (show w.heap.size + 1 ≤ w2.heap.size by have := hb.size; omega)
    clear r0 hb
    refine Lib.hid ?_
    go_wp2_with (first
      | (go_at_call 37; (with_reducible refine (HTF.out _).mono ?_); rintro e wm ⟨rfl, rfl⟩)
      | (at_builtin; refine wpList_app_row rfl _ _ 24 109 rfl i0 _ 2 24 Tryz.underlying24 hi hz0 hz1 hz2 rfl (by decide) wm.heap.size _ 0 [] rfl (World.ownsRow_made wm #[] 0 (Nat.le_refl _) (Nat.zero_le _) (by simp)) a T.length c (flatT T) rfl (flat_len T) HX2.out HX.out.1.2.1 (flat_one T) (by unfold maxLen; omega) (by omega) (by simp) ?_; intro v' w3 ho hg; refine Hid.out ?_))
    have hb3 : Below wm.heap.size wm w3 := ((Below.refl _ wm).alloc (Nat.le_refl _) _).grown hg (by simp) (by intro k hk; cases hk; exact Nat.le_refl _)
    rw [Nat.zero_add, List.nil_append] at ho
    obtain ⟨a1, c1, rfl⟩ := OwnT.shape ho
    have HO3 := Lib.hid (show OwnT w3 wm.heap.size (.slice a1 T.length c1) T from ho)
    have HB5 := Lib.hid (HB4.out.trans (hb3.mono HB4.out.size))
    have r0 := R0.out.below hb3
    have R1 := Lib.hid r0
    have q0 := r0.three0
    have q1 := r0.three1
    have q2 := r0.three2
    have f0 := r0.frozen 0
    have f1 := r0.frozen 1
    have f2 := r0.frozen 2
    clear r0 hb3 ho hg
    refine Lib.hid ?_
    go_wp2
    have z := ((R1.out.set_ 0 (.int .i64 t)).set_ 1 (.slice a1 T.length c1)).set_ 2 (.slice none 0 0)
    have e0 : _ = some (Value.int .i64 t) := z.cell 0
    have e1 : _ = some (Value.slice a1 T.length c1) := z.cell 1
    have e2 : _ = some (Value.slice none 0 0) := z.cell 2
    refine bodyPost_ret (v := .tuple #[.agg #[.int .i64 t, .slice a1 T.length c1, .slice none 0 0], .bool true]) (by simp [results, Tryz.results96, go_sem, e0, e1, e2]) rfl ⟨_, _, _, _, [], rfl, rfl, own_end _ _ _ (HO3.out.mono HZ2.out) (OwnX.nil _ _) ap_nil (Nat.le_refl _), ?_⟩
    exact ((HB5.out.setCell (by simp) _).setCell (by simp) _).setCell (by simp) _

end Go.Proofs.YthjbekgognfiiaaGreat
