/-
  The similar sets that a prefix index finds. By an AI agent.
-/
import Derived.Test.YthjbekgognfiiaaGreatPfxC
import Derived.Test.YthjbekgognfiiaaGreatJ6
namespace Go.Proofs.YthjbekgognfiiaaGreat
open Go.RowKit Go.Maps Go.Sort
set_option linter.unusedVariables false

def CollI (F : Int → Option Value) (left : Lit → Bool) (zs : List Int) : Prop := ∀ x : Int, x ∈ zs ↔ (F x).isSome = true ∧ left (.int .i64 x) = false
theorem CollI.step {F : Int → Option Value} {left : Lit → Bool} {zs : List Int} {z : Int} (h : CollI F left zs) (hz : (F z).isSome = true) : CollI F (fun y => left y && !y.sameKey (.int .i64 z)) (zs ++ [z]) := fun x => by
  rw [List.mem_append, h x]
  by_cases e : x = z
  · subst e; simp [hz, sameI]
  · simp [e, sameI]

set_option maxRecDepth 100000 in
set_option maxHeartbeats 4000000 in
theorem sim_any (t : Int) (ta : Option Addr) (tc : Nat) (T : List TC) (a : Option Addr) (c : Nat) (l ks : List Str) (q : List XS) (lo bH n : Nat) (g : Str → Option Nat) (f : Str → Int → Option Value) (w : World)
    (hk : keysR T t l = ks) (ht : okT t = true) (hT : SmW w ta T tc) (hS : Sm w a l c) (hO : HoldOf T t q f) (hV : ∀ p ∈ q, SetV w p) (hd : ∀ p ∈ q, ∀ s ∈ q, p.1.1 = s.1.1 → p = s) (hn : n ≤ 4000000) (h : Hold w lo bH n g f) :
    Calls Tryz.prog 33 #[.agg #[.int .i64 t, .slice ta T.length tc, .map (some bH)], .slice a l.length c] w fun e w' => ∃ b m F, e = .returned (.map (some b)) ∧
      NMap w' b m F ∧ FoundP (fun p => cdB T t l p.1.2 = true ∧ meetR l p.1.2 t = true) q F ∧ w.heap.size ≤ b ∧ m ≤ 17000000000000 ∧ Below w.heap.size w w' := by
  obtain ⟨w0, hw0⟩ : ∃ w0, w0 = w.alloc (.cells #[.int .i64 t, .slice ta T.length tc, .map (some bH)] 64) := ⟨_, rfl⟩
  have HW0 := Lib.hid hw0
  have HB0 := Lib.hid (show Below w.heap.size w w0 by rw [hw0]; exact (Below.refl _ _).alloc (Nat.le_refl _) _)
  have HR0 := Lib.hid (show BlkV w0 w.heap.size 64 #[.int .i64 t, .slice ta T.length tc, .map (some bH)] by rw [hw0]; exact BlkV.new_ _ _ _ _ rfl)
  have HZ0 := Lib.hid (show w0.heap.size = w.heap.size + 1 by rw [hw0]; simp)
  have HC := Lib.hid (cand_any t ta tc T a c l ks q lo bH n g f w0 hk ht (hT.below HB0.out) (hS.below HB0.out) hO (fun p hp => by obtain ⟨a', c', e, _⟩ := hV p hp; exact ⟨a', c', e⟩) hd hn (h.below HB0.out))
  have HS := Lib.hid hS
  have HV := Lib.hid hV
  have HD := Lib.hid hd
  clear hw0 hk hT hS hO hV hd h ht
  go_enter Tryz.func33, Tryz.ntmps33
  go_wp2_with (go_at_call 32; rw [← HW0.out]; (refine HC.out.mono ?_); rintro e w1 ⟨b, m, F0, rfl, hN, hF, hlo, hm, hb⟩; refine Hid.out ?_)
  have HF0 := Lib.hid hF
  have HB1 := Lib.hid (HB0.out.trans (hb.mono HB0.out.size))
  have HR1 := Lib.hid (HR0.out.below hb)
  have HLO := Lib.hid (show w.heap.size + 1 ≤ b by have := HZ0.out; omega)
  have HM := Lib.hid hm
  obtain ⟨D, hown, hhas, hat⟩ := hN
  have HHAS := Lib.hid hhas
  have HAT := Lib.hid hat
  have HBL := Lib.hid hown.lt
  clear hF hb hlo hm hhas hat
  refine Lib.hid ?_
  go_wp2_with (at_range; refine wpList_range_own _ rfl _ 61 rfl 3 28 keyN Tryz.underlying61 _ b m _ rfl hown ?_; intro w4 hrg0 hg0 hs0)
  go_frame
  go_loopw [13] (fun _ wr => ∃ (Dq : DataW Value) (left : Lit → Bool) (cnt : Nat) (zs : List Int) (F : Int → Option Value), wr.ranges Tryz.prog 3 heldE b w1.heap.size m Dq left cnt ∧ (∀ x : Int, Maps.has Dq (.int .i64 x) = (F x).isSome) ∧ (∀ (x : Int) (u : Value), Dq.atKey (.int .i64 x) (.held u) = .held ((F x).getD u)) ∧
      CollI F0 left zs ∧ FoundP (fun p => cdB T t l p.1.2 = true ∧ (p.1.1 ∈ zs → meetR l p.1.2 t = true)) q F ∧ HChg w1 wr b (fun _ => none) ∧ w1.heap.size < wr.heap.size) (fun _ wr => wr.rangeLeft b w1.heap.size)
  case atStart =>
    exact ⟨_, _, _, [], F0, hrg0, HHAS.out, HAT.out, fun x => ⟨fun h => by (cases h), fun h => by (have h2 := h.2; rw [HHAS.out x, h.1] at h2; cases h2)⟩, HF0.out.congr (fun p hp => by simp), HChg.of (grown_none hg0), by omega⟩
  case round =>
    obtain ⟨Dq, left, cnt, zs, F, hrg, hhas, hat, hcl, hF, hC, hsz⟩ := hrel
    have HHQ := Lib.hid hhas
    have HAQ := Lib.hid hat
    have HCL := Lib.hid hcl
    have HF := Lib.hid hF
    have HCC := Lib.hid hC
    have HBW := Lib.hid (show Below w.heap.size w wr from HB1.out.trans (hC.below (by have := HLO.out; omega) (fun x b e => by cases e) HB1.out.size))
    clear hhas hat hcl hF hC
    go_wp2_with (first
      | (at_next; refine wpList_next_ranges _ rfl _ rfl 3 keyN heldE (Value.int .i64) (fun v : Value => v) (fun key kl hk => by obtain ⟨x, hx, _⟩ := Maps.keyOf_int_inv Tryz.underlying3 hk; exact ⟨x, hx⟩) (fun v y hv => ⟨v, rfl⟩) b w1.heap.size m _ _ _ rfl hrg ?_ ?_)
      | go_in)
    · intro hc0 hl0
      go_wp2
      go_ret
      refine ⟨b, m, F, rfl, ⟨Dq, hrg.owns, HHQ.out, HAQ.out⟩, HF.out.congr (fun p hp => ?_), by have := HLO.out; omega, HM.out, HBW.out⟩
      constructor
      · rintro ⟨h1, h2⟩
        refine ⟨h1, h2 ((HCL.out p.1.1).2 ⟨?_, hl0 _⟩)⟩
        rw [(HF0.out p.1.1 p.2).2 ⟨p, hp, rfl, h1, rfl⟩]
        rfl
      · rintro ⟨h1, h2⟩; exact ⟨h1, fun _ => h2⟩
    · intro z cv kl yd yp w5 cnt2 hkey hlk hv hat5 hrg2 hlt2 hg2 hs2 hen
      obtain ⟨z', ez, rfl, hwf⟩ := Maps.keyOf_int_inv Tryz.underlying3 hkey
      obtain rfl : z = z' := by injection ez
      have hfz := met_val (yd := (yd, yp)) HHQ.out HAQ.out hv hat5
      obtain ⟨p, hp, rfl, ⟨hcd, hzz⟩, rfl⟩ := (HF.out z cv).1 hfz
      have HZS := Lib.hid (HCL.out.step (z := p.1.1) (by rw [(HF0.out p.1.1 p.2).2 ⟨p, hp, rfl, hcd, rfl⟩]; rfl))
      obtain ⟨a5, c5, hpv, hSp⟩ := HV.out p hp
      have HP := Lib.hid hp
      have HPV := Lib.hid hpv
      have HWF := Lib.hid hwf
      have HCD := Lib.hid hcd
      have hlo := HLO.out
      have HB5 := Lib.hid (HBW.out.grown hg2 HBW.out.size (fun j hj => by cases hj; exact HB1.out.size))
      have HC5 := Lib.hid (HCC.out.grown hg2 (.inr (.inr (Nat.le_refl _))))
      have HR5 := Lib.hid (HR1.out.hchg HC5.out (by omega) (fun x e => by cases e))
      have r50 := HR5.out.three0
      rw [hpv] at hen
      obtain ⟨bb, hbi⟩ : ∃ bb, meetR l p.1.2 t = bb := ⟨_, rfl⟩
      have HBI := Lib.hid hbi
      have HMJ := Lib.hid (meet_impl a a5 c c5 l p.1.2 t w5 (HS.out.below HB5.out) (hSp.below HB5.out))
      rw [hbi] at HMJ
      have hb5 : w1.heap.size < w5.heap.size := by omega
      have hbl := HBL.out
      have HS2 := Lib.hid hs2
      clear hp hwf hcd hat5 hfz hv hkey ez hpv hbi hSp hs2 hg2
      cases bb
      · go_wp2_with (first
          | (go_at_call 71; (refine HMJ.out.mono ?_); rintro e w6 ⟨rfl, hb6⟩; have HB6 := Lib.hid hb6; have hrg6 := hrg2.kept (row := none) (World.grownBy.mk hb6.os hb6.tape hb6.output hb6.size (fun i hi _ => hb6.block i hi)) (by simp) (by simp); clear hb6)
          | (at_delete; refine wpList_delete_ranges _ rfl _ _ 61 3 rfl 28 keyN Tryz.underlying61 _ b w1.heap.size m _ _ _ rfl hrg6 _ _ rfl (keyOf_n HWF.out) ?_; intro w7 cnt3 hrg7 hle hturn; refine Hid.out ?_))
        rw [Maps.strike_twice] at hrg7
        refine Lib.hid ?_
        go_wp2
        go_roundw
        case rel =>
          have hg7 := hturn.grown
          obtain ⟨q1, q2⟩ := NMap.del_ (y := p.1.1) HHQ.out HAQ.out
          refine ⟨_, _, cnt3, zs ++ [p.1.1], _, hrg7, q1, q2, HZS.out, HF.out.del HP.out HD.out (fun r hr => ?_), (HC5.out.trans_ (HChg.of HB6.out) (fun x b e => .inl e)).grown hg7 (.inl rfl), by have := HB6.out.size; have := hg7.size; omega⟩
          constructor
          · rintro ⟨h1, h2⟩
            refine ⟨⟨h1, fun h3 => h2 (List.mem_append_left _ h3)⟩, fun e => ?_⟩
            subst e
            have := h2 (by simp)
            rw [HBI.out] at this
            cases this
          · rintro ⟨⟨h1, h2⟩, h3⟩
            refine ⟨h1, fun h4 => ?_⟩
            rcases List.mem_append.1 h4 with h5 | h5
            · exact h2 h5
            · simp at h5; exact absurd (HD.out r hr p HP.out h5) h3
        case measure => rw [hrg7.left_eq, hrg.left_eq]; omega
      · go_wp2_with (go_at_call 71; (refine HMJ.out.mono ?_); rintro e w6 ⟨rfl, hb6⟩; have HB6 := Lib.hid hb6; have hrg6 := hrg2.kept (row := none) (World.grownBy.mk hb6.os hb6.tape hb6.output hb6.size (fun i hi _ => hb6.block i hi)) (by simp) (by simp); clear hb6)
        go_roundw
        case rel =>
          refine ⟨_, _, cnt2, zs ++ [p.1.1], F, hrg6, HHQ.out, HAQ.out, HZS.out, HF.out.congr (fun r hr => ?_), HC5.out.trans_ (HChg.of HB6.out) (fun x b e => .inl e), by have := HB6.out.size; omega⟩
          constructor
          · rintro ⟨h1, h2⟩
            refine ⟨h1, fun h3 => ?_⟩
            rcases List.mem_append.1 h3 with h4 | h4
            · exact h2 h4
            · simp at h4; rw [HD.out r hr p HP.out h4]; exact HBI.out
          · rintro ⟨h1, h2⟩; exact ⟨h1, fun h3 => h2 (List.mem_append_left _ h3)⟩
        case measure => rw [hrg6.left_eq, hrg.left_eq]; exact hlt2

end Go.Proofs.YthjbekgognfiiaaGreat
