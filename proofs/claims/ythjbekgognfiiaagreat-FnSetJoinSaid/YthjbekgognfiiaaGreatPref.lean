/-
  What PrefixTokens and SharePrefix answer, on both sides. By an AI agent.
-/
import Derived.Test.YthjbekgognfiiaaGreatJ6
import Derived.Test.YthjbekgognfiiaaGreatOrdL
import Derived.Test.YthjbekgognfiiaaGreatTokSet2
import Derived.Test.YthjbekgognfiiaaGreatJ5
namespace Go.Proofs.YthjbekgognfiiaaGreat
open Go.RowKit
set_option linter.unusedVariables false

/-- a slice of the call's own, cut -/
theorem OwnS.cut {w : World} {base : Nat} {a : Option Addr} {n cap k : Nat} {l : List Str} (h : OwnS w base (.slice a n cap) l) (hk : k ≤ l.length) : OwnS w base (.slice a k cap) (l.take k) := by
  obtain ⟨h1, h2⟩ := h
  have hl : (l.take k).length = k := by rw [List.length_take]; omega
  refine ⟨by simp, ?_⟩
  rcases h2 with ⟨hv, h0⟩ | ⟨g, cap', cur, hv, hb, hg, hn, hc, hcs, ht⟩
  · simp only [Value.slice.injEq] at hv
    obtain ⟨rfl, rfl, rfl⟩ := hv
    have hk0 : k = 0 := by omega
    subst hk0
    exact .inl ⟨rfl, by simp⟩
  · simp only [Value.slice.injEq] at hv
    obtain ⟨rfl, rfl, rfl⟩ := hv
    refine .inr ⟨g, cap, cur, by rw [hl], hb, hg, by omega, hc, hcs, ?_⟩
    rw [hl, List.map_take, ← ht, List.take_take]
    congr 1
    omega

set_option maxRecDepth 100000 in
set_option maxHeartbeats 1000000 in
theorem pt_spec (a0 a1 : Option Addr) (c0 c1 : Nat) (tab : List TC) (l : List Str) (t : Int) (r : List Str) (w : World) (hr : ptR tab l t = r) (h0 : SmW w a0 tab c0) (h1 : Sm w a1 l c1) :
    Calls Tryz.prog 77 #[.slice a0 tab.length c0, .slice a1 l.length c1, .int .i64 t] w (GivesS w r) := by
  have H0 := Lib.hid h0
  have H1 := Lib.hid h1
  obtain ⟨p, hp⟩ : ∃ p, plR l.length t = p := ⟨_, rfl⟩
  have HP := Lib.hid hp
  obtain ⟨b, hb⟩ : ∃ b, tsB l = b := ⟨_, rfl⟩
  have HT := Lib.hid (fun (W : World) (hW : Sm W a1 l c1) => (tset_spec a1 c1 l W hW).mono fun e w' h => (show e = .returned (.bool b) ∧ Below W.heap.size W w' from ⟨by rw [← hb]; exact h.1, h.2⟩))
  by_cases hp0 : 0 ≤ p
  · have hgood : (okS l.length && okT t) = true := by
      cases hg : (okS l.length && okT t)
      · rw [pl_no hg] at hp; omega
      · rfl
    obtain ⟨k, rfl⟩ : ∃ k : Nat, p = (k : Int) := ⟨p.toNat, by omega⟩
    have hkl : k ≤ l.length := by have := (pl_range hgood).2; omega
    have hl4 := h1.2.2.2.1
    cases b
    · obtain rfl : [] = r := by rw [← hr, pt_no (.inl hb)]
      clear h0 h1 hp hb hgood hr
      go_enter Tryz.func77, Tryz.ntmps77
      go_wp2_with (first
        | (go_at_call 108; (with_reducible refine (pl_spec _ _ _ _ HP.out).mono ?_); rintro e w1 ⟨rfl, hb1⟩; have HB1 := Lib.hid hb1; clear hb1)
        | (go_at_call 35; (refine (HT.out _ (H1.out.below HB1.out)).mono ?_); rintro e w2 ⟨rfl, hb2⟩; have HB2 := Lib.hid (HB1.out.trans (hb2.mono HB1.out.size)); clear hb2))
      go_ret
      exact ⟨_, _, rfl, own_new _ _ _ rfl HB2.out.size, HB2.out.alloc HB2.out.size _⟩
    · rw [pt_yes hb hgood, hp, Int.toNat_natCast] at hr
      have HR := Lib.hid hr
      have HO := Lib.hid (fun (W : World) (hW : Below w.heap.size w W) => ord_specC a0 a1 c0 c1 tab l (ordR tab l) W rfl (H0.out.below hW) (H1.out.below hW))
      have HOL := Lib.hid (ord_len tab l)
      generalize ordR tab l = q at HO HR HOL
      clear h0 h1 hp hb hgood hr
      go_enter Tryz.func77, Tryz.ntmps77
      go_wp2_with (first
        | (go_at_call 108; (with_reducible refine (pl_spec _ _ _ _ HP.out).mono ?_); rintro e w1 ⟨rfl, hb1⟩; have HB1 := Lib.hid hb1; clear hb1)
        | (go_at_call 35; (refine (HT.out _ (H1.out.below HB1.out)).mono ?_); rintro e w2 ⟨rfl, hb2⟩; have HB2 := Lib.hid (HB1.out.trans (hb2.mono HB1.out.size)); clear hb2)
        | (go_at_call 109; (refine (HO.out _ HB2.out).mono ?_); rintro e w3 ⟨aq, cq, rfl, ho3, hb3⟩; have HO3 := Lib.hid ho3; have HB3 := Lib.hid hb3; have hcq := ho3.cap_ge; have hkq : k ≤ q.length := (by rw [HOL.out]; exact hkl); clear ho3 hb3; refine Hid.out ?_))
      refine Lib.hid ?_
      have hk0 : (0 : Int) ≤ (k : Int) := by omega
      have hkc : (k : Int) ≤ (cq : Int) := by omega
      have hin : ∃ g, aq = some ⟨g, 0, none⟩ ∨ (aq = none ∧ cq = 0) := by
        rcases HO3.out.2 with ⟨hv, h1⟩ | ⟨g, cap', cur, hv, _⟩
        · simp only [Value.slice.injEq] at hv
          exact ⟨0, .inr ⟨hv.1, hv.2.2⟩⟩
        · simp only [Value.slice.injEq] at hv
          exact ⟨g, .inl hv.1⟩
      obtain ⟨g, rfl | ⟨rfl, rfl⟩⟩ := hin
      · go_wp2
        go_ret
        have h := HO3.out.cut hkq
        rw [HR.out] at h
        have hl : r.length = k := by rw [← HR.out, List.length_take]; omega
        refine GivesS.mk ?_ (HB2.out.trans (HB3.out.mono HB2.out.size))
        have h2 := h.mono HB2.out.size
        exact h2
      · obtain rfl : k = 0 := by omega
        go_wp2
        go_ret
        obtain rfl : [] = r := by rw [← HR.out]; simp
        exact GivesS.mk (OwnS.nil _ _) (HB2.out.trans (HB3.out.mono HB2.out.size))
  · have hgood : (okS l.length && okT t) = false := pl_neg (by rw [hp]; omega)
    obtain rfl : [] = r := by rw [← hr, pt_no (.inr hgood)]
    clear h0 h1 hp hgood hr
    cases b
    · clear hb
      go_enter Tryz.func77, Tryz.ntmps77
      go_wp2_with (first
        | (go_at_call 108; (with_reducible refine (pl_spec _ _ _ _ HP.out).mono ?_); rintro e w1 ⟨rfl, hb1⟩; have HB1 := Lib.hid hb1; clear hb1)
        | (go_at_call 35; (refine (HT.out _ (H1.out.below HB1.out)).mono ?_); rintro e w2 ⟨rfl, hb2⟩; have HB2 := Lib.hid (HB1.out.trans (hb2.mono HB1.out.size)); clear hb2))
      go_ret
      exact ⟨_, _, rfl, own_new _ _ _ rfl HB2.out.size, HB2.out.alloc HB2.out.size _⟩
    · clear hb
      go_enter Tryz.func77, Tryz.ntmps77
      go_wp2_with (first
        | (go_at_call 108; (with_reducible refine (pl_spec _ _ _ _ HP.out).mono ?_); rintro e w1 ⟨rfl, hb1⟩; have HB1 := Lib.hid hb1; clear hb1)
        | (go_at_call 35; (refine (HT.out _ (H1.out.below HB1.out)).mono ?_); rintro e w2 ⟨rfl, hb2⟩; have HB2 := Lib.hid (HB1.out.trans (hb2.mono HB1.out.size)); clear hb2))
      go_ret
      exact ⟨_, _, rfl, own_new _ _ _ rfl HB2.out.size, HB2.out.alloc HB2.out.size _⟩

set_option maxRecDepth 100000 in
set_option maxHeartbeats 1000000 in
theorem pt_impl (a0 a1 : Option Addr) (c0 c1 : Nat) (tab : List TC) (l : List Str) (t : Int) (r : List Str) (w : World) (hr : ptR tab l t = r) (h0 : SmW w a0 tab c0) (h1 : Sm w a1 l c1) :
    Calls Tryz.prog 105 #[.slice a0 tab.length c0, .slice a1 l.length c1, .int .i64 t] w (GivesS w r) := by
  have H0 := Lib.hid h0
  have H1 := Lib.hid h1
  obtain ⟨p, hp⟩ : ∃ p, plR l.length t = p := ⟨_, rfl⟩
  have HP := Lib.hid hp
  obtain ⟨b, hb⟩ : ∃ b, tsB l = b := ⟨_, rfl⟩
  have HT := Lib.hid (fun (W : World) (hW : Sm W a1 l c1) => (tset_impl a1 c1 l W hW).mono fun e w' h => (show e = .returned (.bool b) ∧ Below W.heap.size W w' from ⟨by rw [← hb]; exact h.1, h.2⟩))
  by_cases hp0 : 0 ≤ p
  · have hgood : (okS l.length && okT t) = true := by
      cases hg : (okS l.length && okT t)
      · rw [pl_no hg] at hp; omega
      · rfl
    obtain ⟨k, rfl⟩ : ∃ k : Nat, p = (k : Int) := ⟨p.toNat, by omega⟩
    have hkl : k ≤ l.length := by have := (pl_range hgood).2; omega
    have hl4 := h1.2.2.2.1
    cases b
    · obtain rfl : [] = r := by rw [← hr, pt_no (.inl hb)]
      clear h0 h1 hp hb hgood hr
      go_enter Tryz.func105, Tryz.ntmps105
      go_wp2_with (first
        | (go_at_call 127; (with_reducible refine (pl_impl _ _ _ _ HP.out).mono ?_); rintro e w1 ⟨rfl, hb1⟩; have HB1 := Lib.hid hb1; clear hb1)
        | (go_at_call 82; (refine (HT.out _ (H1.out.below HB1.out)).mono ?_); rintro e w2 ⟨rfl, hb2⟩; have HB2 := Lib.hid (HB1.out.trans (hb2.mono HB1.out.size)); clear hb2))
      go_ret
      exact ⟨_, _, rfl, OwnS.nil _ _, HB2.out⟩
    · rw [pt_yes hb hgood, hp, Int.toNat_natCast] at hr
      have HR := Lib.hid hr
      have HO := Lib.hid (fun (W : World) (hW : Below w.heap.size w W) => ord_implC a0 a1 c0 c1 tab l (ordR tab l) W rfl (H0.out.below hW) (H1.out.below hW))
      have HOL := Lib.hid (ord_len tab l)
      generalize ordR tab l = q at HO HR HOL
      clear h0 h1 hp hb hgood hr
      go_enter Tryz.func105, Tryz.ntmps105
      go_wp2_with (first
        | (go_at_call 127; (with_reducible refine (pl_impl _ _ _ _ HP.out).mono ?_); rintro e w1 ⟨rfl, hb1⟩; have HB1 := Lib.hid hb1; clear hb1)
        | (go_at_call 82; (refine (HT.out _ (H1.out.below HB1.out)).mono ?_); rintro e w2 ⟨rfl, hb2⟩; have HB2 := Lib.hid (HB1.out.trans (hb2.mono HB1.out.size)); clear hb2)
        | (go_at_call 128; (refine (HO.out _ HB2.out).mono ?_); rintro e w3 ⟨aq, cq, rfl, ho3, hb3⟩; have HO3 := Lib.hid ho3; have HB3 := Lib.hid hb3; have hcq := ho3.cap_ge; have hkq : k ≤ q.length := (by rw [HOL.out]; exact hkl); clear ho3 hb3; refine Hid.out ?_))
      refine Lib.hid ?_
      have hk0 : (0 : Int) ≤ (k : Int) := by omega
      have hkc : (k : Int) ≤ (cq : Int) := by omega
      have hin : ∃ g, aq = some ⟨g, 0, none⟩ ∨ (aq = none ∧ cq = 0) := by
        rcases HO3.out.2 with ⟨hv, h1⟩ | ⟨g, cap', cur, hv, _⟩
        · simp only [Value.slice.injEq] at hv
          exact ⟨0, .inr ⟨hv.1, hv.2.2⟩⟩
        · simp only [Value.slice.injEq] at hv
          exact ⟨g, .inl hv.1⟩
      obtain ⟨g, rfl | ⟨rfl, rfl⟩⟩ := hin
      · go_wp2
        go_ret
        have h := HO3.out.cut hkq
        rw [HR.out] at h
        have hl : r.length = k := by rw [← HR.out, List.length_take]; omega
        refine GivesS.mk ?_ (HB2.out.trans (HB3.out.mono HB2.out.size))
        have h2 := h.mono HB2.out.size
        exact h2
      · obtain rfl : k = 0 := by omega
        go_wp2
        go_ret
        obtain rfl : [] = r := by rw [← HR.out]; simp
        exact GivesS.mk (OwnS.nil _ _) (HB2.out.trans (HB3.out.mono HB2.out.size))
  · have hgood : (okS l.length && okT t) = false := pl_neg (by rw [hp]; omega)
    obtain rfl : [] = r := by rw [← hr, pt_no (.inr hgood)]
    clear h0 h1 hp hgood hr
    clear hb
    go_enter Tryz.func105, Tryz.ntmps105
    go_wp2_with (go_at_call 127; (with_reducible refine (pl_impl _ _ _ _ HP.out).mono ?_); rintro e w1 ⟨rfl, hb1⟩; have HB1 := Lib.hid hb1; clear hb1)
    go_ret
    exact ⟨_, _, rfl, OwnS.nil _ _, HB1.out⟩

noncomputable def shR (tab : List TC) (a b : List Str) (t : Int) : Bool := decide (0 < ((commonR (ptR tab a t) (ptR tab b t)).length : Int))

set_option maxRecDepth 100000 in
set_option maxHeartbeats 1000000 in
theorem sh_spec (a0 a1 a2 : Option Addr) (c0 c1 c2 : Nat) (tab : List TC) (l m : List Str) (t : Int) (r : Bool) (w : World) (hr : shR tab l m t = r) (h0 : SmW w a0 tab c0) (h1 : Sm w a1 l c1) (h2 : Sm w a2 m c2) :
    Calls Tryz.prog 38 #[.slice a0 tab.length c0, .slice a1 l.length c1, .slice a2 m.length c2, .int .i64 t] w fun e w' => e = .returned (.bool r) ∧ Below w.heap.size w w' := by
  have H0 := Lib.hid h0
  have H1 := Lib.hid h1
  have H2 := Lib.hid h2
  have HA := Lib.hid (fun (W : World) (hW : Below w.heap.size w W) => pt_spec a0 a1 c0 c1 tab l t _ W rfl (H0.out.below hW) (H1.out.below hW))
  have HB := Lib.hid (fun (W : World) (hW : Below w.heap.size w W) => pt_spec a0 a2 c0 c2 tab m t _ W rfl (H0.out.below hW) (H2.out.below hW))
  have LA := Lib.hid (show (ptR tab l t).length ≤ 4000000 from Nat.le_trans pt_len h1.2.2.2.1)
  have LB := Lib.hid (show (ptR tab m t).length ≤ 4000000 from Nat.le_trans pt_len h2.2.2.2.1)
  have XA := Lib.hid (fun x (hx : x ∈ ptR tab l t) => h1.2.2.2.2 x (pt_mem hx))
  have XB := Lib.hid (fun x (hx : x ∈ ptR tab m t) => h2.2.2.2.2 x (pt_mem hx))
  unfold shR at hr
  generalize ptR tab l t = pa at HA LA XA hr
  generalize ptR tab m t = pb at HB LB XB hr
  obtain ⟨q, hq⟩ : ∃ q, commonR pa pb = q := ⟨_, rfl⟩
  have HC := Lib.hid (fun (W : World) (aa ab : Option Addr) (ca cb : Nat) (ha : Sm W aa pa ca) (hb : Sm W ab pb cb) => (common_spec aa ab ca cb pa pb W ha hb).mono fun e w' h => (show GivesS W q e w' from by rw [← hq]; exact h))
  rw [hq] at hr
  clear h0 h1 h2 hq
  go_enter Tryz.func38, Tryz.ntmps38
  go_wp2_with (go_at_call 77; (refine (HA.out _ (Below.refl _ _)).mono ?_); rintro e w1 ⟨aa, ca, rfl, ho1, hb1⟩; refine Hid.out ?_)
  refine Lib.hid ?_
  have HO1 := Lib.hid ho1
  have HB1 := Lib.hid hb1
  clear ho1 hb1
  go_wp2_with (go_at_call 77; (refine (HB.out _ HB1.out).mono ?_); rintro e w2 ⟨ab, cb, rfl, ho2, hb2⟩; refine Hid.out ?_)
  refine Lib.hid ?_
  have HO2 := Lib.hid ho2
  have HB2 := Lib.hid (HB1.out.trans (hb2.mono HB1.out.size))
  have HO12 := Lib.hid (HO1.out.below hb2)
  clear ho2 hb2
  go_wp2_with (go_at_call 76; (refine (HC.out _ aa ab ca cb (HO12.out.sm LA.out XA.out) (HO2.out.sm LB.out XB.out)).mono ?_); rintro e w3 ⟨ac, cc, rfl, ho3, hb3⟩; have HB3 := Lib.hid (HB2.out.trans (hb3.mono HB2.out.size)); clear ho3 hb3)
  go_ret
  exact ⟨by rw [← hr]; simp, HB3.out⟩

end Go.Proofs.YthjbekgognfiiaaGreat
