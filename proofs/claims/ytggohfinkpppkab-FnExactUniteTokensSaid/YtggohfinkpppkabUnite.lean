/-
  What slices.Grow and slices.Concat do at []string, spec.UniteTokens and impl.UniteTokens. By an AI agent.
-/
import Derived.Test.YtggohfinkpppkabSetOf
import Derived.Test.YtggohfinkpppkabPut2
import Derived.Test.YtggohfinkpppkabHeld
import Derived.Lib.AppendZeros
namespace Go.Proofs.Ytggohfinkpppkab
open Go.RowKit Go.Maps
set_option linter.unusedVariables false

set_option maxRecDepth 100000 in
theorem grow_nil (n : Nat) (w : World) (hn : n ≤ 9000000) :
    Calls Try.prog 46 #[.slice none 0 0, .int .i64 n] w (GivesS w []) := by
  obtain ⟨i0, hi, hz0, hz1, hz2⟩ := info_parts info_str
  by_cases h0 : n = 0
  · subst h0
    go_enter Try.func46, Try.ntmps46
    go_wp2
    go_ret
    exact ⟨none, 0, rfl, OwnS.nil _ _, Below.refl _ _⟩
  · have hr := Lib.run_append_nil_zeros (P := Try.prog) w 24 3 24 9 i0 (.string ⟨#[]⟩) .i64 .i64 Try.underlying24 Try.underlying3 hi hz0 n (by omega) (by omega) (by omega) (by rw [hz2]; omega)
    have hc1 := grownCap_ge w n 0 9
    have hc2 := grownCap_le_maxLen w n 0 9 (by unfold maxLen; omega)
    obtain ⟨cap, hcap⟩ : ∃ c, grownCap w n 0 9 = c := ⟨_, rfl⟩
    rw [hcap] at hr hc1 hc2
    have HOWN := Lib.hid (OwnS.made w.drew w.heap.size (Builtin.zeroCells (Value.string ⟨#[]⟩).cells n ++ Builtin.zeroCells (Value.string ⟨#[]⟩).cells (cap - n)) cap (Nat.le_refl _) hc2 (by rw [Array.size_append, size_zeroCells, size_zeroCells]; show n * 1 + (cap - n) * 1 = cap; omega))
    have HB := Lib.hid (((Below.refl w.heap.size w).drew).alloc (Nat.le_refl _) (.cells (Builtin.zeroCells (Value.string ⟨#[]⟩).cells n ++ Builtin.zeroCells (Value.string ⟨#[]⟩).cells (cap - n)) 9))
    obtain ⟨w1, hw1⟩ : ∃ w1, w1 = w.drew.alloc (.cells (Builtin.zeroCells (Value.string ⟨#[]⟩).cells n ++ Builtin.zeroCells (Value.string ⟨#[]⟩).cells (cap - n)) 9) := ⟨_, rfl⟩
    rw [← hw1] at hr HOWN HB
    have HR := Lib.hid hr
    clear hr hw1 hcap
    go_enter Try.func46, Try.ntmps46
    go_wp2_with (at_builtin; refine Lib.wpList_append_run _ rfl _ _ _ _ rfl _ _ rfl rfl _ _ HR.out ?_)
    go_ret
    exact ⟨_, cap, rfl, HOWN.out, HB.out⟩

set_option maxRecDepth 100000 in
set_option maxHeartbeats 1600000 in
theorem concat_two (g : Nat) (a0 a1 : Option Addr) (c0 c1 : Nat) (l0 l1 : List Str) (w : World) (h0 : Sm w a0 l0 c0) (h1 : Sm w a1 l1 c1) (hc0 : w.cell? ⟨g, 0, none⟩ = some (.slice a0 l0.length c0)) (hc1 : w.cell? ⟨g, 1, none⟩ = some (.slice a1 l1.length c1)) :
    Calls Try.prog 34 #[.slice (some ⟨g, 0, none⟩) 2 2] w (GivesS w (l0 ++ l1)) := by
  obtain ⟨hin0, hn0, -, hl0, -⟩ := h0
  obtain ⟨hin1, hn1, -, hl1, -⟩ := h1
  have H0 := Lib.hid hin0
  have H1 := Lib.hid hin1
  have N0 := Lib.hid hn0
  have N1 := Lib.hid hn1
  have hg := World.block_lt_of_cell? w _ hc0
  have C0 := Lib.hid hc0
  have C1 := Lib.hid hc1
  clear hin0 hin1 hn0 hn1
  go_enter Try.func34, Try.ntmps34
  go_wp2
  go_loop [3, 11] (fun s i => (i = .int .i64 (0 : Nat) ∧ s = .int .i64 (0 : Nat)) ∨ (i = .int .i64 (1 : Nat) ∧ s = .int .i64 l0.length) ∨ (i = .int .i64 (2 : Nat) ∧ s = .int .i64 ((l0.length + l1.length : Nat) : Int))) (fun _ i => 2 - (intOf i).toNat)
  case atStart => exact .inl ⟨rfl, rfl⟩
  case round =>
    rcases hrel with ⟨rfl, rfl⟩ | ⟨rfl, rfl⟩ | ⟨rfl, rfl⟩
    · go_wp2
      go_round
      case rel => exact .inr (.inl ⟨by go_num, by go_num⟩)
      case measure => simp [intOf]
    · go_wp2
      go_round
      case rel => exact .inr (.inr ⟨by go_num, by go_num⟩)
      case measure => simp [intOf]
    · clear hc0 hc1
      go_wp2_with (go_at_call 46; (refine (grow_nil (l0.length + l1.length) _ (by omega)).mono ?_); rintro e w1 ⟨ag, cg, rfl, ho1, hb1⟩; have HO1 := Lib.hid ho1; have HB1 := Lib.hid hb1; clear ho1 hb1)
      go_loopw [6, 27] (fun v i wr => ∃ (a : Option Addr) (c : Nat) (r : List Str), v = .slice a r.length c ∧ OwnS wr w.heap.size (.slice a r.length c) r ∧ Below w.heap.size w wr ∧ ((i = .int .i64 (0 : Nat) ∧ r = []) ∨ (i = .int .i64 (1 : Nat) ∧ r = l0) ∨ (i = .int .i64 (2 : Nat) ∧ r = l0 ++ l1))) (fun _ i _ => 2 - (intOf i).toNat)
      case atStart => exact ⟨ag, cg, [], rfl, HO1.out, HB1.out, .inl ⟨rfl, rfl⟩⟩
      case round =>
        obtain ⟨a, c, r, rfl, hown, hb, hrel⟩ := hrel
        have HOWN := Lib.hid hown
        have HB := Lib.hid hb
        have hcell0 : wr.cell? ⟨g, 0, none⟩ = some (.slice a0 l0.length c0) := by rw [HB.out.cell (p := ⟨g, 0, none⟩) hg]; exact C0.out
        have hcell1 : wr.cell? ⟨g, 1, none⟩ = some (.slice a1 l1.length c1) := by rw [HB.out.cell (p := ⟨g, 1, none⟩) hg]; exact C1.out
        clear hown hb
        rcases hrel with ⟨rfl, hr⟩ | ⟨rfl, hr⟩ | ⟨rfl, hr⟩
        · have HR := Lib.hid hr
          obtain ⟨v', w2, hrun, ho, hgr⟩ := run_app 24 w.heap.size (.slice a r.length c) r wr HOWN.out a0 c0 l0 (H0.out.below HB.out) N0.out (by rw [hr]; simp; omega) HB.out.size
          obtain ⟨a', c', rfl⟩ := ho.shape
          have HRUN := Lib.hid hrun
          have HO := Lib.hid ho
          have HG := Lib.hid (HB.out.grown hgr HB.out.size (fun k hk => (World.ownsRow.lt HOWN.out k hk).1))
          clear hrun ho hgr hr
          go_wp2_with (at_builtin; refine Lib.wpList_append_run _ rfl _ _ _ _ rfl _ _ rfl rfl _ _ HRUN.out ?_)
          go_roundw
          case rel =>
            exact ⟨a', c', r ++ l0, by simp, HO.out, HG.out, .inr (.inl ⟨by go_num, by rw [HR.out]; rfl⟩)⟩
          case measure => simp [intOf]
        · have HR := Lib.hid hr
          obtain ⟨v', w2, hrun, ho, hgr⟩ := run_app 24 w.heap.size (.slice a r.length c) r wr HOWN.out a1 c1 l1 (H1.out.below HB.out) N1.out (by rw [hr]; omega) HB.out.size
          obtain ⟨a', c', rfl⟩ := ho.shape
          have HRUN := Lib.hid hrun
          have HO := Lib.hid ho
          have HG := Lib.hid (HB.out.grown hgr HB.out.size (fun k hk => (World.ownsRow.lt HOWN.out k hk).1))
          clear hrun ho hgr hr
          go_wp2_with (at_builtin; refine Lib.wpList_append_run _ rfl _ _ _ _ rfl _ _ rfl rfl _ _ HRUN.out ?_)
          go_roundw
          case rel =>
            exact ⟨a', c', r ++ l1, by simp, HO.out, HG.out, .inr (.inr ⟨by go_num, by rw [HR.out]⟩)⟩
          case measure => simp [intOf]
        · have HR := Lib.hid hr
          clear hr
          go_wp2
          go_ret
          rw [← HR.out]
          exact ⟨a, c, rfl, HOWN.out, HB.out⟩

abbrev uniteR (l m : List Str) : List Str := setL (l ++ m)
theorem unite_len (l m : List Str) (h0 : szL l ≤ 1048576) (h1 : szL m ≤ 1048576) : (uniteR l m).length ≤ 4000000 := by
  have h2 := setL_length (l ++ m)
  have h3 := szL_len l
  have h4 := szL_len m
  rw [List.length_append] at h2
  show (setL (l ++ m)).length ≤ 4000000
  omega

set_option maxRecDepth 100000 in
set_option maxHeartbeats 1000000 in
theorem unite_spec (a0 a1 : Option Addr) (c0 c1 : Nat) (l0 l1 : List Str) (w : World) (h0 : Sm w a0 l0 c0) (h1 : Sm w a1 l1 c1) :
    Calls Try.prog 18 #[.slice a0 l0.length c0, .slice a1 l1.length c1] w (GivesS w (uniteR l0 l1)) := by
  obtain ⟨hin0, -, -, hl0, -⟩ := h0
  obtain ⟨hin1, -, -, hl1, -⟩ := h1
  have H0 := Lib.hid hin0
  have H1 := Lib.hid hin1
  clear hin0 hin1
  go_enter Try.func18, Try.ntmps18
  go_wp2
  go_loopw [5, 6] (fun v i wr => ∃ (k : Nat) (a : Option Addr) (c : Nat) (r : List Str), k ≤ l0.length ∧ i = .int .i64 k ∧ v = .slice a r.length c ∧ r = setL (l0.take k) ∧ OwnS wr w.heap.size (.slice a r.length c) r ∧ Below w.heap.size w wr) (fun _ i _ => l0.length - (intOf i).toNat)
  case atStart => exact ⟨0, _, _, [], Nat.zero_le _, rfl, rfl, rfl, own_new w w.heap.size w.heap.size rfl (Nat.le_refl _), (Below.refl _ _).alloc (Nat.le_refl _) _⟩
  case round =>
    obtain ⟨k, a, c, r, hk, rfl, rfl, hr, hown, hb⟩ := hrel
    have hrl : r.length ≤ k := by
      rw [hr]
      have h2 := setL_length (l0.take k)
      have h4 : (l0.take k).length ≤ k := List.length_take_le _ _
      omega
    have HR := Lib.hid hr
    have HOWN := Lib.hid hown
    have HB := Lib.hid hb
    clear hr hown hb
    by_cases hlt : k < l0.length
    · obtain ⟨b, off, rfl, hbw, hc⟩ := H0.out (by omega)
      obtain ⟨x, s, hx1, hx2, hx3, hx4⟩ := str_at hlt
      have hcell : wr.cell? ⟨b, off + k, none⟩ = some (.string s) := by
        rw [HB.out.cell (p := ⟨b, off + k, none⟩) hbw, ← hx3]
        exact hc k x hx1
      have HX1 := Lib.hid hx1
      have HX2 := Lib.hid hx2
      clear hc hx1 hx2 hx3 hx4 hbw
      go_wp2_with (go_at_call 36; (refine (put_any false w.heap.size a c r s x _ (by omega) HOWN.out HB.out.size HX2.out).mono ?_); rintro e w2 ⟨a2, c2, rfl, ho2, hb2⟩; have HO2 := Lib.hid ho2; have HB2 := Lib.hid hb2; clear ho2 hb2)
      go_roundw
      case rel =>
        refine ⟨k + 1, a2, c2, putL false r x, by omega, by go_num, rfl, ?_, HO2.out, HB.out.trans (HB2.out.mono HB.out.size)⟩
        rw [take_snoc' HX1.out, setL_snoc, ← HR.out]
      case measure => simp [intOf]; omega
    · obtain rfl : k = l0.length := by omega
      have HR0 := Lib.hid (show r = setL l0 by have h := HR.out; rwa [List.take_length] at h)
      go_wp2
      go_loopw [5, 7] (fun v i wr => ∃ (k : Nat) (a : Option Addr) (c : Nat) (r : List Str), k ≤ l1.length ∧ i = .int .i64 k ∧ v = .slice a r.length c ∧ r = setL (l0 ++ l1.take k) ∧ OwnS wr w.heap.size (.slice a r.length c) r ∧ Below w.heap.size w wr) (fun _ i _ => l1.length - (intOf i).toNat)
      case atStart => exact ⟨0, a, c, r, Nat.zero_le _, rfl, rfl, by rw [HR0.out]; simp, HOWN.out, HB.out⟩
      case round =>
        clear HR HOWN HB hrl HR0
        obtain ⟨k, a, c, r, hk, rfl, rfl, hr, hown, hb⟩ := hrel
        have hrl : r.length ≤ l0.length + k := by
          rw [hr]
          have h2 := setL_length (l0 ++ l1.take k)
          have h4 : (l1.take k).length ≤ k := List.length_take_le _ _
          rw [List.length_append] at h2
          omega
        have HR := Lib.hid hr
        have HOWN := Lib.hid hown
        have HB := Lib.hid hb
        clear hr hown hb
        by_cases hlt : k < l1.length
        · obtain ⟨b, off, rfl, hbw, hc⟩ := H1.out (by omega)
          obtain ⟨x, s, hx1, hx2, hx3, hx4⟩ := str_at hlt
          have hcell : wr.cell? ⟨b, off + k, none⟩ = some (.string s) := by
            rw [HB.out.cell (p := ⟨b, off + k, none⟩) hbw, ← hx3]
            exact hc k x hx1
          have HX1 := Lib.hid hx1
          have HX2 := Lib.hid hx2
          clear hc hx1 hx2 hx3 hx4 hbw
          go_wp2_with (go_at_call 36; (refine (put_any false w.heap.size a c r s x _ (by omega) HOWN.out HB.out.size HX2.out).mono ?_); rintro e w2 ⟨a2, c2, rfl, ho2, hb2⟩; have HO2 := Lib.hid ho2; have HB2 := Lib.hid hb2; clear ho2 hb2)
          go_roundw
          case rel =>
            refine ⟨k + 1, a2, c2, putL false r x, by omega, by go_num, rfl, ?_, HO2.out, HB.out.trans (HB2.out.mono HB.out.size)⟩
            rw [take_snoc' HX1.out, ← List.append_assoc, setL_snoc, ← HR.out]
          case measure => simp [intOf]; omega
        · obtain rfl : k = l1.length := by omega
          go_wp2
          go_ret
          have e : r = uniteR l0 l1 := by
            have h := HR.out
            rw [List.take_length] at h
            exact h
          rw [← e]
          exact ⟨a, c, rfl, HOWN.out, HB.out⟩

set_option maxRecDepth 100000 in
set_option maxHeartbeats 1000000 in
theorem unite_impl (a0 a1 : Option Addr) (c0 c1 : Nat) (l0 l1 : List Str) (w : World) (h0 : Sm w a0 l0 c0) (h1 : Sm w a1 l1 c1) :
    Calls Try.prog 15 #[.slice a0 l0.length c0, .slice a1 l1.length c1] w (GivesS w (uniteR l0 l1)) := by
  have hl : (l0 ++ l1).length ≤ 9000000 := by rw [List.length_append]; have := h0.2.2.2.1; have := h1.2.2.2.1; omega
  have XX := Lib.hid (show ∀ x ∈ l0 ++ l1, x.length ≤ 9000000 from fun x hx => by
    rcases List.mem_append.1 hx with hx | hx
    · have := h0.2.2.2.2 x hx; omega
    · have := h1.2.2.2.2 x hx; omega)
  have H0 := Lib.hid h0
  have H1 := Lib.hid h1
  clear h0 h1
  obtain ⟨L, hL⟩ : ∃ L, L = l0 ++ l1 := ⟨_, rfl⟩
  rw [← hL] at hl XX
  have HRL := Lib.hid (show uniteR l0 l1 = setL L by rw [hL])
  have HC : Hid (Calls Try.prog 34 #[.slice (some ⟨w.heap.size, 0, none⟩) 2 2] (w.alloc (.cells #[.slice a0 l0.length c0, .slice a1 l1.length c1] 24)) (GivesS w L)) := by
    have hb0 : Below w.heap.size w (w.alloc (.cells #[.slice a0 l0.length c0, .slice a1 l1.length c1] 24)) := (Below.refl _ _).alloc (Nat.le_refl _) _
    refine Lib.hid ((concat_two w.heap.size a0 a1 c0 c1 l0 l1 (w.alloc (.cells #[.slice a0 l0.length c0, .slice a1 l1.length c1] 24)) (H0.out.below hb0) (H1.out.below hb0)
      (by rw [World.cell?_alloc_at _ _ _ _ rfl]; rfl) (by rw [World.cell?_alloc_at _ _ _ _ rfl]; rfl)).mono fun e w1 h => ?_)
    rw [← hL] at h
    obtain ⟨a', c', he, ho, hb⟩ := h
    exact ⟨a', c', he, ho.mono hb0.size, hb0.trans (hb.mono hb0.size)⟩
  rw [HRL.out]
  clear hL
  go_enter Try.func15, Try.ntmps15
  go_wp2_with (first
    | (go_at_call 34; (refine (HC.out).mono ?_); rintro e w1 ⟨a1', c1', rfl, ho1, hb1⟩; have HB1 := Lib.hid hb1; have HO1 := Lib.hid ho1; clear ho1 hb1)
    | (go_at_call 32; (refine (set_of a1' c1' L _ hl XX.out HO1.out.inS).mono ?_); rintro e w2 ⟨bI, rfl, hs1, hlo, hb2⟩; have HS1 := Lib.hid hs1; have HB2 := Lib.hid (HB1.out.trans (hb2.mono HB1.out.size)); clear hs1 hb2 hlo)
    | (go_at_call 33; (refine (sorted_members bI L.length L _ hl HS1.out).mono ?_); rintro e w3 ⟨a3, c3, rfl, ho3, hb3⟩; have HO3 := Lib.hid ho3; have HB3 := Lib.hid (HB2.out.trans (hb3.mono HB2.out.size)); clear ho3 hb3))
  go_ret
  exact ⟨a3, c3, rfl, HO3.out.mono HB2.out.size, HB3.out⟩

end Go.Proofs.Ytggohfinkpppkab
