/-
  What spec.SoundKeys and impl.SoundKeys answer, for strings of at most 2^20 bytes. By an AI agent.
-/
import Derived.Test.YtebddnjccmaimaaGreatDoorToks
import Derived.Test.YtebddnjccmaimaaGreatDoorGSnd
namespace Go.Proofs.YtebddnjccmaimaaGreatDoor
open Go.RowKit Go.Maps
set_option linter.unusedVariables false

theorem OwnS.keptr {w w' : World} {base c : Nat} {v : Value} {l : List Str} (h : OwnS w base v l) (hg : w.grownBy w' (some c)) (hc : c < base) : OwnS w' base v l := by
  refine World.ownsRow.kept h hg (.inr fun e => ?_)
  have := (World.ownsRow.lt h c e).1
  omega

/-- the codes of the tokens that have one -/
def keysL (L : List Str) : List Str := (L.map sxL).filter ne0
abbrev soundR (s : Str) : List Str := setL (keysL (tokensR s))
theorem keys_none {L : List Str} {k : Nat} {x : Str} (h : L[k]? = some x) (h0 : sxL x = []) : keysL (L.take (k + 1)) = keysL (L.take k) := by
  unfold keysL
  rw [take_snoc' h, List.map_append, List.filter_append]
  simp [h0, ne0_nil]
theorem keys_some {L : List Str} {k : Nat} {x : Str} (h : L[k]? = some x) (h0 : sxL x ≠ []) : keysL (L.take (k + 1)) = keysL (L.take k) ++ [sxL x] := by
  unfold keysL
  rw [take_snoc' h, List.map_append, List.filter_append]
  simp [ne0_yes h0]
theorem keys_len (L : List Str) : (keysL L).length ≤ L.length := by
  have h := List.length_filter_le ne0 (L.map sxL)
  rw [List.length_map] at h
  exact h
theorem sx_short (l : Str) : (sxL l).length ≤ 4 := by
  rcases sxL_length l with h | h
  · rw [h]; decide
  · omega
theorem sound_len (a0 : ByteArray) (h : a0.size ≤ 1048576) : (soundR a0.data.toList).length ≤ 4000000 := by
  have h1 := setL_length (keysL (tokensR a0.data.toList))
  have h2 := keys_len (tokensR a0.data.toList)
  have h3 := tokens_len a0 h
  show (setL (keysL (tokensR a0.data.toList))).length ≤ 4000000
  omega
theorem tok_short (s : ByteArray) (h : s.size ≤ 1048576) : ∀ x ∈ tokensR s.data.toList, x.length ≤ 4194304 := by
  intro x hx
  have h1 := (setL_mem (wordsL (normL s.data.toList)) x).1 hx
  have h2 := words_short _ x h1
  have h3 := norm_len s.data.toList
  have h4 : s.data.toList.length = s.size := Array.length_toList
  omega

set_option maxRecDepth 100000 in
set_option maxHeartbeats 1000000 in
theorem sound_spec (s : ByteArray) (w : World) (hs : s.size ≤ 1048576) (hT : SpT w) :
    Calls Tryz.prog 65 #[.string s] w (GivesS w (soundR s.data.toList)) := by
  have HS := Lib.hid hs
  obtain ⟨L, hL⟩ : ∃ L, tokensR s.data.toList = L := ⟨_, rfl⟩
  have hLl : L.length ≤ 4000000 := by rw [← hL]; exact tokens_len s hs
  have HX := Lib.hid (show ∀ x ∈ L, x.length ≤ 4194304 by rw [← hL]; exact tok_short s hs)
  have HTK := Lib.hid (fun (W : World) => (show Calls Tryz.prog 68 #[.string s] W (GivesS W L) by rw [← hL]; exact tokens_spec0 s W hs))
  have HRES := Lib.hid (show soundR s.data.toList = setL (keysL L) by show setL (keysL (tokensR s.data.toList)) = _; rw [hL])
  clear hL hs hT
  rw [HRES.out]
  go_enter Tryz.func65, Tryz.ntmps65
  go_wp2_with (go_at_call 68; (refine (HTK.out _).mono ?_); rintro e w1 ⟨ac, cc, rfl, ho1, hb1⟩; have HB1 := Lib.hid (((Below.refl w.heap.size w).alloc (Nat.le_refl _) (.cells #[] 9)).trans (hb1.mono (by simp))); have HO1 := Lib.hid ((own_new w w.heap.size w.heap.size rfl (Nat.le_refl _)).below hb1); have HC1 := Lib.hid ho1.inS; clear ho1 hb1)
  go_loopw [3, 5] (fun v i wr => ∃ (k : Nat) (a : Option Addr) (c : Nat) (r : List Str), k ≤ L.length ∧ i = .int .i64 k ∧ v = .slice a r.length c ∧ r = setL (keysL (L.take k)) ∧ OwnS wr w.heap.size (.slice a r.length c) r ∧ InS wr ac L ∧ Below w.heap.size w wr) (fun _ i _ => L.length - (intOf i).toNat)
  case atStart => exact ⟨0, _, _, [], Nat.zero_le _, rfl, rfl, rfl, HO1.out, HC1.out, HB1.out⟩
  case round =>
    obtain ⟨k, a, c, r, hk, rfl, rfl, hr, hown, hin, hb⟩ := hrel
    have hrl : r.length ≤ k := by
      rw [hr]
      have h2 := setL_length (keysL (L.take k))
      have h3 := keys_len (L.take k)
      have h4 : (L.take k).length ≤ k := List.length_take_le _ _
      omega
    have HR := Lib.hid hr
    have HOWN := Lib.hid hown
    have HIN := Lib.hid hin
    have HB := Lib.hid hb
    clear hr hown hin hb
    by_cases hlt : k < L.length
    · obtain ⟨b, off, rfl, hbw, hc⟩ := HIN.out (by omega)
      obtain ⟨x, u, hx1, hx2, hx3, hx4⟩ := str_at hlt
      have hcell : wr.cell? ⟨b, off + k, none⟩ = some (.string u) := by rw [← hx3]; exact hc k x hx1
      have HX1 := Lib.hid hx1
      obtain ⟨y, hy⟩ : ∃ y : ByteArray, nstr (sxL x) = y := ⟨_, rfl⟩
      have hyl : y.data.toList = sxL x := by rw [← hy, nstr_list]
      have HU := Lib.hid (show u.size ≤ 4194304 by rw [hx4]; exact HX.out x (List.mem_of_getElem? hx1))
      have HSX := Lib.hid (fun W : World => (spec_sx u W HU.out).mono fun e w' h => (show e = .returned (.string y) ∧ Below W.heap.size W w' from ⟨by rw [h.1, hx2, hy], h.2⟩))
      have HY := Lib.hid hyl
      by_cases hx0 : sxL x = []
      · obtain ⟨he, he2⟩ := empty_is hyl hx0
        have HX0 := Lib.hid hx0
        clear hc hx1 hx2 hx3 hx4 hbw hx0 hy hyl
        go_wp2_with (go_at_call 98; ((with_reducible refine (HSX.out _).mono ?_); rintro e w2 ⟨rfl, hb2⟩; have HB2 := Lib.hid hb2; clear hb2))
        go_roundw
        case rel =>
          refine ⟨k + 1, a, c, r, by omega, by go_num, rfl, ?_, HOWN.out.below HB2.out, HIN.out.below HB2.out, HB.out.trans (HB2.out.mono HB.out.size)⟩
          rw [keys_none HX1.out HX0.out]
          exact HR.out
        case measure => simp [intOf]; omega
      · obtain ⟨he, he2⟩ := full_is hyl hx0
        have HX0 := Lib.hid hx0
        clear hc hx1 hx2 hx3 hx4 hbw hx0 hy hyl
        go_wp2_with (first
          | (go_at_call 98; ((with_reducible refine (HSX.out _).mono ?_); rintro e w2 ⟨rfl, hb2⟩; have HOWN2 := Lib.hid (HOWN.out.below hb2); have HIN2 := Lib.hid (HIN.out.below hb2); have HB2 := Lib.hid (HB.out.trans (hb2.mono HB.out.size)); clear hb2))
          | (go_at_call 66; (refine (put_any false w.heap.size a c r y (sxL x) _ (by omega) HOWN2.out HB2.out.size HY.out).mono ?_); rintro e w3 ⟨a2, c2, rfl, ho3, hb3⟩; have HO3 := Lib.hid ho3; have HB3 := Lib.hid hb3; clear ho3 hb3))
        go_roundw
        case rel =>
          refine ⟨k + 1, a2, c2, putL false r (sxL x), by omega, by go_num, rfl, ?_, HO3.out, HIN2.out.below HB3.out, HB2.out.trans (HB3.out.mono HB2.out.size)⟩
          rw [keys_some HX1.out HX0.out, setL_snoc, ← HR.out]
        case measure => simp [intOf]; omega
    · obtain rfl : k = L.length := by omega
      go_wp2
      go_ret
      have e : r = setL (keysL L) := by
        have h := HR.out
        rw [List.take_length] at h
        exact h
      rw [← e]
      exact ⟨a, c, rfl, HOWN.out, HB.out⟩

set_option maxRecDepth 100000 in
set_option maxHeartbeats 1000000 in
theorem sound_impl (s : ByteArray) (w : World) (hs : s.size ≤ 1048576) (hT : SpT w) :
    Calls Tryz.prog 91 #[.string s] w (GivesS w (soundR s.data.toList)) := by
  have HS := Lib.hid hs
  have HT := Lib.hid hT
  obtain ⟨L, hL⟩ : ∃ L, tokensR s.data.toList = L := ⟨_, rfl⟩
  have hLl : L.length ≤ 4000000 := by rw [← hL]; exact tokens_len s hs
  have HX := Lib.hid (show ∀ x ∈ L, x.length ≤ 4194304 by rw [← hL]; exact tok_short s hs)
  have HTK := Lib.hid (fun (W : World) (hW : SpT W) => (show Calls Tryz.prog 94 #[.string s] W (GivesS W L) by rw [← hL]; exact tokens_impl0 s W hs hW))
  have HRES := Lib.hid (show soundR s.data.toList = setL (keysL L) by show setL (keysL (tokensR s.data.toList)) = _; rw [hL])
  clear hL hs hT
  rw [HRES.out]
  have hmm := @run_makeMap Tryz.prog
  go_enter Tryz.func91, Tryz.ntmps91
  go_wp2_with (go_at_call 94; (refine (HTK.out _ (HT.out.below ((Below.refl _ _).alloc (Nat.le_refl _) _))).mono ?_); rintro e w1 ⟨ac, cc, rfl, ho1, hb1⟩; have HB1 := Lib.hid (((Below.refl w.heap.size w).alloc (Nat.le_refl _) (.map #[] 0)).trans (hb1.mono (by simp))); have HS1 := Lib.hid ((SetM.made w).below hb1); have HC1 := Lib.hid (ho1.mono (show w.heap.size + 1 ≤ (w.alloc (.map #[] 0)).heap.size by simp)); clear ho1 hb1)
  go_loopw [11] (fun i wr => ∃ k : Nat, k ≤ L.length ∧ i = .int .i64 k ∧ OwnS wr (w.heap.size + 1) (.slice ac L.length cc) L ∧ SetM wr w.heap.size k (keysL (L.take k)) ∧ Below w.heap.size w wr) (fun i _ => L.length - (intOf i).toNat)
  case atStart => exact ⟨0, Nat.zero_le _, rfl, HC1.out, HS1.out, HB1.out⟩
  case round =>
    obtain ⟨k, hk, rfl, hoC, hsC, hb⟩ := hrel
    have HOC := Lib.hid hoC
    have HIN := Lib.hid hoC.inS
    have HSC := Lib.hid hsC
    have HB := Lib.hid hb
    clear hoC hsC hb
    by_cases hlt : k < L.length
    · obtain ⟨b, off, rfl, hbw, hc⟩ := HIN.out (by omega)
      obtain ⟨x, u, hx1, hx2, hx3, hx4⟩ := str_at hlt
      have hcell : wr.cell? ⟨b, off + k, none⟩ = some (.string u) := by rw [← hx3]; exact hc k x hx1
      have HX1 := Lib.hid hx1
      obtain ⟨y, hy⟩ : ∃ y : ByteArray, nstr (sxL x) = y := ⟨_, rfl⟩
      have hyl : y.data.toList = sxL x := by rw [← hy, nstr_list]
      have HU := Lib.hid (show u.size ≤ 4194304 by rw [hx4]; exact HX.out x (List.mem_of_getElem? hx1))
      have HSX := Lib.hid (fun W : World => (impl_sx u W HU.out).mono fun e w' h => (show e = .returned (.string y) ∧ Below W.heap.size W w' from ⟨by rw [h.1, hx2, hy], h.2⟩))
      have HSZ := Lib.hid (show y.size ≤ maxLen by rw [← hy, nstr_size]; have := sx_short x; unfold maxLen; omega)
      have HY := Lib.hid hyl
      by_cases hx0 : sxL x = []
      · obtain ⟨he, he2⟩ := empty_is hyl hx0
        have he3 : (!y.toList.isEmpty) = false := by rw [he2]; rfl
        have HX0 := Lib.hid hx0
        clear hc hx1 hx2 hx3 hx4 hbw hx0 hy hyl
        go_wp2_with (go_at_call 121; ((with_reducible refine (HSX.out _).mono ?_); rintro e w2 ⟨rfl, hb2⟩; have HB2 := Lib.hid hb2; clear hb2))
        go_roundw
        case rel =>
          refine ⟨k + 1, by omega, by go_num, HOC.out.below HB2.out, ?_, HB.out.trans (HB2.out.mono HB.out.size)⟩
          rw [keys_none HX1.out HX0.out]
          exact (HSC.out.below HB2.out).mono (Nat.le_succ _)
        case measure => simp [intOf]; omega
      · obtain ⟨he, he2⟩ := full_is hyl hx0
        have he3 : (!y.toList.isEmpty) = true := by rw [he2]; rfl
        have HX0 := Lib.hid hx0
        clear hc hx1 hx2 hx3 hx4 hbw hx0 hy hyl
        go_wp2_with (first
          | (go_at_call 121; ((with_reducible refine (HSX.out _).mono ?_); rintro e w2 ⟨rfl, hb2⟩; have HSC2 := Lib.hid (HSC.out.below hb2); have HOC2 := Lib.hid (HOC.out.below hb2); have HB2 := Lib.hid (HB.out.trans (hb2.mono HB.out.size)); clear hb2))
          | (at_mapUpdate; refine wpList_set_store _ rfl _ _ _ rfl w.heap.size k _ HSC2.out rfl (by unfold maxLen; omega) y (sxL x) rfl rfl HY.out HSZ.out ?_; intro w3 hset3 hg3; have HS3 := Lib.hid hset3; have HG3 := Lib.hid hg3; clear hset3 hg3))
        go_roundw
        case rel =>
          refine ⟨k + 1, by omega, by go_num, HOC2.out.keptr HG3.out (Nat.lt_succ_self _), ?_, HB2.out.grown HG3.out HB2.out.size (fun j hj => by cases hj; exact Nat.le_refl _)⟩
          rw [keys_some HX1.out HX0.out]
          exact HS3.out
        case measure => simp [intOf]; omega
    · obtain rfl : k = L.length := by omega
      have HSC2 := Lib.hid (show SetM wr w.heap.size L.length (keysL L) by have h := HSC.out; rwa [List.take_length] at h)
      go_wp2_with (go_at_call 58; (refine (sorted_members w.heap.size L.length (keysL L) _ (by omega) HSC2.out).mono ?_); rintro e w3 ⟨a3, c3, rfl, ho3, hb3⟩; have HO3 := Lib.hid ho3; have HB3 := Lib.hid hb3; clear ho3 hb3)
      go_ret
      exact ⟨a3, c3, rfl, HO3.out.mono HB.out.size, HB.out.trans (HB3.out.mono HB.out.size)⟩

end Go.Proofs.YtebddnjccmaimaaGreatDoor
