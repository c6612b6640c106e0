/-
  What spec.l14Levels answers. By an AI agent.
-/
import Derived.Test.YtpmfabpnjacegaaGreatDoorGQ6
namespace Go.Proofs.YtpmfabpnjacegaaGreatDoor
open Go.RowKit
set_option linter.unusedVariables false

theorem flat_take_le {R : List (List TS)} {i : Nat} {l : List TS} (h : R[i]? = some l) (k : Nat) : ((R.take i).flatten ++ l.take k).length ≤ R.flatten.length := by
  have h1 : R.flatten = (R.take i).flatten ++ (l ++ (R.drop (i + 1)).flatten) := by
    conv => lhs; rw [← List.take_append_drop i R]
    obtain ⟨hlt, he⟩ := List.getElem?_eq_some_iff.1 h
    rw [List.drop_eq_getElem_cons hlt, he, List.flatten_append, List.flatten_cons]
  rw [h1]
  simp only [List.length_append, List.length_take]
  omega
theorem flat_next {R : List (List TS)} {i : Nat} {l : List TS} (h : R[i]? = some l) : (R.take i).flatten ++ l.take l.length = (R.take (i + 1)).flatten := by
  rw [take_one h, List.take_length]
  simp
theorem test_next {R : List (List TS)} {i k : Nat} {l : List TS} {t : TS} (h : l[k]? = some t) : (R.take i).flatten ++ l.take (k + 1) = ((R.take i).flatten ++ l.take k) ++ [t] := by
  rw [take_one h]
  simp

set_option maxRecDepth 100000 in
set_option maxHeartbeats 2000000 in
theorem lev_spec (a : Option Addr) (c : Nat) (R : List (List TS)) (n : Int) (r : List Int) (w : World) (h : SmRu w a R c) (hf : R.flatten.length ≤ 1000) (hr : levR R n = r) :
    Calls Tryz.prog 61 #[.agg #[.slice a R.length c], .int .i64 n] w (PutsI w w.heap.size r) := by
  obtain ⟨w1, hw1⟩ : ∃ w1, w.alloc (.cells #[.slice a R.length c] 26) = w1 := ⟨_, rfl⟩
  have HB1 := Lib.hid (show Below w.heap.size w w1 by rw [← hw1]; exact (Below.refl w.heap.size w).alloc (Nat.le_refl _) _)
  have HBX := Lib.hid (show BlkV w1 w.heap.size 26 #[.slice a R.length c] by rw [← hw1]; exact BlkV.new _ _ _)
  have HS := Lib.hid (h.below HB1.out)
  have HR := Lib.hid hr
  have HF := Lib.hid hf
  have hRl := h.len
  have HW1 := Lib.hid hw1
  have hown0 : OwnI (w1.alloc (.cells #[.int .i64 0] 3)) w.heap.size (.slice (some ⟨w1.heap.size, 0, none⟩) 1 1) [0] := by
    refine ⟨rfl, .inr ⟨w1.heap.size, 1, #[.int .i64 0], rfl, ?_, heap_alloc_new w1 _, by decide, by unfold maxLen; decide, by simp, by simp [encI]⟩⟩
    exact HB1.out.size
  have HOWN0 := Lib.hid hown0
  clear h hf hr hown0
  go_enter Tryz.func61, Tryz.ntmps61
  go_wp2
  go_loopw [5, 6] (fun v i wr => ∃ (k : Nat) (a' : Option Addr) (c' : Nat), k ≤ R.length ∧ i = .int .i64 k ∧ v = .slice a' (levF (R.take k).flatten n).length c' ∧ OwnI wr w.heap.size (.slice a' (levF (R.take k).flatten n).length c') (levF (R.take k).flatten n) ∧ Below w1.heap.size w1 wr) (fun _ i _ => R.length - (intOf i).toNat)
  case atStart => exact ⟨0, _, _, Nat.zero_le _, rfl, rfl, HOWN0.out, (Below.refl _ _).alloc (Nat.le_refl _) _⟩
  case round =>
    obtain ⟨k, a', c', hk, rfl, rfl, hown, hb⟩ := hrel
    have q0 := (HBX.out.below hb).one0
    obtain ⟨wo, rfl⟩ : ∃ wo, wo = wr := ⟨_, rfl⟩
    have HBO := Lib.hid hb
    have HOWN := Lib.hid hown
    obtain ⟨T, hT⟩ : ∃ T, levF (R.take k).flatten n = T := ⟨_, rfl⟩
    have HTT := Lib.hid hT
    rw [hT] at HOWN ⊢
    clear hb hown hT HOWN0
    by_cases hlt : k < R.length
    · obtain ⟨b, off, l, al, cl, rfl, hbw, hx, c0, hsm⟩ := (HS.out.below HBO.out).at_ hlt
      have HX := Lib.hid hx
      have HSM := Lib.hid hsm
      have HBW := Lib.hid hbw
      have HC0 := Lib.hid c0
      have hll := hsm.len
      clear hx hsm hbw
      go_wp2
      go_loopw [5, 7] (fun v i wr => ∃ (j : Nat) (a' : Option Addr) (c' : Nat), j ≤ l.length ∧ i = .int .i64 j ∧ v = .slice a' (levF ((R.take k).flatten ++ l.take j) n).length c' ∧ OwnI wr w.heap.size (.slice a' (levF ((R.take k).flatten ++ l.take j) n).length c') (levF ((R.take k).flatten ++ l.take j) n) ∧ Below wo.heap.size wo wr) (fun _ i _ => l.length - (intOf i).toNat)
      case atStart => exact ⟨0, _, _, Nat.zero_le _, rfl, by rw [List.take_zero, List.append_nil, HTT.out], by rw [List.take_zero, List.append_nil, HTT.out]; exact HOWN.out, Below.refl _ _⟩
      case round =>
        obtain ⟨j, a2, c2, hj, rfl, rfl, hown, hb⟩ := hrel
        have HB := Lib.hid hb
        have HOWN2 := Lib.hid hown
        have z0 := (HBX.out.below (HBO.out.trans (hb.mono HBO.out.size))).one0
        have y0 := (hb.cell (p := ⟨b, off + k, none⟩) HBW.out).trans HC0.out
        obtain ⟨U, hU⟩ : ∃ U, levF ((R.take k).flatten ++ l.take j) n = U := ⟨_, rfl⟩
        have HUU := Lib.hid hU
        have HUL := Lib.hid (show U.length ≤ 8500000 ∧ 0 < U.length from ⟨by rw [← hU]; have h1 := levF_len ((R.take k).flatten ++ l.take j) n; have h2 := flat_take_le HX.out j; have := HF.out; omega, by rw [← hU]; exact levF_pos _ _⟩)
        rw [hU] at HOWN2 ⊢
        clear hb hown hU
        by_cases hjt : j < l.length
        · obtain ⟨b1, o1, f, t, u, rfl, hbw, hy, e0, e1, e2⟩ := (HSM.out.inTs.below HB.out).at_ hjt
          have HY := Lib.hid hy
          have HA1 := Lib.hid ((Below.refl wr.heap.size wr).alloc (Nat.le_refl _) (.cells #[.int .i64 f, .int .i64 t, .bool u] 86))
          have HOA := Lib.hid (HOWN2.out.alloc (.cells #[.int .i64 f, .int .i64 t, .bool u] 86))
          have HSZ := Lib.hid (show w.heap.size ≤ wr.heap.size from Nat.le_trans HB1.out.size (Nat.le_trans HBO.out.size HB.out.size))
          clear hy hbw
          by_cases hfn : f = n
          · have HN := Lib.hid (show levF ((R.take k).flatten ++ l.take (j + 1)) n = putI U t by rw [test_next HY.out, levF_snoc, if_pos hfn, HUU.out])
            have hfe : (f == n) = true := by simpa using hfn
            clear hfn
            obtain ⟨V, hV⟩ : ∃ V, putI U t = V := ⟨_, rfl⟩
            have HC := Lib.hid (show Calls Tryz.prog 85 #[.slice a2 U.length c2, .int .i64 t] (wr.alloc (.cells #[.int .i64 f, .int .i64 t, .bool u] 86)) (PutsI (wr.alloc (.cells #[.int .i64 f, .int .i64 t, .bool u] 86)) w.heap.size V) by rw [← hV]; exact puti_any w.heap.size a2 c2 U t _ HUL.out.1 HUL.out.2 HOA.out (Nat.le_trans HSZ.out HA1.out.size))
            rw [hV] at HN
            clear hV
            go_wp2_with (go_at_call 85; ((with_reducible refine HC.out.mono ?_); rintro e w2 ⟨a3, c3, rfl, ho, hb2⟩; have HO3 := Lib.hid ho; have HB2 := Lib.hid (HA1.out.trans (hb2.mono HA1.out.size)); clear ho hb2))
            go_roundw
            case rel => exact ⟨j + 1, a3, c3, by omega, by go_num, by rw [HN.out], by rw [HN.out]; exact HO3.out, HB.out.trans (HB2.out.mono HB.out.size)⟩
            case measure => simp [intOf]; omega
          · have HN := Lib.hid (show levF ((R.take k).flatten ++ l.take (j + 1)) n = U by rw [test_next HY.out, levF_snoc, if_neg hfn, HUU.out])
            have hfe : (f == n) = false := by simpa using hfn
            clear hfn
            go_wp2
            go_roundw
            case rel => exact ⟨j + 1, a2, c2, by omega, by go_num, by rw [HN.out], by rw [HN.out]; exact HOA.out, HB.out.trans (HA1.out.mono HB.out.size)⟩
            case measure => simp [intOf]; omega
        · obtain rfl : j = l.length := by omega
          have HN := Lib.hid (show levF (R.take (k + 1)).flatten n = U by rw [← flat_next HX.out, HUU.out])
          go_wp2
          go_roundw
          case rel => exact ⟨k + 1, a2, c2, by omega, by go_num, by rw [HN.out], by rw [HN.out]; exact HOWN2.out, HBO.out.trans (HB.out.mono HBO.out.size)⟩
          case measure => simp [intOf]; omega
    · obtain rfl : k = R.length := by omega
      obtain rfl : T = r := by rw [← HTT.out, List.take_length]; exact HR.out
      go_wp2
      go_ret
      exact ⟨_, _, rfl, HOWN.out, HB1.out.trans (HBO.out.mono HB1.out.size)⟩

end Go.Proofs.YtpmfabpnjacegaaGreatDoor
