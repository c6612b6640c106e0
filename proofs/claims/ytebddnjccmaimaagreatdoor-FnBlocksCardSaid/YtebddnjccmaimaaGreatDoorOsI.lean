/-
  What impl.OversizedBlocks answers: keys are struck from a map under a range over it. By an AI agent.
-/
import Derived.Test.YtebddnjccmaimaaGreatDoorRgM
namespace Go.Proofs.YtebddnjccmaimaaGreatDoor
open Go.RowKit Go.Maps Go.Sort
set_option linter.unusedVariables false

/-- what D holds -/
def Desc (D : DataW Value) (F : Str → Option Value) : Prop := (∀ x : Str, Maps.has D (.string x) = (F x).isSome) ∧ ∀ (x : Str) (z : Value), D.atKey (.string x) (.held z) = .held ((F x).getD z)
theorem Desc.congr {D : DataW Value} {F G : Str → Option Value} (h : Desc D F) (hf : ∀ x, F x = G x) : Desc D G := by
  rwa [show G = F from funext fun x => (hf x).symm]
theorem Desc.del {D : DataW Value} {F : Str → Option Value} {y : Str} (h : Desc D F) : Desc (D.del (.string y)) (fun x => if x = y then none else F x) := by
  constructor
  · intro x
    by_cases e : x = y
    · subst e
      rw [Maps.has_del_same]; simp
    · rw [Maps.has_del_other (lit_ne e), h.1 x]; simp [e]
  · intro x z
    by_cases e : x = y
    · subst e
      rw [Maps.atKey_del_same]; simp
    · rw [Maps.atKey_del_other (lit_ne e), h.2 x]; simp [e]
theorem sameStr (x y : Str) : (Lit.string x).sameKey (.string y) = decide (x = y) := by
  show (x == y) = decide (x = y)
  by_cases e : x = y
  · subst e; simp
  · rw [decide_eq_false e]; simpa using e
/-- the keys that are still to come, or whose block is too large -/
def stayF (K : List (List Str)) (most : Int) (g : Str → Value) (left : Lit → Bool) (x : Str) : Option Value := if memN K x = [] then none else if left (.string x) = true ∨ most < ((memN K x).length : Int) then some (g x) else none
theorem stay_gone {K : List (List Str)} {most : Int} {g : Str → Value} {left : Lit → Bool} {y : Str} (h : ¬ most < ((memN K y).length : Int)) (x : Str) : (if x = y then none else stayF K most g left x) = stayF K most g (fun z => left z && !z.sameKey (.string y)) x := by
  by_cases e : x = y
  · subst e
    rw [if_pos rfl]
    unfold stayF
    simp [sameStr, h]
  · rw [if_neg e]
    unfold stayF
    simp [sameStr, e]
theorem stay_keep {K : List (List Str)} {most : Int} {g : Str → Value} {left : Lit → Bool} {y : Str} (h : most < ((memN K y).length : Int)) (x : Str) : stayF K most g left x = stayF K most g (fun z => left z && !z.sameKey (.string y)) x := by
  by_cases e : x = y
  · subst e
    unfold stayF
    simp [sameStr, h]
  · unfold stayF
    simp [sameStr, e]
theorem stay_val {K : List (List Str)} {most : Int} {g : Str → Value} {left : Lit → Bool} {x : Str} {v : Value} (h : stayF K most g left x = some v) : g x = v := by
  unfold stayF at h
  split at h
  · cases h
  · split at h
    · exact Option.some.inj h
    · cases h
theorem stay_end {K : List (List Str)} {most : Int} {g : Str → Value} {left : Lit → Bool} (hl : ∀ kl, left kl = false) (x : Str) : x ∈ osR K most ↔ (stayF K most g left x).isSome = true := by
  rw [mem_osR, ← memN_pos]
  unfold stayF
  by_cases e : memN K x = []
  · simp [e]
  · by_cases e2 : most < ((memN K x).length : Int)
    · simp [e, e2]
    · simp [e, e2, hl]

set_option maxRecDepth 100000 in
set_option maxHeartbeats 2000000 in
theorem os_impl (a : Option Addr) (c : Nat) (S : List RC) (most : Int) (r : List Str) (w : World) (hr : osR (kbR S) most = r) (h : SmRc w a S c) (hT : SpT w) (hA : TabAt w) :
    Calls Tryz.prog 17 #[.slice a S.length c, .int .i64 most] w (GivesS w r) := by
  obtain ⟨K, hK⟩ : ∃ K, kbR S = K := ⟨_, rfl⟩
  have HMB := Lib.hid (mbk_impl a c S K w hK h hT hA)
  have HM12 := Lib.hid (show ∀ x, (memN K x).length ≤ 12 from fun x => by rw [← hK]; have h1 := memN_len (kbR S) x; have h2 := kb_len S; omega)
  have HR := Lib.hid (show osR K most = r by rw [← hr, hK])
  clear hK hr h hT hA
  go_enter Tryz.func17, Tryz.ntmps17
  go_wp2_with (go_at_call 45; ((with_reducible refine HMB.out.mono ?_); rintro e w2 ⟨bM, n, g, rfl, hm, hn, hb⟩; refine Hid.out ?_))
  have HM := Lib.hid hm
  obtain ⟨D, hown, hhas, hat0⟩ := hm.out
  have hbl := hm.low
  have HD0 := Lib.hid (show Desc D (stayF K most g (Maps.has D)) from Desc.congr ⟨hhas, hat0⟩ fun x => by
    show (if memN K x = [] then none else some (g x)) = _
    unfold stayF
    by_cases e : memN K x = []
    · rw [if_pos e, if_pos e]
    · rw [if_neg e, if_neg e, if_pos (.inl (by rw [hhas x]; show ((if memN K x = [] then none else some (g x) : Option Value)).isSome = true; rw [if_neg e]; rfl))])
  have HB2 := Lib.hid hb
  clear hhas hat0 hb hm
  refine Lib.hid ?_
  go_wp2_with (at_range; refine wpList_range_own _ rfl _ 66 rfl 9 40 keyS Tryz.underlying66 _ bM n _ rfl hown ?_; intro w0 hrg0 hg0 hs0)
  try go_frame
  go_loopw [6] (fun _ wr => ∃ (left : Lit → Bool) (cnt : Nat) (D : DataW Value), wr.ranges Tryz.prog 9 heldE bM w2.heap.size n D left cnt ∧ Desc D (stayF K most g left) ∧ Below w.heap.size w wr)
    (fun _ wr => wr.rangeLeft bM w2.heap.size)
  case atStart => exact ⟨_, _, D, hrg0, HD0.out, HB2.out.grown hg0 HB2.out.size (fun j hj => by cases hj)⟩
  case round =>
    obtain ⟨left, cnt, D, hrg, hD, hbw⟩ := hrel
    have HD := Lib.hid hD
    have HBW := Lib.hid hbw
    clear hD hbw
    go_wp2_with (first
      | (at_next; refine wpList_next_ranges _ rfl _ rfl 9 keyS heldE encStr (fun v : Value => v) (fun key kl hk => by obtain ⟨x, hx, _⟩ := Maps.keyOf_str Tryz.underlying9 hk; exact ⟨x, hx⟩) (fun v y hv => ⟨v, rfl⟩) bM w2.heap.size n _ _ _ rfl hrg ?_ ?_)
      | go_in)
    · intro hc0 hl0
      have HS := Lib.hid (sorted_mk bM n (stayF K most g left) (osR K most) wr (by omega) ⟨D, hrg.owns, HD.out.1, HD.out.2⟩ (stay_end hl0))
      clear hl0
      go_wp2_with (go_at_call 51; ((with_reducible refine HS.out.mono ?_); rintro e w4 ⟨ak, ck, rfl, ho, hb⟩; have HO4 := Lib.hid ho; have HB4 := Lib.hid hb; clear ho hb))
      go_ret
      have e : setL (osR K most) = r := by rw [setL_of_asc (os_asc K most), HR.out]
      have HO5 := HO4.out
      rw [e] at HO5 ⊢
      exact ⟨_, _, rfl, HO5.mono HBW.out.size, HBW.out.trans (HB4.out.mono HBW.out.size)⟩
    · intro x cv kl yd yp w3 cnt2 hkey hlk hv hat hrg2 hlt hg2 hs2 hen
      obtain ⟨x', ex, rfl, hxs⟩ := Maps.keyOf_str Tryz.underlying9 hkey
      obtain rfl : x = x' := encStr_inj ex
      have hcg : g x = cv := stay_val (met_valS (y := (yd, yp)) HD.out.1 HD.out.2 hv hat)
      obtain ⟨M, hM⟩ : ∃ M, memN K x = M := ⟨_, rfl⟩
      have hMl : M.length ≤ 12 := by rw [← hM]; exact HM12.out x
      have hrow := HM.out.row x
      rw [hM, hcg] at hrow
      obtain ⟨aV, cV, rfl⟩ := hrow.shape
      have HMM := Lib.hid hM
      have HW3 := Lib.hid (HBW.out.grown hg2 HBW.out.size (fun j hj => by injection hj with hj; subst hj; exact HB2.out.size))
      have HKEY := Lib.hid hkey
      clear hcg hM hrow hat hs2 hv hkey ex
      by_cases hmm : (M.length : Int) ≤ most
      · have HDD := Lib.hid ((HD.out.del (y := x)).congr (stay_gone (by rw [HMM.out]; omega)))
        go_wp2_with (at_delete; refine wpList_delete_ranges _ rfl _ _ 66 9 rfl 40 keyS Tryz.underlying66 heldE bM w2.heap.size n _ _ cnt2 rfl hrg2 _ _ rfl HKEY.out ?_; intro w4 cnt4 hrg4 hle4 hturn4; go_frame)
        rw [Maps.strike_twice] at hrg4
        try go_wp2
        go_roundw
        case rel => exact ⟨_, cnt4, _, hrg4, HDD.out, HW3.out.grown hturn4.grown (by have := HW3.out.size; omega) (fun j hj => by injection hj with hj; subst hj; exact hbl)⟩
        case measure => rw [hrg4.left_eq, hrg.left_eq]; omega
      · have HDD := Lib.hid (HD.out.congr (stay_keep (y := x) (by rw [HMM.out]; omega)))
        go_wp2
        go_roundw
        case rel => exact ⟨_, cnt2, _, hrg2, HDD.out, HW3.out⟩
        case measure => rw [hrg2.left_eq, hrg.left_eq]; exact hlt

end Go.Proofs.YtebddnjccmaimaaGreatDoor
