/-
  What impl.LargestBlock answers: a range over the members of each key. By an AI agent.
-/
import Derived.Test.YtebddnjccmaimaaGreatDoorBbI
namespace Go.Proofs.YtebddnjccmaimaaGreatDoor
open Go.RowKit Go.Maps Go.Sort
set_option linter.unusedVariables false

theorem met_valS {D : DataW Value} {f : Str → Option Value} {x : Str} {c : Value} {y : DataW Value × List MemPlace} (hhas : ∀ x : Str, Maps.has D (.string x) = (f x).isSome) (hatS : ∀ (x : Str) (z : Value), D.atKey (.string x) (.held z) = .held ((f x).getD z)) (hv : heldE c = some y) (hat : ∀ zd, D.atKey (.string x) zd = y.1) : f x = some c := by
  obtain ⟨yd, yp⟩ := y
  unfold heldE at hv
  injection hv with hv
  injection hv with h1 h2
  subst h1
  have hh : Maps.has D (.string x) = true := has_true_of_atKey hat
  rw [hhas x] at hh
  obtain ⟨v, hf⟩ := Option.isSome_iff_exists.1 hh
  have h3 := (hatS x (.slice none 0 0)).symm.trans (hat _)
  rw [hf] at h3
  injection h3 with h3
  rw [hf]
  exact congrArg some h3
theorem coll_allS {D : DataW Value} {f : Str → Option Value} {left : Lit → Bool} {ss : List (List UInt8)} (hhas : ∀ x : Str, Maps.has D (.string x) = (f x).isSome) (hC : Collected D left ss) (hl : ∀ kl, left kl = false) (x : Str) : x ∈ ss ↔ (f x).isSome = true := by
  rw [hC.2 x, hl, hhas x]
  simp
/-- the greatest number of members among the keys that have come -/
def TopS (K : List (List Str)) (ss : List Str) (n : Nat) : Prop := (∀ x, x ∈ ss → (memN K x).length ≤ n) ∧ (n = 0 ∨ ∃ x, x ∈ ss ∧ (memN K x).length = n)
theorem TopS.zero (K : List (List Str)) : TopS K [] 0 := ⟨(fun x hx => by cases hx), .inl rfl⟩
theorem TopS.step {K : List (List Str)} {ss : List Str} {n : Nat} (h : TopS K ss n) (x : Str) : TopS K (ss ++ [x]) (max n (memN K x).length) := by
  refine ⟨fun y hy => ?_, ?_⟩
  · rcases List.mem_append.1 hy with h1 | h1
    · exact Nat.le_trans (h.1 y h1) (Nat.le_max_left _ _)
    · simp at h1; subst h1; exact Nat.le_max_right _ _
  · rcases Nat.le_total n (memN K x).length with h1 | h1
    · exact .inr ⟨x, by simp, (Nat.max_eq_right h1).symm⟩
    · rw [Nat.max_eq_left h1]
      rcases h.2 with h2 | ⟨y, hy, h2⟩
      · exact .inl h2
      · exact .inr ⟨y, List.mem_append_left _ hy, h2⟩
theorem TopS.top {K : List (List Str)} {ss : List Str} {n : Nat} (h : TopS K ss n) (hs : ∀ x, x ∈ ss ↔ x ∈ K.flatten) : n = lbR K :=
  lb_of (fun x hx => h.1 x ((hs x).2 hx)) (by rcases h.2 with h2 | ⟨y, hy, h2⟩; exact .inl h2; exact .inr ⟨y, (hs y).1 hy, h2⟩)

set_option maxRecDepth 100000 in
set_option maxHeartbeats 2000000 in
theorem lb_impl (a : Option Addr) (c : Nat) (S : List RC) (r : Int) (w : World) (hr : ((lbR (kbR S) : Nat) : Int) = r) (h : SmRc w a S c) (hT : SpT w) (hA : TabAt w) :
    Calls Tryz.prog 14 #[.slice a S.length c] w fun e w' => e = .returned (.int .i64 r) ∧ Below w.heap.size w w' := by
  obtain ⟨K, hK⟩ : ∃ K, kbR S = K := ⟨_, rfl⟩
  have HMB := Lib.hid (mbk_impl a c S K w hK h hT hA)
  have HM12 := Lib.hid (show ∀ x, (memN K x).length ≤ 12 from fun x => by rw [← hK]; have h1 := memN_len (kbR S) x; have h2 := kb_len S; omega)
  have HR := Lib.hid (show ((lbR K : Nat) : Int) = r by rw [← hr, hK])
  clear hK hr h hT hA
  go_enter Tryz.func14, Tryz.ntmps14
  go_wp2_with (go_at_call 45; ((with_reducible refine HMB.out.mono ?_); rintro e w2 ⟨bM, n, g, rfl, hm, hn, hb⟩; refine Hid.out ?_))
  have HM := Lib.hid hm
  obtain ⟨D, hown, hhas, hat0⟩ := hm.out
  have HHAS := Lib.hid hhas
  have HAT := Lib.hid hat0
  have HB2 := Lib.hid hb
  clear hhas hat0 hb hm
  refine Lib.hid ?_
  go_wp2_with (at_range; refine wpList_range_own _ rfl _ 66 rfl 9 40 keyS Tryz.underlying66 _ bM n _ rfl hown ?_; intro w0 hrg0 hg0 hs0)
  try go_frame
  go_loopw [3] (fun v wr => ∃ (left : Lit → Bool) (cnt : Nat) (ss : List (List UInt8)) (top : Nat), wr.ranges Tryz.prog 9 heldE bM w2.heap.size n D left cnt ∧ Collected D left ss ∧ v = .int .i64 top ∧ top ≤ 12 ∧ TopS K ss top ∧ Below w.heap.size w wr)
    (fun _ wr => wr.rangeLeft bM w2.heap.size)
  case atStart => exact ⟨_, _, [], 0, hrg0, Collected.start D, rfl, Nat.zero_le _, TopS.zero K, HB2.out.grown hg0 HB2.out.size (fun j hj => by cases hj)⟩
  case round =>
    obtain ⟨left, cnt, ss, top, hrg, hC, rfl, ht12, htop, hbw⟩ := hrel
    have HC := Lib.hid hC
    have HT := Lib.hid htop
    have HBW := Lib.hid hbw
    clear hC htop hbw
    go_wp2_with (first
      | (at_next; refine wpList_next_ranges _ rfl _ rfl 9 keyS heldE encStr (fun v : Value => v) (fun key kl hk => by obtain ⟨x, hx, _⟩ := Maps.keyOf_str Tryz.underlying9 hk; exact ⟨x, hx⟩) (fun v y hv => ⟨v, rfl⟩) bM w2.heap.size n _ _ _ rfl hrg ?_ ?_)
      | go_in)
    · intro hc0 hl0
      have HL := Lib.hid hl0
      clear hl0
      go_wp2
      go_ret
      have e := HT.out.top (fun x => by rw [coll_allS HHAS.out HC.out HL.out x, ← mem_keys K g x])
      exact ⟨by rw [← HR.out, ← e]; rfl, HBW.out⟩
    · intro x cv kl yd yp w3 cnt2 hkey hlk hv hat hrg2 hlt hg2 hs2 hen
      obtain ⟨x', ex, rfl, hxs⟩ := Maps.keyOf_str Tryz.underlying9 hkey
      obtain rfl : x = x' := encStr_inj ex
      have hf := met_valS (y := (yd, yp)) HHAS.out HAT.out hv hat
      have hcg : g x = cv := by
        have hf2 : (if memN K x = [] then none else some (g x) : Option Value) = some cv := hf
        by_cases e : memN K x = []
        · rw [if_pos e] at hf2; cases hf2
        · rw [if_neg e] at hf2; exact Option.some.inj hf2
      obtain ⟨M, hM⟩ : ∃ M, memN K x = M := ⟨_, rfl⟩
      have hMl : M.length ≤ 12 := by rw [← hM]; exact HM12.out x
      have hrow := HM.out.row x
      rw [hM, hcg] at hrow
      obtain ⟨aV, cV, rfl⟩ := hrow.shape
      have HTS := Lib.hid (show TopS K (ss ++ [x]) (max top M.length) by rw [← hM]; exact HT.out.step x)
      have HC2 := Lib.hid (HC.out.step hlk hat)
      have HW3 := Lib.hid (HBW.out.grown hg2 HBW.out.size (fun j hj => by injection hj with hj; subst hj; exact HB2.out.size))
      clear hf hcg hM hrow hat hs2 hv hkey ex
      go_wp2
      go_roundw
      case rel => exact ⟨_, cnt2, ss ++ [x], max top M.length, hrg2, HC2.out, by congr 1; omega, by omega, HTS.out, HW3.out⟩
      case measure => rw [hrg2.left_eq, hrg.left_eq]; exact hlt

end Go.Proofs.YtebddnjccmaimaaGreatDoor
