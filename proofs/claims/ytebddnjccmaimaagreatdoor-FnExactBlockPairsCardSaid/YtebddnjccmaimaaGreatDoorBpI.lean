/-
  What impl.BlockPairs answers: pairs of the small blocks, sorted, each once. By an AI agent.
-/
import Derived.Test.YtebddnjccmaimaaGreatDoorRgM
import Derived.Test.YtebddnjccmaimaaGreatDoorBpS
import Derived.Test.YtebddnjccmaimaaGreatDoorPrsI
import Derived.Test.YtebddnjccmaimaaGreatDoorCmpPr
import Derived.Test.YtebddnjccmaimaaGreatDoorSrtNil
import Derived.Test.YtebddnjccmaimaaGreatDoorCompI
namespace Go.Proofs.YtebddnjccmaimaaGreatDoor
open Go.RowKit Go.Maps Go.Sort
set_option linter.unusedVariables false

theorem nodup_len {α : Type} [BEq α] [LawfulBEq α] : ∀ (a b : List α), a.Nodup → (∀ x ∈ a, x ∈ b) → a.length ≤ b.length
  | [], _, _, _ => Nat.zero_le _
  | x :: a, b, hn, h => by
    have hc := List.nodup_cons.1 hn
    have hx := h x (List.mem_cons_self ..)
    have ih := nodup_len a (b.erase x) hc.2 fun y hy => (List.mem_erase_of_ne (fun e => hc.1 (by rw [← e]; exact hy))).2 (h y (List.mem_cons_of_mem _ hy))
    rw [List.length_erase_of_mem hx] at ih
    have := List.length_pos_of_mem hx
    simp only [List.length_cons]
    omega
/-- the pairs of the keys that have come -/
def gotP (K : List (List Str)) (most : Int) (ss : List Str) : List IP := ss.flatMap fun x => smallB most (x, memN K x)
theorem gotP_snoc (K : List (List Str)) (most : Int) (ss : List Str) (x : Str) : gotP K most (ss ++ [x]) = gotP K most ss ++ smallB most (x, memN K x) := by
  unfold gotP
  rw [List.flatMap_append, List.flatMap_cons, List.flatMap_nil, List.append_nil]
theorem gotP_len (K : List (List Str)) (most : Int) (ss : List Str) (h : ∀ x, (memN K x).length ≤ 12) : (gotP K most ss).length ≤ ss.length * 144 := by
  have h1 := raw_len most (ss.map fun x => (x, memN K x)) (fun b hb => by obtain ⟨x, _, rfl⟩ := List.mem_map.1 hb; exact h x)
  rw [List.length_map, List.flatMap_map] at h1
  exact h1
theorem gotP_mem {K : List (List Str)} {most : Int} {ss : List Str} (h : ∀ x, x ∈ ss ↔ x ∈ K.flatten) (p : IP) : p ∈ gotP K most ss ↔ p ∈ rawP K most := by
  rw [mem_rawP]
  unfold gotP smallB
  rw [List.mem_flatMap]
  constructor
  · rintro ⟨x, hx, hp⟩
    split at hp
    · rename_i hm
      exact ⟨x, (h x).1 hx, hm, hp⟩
    · cases hp
  · rintro ⟨x, hx, hm, hp⟩
    exact ⟨x, (h x).2 hx, by rw [if_pos hm]; exact hp⟩

set_option maxRecDepth 100000 in
theorem cmp_nil (w : World) : Calls Tryz.prog 49 #[.slice none 0 0] w fun e w' => e = .returned (.slice none 0 0) ∧ w' = w := by
  go_enter Tryz.func49, Tryz.ntmps49
  go_wp2
  go_ret
  exact ⟨rfl, rfl⟩

set_option maxRecDepth 100000 in
set_option maxHeartbeats 4000000 in
theorem bp_impl (a : Option Addr) (c : Nat) (S : List RC) (most : Int) (r : List IP) (w : World) (hr : bpR (kbR S) most = r) (h : SmRc w a S c) (hT : SpT w) (hA : TabAt w) :
    Calls Tryz.prog 12 #[.slice a S.length c, .int .i64 most] w (GivesP w r) := by
  obtain ⟨K, hK⟩ : ∃ K, kbR S = K := ⟨_, rfl⟩
  have HMB := Lib.hid (mbk_impl a c S K w hK h hT hA)
  have HM12 := Lib.hid (show ∀ x, (memN K x).length ≤ 12 from fun x => by rw [← hK]; have h1 := memN_len (kbR S) x; have h2 := kb_len S; omega)
  have HKF := Lib.hid (show K.flatten.length ≤ 1956 by rw [← hK]; exact kb_flat S)
  have HR := Lib.hid (show setP (rawP K most) = r by rw [← hr, hK]; rfl)
  clear hK hr h hT hA
  go_enter Tryz.func12, Tryz.ntmps12
  go_wp2_with (go_at_call 45; ((with_reducible refine HMB.out.mono ?_); rintro e w2 ⟨bM, n, g, rfl, hm, hn, hb⟩; refine Hid.out ?_))
  have HM := Lib.hid hm
  obtain ⟨D, hown, hhas, hat0⟩ := hm.out
  have HHAS := Lib.hid hhas
  have HAT := Lib.hid hat0
  have HB2 := Lib.hid hb
  have hbl : bM < w2.heap.size := hm.lt
  clear hhas hat0 hb hm
  refine Lib.hid ?_
  go_wp2_with (at_range; refine wpList_range_own _ rfl _ 66 rfl 9 40 keyS Tryz.underlying66 _ bM n _ rfl hown ?_; intro w0 hrg0 hg0 hs0)
  try go_frame
  go_loopw [5] (fun v wr => ∃ (left : Lit → Bool) (cnt : Nat) (ss : List (List UInt8)) (q : List IP), wr.ranges Tryz.prog 9 heldE bM w2.heap.size n D left cnt ∧ Collected D left ss ∧ q = gotP K most ss ∧ OwnP wr w2.heap.size v q ∧ Below w2.heap.size w2 wr)
    (fun _ wr => wr.rangeLeft bM w2.heap.size)
  case atStart => exact ⟨_, _, [], [], hrg0, Collected.start D, rfl, OwnP.nil _ _, (Below.refl _ _).grown hg0 (Nat.le_refl _) (fun j hj => by cases hj)⟩
  case round =>
    obtain ⟨left, cnt, ss, q, hrg, hC, hq, hO, hbw⟩ := hrel
    have HC := Lib.hid hC
    have HQ := Lib.hid hq
    have HO := Lib.hid hO
    have HBW := Lib.hid hbw
    have hqz : q.length ≤ 281664 := by
      have h1 := gotP_len K most ss HM12.out
      have h2 : ss.length ≤ K.flatten.length := nodup_len ss K.flatten hC.1 fun x hx => by
        have h3 := ((hC.2 x).1 hx).1
        rw [HHAS.out x] at h3
        exact (mem_keys K g x).2 h3
      have h4 := HKF.out
      rw [hq]
      omega
    obtain ⟨av, cv, rfl⟩ := hO.shape
    clear hC hq hO hbw
    go_wp2_with (first
      | (at_next; refine wpList_next_ranges _ rfl _ rfl 9 keyS heldE encStr (fun v : Value => v) (fun key kl hk => by obtain ⟨x, hx, _⟩ := Maps.keyOf_str Tryz.underlying9 hk; exact ⟨x, hx⟩) (fun v y hv => ⟨v, rfl⟩) bM w2.heap.size n _ _ _ rfl hrg ?_ ?_)
      | go_in)
    · intro hc0 hl0
      have HE := Lib.hid (show ∀ p, p ∈ q ↔ p ∈ rawP K most from fun p => by
        rw [HQ.out]
        exact gotP_mem (fun x => by rw [coll_allS HHAS.out HC.out hl0 x, ← mem_keys K g x]) p)
      have HBB := Lib.hid (HB2.out.trans (HBW.out.mono HB2.out.size))
      clear hl0 hc0 hrg
      rcases HO.out.2 with ⟨hv, h0⟩ | ⟨gq, capq, cur, hv, hbq, _⟩
      · injection hv with hv1 hv2 hv3
        subst hv1 hv3
        rw [h0]
        have hq0 : q = [] := List.eq_nil_of_length_eq_zero h0
        have hr0 : r = [] := by
          rw [← HR.out, List.eq_nil_iff_forall_not_mem]
          intro p hp
          rw [setP_mem, ← HE.out p, hq0] at hp
          cases hp
        subst hr0
        clear hbl
        go_wp2_with (first
          | (go_at_call 47; ((with_reducible refine (sort_nil _ _).mono ?_); rintro e w' ⟨rfl, rfl⟩))
          | (go_at_call 49; ((with_reducible refine (cmp_nil _).mono ?_); rintro e w' ⟨rfl, rfl⟩)))
        go_ret
        exact ⟨none, 0, rfl, OwnP.nil _ _, HBB.out⟩
      · injection hv with hv1 hv2 hv3
        subst hv1 hv3
        have HS := Lib.hid (sort_ps gq q w2.heap.size cv wr (by omega) HO.out)
        clear hbl
        go_wp2_with (go_at_call 47; ((with_reducible refine HS.out.mono ?_); rintro e w4 ⟨rfl, hg4, s, hsl, hss, hsm, ho4⟩; refine Hid.out ?_))
        have HCM := Lib.hid (cmp_impl gq cv s.length w2.heap.size s r w4 (by rw [← HR.out]; exact cmp_set hss fun x => (hsm x).trans (HE.out x)) rfl (by omega) ho4)
        have HG4 := Lib.hid hg4
        rw [← hsl]
        clear hg4 hss hsm ho4 hsl
        refine Lib.hid ?_
        go_wp2_with (go_at_call 49; ((with_reducible refine HCM.out.mono ?_); rintro e w5 ⟨rfl, ho5, hg5⟩; have HO5 := Lib.hid ho5; have HG5 := Lib.hid hg5; clear ho5 hg5))
        go_ret
        have hgw : w.heap.size ≤ gq := Nat.le_trans HB2.out.size hbq
        exact ⟨_, _, rfl, OwnP.mono HO5.out HB2.out.size, HBB.out.grown (grown_trans' HG4.out HG5.out) HBB.out.size (fun j hj => by injection hj with hj; subst hj; exact hgw)⟩
    · intro x cv' kl yd yp w3 cnt2 hkey hlk hv hat hrg2 hlt hg2 hs2 hen
      obtain ⟨x', ex, rfl, hxs⟩ := Maps.keyOf_str Tryz.underlying9 hkey
      obtain rfl : x = x' := encStr_inj ex
      have hf := met_valS (y := (yd, yp)) HHAS.out HAT.out hv hat
      have hcg : g x = cv' := by
        have hf2 : (if memN K x = [] then none else some (g x) : Option Value) = some cv' := hf
        by_cases e : memN K x = []
        · rw [if_pos e] at hf2; cases hf2
        · rw [if_neg e] at hf2; exact Option.some.inj hf2
      obtain ⟨M, hM⟩ : ∃ M, memN K x = M := ⟨_, rfl⟩
      have hMl : M.length ≤ 12 := by rw [← hM]; exact HM12.out x
      have hrow := HM.out.row x
      rw [hM, hcg] at hrow
      obtain ⟨aV, cV, rfl⟩ := hrow.shape
      have HC2 := Lib.hid (HC.out.step hlk hat)
      have HW3 := Lib.hid (HBW.out.grown hg2 HBW.out.size (fun j hj => by injection hj with hj; subst hj; exact Nat.le_refl _))
      have HI3 := Lib.hid (hrow.inI.below HW3.out)
      have HO3 := Lib.hid (show OwnP w3 w2.heap.size (.slice av q.length cv) q from World.ownsRow.kept HO.out hg2 (Or.inr (row_ne_iter HO.out hrg).symm))
      have hMc := rowX_cap hrow
      have HGS := Lib.hid (show gotP K most (ss ++ [x]) = q ++ smallB most (x, M) by rw [gotP_snoc, ← HQ.out, hM])
      clear hf hcg hM hrow hat hs2 hv hkey ex
      by_cases hmm : (M.length : Int) ≤ most
      · obtain ⟨P, hP⟩ : ∃ P, prsN M = P := ⟨_, rfl⟩
        have hPl : P.length ≤ 144 := by rw [← hP]; have h1 := prsN_len M; have h2 : M.length * M.length ≤ 12 * 12 := Nat.mul_le_mul hMl hMl; omega
        have HPR := Lib.hid (prs_of aV cV M P w3 hP HI3.out hMc hMl)
        have HGP := Lib.hid (show gotP K most (ss ++ [x]) = q ++ P by rw [HGS.out]; show q ++ (if (M.length : Int) ≤ most then prsN M else []) = _; rw [if_pos hmm, hP])
        clear hP
        go_wp2_with (go_at_call 46; ((with_reducible refine HPR.out.mono ?_); rintro e w4 ⟨ap, cp, rfl, ho4, hb4⟩; refine Hid.out ?_))
        have hrg4 := hrg2.kept (row := none) (World.grownBy.mk hb4.os hb4.tape hb4.output hb4.size (fun i hi _ => hb4.block i hi)) (by simp) (by simp)
        have HO4 := Lib.hid (HO3.out.below hb4)
        have HP4 := Lib.hid ho4
        have HB4 := Lib.hid (HW3.out.trans (hb4.mono HW3.out.size))
        have hbs := HB4.out.size
        clear ho4 hb4
        refine Lib.hid ?_
        go_wp2_with (at_builtin; refine wpList_appP rfl _ _ rfl w2.heap.size _ q rfl HO4.out ap P.length cp P rfl rfl HP4.out.inP HP4.out.none_cap (by omega) hbs ?_; intro v' w5 ho5 hg5; refine Hid.out ?_)
        have HO5 := Lib.hid ho5
        have hrg5 := hrg4.kept hg5 (row_ne_low HO4.out hbl) (row_ne_iter HO4.out hrg4)
        have HB5 := Lib.hid (HB4.out.grown hg5 HB4.out.size (fun j hj => (World.ownsRow.lt HO4.out j hj).1))
        clear ho5 hg5
        refine Lib.hid ?_
        go_wp2
        go_roundw
        case rel => exact ⟨_, cnt2, ss ++ [x], q ++ P, hrg5, HC2.out, HGP.out.symm, HO5.out, HB5.out⟩
        case measure => rw [hrg5.left_eq, hrg.left_eq]; exact hlt
      · have HGN := Lib.hid (show gotP K most (ss ++ [x]) = q by rw [HGS.out]; show q ++ (if (M.length : Int) ≤ most then prsN M else []) = _; rw [if_neg hmm, List.append_nil])
        go_wp2
        go_roundw
        case rel => exact ⟨_, cnt2, ss ++ [x], q, hrg2, HC2.out, HGN.out.symm, HO3.out, HW3.out⟩
        case measure => rw [hrg2.left_eq, hrg.left_eq]; exact hlt

end Go.Proofs.YtebddnjccmaimaaGreatDoor
