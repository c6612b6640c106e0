/-
  What impl.BuildBlocks answers. By an AI agent.
-/
import Derived.Test.YtebddnjccmaimaaGreatDoorMbI
import Derived.Test.YtebddnjccmaimaaGreatDoorSrtM
import Derived.Test.YtebddnjccmaimaaGreatDoorBpS
namespace Go.Proofs.YtebddnjccmaimaaGreatDoor
open Go.RowKit Go.Maps Go.Sort
set_option linter.unusedVariables false

theorem mem_keys (K : List (List Str)) (g : Str → Value) (x : Str) : x ∈ K.flatten ↔ ((if memN K x = [] then none else some (g x) : Option Value)).isSome = true := by
  rw [← memN_pos]
  by_cases e : memN K x = []
  · simp [e]
  · simp [e]
theorem MemM.keptO {w w' : World} {lo bM n : Nat} {m : Str → List Int} {g : Str → Value} {r : Option Nat} (h : MemM w lo bM n m g) (hg : w.grownBy w' r) (h1 : r ≠ some bM) (h2 : ∀ x k, (g x).ownBlock = some k → r ≠ some k) : MemM w' lo bM n m g :=
  ⟨h.out.kept hg (fun e => h1 e.symm), fun x => row_keptO (h.row x) hg (fun k hk e => h2 x k e hk), h.no, h.low, h.ne, h.dis⟩

set_option maxRecDepth 100000 in
set_option maxHeartbeats 4000000 in
theorem bb_impl (a : Option Addr) (c : Nat) (S : List RC) (r : List BK) (w : World) (hr : blkL (kbR S) = r) (h : SmRc w a S c) (hT : SpT w) (hA : TabAt w) :
    Calls Tryz.prog 20 #[.slice a S.length c] w (GivesBk w r) := by
  obtain ⟨K, hK⟩ : ∃ K, kbR S = K := ⟨_, rfl⟩
  obtain ⟨KL, hKL⟩ : ∃ x, setL K.flatten = x := ⟨_, rfl⟩
  have hKl : KL.length ≤ 1956 := by
    rw [← hKL, ← hK]
    have h1 := setL_length (kbR S).flatten
    have h2 := kb_flat S
    omega
  have HKX := Lib.hid (show ∀ x ∈ KL, x.length ≤ 100 from fun x hx => by
    rw [← hKL, setL_mem, ← hK] at hx
    exact kb_key hx)
  have HKA := Lib.hid (show Asc KL by rw [← hKL]; exact setL_asc _)
  have HRL := Lib.hid (show KL.map (fun x => (x, memN K x)) = r by rw [← hr, ← hKL, hK]; rfl)
  have HMB := Lib.hid (mbk_impl a c S K w hK h hT hA)
  have HSR := Lib.hid (fun (b n : Nat) (g : Str → Value) (W : World) (hn : n ≤ 9000000) (hs : SMap W b n (fun x => if memN K x = [] then none else some (g x))) => show Calls Tryz.prog 51 #[.map (some b)] W (GivesS W KL) by
    rw [← hKL]; exact sorted_mk b n _ K.flatten W hn hs (mem_keys K g))
  have HM12 := Lib.hid (show ∀ x, (memN K x).length ≤ 12 from fun x => by rw [← hK]; have h1 := memN_len (kbR S) x; have h2 := kb_len S; omega)
  clear hK hKL hr h hT hA
  obtain ⟨i1, hi1, hy0, hy1, hy2⟩ := info_parts info_blk
  go_enter Tryz.func20, Tryz.ntmps20
  go_wp2_with (go_at_call 45; ((with_reducible refine HMB.out.mono ?_); rintro e w2 ⟨bM, n, g, rfl, hm, hn, hb⟩; refine Hid.out ?_))
  obtain ⟨D, hown, hhas, hat0⟩ := hm.out
  have hsz := size_own hown
  have HM2 := Lib.hid hm
  have HB2 := Lib.hid hb
  have hwl : w.heap.size ≤ w2.heap.size := hb.size
  clear hhas hat0 hm hb
  refine Lib.hid ?_
  go_wp2_with (first
    | (at_len; refine wpList_len_own _ rfl _ 66 rfl 9 40 Tryz.underlying66 _ bM n _ rfl hown ?_)
    | (at_make; refine wpList_make_own _ rfl _ _ 38 rfl w2.heap.size 42 i1 _ 2 Tryz.underlying38 hi1 hy0 hy1 _ _ _ (Maps.size D) rfl rfl rfl (by rw [hy2]; omega) (by unfold maxLen; omega) (Nat.le_refl _) ?_; intro w3 hrow3 hg3; refine Hid.out ?_))
  have HB3 := Lib.hid (show Below w2.heap.size w2 w3 from ⟨hg3.os, hg3.tape, hg3.output, hg3.size, fun i hi => hg3.block i hi (by simp)⟩)
  have HZ3 := Lib.hid (show w2.heap.size < w3.heap.size from (World.ownsRow.lt hrow3 w2.heap.size rfl).2)
  have HO3 := Lib.hid (show OwnBk w3 w2.heap.size (.slice (some ⟨w2.heap.size, 0, none⟩) 0 (Maps.size D)) [] from ⟨hrow3, (fun p h => by cases h), (fun p h => by cases h), List.Pairwise.nil⟩)
  have HM3 := Lib.hid (HM2.out.below HB3.out)
  have HS3 := Lib.hid (HSR.out bM n g w3 (by omega) HM3.out.out)
  clear hown hrow3 hg3 hsz
  generalize Maps.size D = cD at HO3 ⊢
  refine Lib.hid ?_
  go_wp2_with (go_at_call 51; ((with_reducible refine HS3.out.mono ?_); rintro e w4 ⟨ak, ck, rfl, ho, hb⟩; refine Hid.out ?_))
  have HK4 := Lib.hid (OwnH.of ho)
  have HM4 := Lib.hid (HM3.out.below hb)
  have HO4 := Lib.hid (HO3.out.below hb)
  have HB4 := Lib.hid (HB3.out.trans (hb.mono HB3.out.size))
  have HZ4 := Lib.hid hb.size
  have HGL := Lib.hid (show ∀ x k, (g x).ownBlock = some k → w.heap.size ≤ k ∧ k < w2.heap.size from fun x k hk => HM2.out.rowlt x k hk)
  have HBL := Lib.hid (show bM < w2.heap.size from HM2.out.lt)
  clear ho hb
  refine Lib.hid ?_
  go_wp2
  go_loopw [4, 15] (fun v i wr => ∃ (k : Nat) (p : List XB), k ≤ KL.length ∧ i = .int .i64 k ∧ OwnBk wr w.heap.size v p ∧ p = (KL.take k).map (fun x => ((x, memN K x), g x)) ∧ (∀ j, v.ownBlock = some j → j = w2.heap.size ∨ w4.heap.size ≤ j) ∧ OwnH wr w3.heap.size w4.heap.size (.slice ak KL.length ck) KL ∧ MemM wr w.heap.size bM n (memN K) g ∧ Below w.heap.size w wr ∧ w4.heap.size ≤ wr.heap.size) (fun _ i _ => KL.length - (intOf i).toNat)
  case atStart => exact ⟨0, [], Nat.zero_le _, rfl, HO4.out.mono HB2.out.size, rfl, (fun j hj => by simp [Value.ownBlock] at hj; exact .inl hj.symm), HK4.out, HM4.out, HB2.out.trans (HB4.out.mono HB2.out.size), Nat.le_refl _⟩
  case round =>
    obtain ⟨k, p, hk, rfl, hO, hp, hv, hK, hm, hb, hsz⟩ := hrel
    obtain ⟨av, cv, rfl⟩ := hO.shape
    have hpl : p.length = k := by rw [hp, List.length_map, List.length_take]; omega
    have HO := Lib.hid hO
    have HP := Lib.hid hp
    have HV := Lib.hid hv
    have HK := Lib.hid hK
    have HM := Lib.hid hm
    have HB := Lib.hid hb
    have HSZ := Lib.hid hsz
    have HPL := Lib.hid hpl
    clear hO hp hv hK hm hb hpl
    by_cases hlt : k < KL.length
    · obtain ⟨bk, ok, rfl, hbk, hck⟩ := HK.out.inS (by omega)
      obtain ⟨x, u, hx1, hx2, hx3, hx4⟩ := str_at hlt
      have hcell : wr.cell? ⟨bk, ok + k, none⟩ = some (.string u) := by rw [← hx3]; exact hck k x hx1
      have HUZ := Lib.hid (show u.size ≤ maxLen by rw [hx4]; have := HKX.out x (List.mem_of_getElem? hx1); unfold maxLen; omega)
      obtain ⟨M, hM⟩ : ∃ M, memN K x = M := ⟨_, rfl⟩
      have hMl : M.length ≤ 12 := by rw [← hM]; exact HM12.out x
      have hrow := HM.out.row x
      have hno := HM.out.no x
      rw [hM] at hrow hno
      obtain ⟨aV, cV, hgx⟩ := hrow.shape
      have HGX := Lib.hid hgx
      have HROW := Lib.hid (show OwnI wr w.heap.size (.slice aV M.length cV) M by rw [← hgx]; exact hrow)
      have HGET := Lib.hid (show ((fun x => if memN K x = [] then none else some (g x)) x : Option Value).getD (.slice none 0 0) = .slice aV M.length cV by
        show (if memN K x = [] then none else some (g x) : Option Value).getD _ = _
        rw [hM, mem_get hno, hgx])
      have HMM := Lib.hid hM
      have HX1 := Lib.hid hx1
      have HX2 := Lib.hid hx2
      have HX3 := Lib.hid hx3
      have hpz : p.length ≤ 2000 := by have := HPL.out; omega
      have hsw : w.heap.size ≤ wr.heap.size := HB.out.size
      have HVa := Lib.hid (show ∀ j, (Value.slice av p.length cv).ownBlock = some j → w.heap.size ≤ j ∧ j < wr.heap.size ∧ (j = w2.heap.size ∨ w4.heap.size ≤ j) from fun j hj => ⟨(World.ownsRow.lt HO.out.out j hj).1, (World.ownsRow.lt HO.out.out j hj).2, HV.out j hj⟩)
      have HVb := Lib.hid (show ∀ j, (Value.slice aV M.length cV).ownBlock = some j → j < w2.heap.size from fun j hj => (HGL.out x j (by rw [hgx]; exact hj)).2)
      clear hck hx1 hx2 hx3 hx4 hbk hM hrow hno hgx
      go_wp2_with (first
        | (at_lookup; refine wpList_smap_lookup _ 66 40 Tryz.underlying66 (zeroSl _) rfl _ _ rfl bM n _ HM.out.out rfl u x rfl HX2.out HUZ.out (.slice aV M.length cV) HGET.out ?_)
        | (at_builtin; refine wpList_append_own_at _ rfl _ _ 38 rfl w.heap.size 42 i1 _ 2 40 Tryz.underlying38 hi1 hy0 hy1 hy2 rfl (by decide) _ _ _ rfl (World.ownsRow.alloc HO.out.out _) ⟨wr.heap.size, 0, none⟩ 1 1 [.string u, .slice aV M.length cV] rfl rfl (two_cells wr _ _ _) (by simp [Value.oneCell']) (by unfold maxLen; omega) (by omega) (by simp; omega) ?_; intro v' w9 hown9 hg9 hnil9 hat9; refine Hid.out ?_))
      have HBA := Lib.hid ((Below.refl wr.heap.size wr).alloc (Nat.le_refl _) (.cells #[.string u, .slice aV M.length cV] 42))
      have HO9 := Lib.hid (OwnBk.snoc (x := x) (m := M) (HO.out.below HBA.out) (HROW.out.below HBA.out)
        (fun j hj e => by have h1 := HVb.out j hj; have h2 := (HVa.out j e).2.2; have h3 := HZ3.out; have h4 := HZ4.out; omega)
        (fun r' hr' j hj e => by
          rw [HP.out] at hr'
          obtain ⟨y, hy, rfl⟩ := List.mem_map.1 hr'
          have hne : y ≠ x := by
            obtain ⟨i, hi⟩ := List.getElem?_of_mem hy
            have hil := (List.getElem?_eq_some_iff.1 hi).1
            rw [List.length_take] at hil
            rw [List.getElem?_take_of_lt (by omega)] at hi
            obtain ⟨l1, e1⟩ := List.getElem?_eq_some_iff.1 hi
            obtain ⟨l2, e2⟩ := List.getElem?_eq_some_iff.1 HX1.out
            have := List.pairwise_iff_getElem.1 HKA.out i k l1 l2 (by omega)
            rw [e1, e2] at this
            exact str_ne_of this
          exact HM.out.dis y x j hne hj (by rw [HGX.out]; exact e)) hg9 (by rw [HX3.out]; exact hown9) hat9)
      have HK9 := Lib.hid (show OwnH w9 w3.heap.size w4.heap.size (.slice (some ⟨bk, ok, none⟩) KL.length ck) KL from
        ⟨row_keptO (HK.out.1.below HBA.out) hg9 (fun j hj e => by
          have h1 := (HVa.out j hj).2.2
          have h2 := HK.out.row j e
          have h3 := HZ3.out
          omega), HK.out.2⟩)
      have HM9 := Lib.hid ((HM.out.below HBA.out).keptO hg9 (fun e => by have h1 := (HVa.out _ e).2.2; have h2 := HBL.out; have h3 := HZ3.out; have h4 := HZ4.out; omega)
        (fun y j hj e => by have h1 := (HVa.out j e).2.2; have h2 := (HGL.out y j hj).2; have h3 := HZ3.out; have h4 := HZ4.out; omega))
      have HV9 := Lib.hid (show ∀ j, v'.ownBlock = some j → j = w2.heap.size ∨ w4.heap.size ≤ j from fun j hj => by
        rcases hat9 with h1 | h1
        · rw [h1] at hj; exact HV.out j hj
        · rw [h1] at hj
          injection hj with hj
          simp at hj
          omega)
      have HB9 := Lib.hid ((HB.out.alloc HB.out.size (.cells #[.string u, .slice aV M.length cV] 42)).grown hg9 (by simp; omega) (fun j hj => (HVa.out j hj).1))
      have HS9 := Lib.hid (show w4.heap.size ≤ w9.heap.size by have h1 := hg9.size; simp at h1; omega)
      clear hown9 hg9 hnil9 hat9
      refine Lib.hid ?_
      go_wp2
      go_roundw
      case rel =>
        refine ⟨k + 1, p ++ [((x, M), .slice aV M.length cV)], by omega, by go_num, HO9.out, ?_, HV9.out, HK9.out, HM9.out, HB9.out, HS9.out⟩
        rw [take_snoc' HX1.out, List.map_append, ← HP.out, List.map_cons, List.map_nil, HMM.out, HGX.out]
      case measure => simp [intOf]; omega
    · obtain rfl : k = KL.length := by omega
      have HE := Lib.hid (show blksB p = r by
        rw [HP.out, List.take_length, ← HRL.out]
        simp [blksB])
      have hpr : p.length = r.length := by rw [← HE.out, blksB_len]
      go_wp2
      go_ret
      rw [hpr]
      exact ⟨_, _, p, rfl, HE.out, by rw [← hpr]; exact HO.out, HB.out⟩

end Go.Proofs.YtebddnjccmaimaaGreatDoor
