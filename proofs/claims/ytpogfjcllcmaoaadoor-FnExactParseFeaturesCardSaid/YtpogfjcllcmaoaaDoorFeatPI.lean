/-
  What impl.ParseFeatures answers. By an AI agent.
-/
import Derived.Test.YtpogfjcllcmaoaaDoorFeatPS
import Derived.Test.YtpogfjcllcmaoaaDoorFeatF2
import Derived.Test.YtpogfjcllcmaoaaDoorMaxAt
namespace Go.Proofs.YtpogfjcllcmaoaaDoor
open Go.RowKit
set_option linter.unusedVariables false

/-- strings.Cut at an equals sign -/
theorem eqs_is (p : ByteArray) (w : World) (hp : p.size ≤ 1048576) (hx : MaxAt w) (N V : ByteArray) (f : Bool) (hN : (Lib.cut p.data.toList [61]).1 = N.data.toList) (hV : (Lib.cut p.data.toList [61]).2.1 = V.data.toList) (hf : (Lib.cut p.data.toList [61]).2.2 = f) :
    Calls Tryd.prog 23 #[.string p, .string ⟨#[61]⟩] w fun e w' => e = .returned (.tuple #[.string N, .string V, .bool f]) ∧ Below w.heap.size w w' := by
  obtain ⟨m, hm⟩ := hx
  refine (Tryd.strings_Cut p ⟨#[61]⟩ m w (by omega) hm).mono fun e w' ⟨he, n, hw⟩ => ⟨?_, ?_⟩
  · rw [he]
    show Ending.returned (.tuple #[.string ⟨(Lib.cut p.data.toList [61]).1.toArray⟩, .string ⟨(Lib.cut p.data.toList [61]).2.1.toArray⟩, .bool (Lib.cut p.data.toList [61]).2.2]) = _
    rw [hN, hV, hf]
  · rw [hw]
    exact ⟨rfl, rfl, rfl, Nat.le_refl _, fun _ _ => rfl⟩

theorem tail_mem2 (c : UInt8) : ∀ {L : List Str} {y : Str}, y ∈ L → y.length ≤ (Lib.joinTail [c] L).length
  | z :: L, y, h => by
    rw [tail_cons]
    rcases List.mem_cons.1 h with rfl | h
    · simp; omega
    · have := tail_mem2 c h
      simp; omega
theorem split_part2 (c : UInt8) {k : Nat} {s x : Str} {L : List Str} (h : Lib.splitK [c] 0 k s = x :: L) : ∀ y ∈ x :: L, y.length ≤ s.length := by
  obtain ⟨x', L', h1, h2⟩ := split_back c k s
  rw [h] at h1
  injection h1 with e1 e2
  subst e1
  subst e2
  intro y hy
  rw [h2, List.length_append]
  rcases List.mem_cons.1 hy with rfl | hy
  · omega
  · have := tail_mem2 c hy
    omega
theorem row_cell2 (w : World) (P : List ByteArray) (N j : Nat) (t : ByteArray) (hj : P[j]? = some t) : (w.alloc (.cells (Lib.cellsOf P N) 9)).cell? ⟨w.heap.size, j, none⟩ = some (.string t) := by
  rw [cell_of_row (w.alloc (.cells (Lib.cellsOf P N) 9)) w.heap.size j (Lib.cellsOf P N) 9 (0, 0) (heap_alloc_new w _)]
  have hl : j < P.length := (List.getElem?_eq_some_iff.1 hj).1
  unfold Lib.cellsOf
  rw [List.getElem?_toArray, List.getElem?_append_left (by simpa using hl), List.getElem?_map, hj]
  rfl

/-- what strings.SplitN at a space hands back -/
def GivesSp (w : World) (s : Str) (e : Ending) (w' : World) : Prop :=
  ∃ (k : Nat) (P : List Str) (a : Option Addr) (c : Nat), e = .returned (.slice a P.length c) ∧ Lib.splitK [32] 0 k s = P ∧ (s.length < 5 ∨ 5 ≤ k) ∧ InS w' a P ∧ 1 ≤ P.length ∧ P.length ≤ 7 ∧ (∀ y ∈ P, y.length ≤ s.length) ∧ Below w.heap.size w w'

theorem splits_is (s : ByteArray) (w : World) (hs : s.size ≤ 1048576) (hx : MaxAt w) :
    Calls Tryd.prog 22 #[.string s, .string ⟨#[32]⟩, .int .i64 7] w (GivesSp w s.data.toList) := by
  obtain ⟨m, hm⟩ := hx
  refine (Tryd.strings_SplitN s ⟨#[32]⟩ 7 m w (by omega) hm (by decide) (by decide) (by decide)).mono fun e w' ⟨he, hw⟩ => ?_
  obtain ⟨P, hP⟩ : ∃ P, Lib.splitB ⟨#[32]⟩ 0 (min 7 (s.size + 1) - 1) s = P := ⟨_, rfl⟩
  have hlen := Lib.splitB_length_le ⟨#[32]⟩ 0 (min 7 (s.size + 1) - 1) s
  have hd := Lib.splitB_data ⟨#[32]⟩ 0 (min 7 (s.size + 1) - 1) s
  rw [hP] at he hw hlen hd
  have hz : s.data.toList.length = s.size := by simp
  cases P with
  | nil =>
    exfalso
    obtain ⟨x, L, h1, -⟩ := split_back 32 (min 7 (s.size + 1) - 1) s.data.toList
    have h2 : ([] : List Str) = x :: L := hd.trans h1
    cases h2
  | cons p Q =>
    have hk : Lib.splitK [32] 0 (min 7 (s.size + 1) - 1) s.data.toList = p.data.toList :: Q.map (·.data.toList) := hd.symm
    have hpart := split_part2 32 hk
    have hQ : (Q.map (·.data.toList)).length = Q.length := by simp
    rw [List.length_cons] at hlen
    refine ⟨min 7 (s.size + 1) - 1, p.data.toList :: Q.map (·.data.toList), some ⟨w.heap.size, 0, none⟩, min 7 (s.size + 1), ?_, hk, by omega, ?_, by simp, by rw [List.length_cons, hQ]; omega, hpart, ?_⟩
    · rw [he, List.length_cons, List.length_cons, hQ]
    · rw [hw]
      refine fun _ => ⟨w.heap.size, 0, rfl, by simp, fun j x hj => ?_⟩
      rw [Nat.zero_add]
      have h1 : ((p :: Q).map (·.data.toList))[j]? = some x := hj
      rw [List.getElem?_map] at h1
      cases h2 : (p :: Q)[j]? with
      | none => rw [h2] at h1; simp at h1
      | some t =>
        rw [h2] at h1
        simp at h1
        rw [row_cell2 w (p :: Q) _ j t h2, ← h1]
    · rw [hw]; exact (Below.refl _ _).alloc (Nat.le_refl _) _

theorem ffR_data {F : List Int} {R : ByteArray} (h : fvB F = true) (hr : ffR F = R) : ffL F = R.data.toList := by
  rw [ff_yes h] at hr
  have := congrArg (fun b : ByteArray => b.data.toList) hr
  simpa using this
theorem cut_part_len (l : Str) : (Lib.cut l [61]).2.1.length ≤ l.length := by
  unfold Lib.cut
  split
  · simp
  · simp

set_option maxRecDepth 100000 in
set_option maxHeartbeats 3200000 in
theorem pf_impl (a0 : ByteArray) (L : List Int) (r : Bool) (w : World) (hs : a0.size ≤ 1048576) (ho : PFout a0.data.toList L r) (ht : TabAt w) (hx : MaxAt w) :
    Calls Tryd.prog 10 #[.string a0] w (GivesPF w L r) := by
  obtain ⟨i0, hi, hz0, hz1, hz2⟩ := info_parts info_i64
  have HS := Lib.hid hs
  have HO := Lib.hid ho
  have HT := Lib.hid ht
  have HX := Lib.hid hx
  clear hs ho ht hx
  go_enter Tryd.func10, Tryd.ntmps10
  go_wp2_with (go_at_call 22; (refine (splits_is a0 _ HS.out HX.out).mono ?_); rintro e w2 ⟨kk, P, ap, cp, rfl, hk, hk5, hin, hp1, hp7, hpl, hb⟩; refine Hid.out ?_)
  obtain ⟨F, hF⟩ : ∃ F, implF kk a0.data.toList = F := ⟨_, rfl⟩
  have hFP : F.length = P.length := by rw [← hF]; unfold implF; rw [hk]; simp
  have hFA : ∀ k y, P[k]? = some y → F[k]? = some (piR (Lib.cut y [61]).2.1) := fun k y hy => by
    rw [← hF]
    unfold implF
    rw [hk, List.getElem?_map, hy]
    rfl
  have HF := Lib.hid hF
  have HFP := Lib.hid hFP
  have HFA := Lib.hid hFA
  have HK5 := Lib.hid hk5
  have HIN := Lib.hid hin
  have HPL := Lib.hid (fun y (hy : y ∈ P) => show y.length ≤ 1048576 by have h1 := hpl y hy; have h2 := dsize a0; have h3 := HS.out; omega)
  have HB := Lib.hid hb
  clear hk hk5 hin hpl hb hF hFP hFA
  refine Lib.hid ?_
  go_wp2_with (at_make; refine wpList_make_full _ rfl _ _ 22 rfl w.heap.size 3 i0 (.int .i64 0) 1 Tryd.underlying22 hi hz0 hz1 .i64 .i64 _ _ P.length rfl rfl rfl rfl (by rw [hz2]; omega) (by unfold maxLen; omega) HB.out.size ?_; intro w3 hrow hg)
  have HROW := Lib.hid hrow
  have HIN3 := Lib.hid (HIN.out.below (show Below w2.heap.size w2 w3 from (Below.refl _ _).grown hg (Nat.le_refl _) (fun k hk => by cases hk)))
  have HB3 := Lib.hid (HB.out.grown hg HB.out.size (fun k hk => by cases hk))
  have HG3 := Lib.hid hg.size
  clear hrow hg
  go_loopw [18] (fun i wr => ∃ k : Nat, k ≤ P.length ∧ i = .int .i64 k ∧ wr.ownsRow w.heap.size 3 1 (.slice (some ⟨w2.heap.size, 0, none⟩) P.length P.length) P.length (fillI F k) ∧ Below w.heap.size w wr ∧ InS wr ap P ∧ w2.heap.size < wr.heap.size) (fun i _ => P.length - (intOf i).toNat)
  case atStart =>
    refine ⟨0, Nat.zero_le _, rfl, ?_, HB3.out, HIN3.out, ?_⟩
    · have h := HROW.out
      rw [Nat.mul_one, show (Value.int .i64 0).cells = #[.int .i64 0] from rfl, toList_madeCells_one] at h
      rw [filli_zero, HFP.out]
      exact h
    · rcases HROW.out.2 with ⟨_, h1⟩ | ⟨g, cap', cur, hv, hb, hg, _⟩
      · omega
      · simp only [Value.slice.injEq, Option.some.injEq, Addr.mk.injEq] at hv
        rw [hv.1.1]
        exact (Array.getElem?_eq_some_iff.1 hg).1
  case round =>
    obtain ⟨k, hk, rfl, hrow, hb, hin, hsz⟩ := hrel
    have HROWK := Lib.hid hrow
    have HBK := Lib.hid hb
    have HINK := Lib.hid hin
    have HSZ := Lib.hid hsz
    clear hrow hb hin hsz
    by_cases hlt : k < P.length
    · obtain ⟨bl, ol, rfl, hbl, hc⟩ := HINK.out (by omega)
      obtain ⟨y, s, hy, hy2, hy3, hy4⟩ := str_at hlt
      have hcell : wr.cell? ⟨bl, ol + k, none⟩ = some (.string s) := by rw [← hy3]; exact hc k y hy
      have hss : s.size ≤ 1048576 := by rw [hy4]; exact HPL.out y (List.mem_of_getElem? hy)
      obtain ⟨N, hN⟩ : ∃ N : ByteArray, (Lib.cut s.data.toList [61]).1 = N.data.toList := ⟨⟨(Lib.cut s.data.toList [61]).1.toArray⟩, by simp⟩
      obtain ⟨V, hV⟩ : ∃ V : ByteArray, (Lib.cut s.data.toList [61]).2.1 = V.data.toList := ⟨⟨(Lib.cut s.data.toList [61]).2.1.toArray⟩, by simp⟩
      obtain ⟨f, hf⟩ : ∃ f, (Lib.cut s.data.toList [61]).2.2 = f := ⟨_, rfl⟩
      have hVs : V.size ≤ 1048576 := by
        have h1 := cut_part_len s.data.toList
        rw [hV, dsize, dsize] at h1
        omega
      have HNN := Lib.hid hN
      have HVV := Lib.hid hV
      have HFF := Lib.hid hf
      have HFK := Lib.hid (show F[k]? = some (piR V.data.toList) by rw [HFA.out k y hy, ← hy2, hV])
      clear hc hy hy2 hy3 hy4 hN hV hf hbl
      go_wp2_with (go_at_call 23; (refine (eqs_is s _ hss (HX.out.on HBK.out) N V f HNN.out HVV.out HFF.out).mono ?_); rintro e w4 ⟨rfl, hb4⟩; refine Hid.out ?_)
      have HB4 := Lib.hid (HBK.out.trans (hb4.mono HBK.out.size))
      have HIN4 := Lib.hid (HINK.out.below hb4)
      have HROW4 := Lib.hid (World.ownsRow.kept HROWK.out (row := none) (w' := w4) ⟨hb4.os, hb4.tape, hb4.output, hb4.size, fun i hi _ => hb4.block i hi⟩ (.inr (by simp [Value.ownBlock])))
      have HSZ4 := Lib.hid (Nat.lt_of_lt_of_le HSZ.out hb4.size)
      clear hb4 hcell
      refine Lib.hid ?_
      go_wp2_with (go_at_call 24; (refine (impl_pi V _ hVs (HT.out.on HB4.out)).mono ?_); rintro e w5 ⟨n, ok, rfl, hpi, hb5⟩; refine Hid.out ?_)
      have HB5 := Lib.hid (HB4.out.trans (hb5.mono HB4.out.size))
      have HIN5 := Lib.hid (HIN4.out.below hb5)
      have hrow5 := World.ownsRow.kept HROW4.out (row := none) (w' := w5) ⟨hb5.os, hb5.tape, hb5.output, hb5.size, fun i hi _ => hb5.block i hi⟩ (.inr (by simp [Value.ownBlock]))
      have hold : w5.cell? ⟨w2.heap.size, k, none⟩ = some (.int .i64 0) := by rw [hrow5.cellAt k (by omega)]; exact filli_at (by rw [HFP.out]; exact hlt)
      have hfz : w5.frozen? ⟨w2.heap.size, k, none⟩ = false := hrow5.frozenAt k
      have HN := Lib.hid (hrow5.stored k (.int .i64 n))
      have HE := Lib.hid (filli_set (l := F) (k := k) (x := n) (by rw [HFK.out, piR_of hpi]))
      have HSZ5 := Lib.hid (Nat.lt_of_lt_of_le HSZ4.out hb5.size)
      have HW2 := Lib.hid HB.out.size
      have hapart : InS (w5.setCell ⟨w2.heap.size, k, none⟩ (.int .i64 n)) (some ⟨bl, ol, none⟩) P := by
        intro h0
        obtain ⟨b', o', he', hb', hc'⟩ := HIN5.out h0
        have hne : b' ≠ w2.heap.size := by
          intro e
          obtain ⟨b2, o2, he2, hb2, _⟩ := HIN.out h0
          rw [he'] at he2
          injection he2 with he2
          injection he2 with e3 e4
          omega
        refine ⟨b', o', he', by simp [World.setCell]; exact hb', fun j x hj => ?_⟩
        rw [World.cell?_of_block (Below.heap_setCell w5 ⟨w2.heap.size, k, none⟩ (.int .i64 n) b' (by simpa using hne))]
        exact hc' j x hj
      have HAP := Lib.hid hapart
      clear hpi hb5 hrow5 hapart
      refine Lib.hid ?_
      go_wp2
      go_roundw
      case rel =>
        refine ⟨k + 1, by omega, by go_num, ?_, HB5.out.setCell (by have := HW2.out; simp; omega) _, HAP.out, by have := HSZ5.out; simp [World.setCell]; omega⟩
        rw [← HE.out]
        exact HN.out.1
      case measure => simp [intOf]; omega
    · obtain rfl : k = P.length := by omega
      have HOW := Lib.hid (show OwnI wr w.heap.size (.slice (some ⟨w2.heap.size, 0, none⟩) F.length P.length) F by
        have h := HROWK.out
        rw [show fillI F P.length = F.map encI by rw [← HFP.out]; exact filli_all F] at h
        unfold OwnI
        rw [HFP.out]
        exact h)
      have hFl : F.length ≤ 4000000 := by have := HFP.out; omega
      obtain ⟨bv, hbv⟩ : ∃ b, fvB F = b := ⟨_, rfl⟩
      have HV := Lib.hid hbv
      clear hbv
      have CV := Lib.hid (show ∀ u : World, u = wr → Calls Tryd.prog 16 #[.slice (some ⟨w2.heap.size, 0, none⟩) P.length P.length] u fun e w' => e = .returned (.bool bv) ∧ u = w' by
        rintro u rfl
        have h := fv_impl (some ⟨w2.heap.size, 0, none⟩) P.length F bv u hFl HOW.out.inI HV.out
        rw [HFP.out] at h
        exact h)
      cases bv
      · have HE := Lib.hid (pf_impl_no (k := kk) HK5.out HO.out (by rw [HF.out, HV.out]; rintro ⟨e, -⟩; cases e))
        go_wp2_with (go_at_call 16; ((with_reducible refine (CV.out _ rfl).mono ?_); rintro e w' ⟨rfl, rfl⟩))
        go_ret2
        exact gives_none HE.out (OwnI.nil _ _) HBK.out
      · obtain ⟨R, hR⟩ : ∃ R, ffR F = R := ⟨_, rfl⟩
        have HR := Lib.hid hR
        clear hR
        have CR := Lib.hid (show ∀ u : World, u = wr → Calls Tryd.prog 7 #[.slice (some ⟨w2.heap.size, 0, none⟩) P.length P.length] u fun e w' => e = .returned (.string R) ∧ Below u.heap.size u w' by
          rintro u rfl
          have h := ff_impl (some ⟨w2.heap.size, 0, none⟩) P.length F R u hFl HOW.out.inI HR.out (HT.out.on HBK.out)
          rw [HFP.out] at h
          exact h)
        by_cases hra : R = a0
        · subst hra
          have HZ := Lib.hid (pf_yes HO.out HV.out (ffR_data HV.out HR.out))
          obtain ⟨rfl, rfl⟩ := HZ.out
          go_wp2_with (first
            | (go_at_call 16; ((with_reducible refine (CV.out _ rfl).mono ?_); rintro e w' ⟨rfl, rfl⟩))
            | (go_at_call 7; ((with_reducible refine (CR.out _ rfl).mono ?_); rintro e w6 ⟨rfl, hb⟩)))
          go_ret2
          refine ⟨some ⟨w2.heap.size, 0, none⟩, P.length, by rw [HFP.out]; rfl, HOW.out.below hb, HBK.out.trans (hb.mono HBK.out.size)⟩
        · have HE := Lib.hid (pf_impl_no (k := kk) HK5.out HO.out (by rw [HF.out]; exact ff_other (s := a0) (by rw [HR.out]; exact hra)))
          have q3 := sames hra
          clear hra
          go_wp2_with (first
            | (go_at_call 16; ((with_reducible refine (CV.out _ rfl).mono ?_); rintro e w' ⟨rfl, rfl⟩))
            | (go_at_call 7; ((with_reducible refine (CR.out _ rfl).mono ?_); rintro e w6 ⟨rfl, hb⟩)))
          go_ret2
          exact gives_none HE.out (OwnI.nil _ _) (HBK.out.trans (hb.mono HBK.out.size))

end Go.Proofs.YtpogfjcllcmaoaaDoor
