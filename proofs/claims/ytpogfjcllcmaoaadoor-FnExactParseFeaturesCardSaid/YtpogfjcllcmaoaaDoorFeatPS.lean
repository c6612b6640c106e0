/-
  What spec.ParseFeatures answers. By an AI agent.
-/
import Derived.Test.YtpogfjcllcmaoaaDoorFeatF
import Derived.Test.YtpogfjcllcmaoaaDoorIntM
import Derived.Test.YtpogfjcllcmaoaaDoorCutS
import Derived.Test.YtpogfjcllcmaoaaDoorParseInt
namespace Go.Proofs.YtpogfjcllcmaoaaDoor
open Go.RowKit
set_option linter.unusedVariables false

/-- a feature vector and whether it was read are handed back -/
def GivesPF (w : World) (L : List Int) (r : Bool) (e : Ending) (w' : World) : Prop :=
  ∃ a cap, e = .returned (.tuple #[.slice a L.length cap, .bool r]) ∧ OwnI w' w.heap.size (.slice a L.length cap) L ∧ Below w.heap.size w w'
theorem gives_none {w w' : World} {L : List Int} {r : Bool} {a : Option Addr} {cap : Nat} (h : L = [] ∧ r = false) (ho : OwnI w' w.heap.size (.slice a 0 cap) []) (hb : Below w.heap.size w w') :
    GivesPF w L r (.returned (.tuple #[.slice a 0 cap, .bool false])) w' := by
  obtain ⟨rfl, rfl⟩ := h
  exact ⟨a, cap, rfl, ho, hb⟩

/-- the numbers read so far, beside the parts -/
def PfI (w : World) (base lo hi : Nat) (v : Value) (F : List Int) (vl : Value) (P : List Str) : Prop :=
  OwnI w base v F ∧ OwnS w lo vl P ∧ (∀ k, vl.ownBlock = some k → k < hi) ∧ (∀ k, v.ownBlock = some k → k < lo ∨ hi ≤ k) ∧ hi ≤ w.heap.size
theorem PfI.below {w w' : World} {base lo hi : Nat} {v vl : Value} {F : List Int} {P : List Str} (h : PfI w base lo hi v F vl P) (hb : Below w.heap.size w w') : PfI w' base lo hi v F vl P :=
  ⟨h.1.below hb, h.2.1.below hb, h.2.2.1, h.2.2.2.1, Nat.le_trans h.2.2.2.2 hb.size⟩
theorem PfI.next {w w' : World} {base lo hi : Nat} {v v' vl : Value} {F F' : List Int} {P : List Str} (h : PfI w base lo hi v F vl P) (ho : OwnI w' base v' F') (hg : w.grownBy w' v.ownBlock) (hat : v'.ownBlock = v.ownBlock ∨ v'.ownBlock = some (w.heap.size + 1)) : PfI w' base lo hi v' F' vl P := by
  obtain ⟨h1, h2, h3, h4, h5⟩ := h
  refine ⟨ho, World.ownsRow.kept h2 hg ?_, h3, fun k hk => ?_, Nat.le_trans h5 hg.size⟩
  · cases hv : v.ownBlock with
    | none =>
      cases hvl : vl.ownBlock with
      | none => exact .inl rfl
      | some k => exact .inr (by simp)
    | some k =>
      refine .inr fun e => ?_
      have e1 := h3 k e
      have e2 := (World.ownsRow.lt h2 k e).1
      have e3 := h4 k hv
      omega
  · rcases hat with e | e
    · exact h4 k (by rw [← e]; exact hk)
    · rw [e] at hk
      injection hk with hk
      omega
theorem last_of {l : List Str} {m : Nat} {z : Str} (hl : l.length = m + 1) (h : l[m]? = some z) : l.getLastD [] = z := by
  rw [List.getLastD_eq_getLast?, List.getLast?_eq_getElem?, hl, Nat.add_sub_cancel, h]
  rfl
theorem specF_len (s : Str) : (specF s).length = min 7 (cutL 32 s).length := by unfold specF; simp
theorem specF_at {s y : Str} {k : Nat} (hk : k < (specF s).length) (hy : (cutL 32 s)[k]? = some y) : (specF s)[k]? = some (piR ((cutL 61 y).getLastD [])) := by
  have h7 : k < 7 := by rw [specF_len] at hk; omega
  unfold specF
  rw [List.getElem?_map, List.getElem?_take_of_lt h7, hy]
  rfl
theorem dsize (t : ByteArray) : t.data.toList.length = t.size := by simp
theorem sames {a b : ByteArray} (h : a ≠ b) : (a.toList == b.toList) = false := by
  rw [ByteArray.toList_eq, ByteArray.toList_eq]
  simp
  intro e
  exact h (ByteArray.ext e)
theorem empt {s : ByteArray} (h : s.size = 0) : s = ⟨#[]⟩ := by
  apply ByteArray.ext
  apply Array.ext'
  exact List.eq_nil_of_length_eq_zero (by simpa using h)
theorem fulls {s : ByteArray} (h : ¬ s.size = 0) : (s.toList == ([] : List UInt8)) = false ∧ s.toList.isEmpty = false := by
  rw [ByteArray.toList_eq]
  have h1 : s.data.toList ≠ [] := fun e => h (by rw [← dsize, e]; rfl)
  cases h2 : s.data.toList with
  | nil => exact absurd h2 h1
  | cons a b => exact ⟨rfl, rfl⟩

set_option maxRecDepth 100000 in
set_option maxHeartbeats 3200000 in
theorem pf_spec (a0 : ByteArray) (L : List Int) (r : Bool) (w : World) (hs : a0.size ≤ 1048576) (ho : PFout a0.data.toList L r) :
    Calls Tryd.prog 9 #[.string a0] w (GivesPF w L r) := by
  obtain ⟨P, hP⟩ : ∃ P, cutL 32 a0.data.toList = P := ⟨_, rfl⟩
  obtain ⟨F, hF⟩ : ∃ F, specF a0.data.toList = F := ⟨_, rfl⟩
  have hPl : P.length ≤ 4000000 := by
    have h1 := kS_len 32 a0.data.toList
    have h2 := dsize a0
    rw [← hP]
    unfold cutL
    rw [List.length_append]
    simp
    omega
  have hFl : F.length = min 7 P.length := by rw [← hF, specF_len, hP]
  have HS := Lib.hid hs
  have HO := Lib.hid ho
  have HP := Lib.hid hP
  have HF := Lib.hid hF
  have HFL := Lib.hid hFl
  have HPX := Lib.hid (fun y (hy : y ∈ P) => show y.length ≤ 1048576 by
    have h1 := cutL_part (c := 32) (s := a0.data.toList) (y := y) (by rw [hP]; exact hy)
    have h2 := dsize a0
    omega)
  clear hs ho hP hF hFl
  go_enter Tryd.func9, Tryd.ntmps9
  go_wp2_with (go_at_call 20; (refine (cut_any a0 32 _ (by have := HS.out; omega)).mono ?_); rintro e w2 hg; rw [HP.out] at hg; obtain ⟨al, cl, rfl, hol, hbl⟩ := hg; refine Hid.out ?_)
  have HI := Lib.hid (show PfI w2 w.heap.size (w.heap.size + 1) w2.heap.size (.slice (some ⟨w.heap.size, 0, none⟩) 0 0) [] (.slice al P.length cl) P from
    ⟨(OwnI.made w w.heap.size #[] 0 (Nat.le_refl _) (Nat.zero_le _) rfl).below hbl, by have h := hol; simp at h; exact h, fun k hk => (World.ownsRow.lt hol k hk).2, fun k hk => .inl (by simp [Value.ownBlock] at hk; omega), Nat.le_refl _⟩)
  have HB := Lib.hid (((Below.refl w.heap.size w).alloc (Nat.le_refl _) (.cells #[] 3)).trans (hbl.mono (by simp)))
  clear hol hbl
  refine Lib.hid ?_
  go_wp2_with (fail)
  go_loopw [4, 6] (fun v i wr => ∃ (k : Nat) (a : Option Addr) (c : Nat), k ≤ F.length ∧ i = .int .i64 k ∧ v = .slice a k c ∧ PfI wr w.heap.size (w.heap.size + 1) w2.heap.size (.slice a k c) (F.take k) (.slice al P.length cl) P ∧ Below w.heap.size w wr) (fun _ i _ => F.length - (intOf i).toNat)
  case atStart => exact ⟨0, _, _, Nat.zero_le _, rfl, rfl, HI.out, HB.out⟩
  case round =>
    clear HI HB
    obtain ⟨k, a, c, hk, rfl, rfl, hi, hb⟩ := hrel
    have HI := Lib.hid hi
    have HB := Lib.hid hb
    clear hi hb
    have hk7 : k ≤ 7 := by have := HFL.out; omega
    by_cases hlt : k < F.length
    · have hlp : k < P.length := by have := HFL.out; omega
      have hl6 : (k : Int) ≤ 6 := by have := HFL.out; omega
      obtain ⟨bl, ol, rfl, hbl1, hcl⟩ := HI.out.2.1.inS (by omega)
      obtain ⟨y, s, hy, hy2, hy3, hy4⟩ := str_at hlp
      have hcell : wr.cell? ⟨bl, ol + k, none⟩ = some (.string s) := by rw [← hy3]; exact hcl k y hy
      have hys := HPX.out y (List.mem_of_getElem? hy)
      have hss : s.size ≤ 1048576 := by omega
      obtain ⟨H, hH⟩ : ∃ H, cutL 61 y = H := ⟨_, rfl⟩
      have HH := Lib.hid (show cutL 61 s.data.toList = H by rw [hy2]; exact hH)
      have HHX := Lib.hid (fun z (hz : z ∈ H) => show z.length ≤ 1048576 by
        have h1 := cutL_part (c := 61) (s := y) (y := z) (by rw [hH]; exact hz)
        omega)
      have HFA := Lib.hid (specF_at (s := a0.data.toList) (y := y) (k := k) (by rw [HF.out]; exact hlt) (by rw [HP.out]; exact hy))
      have HHY := Lib.hid hH
      obtain ⟨m, hm⟩ : ∃ m, H.length = m + 1 := by
        obtain ⟨x, M, hx⟩ := cutL_cons 61 y
        exact ⟨M.length, by rw [← hH, hx]; simp⟩
      have hml : m ≤ 1048576 := by
        have h1 := kS_len 61 y
        have h2 : (cutL 61 y).length ≤ y.length + 1 := by
          unfold cutL
          rw [List.length_append]
          simp
          omega
        rw [hH] at h2
        omega
      have HM := Lib.hid hm
      clear hcl hy hy2 hy3 hy4 hH hbl1 hm hys
      go_wp2_with (go_at_call 20; (refine (cut_any s 61 _ (by omega)).mono ?_); rintro e w3 hg; rw [HH.out] at hg; obtain ⟨ah, ch, he, hoh, hbh⟩ := hg; rw [HM.out] at he; subst he; refine Hid.out ?_)
      have HI3 := Lib.hid (HI.out.below hbh)
      have HB3 := Lib.hid (HB.out.trans (hbh.mono HB.out.size))
      obtain ⟨bh, oh, rfl, hbh1, hch⟩ := hoh.inS (by have := HM.out; omega)
      obtain ⟨z, t, hz, hz2, hz3, hz4⟩ := str_at (l := H) (k := m) (by have := HM.out; omega)
      have hcell3 : w3.cell? ⟨bh, oh + m, none⟩ = some (.string t) := by rw [← hz3]; exact hch m z hz
      have hts : t.size ≤ 1048576 := by rw [hz4]; exact HHX.out z (List.mem_of_getElem? hz)
      have HL := Lib.hid (last_of HM.out hz)
      have HZ := Lib.hid hz2
      have hm1 : ((m : Int) + 1) - 1 = m := by omega
      clear hoh hbh hch hz hz2 hz3 hz4 hcell hbh1
      refine Lib.hid ?_
      go_wp2_with (go_at_call 21; (refine (spec_pi t _ hts).mono ?_); rintro e w4 ⟨n, ok, rfl, hpi, hb4⟩; refine Hid.out ?_)
      have HI4 := Lib.hid (HI3.out.below hb4)
      have HB4 := Lib.hid (HB3.out.trans (hb4.mono HB3.out.size))
      have HN := Lib.hid (show F[k]? = some n by
        rw [← HF.out, HFA.out, HHY.out, HL.out, ← HZ.out, piR_of hpi])
      clear hpi hb4 hcell3
      have hlen7 : (F.take k).length = k := by rw [List.length_take]; omega
      refine Lib.hid ?_
      go_wp2_with (at_builtin; refine append_i rfl _ _ rfl w.heap.size (.slice a k c) (F.take k) n HI4.out.1 rfl rfl (by omega) HB4.out.size ?_; intro v5 w5 ho hg hat; have HI5 := Lib.hid (HI4.out.next ho hg hat); have HB5 := Lib.hid (HB4.out.grown hg HB4.out.size (fun q hq => (World.ownsRow.lt HI4.out.1 q hq).1)); clear ho hg hat; refine Hid.out ?_)
      obtain ⟨a5, c5, rfl⟩ := (show OwnI w5 w.heap.size v5 (F.take k ++ [n]) from HI5.out.1).shape
      have hln : (F.take k ++ [n]).length = k + 1 := by simp; omega
      have HI6 := Lib.hid (show PfI w5 w.heap.size (w.heap.size + 1) w2.heap.size (.slice a5 (k + 1) c5) (F.take (k + 1)) (.slice (some ⟨bl, ol, none⟩) P.length cl) P by
        have h := HI5.out
        rw [hln] at h
        rw [List.take_add_one, HN.out]
        exact h)
      rw [hln]
      clear HI5 hlen7 hln
      refine Lib.hid ?_
      go_wp2
      go_roundw
      case rel => exact ⟨k + 1, a5, c5, by omega, by go_num, by go_num, HI6.out, HB5.out⟩
      case measure => simp [intOf]; omega
    · obtain rfl : k = F.length := by omega
      have hend : ¬ F.length < P.length ∨ (F.length < P.length ∧ ¬ (F.length : Int) ≤ 6) := by have := HFL.out; omega
      have HFF := Lib.hid (show OwnI wr w.heap.size (.slice a F.length c) F by have h := HI.out.1; rwa [List.take_length] at h)
      by_cases h0 : a0.size = 0
      · have HE := Lib.hid (pf_spec_no HO.out (ff_empty (F := specF a0.data.toList) (List.eq_nil_of_length_eq_zero (by rw [dsize, h0]))))
        obtain rfl := empt h0
        have HOWN := Lib.hid (OwnI.made wr w.heap.size #[] 0 HB.out.size (Nat.zero_le _) rfl)
        have HB2 := Lib.hid (HB.out.alloc HB.out.size (.cells #[] 3))
        clear h0
        rcases hend with hend | ⟨hend, hend2⟩
        all_goals
          go_wp2
          go_ret2
          exact gives_none HE.out HOWN.out HB2.out
      · obtain ⟨q1, q2⟩ := fulls h0
        obtain ⟨R, hR⟩ : ∃ R, ffR F = R := ⟨_, rfl⟩
        have HR := Lib.hid hR
        clear hR
        have hFl : F.length ≤ 4000000 := by have := HFL.out; omega
        have HN0 := Lib.hid (show a0.data.toList ≠ [] from fun e => h0 (by rw [← dsize, e]; rfl))
        clear h0
        by_cases hra : R = a0
        · subst hra
          have HY := Lib.hid (show fvB F = true ∧ ffL F = R.data.toList from ff_same HR.out HN0.out)
          have HZ := Lib.hid (pf_yes HO.out HY.out.1 HY.out.2)
          obtain ⟨rfl, rfl⟩ := HZ.out
          rcases hend with hend | ⟨hend, hend2⟩
          all_goals
            go_wp2_with (go_at_call 5; (with_reducible refine (ff_spec a c L R _ hFl HFF.out.inI HR.out).mono ?_); rintro e w5 ⟨rfl, hb⟩)
            go_ret2
            exact ⟨a, c, rfl, HFF.out.below hb, HB.out.trans (hb.mono HB.out.size)⟩
        · have HE := Lib.hid (pf_spec_no HO.out (by rw [HF.out]; exact ff_other (s := a0) (by rw [HR.out]; exact hra)))
          have q3 := sames hra
          clear hra
          rcases hend with hend | ⟨hend, hend2⟩
          all_goals
            go_wp2_with (go_at_call 5; (with_reducible refine (ff_spec a c F R _ hFl HFF.out.inI HR.out).mono ?_); rintro e w5 ⟨rfl, hb⟩)
            go_ret2
            exact gives_none HE.out (OwnI.made w5 w.heap.size #[] 0 (HB.out.trans (hb.mono HB.out.size)).size (Nat.zero_le _) rfl) ((HB.out.trans (hb.mono HB.out.size)).alloc (HB.out.trans (hb.mono HB.out.size)).size _)

end Go.Proofs.YtpogfjcllcmaoaaDoor
