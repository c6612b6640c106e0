/-
  The walk of laws.FnSounds: it answers true for every slice of bytes, a nil one too. By an AI agent.
-/
import Derived.Test.YtggohfinkpppkabDoorSndFacts
import Derived.Test.YtggohfinkpppkabDoorSndDraw
import Derived.Test.YtggohfinkpppkabDoorTokSet2
import Derived.Test.YtggohfinkpppkabDoorEqTokS
import Derived.Test.YtggohfinkpppkabDoorLawCode
namespace Go.Proofs.YtggohfinkpppkabDoor
open Go.RowKit
set_option linter.unusedVariables false

/-- contracts with their answers under names -/
theorem cS (s : ByteArray) (S : ByteArray) (w : World) (hs : s.size ≤ 4194304) (h : nstr (sxL s.data.toList) = S) :
    Calls Tryd.prog 37 #[.string s] w fun e w' => e = .returned (.string S) ∧ Below w.heap.size w w' := by
  subst h; exact impl_sx s w hs
theorem cSs (s : ByteArray) (S : ByteArray) (w : World) (hs : s.size ≤ 4194304) (h : nstr (sxL s.data.toList) = S) :
    Calls Tryd.prog 38 #[.string s] w fun e w' => e = .returned (.string S) ∧ Below w.heap.size w w' := by
  subst h; exact spec_sx s w hs
theorem cF (s : ByteArray) (S : ByteArray) (w : World) (hs : s.size ≤ 1048576) (h : nstr (foldL s.data.toList) = S) :
    Calls Tryd.prog 23 #[.string s] w fun e w' => e = .returned (.string S) ∧ Below w.heap.size w w' := by
  subst h; exact spec_fc s w hs
theorem cA (s t : ByteArray) (r : Bool) (w : World) (hs : s.size ≤ 4194304) (ht : t.size ≤ 4194304) (h : alikeB s.data.toList t.data.toList = r) :
    Calls Tryd.prog 39 #[.string s, .string t] w fun e w' => e = .returned (.bool r) ∧ Below w.heap.size w w' := by
  subst h; exact impl_sa s t w hs ht
theorem cAs (s t : ByteArray) (r : Bool) (w : World) (hs : s.size ≤ 4194304) (ht : t.size ≤ 4194304) (h : alikeB s.data.toList t.data.toList = r) :
    Calls Tryd.prog 40 #[.string s, .string t] w fun e w' => e = .returned (.bool r) ∧ Below w.heap.size w w' := by
  subst h; exact spec_sa s t w hs ht
theorem cC (c : UInt8) (n : Int) (w : World) (h : sc c = n) :
    Calls Tryd.prog 44 #[.int .u8 (c.toNat : Int)] w fun e w' => e = .returned (.int .i64 n) ∧ Below w.heap.size w w' := by
  subst h; exact (impl_sc c w).mono fun e w' h => ⟨h.1, by rw [← h.2]; exact Below.refl _ _⟩
theorem cCs (c : UInt8) (n : Int) (w : World) (h : sc c = n) :
    Calls Tryd.prog 45 #[.int .u8 (c.toNat : Int)] w fun e w' => e = .returned (.int .i64 n) ∧ Below w.heap.size w w' := by
  subst h; exact spec_sc c w
theorem cK (s : ByteArray) (K : List Str) (w : World) (hs : s.size ≤ 1048576) (hT : SpT w) (h : soundR s.data.toList = K) :
    Calls Tryd.prog 43 #[.string s] w (GivesS w K) := by
  subst h; exact sound_impl s w hs hT
theorem cKs (s : ByteArray) (K : List Str) (w : World) (hs : s.size ≤ 1048576) (hT : SpT w) (h : soundR s.data.toList = K) :
    Calls Tryd.prog 46 #[.string s] w (GivesS w K) := by
  subst h; exact sound_spec s w hs hT
theorem cE (a1 a2 : Option Addr) (c1 c2 : Nat) (K : List Str) (w : World) (hl : K.length ≤ maxLen) (h1 : InS w a1 K) (h2 : InS w a2 K) :
    Calls Tryd.prog 28 #[.slice a1 K.length c1, .slice a2 K.length c2] w fun e w' => e = .returned (.bool true) ∧ Below w.heap.size w w' := by
  have h := spec_eq a1 a2 c1 c2 K K w hl hl h1 h2
  rwa [show eqB K K = true from decide_eq_true rfl] at h
theorem cT (a1 : Option Addr) (c1 : Nat) (K : List Str) (w : World) (h1 : Sm w a1 K c1) (h : tsB K = true) :
    Calls Tryd.prog 47 #[.slice a1 K.length c1] w fun e w' => e = .returned (.bool true) ∧ Below w.heap.size w w' := by
  have h2 := tset_spec a1 c1 K w h1
  rwa [show tsetR K = true from h] at h2

set_option maxRecDepth 100000 in
set_option maxHeartbeats 4000000 in
theorem FnSounds_core (A : Option Addr) (len cap : Nat) (w : World) (hcode : CodeAt w w.heap.size A len) (hT : SpT w) :
    Calls Tryd.prog 5 #[.slice A len cap] w fun e w' => e = .returned (.bool true) ∧ Below w.heap.size w w' := by
  have HCODE := Lib.hid hcode
  have HT := Lib.hid hT
  have hlen : (len : Int) ≤ 1048576 := by have := hcode.1; omega
  clear hcode hT
  go_enter Tryd.func5, Tryd.ntmps5
  go_wp2_with (go_at_call 12; (refine (big_no A len cap _ hlen).mono ?_); rintro e w0 ⟨rfl, rfl⟩; refine Hid.out ?_)
  refine Lib.hid ?_
  clear hlen
  go_wp2_with (go_at_call 36; ((with_reducible refine (drawSA_any A len cap _ HCODE.out).mono ?_); rintro e w1 ⟨a, b, rfl, ha, hbs, hb⟩; refine Hid.out ?_))
  refine Lib.hid ?_
  have HBW := Lib.hid hb
  have HA := Lib.hid (show a.size ≤ 4194304 by omega)
  have HB := Lib.hid (show b.size ≤ 4194304 by omega)
  have HA1 := Lib.hid (show a.size ≤ 1048576 by omega)
  clear hb ha hbs
  obtain ⟨S, hS⟩ : ∃ S, nstr (sxL a.data.toList) = S := ⟨_, rfl⟩
  obtain ⟨f, hf⟩ : ∃ f, nstr (foldL a.data.toList) = f := ⟨_, rfl⟩
  obtain ⟨r, hr⟩ : ∃ r, alikeB a.data.toList b.data.toList = r := ⟨_, rfl⟩
  have HSX := Lib.hid hS
  have HF := Lib.hid hf
  have HR := Lib.hid hr
  have HR2 := Lib.hid ((alike_symm b.data.toList a.data.toList).trans hr)
  have HFS := Lib.hid (show nstr (sxL f.data.toList) = S by rw [← hf, nstr_list, sxL_fold, hS])
  have HFZ := Lib.hid (show f.size ≤ 4194304 by rw [← hf, nstr_size, foldL_length]; have := HA.out; simpa using this)
  have HSL := Lib.hid (show S.data.toList = sxL a.data.toList by rw [← hS, nstr_list])
  clear hS hf hr
  go_wp2_with (first
    | (go_at_call 37; ((with_reducible refine (cS a S _ HA.out HSX.out).mono ?_); rintro e wn ⟨rfl, hb⟩; have HBW2 := Lib.hid (HBW.out.trans (hb.mono HBW.out.size)); clear hb HBW; have HBW := HBW2; clear HBW2))
    | (go_at_call 37; ((with_reducible refine (cS f S _ HFZ.out HFS.out).mono ?_); rintro e wn ⟨rfl, hb⟩; have HBW2 := Lib.hid (HBW.out.trans (hb.mono HBW.out.size)); clear hb HBW; have HBW := HBW2; clear HBW2))
    | (go_at_call 38; ((with_reducible refine (cSs a S _ HA.out HSX.out).mono ?_); rintro e wn ⟨rfl, hb⟩; have HBW2 := Lib.hid (HBW.out.trans (hb.mono HBW.out.size)); clear hb HBW; have HBW := HBW2; clear HBW2))
    | (go_at_call 23; ((with_reducible refine (cF a f _ HA1.out HF.out).mono ?_); rintro e wn ⟨rfl, hb⟩; have HBW2 := Lib.hid (HBW.out.trans (hb.mono HBW.out.size)); clear hb HBW; have HBW := HBW2; clear HBW2))
    | (go_at_call 39; ((with_reducible refine (cA a b r _ HA.out HB.out HR.out).mono ?_); rintro e wn ⟨rfl, hb⟩; have HBW2 := Lib.hid (HBW.out.trans (hb.mono HBW.out.size)); clear hb HBW; have HBW := HBW2; clear HBW2))
    | (go_at_call 39; ((with_reducible refine (cA b a r _ HB.out HA.out HR2.out).mono ?_); rintro e wn ⟨rfl, hb⟩; have HBW2 := Lib.hid (HBW.out.trans (hb.mono HBW.out.size)); clear hb HBW; have HBW := HBW2; clear HBW2))
    | (go_at_call 40; ((with_reducible refine (cAs a b r _ HA.out HB.out HR.out).mono ?_); rintro e wn ⟨rfl, hb⟩; have HBW2 := Lib.hid (HBW.out.trans (hb.mono HBW.out.size)); clear hb HBW; have HBW := HBW2; clear HBW2))
    | (go_at_call 41; ((with_reducible refine (drawSC_any A len cap _ (HCODE.out.later HBW.out)).mono ?_); rintro e wn ⟨x, rfl, hb⟩; have HBW2 := Lib.hid (HBW.out.trans (hb.mono HBW.out.size)); clear hb HBW; have HBW := HBW2; clear HBW2))
    | (go_at_call 42; ((with_reducible refine (drawSK_any A len cap _ (HCODE.out.later HBW.out)).mono ?_); rintro e wn ⟨t, rfl, ht, hb⟩; have HBW2 := Lib.hid (HBW.out.trans (hb.mono HBW.out.size)); clear hb HBW; have HBW := HBW2; clear HBW2; have HTS := Lib.hid (show t.size ≤ 1048576 by omega); clear ht; obtain ⟨K, hK⟩ : ∃ K, soundR t.data.toList = K := ⟨_, rfl⟩; have HK := Lib.hid hK; have HKL := Lib.hid (show K.length ≤ 4000000 by rw [← hK]; exact sound_len t HTS.out); have HKM := Lib.hid (show ∀ z ∈ K, z.length ≤ 1048576 by rw [← hK]; exact fun z hz => Nat.le_trans (key_short hz) (by omega)); have HKT := Lib.hid (show tsB K = true by rw [← hK]; exact tsB_yes (keys_tok _)); clear hK))
    | (go_at_call 43; ((with_reducible refine (cK t K _ HTS.out (HT.out.below HBW.out) HK.out).mono ?_); rintro e wk ⟨ak, ck, rfl, hok, hb⟩; refine Hid.out ?_)))
  refine Lib.hid ?_
  have HBX := Lib.hid (HBW.out.trans (hb.mono HBW.out.size))
  have HBN := Lib.hid (Below.refl wk.heap.size wk)
  have HKIN := Lib.hid hok.inS
  have HKSM := Lib.hid (hok.sm HKL.out HKM.out)
  clear hb hok HBW
  have HBW := HBX
  clear HBX
  obtain ⟨n, hn⟩ : ∃ n, sc x = n := ⟨_, rfl⟩
  have HN := Lib.hid hn
  clear hn
  by_cases hx0 : sxL a.data.toList = []
  · obtain ⟨he, he2⟩ := empty_is HSL.out hx0
    clear hx0
    go_wp2_with (first
      | (go_at_call 44; ((with_reducible refine (cC x n _ HN.out).mono ?_); rintro e wn ⟨rfl, hb⟩; have HBW2 := Lib.hid (HBW.out.trans (hb.mono HBW.out.size)); have HBN2 := Lib.hid (HBN.out.trans (hb.mono HBN.out.size)); clear hb HBW HBN; have HBW := HBW2; have HBN := HBN2; clear HBW2 HBN2))
      | (go_at_call 45; ((with_reducible refine (cCs x n _ HN.out).mono ?_); rintro e wn ⟨rfl, hb⟩; have HBW2 := Lib.hid (HBW.out.trans (hb.mono HBW.out.size)); have HBN2 := Lib.hid (HBN.out.trans (hb.mono HBN.out.size)); clear hb HBW HBN; have HBW := HBW2; have HBN := HBN2; clear HBW2 HBN2))
      | (go_at_call 46; ((with_reducible refine (cKs t K _ HTS.out (HT.out.below HBW.out) HK.out).mono ?_); rintro e wn ⟨aks, cks, rfl, hos, hb⟩; have HOS := Lib.hid hos.inS; clear hos; have HBW2 := Lib.hid (HBW.out.trans (hb.mono HBW.out.size)); have HBN2 := Lib.hid (HBN.out.trans (hb.mono HBN.out.size)); clear hb HBW HBN; have HBW := HBW2; have HBN := HBN2; clear HBW2 HBN2))
      | (go_at_call 28; ((with_reducible refine (cE ak aks ck cks K _ (Nat.le_trans HKL.out (by unfold maxLen; omega)) (HKIN.out.below HBN.out) HOS.out).mono ?_); rintro e wn ⟨rfl, hb⟩; have HBW2 := Lib.hid (HBW.out.trans (hb.mono HBW.out.size)); have HBN2 := Lib.hid (HBN.out.trans (hb.mono HBN.out.size)); clear hb HBW HBN; have HBW := HBW2; have HBN := HBN2; clear HBW2 HBN2))
      | (go_at_call 47; ((with_reducible refine (cT ak ck K _ (HKSM.out.below HBN.out) HKT.out).mono ?_); rintro e wn ⟨rfl, hb⟩; have HBW2 := Lib.hid (HBW.out.trans (hb.mono HBW.out.size)); have HBN2 := Lib.hid (HBN.out.trans (hb.mono HBN.out.size)); clear hb HBW HBN; have HBW := HBW2; have HBN := HBN2; clear HBW2 HBN2)))
    all_goals go_ret
    all_goals exact ⟨rfl, HBW.out⟩
  · obtain ⟨he, he2⟩ := full_is HSL.out hx0
    have hs4 : ((S.size : Int) == 4) = true := by
      have h1 : S.data.toList.length = S.size := Array.length_toList
      have h2 := (sxL_length a.data.toList).resolve_left hx0
      rw [HSL.out, h2] at h1
      simp
      omega
    have HSELF := Lib.hid (alike_self hx0)
    clear hx0
    go_wp2_with (first
      | (go_at_call 44; ((with_reducible refine (cC x n _ HN.out).mono ?_); rintro e wn ⟨rfl, hb⟩; have HBW2 := Lib.hid (HBW.out.trans (hb.mono HBW.out.size)); have HBN2 := Lib.hid (HBN.out.trans (hb.mono HBN.out.size)); clear hb HBW HBN; have HBW := HBW2; have HBN := HBN2; clear HBW2 HBN2))
      | (go_at_call 45; ((with_reducible refine (cCs x n _ HN.out).mono ?_); rintro e wn ⟨rfl, hb⟩; have HBW2 := Lib.hid (HBW.out.trans (hb.mono HBW.out.size)); have HBN2 := Lib.hid (HBN.out.trans (hb.mono HBN.out.size)); clear hb HBW HBN; have HBW := HBW2; have HBN := HBN2; clear HBW2 HBN2))
      | (go_at_call 46; ((with_reducible refine (cKs t K _ HTS.out (HT.out.below HBW.out) HK.out).mono ?_); rintro e wn ⟨aks, cks, rfl, hos, hb⟩; have HOS := Lib.hid hos.inS; clear hos; have HBW2 := Lib.hid (HBW.out.trans (hb.mono HBW.out.size)); have HBN2 := Lib.hid (HBN.out.trans (hb.mono HBN.out.size)); clear hb HBW HBN; have HBW := HBW2; have HBN := HBN2; clear HBW2 HBN2))
      | (go_at_call 28; ((with_reducible refine (cE ak aks ck cks K _ (Nat.le_trans HKL.out (by unfold maxLen; omega)) (HKIN.out.below HBN.out) HOS.out).mono ?_); rintro e wn ⟨rfl, hb⟩; have HBW2 := Lib.hid (HBW.out.trans (hb.mono HBW.out.size)); have HBN2 := Lib.hid (HBN.out.trans (hb.mono HBN.out.size)); clear hb HBW HBN; have HBW := HBW2; have HBN := HBN2; clear HBW2 HBN2))
      | (go_at_call 47; ((with_reducible refine (cT ak ck K _ (HKSM.out.below HBN.out) HKT.out).mono ?_); rintro e wn ⟨rfl, hb⟩; have HBW2 := Lib.hid (HBW.out.trans (hb.mono HBW.out.size)); have HBN2 := Lib.hid (HBN.out.trans (hb.mono HBN.out.size)); clear hb HBW HBN; have HBW := HBW2; have HBN := HBN2; clear HBW2 HBN2))
      | (go_at_call 39; ((with_reducible refine (cA a a true _ HA.out HA.out HSELF.out).mono ?_); rintro e wn ⟨rfl, hb⟩; have HBW2 := Lib.hid (HBW.out.trans (hb.mono HBW.out.size)); have HBN2 := Lib.hid (HBN.out.trans (hb.mono HBN.out.size)); clear hb HBW HBN; have HBW := HBW2; have HBN := HBN2; clear HBW2 HBN2)))
    all_goals go_ret
    all_goals exact ⟨rfl, HBW.out⟩

set_option maxRecDepth 100000 in
theorem FnSounds_walk (a0 : Option Addr) (len0 cap0 : Nat) (z0 : List Int) (w : World) (w0 : IsRow .u8 w a0 len0 cap0 z0) (hT : SpT w) :
    Calls Tryd.prog 5 #[.slice a0 len0 cap0] w fun e w' => e = .returned (.bool true) ∧ Below w.heap.size w w' := by
  by_cases hbig : 1048576 < (len0 : Int)
  · have HBIG := Lib.hid hbig
    clear hbig w0 hT
    go_enter Tryd.func5, Tryd.ntmps5
    go_wp2_with (go_at_call 12; (refine (big_yes a0 len0 cap0 _ HBIG.out).mono ?_); rintro e w' ⟨rfl, rfl⟩)
    go_ret
    exact ⟨rfl, Below.refl _ _⟩
  · exact FnSounds_core a0 len0 cap0 w (codeAt_of w0 (by omega)) hT

end Go.Proofs.YtggohfinkpppkabDoor
