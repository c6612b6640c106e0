/-
  What impl.FormatRules answers: the texts of tests and rules, joined. By an AI agent.
-/
import Derived.Test.YtknkhljegmielaaDoorRuFS
import Derived.Test.YtknkhljegmielaaDoorRuT
import Derived.Test.YtknkhljegmielaaDoorStrT
import Derived.Test.YtknkhljegmielaaDoorUndrew
import Derived.Test.YtknkhljegmielaaDoorShelf
import Derived.Lib.Join
import Derived.Deep.RegionHeld3
namespace Go.Proofs.YtknkhljegmielaaDoor
open Go.RowKit
set_option linter.unusedVariables false

theorem joinG_at (s : ByteArray) (a : Option Addr) (c : Nat) (l : List Str) (J : ByteArray) (w : World) (hin : InS w a l) (hl : l.length ≤ 4000000) (hcap : l.length ≤ c) (h0 : 0 < l.length) (hj : strOf (Lib.join l s.data.toList) = J) (hlen : (Lib.join l s.data.toList).length ≤ 4000000) :
    Calls Tryd.prog 20 #[.slice a l.length c, .string s] w fun e w' => e = .returned (.string J) ∧ Below w.heap.size w w' := by
  obtain ⟨b, off, rfl, hb, hc⟩ := hin h0
  have e1 : (l.map fun x => (⟨x.toArray⟩ : ByteArray)).map (·.data.toList) = l := by
    rw [List.map_map]
    simp [Function.comp_def]
  have hlen2 : (l.map fun x => (⟨x.toArray⟩ : ByteArray)).length = l.length := by simp
  have hx := Tryd.strings_Join b off c (l.map fun x => ⟨x.toArray⟩) s w (fun j x hx => by
    rw [List.getElem?_map] at hx
    cases h2 : l[j]? with
    | none => rw [h2] at hx; cases hx
    | some y =>
      rw [h2] at hx
      simp at hx
      subst hx
      exact hc j y h2) hb (by rw [hlen2]; omega) (by rw [hlen2]; exact hcap) (by rw [e1]; omega)
  rw [hlen2] at hx
  refine hx.mono fun e w' ⟨he, hbl⟩ => ⟨?_, hbl⟩
  rw [he, e1, ← hj]
  rfl

set_option maxRecDepth 100000 in
set_option maxHeartbeats 1600000 in
theorem tt_impl (f t : Int) (u : Bool) (r : ByteArray) (w : World) (hv : vtB ((f, t), u) = true) (hr : strOf (tsL ((f, t), u)) = r) (ht : TabAt w) :
    Calls Tryd.prog 40 #[.agg #[.int .i64 f, .int .i64 t, .bool u]] w fun e w' => e = .returned (.string r) ∧ Below w.heap.size w w' := by
  obtain ⟨W1, hW1⟩ : ∃ W1, w.alloc (.cells #[.int .i64 f, .int .i64 t, .bool u] 43) = W1 := ⟨_, rfl⟩
  have HWB := Lib.hid (show Below w.heap.size w W1 by rw [← hW1]; exact (Below.refl _ _).alloc (Nat.le_refl _) _)
  have HT4 := Lib.hid (show BlkV W1 w.heap.size 43 #[.int .i64 f, .int .i64 t, .bool u] by rw [← hW1]; exact BlkV.new _ _ _)
  have HTAB := Lib.hid (ht.on HWB.out)
  have x0 := HT4.out.three0
  have x1 := HT4.out.three1
  have x2 := HT4.out.three2
  have hvt : (0 ≤ f ∧ f ≤ 5) ∧ 1 ≤ t ∧ t ≤ 1000 := vt_of hv
  obtain ⟨N, hN⟩ : ∃ N, fnR f = N := ⟨_, rfl⟩
  obtain ⟨S, hS⟩ : ∃ S, strOf (Lib.itoa t) = S := ⟨_, rfl⟩
  have hNs : N.size ≤ 6 := by rw [← hN]; exact fnR_size _
  have ht0 : -9223372036854775808 ≤ t := by omega
  have ht1 : t ≤ 9223372036854775807 := by omega
  have hSs : S.size ≤ 21 := by rw [← hS, strOf_size]; exact Lib.itoa_length_le t ht0 ht1
  have HNN := Lib.hid hN
  have HSS := Lib.hid hS
  have HTB := Lib.hid (And.intro ht0 ht1)
  have HR := Lib.hid (show (N ++ marR u) ++ S = r by rw [← hr]; exact ts_str (t := ((f, t), u)) hN hS)
  have z2 : ¬ 9223372036854775807 < N.size + 1 := by omega
  have z3 : ¬ 9223372036854775807 < N.size + 2 := by omega
  have z4 : ¬ 9223372036854775807 < N.size + 1 + S.size := by omega
  have z5 : ¬ 9223372036854775807 < N.size + 2 + S.size := by omega
  clear hv hr ht hvt ht0 ht1 hN hS
  cases u
  all_goals
    go_enter Tryd.func40, Tryd.ntmps40
    go_wp2_with (fail)
    go_region_held3 (fun w' => w'.cell? ⟨w.heap.size, 0, none⟩ = some (.int .i64 f) ∧ w'.cell? ⟨w.heap.size, 1, none⟩ = some (.int .i64 t))
      (first | exact ⟨y0, y1⟩ | exact ⟨x0, x1⟩)
      (first
        | (go_at_call 54; (with_reducible refine (fn_impl f N _ HNN.out).mono ?_); rintro e w2 ⟨rfl, rfl⟩)
        | (go_at_call 55; (with_reducible refine (impl_fi_at t S _ HTB.out.1 HTB.out.2 ?_ HSS.out).mono ?_); exact HTAB.out; rintro e w3 ⟨rfl, hb⟩; have hr := undrew hb; have y0 := (HT4.out.below hr).three0; have y1 := (HT4.out.below hr).three1; have HB3 := Lib.hid (HWB.out.trans (hr.mono HWB.out.size)); clear hb hr))
    all_goals
      go_wp2
      go_ret
      exact ⟨fret_s (by rw [← HR.out]; rfl), HB3.out⟩

/-- texts are made of the elements -/
def GivesX (w : World) (n : Nat) (P : List Str) (e : Ending) (w' : World) : Prop :=
  ∃ a cap, e = .returned (.slice a n cap) ∧ InS w' a P ∧ n ≤ cap ∧ Below w.heap.size w w'

set_option maxRecDepth 100000 in
set_option maxHeartbeats 2000000 in
theorem cvt_any (a : Option Addr) (c : Nat) (l : List TS) (P : List Str) (w : World) (h : SmTs w a l c) (hv : ∀ t ∈ l, vtB t = true) (hP : l.map tsL = P) (ht : TabAt w) :
    Calls Tryd.prog 39 #[.slice a l.length c, .func (.func 40) #[] #[]] w (GivesX w l.length P) := by
  obtain ⟨i0, hi, hz0, hz1, hz2⟩ := info_parts info_str
  have HIN := Lib.hid h.inTs
  have hl := h.len
  have HPL := Lib.hid (show P.length = l.length by rw [← hP]; simp)
  have HPA := Lib.hid (fun j t (hj : l[j]? = some t) => show P[j]? = some (tsL t) by rw [← hP, List.getElem?_map, hj]; rfl)
  have HV := Lib.hid hv
  have HTAB := Lib.hid ht
  clear h hv hP ht
  go_enter Tryd.func39, Tryd.ntmps39
  go_wp2_with (at_make; refine wpList_make_full _ rfl _ _ 47 rfl w.heap.size 9 i0 (.string ⟨#[]⟩) 1 Tryd.underlying47 hi hz0 hz1 .i64 .i64 _ _ l.length rfl rfl rfl rfl (by rw [hz2]; omega) (by unfold maxLen; omega) (Nat.le_refl _) ?_; intro w1 hrow hg)
  have HROW := Lib.hid hrow
  have HB1 := Lib.hid ((Below.refl w.heap.size w).grown hg (Nat.le_refl _) (fun k hk => by cases hk))
  have HLT := Lib.hid (World.ownsRow.lt hrow w.heap.size rfl).2
  clear hrow hg
  go_loopw [13] (fun i wr => ∃ k : Nat, k ≤ l.length ∧ i = .int .i64 k ∧ wr.ownsRow w.heap.size 9 1 (.slice (some ⟨w.heap.size, 0, none⟩) l.length l.length) l.length (fillV P k) ∧ Below w.heap.size w wr ∧ w.heap.size < wr.heap.size) (fun i _ => l.length - (intOf i).toNat)
  case atStart =>
    refine ⟨0, Nat.zero_le _, rfl, ?_, HB1.out, HLT.out⟩
    have h := HROW.out
    rw [Nat.mul_one, show (Value.string ⟨#[]⟩).cells = #[.string ⟨#[]⟩] from rfl, toList_madeCells_one] at h
    rw [fill_zero, HPL.out]
    exact h
  case round =>
    obtain ⟨k, hk, rfl, hrow, hb, hws⟩ := hrel
    by_cases hlt : k < l.length
    · obtain ⟨b, off, f, t, u, rfl, hbw, hx, c0, c1, c2⟩ := (HIN.out.below hb).at_ hlt
      have HROWK := Lib.hid hrow
      have HB := Lib.hid hb
      have HWS := Lib.hid hws
      have HVT := Lib.hid (HV.out _ (List.mem_of_getElem? hx))
      have HPX := Lib.hid (HPA.out k _ hx)
      obtain ⟨r, hr⟩ : ∃ r, strOf (tsL ((f, t), u)) = r := ⟨_, rfl⟩
      have HRR := Lib.hid hr
      have HA1 := Lib.hid ((Below.refl wr.heap.size wr).alloc (Nat.le_refl _) (.cells #[.int .i64 f, .int .i64 t, .bool u] 43))
      clear hx hrow hb hws hbw hr
      go_wp2_with (go_at_call 40; ((with_reducible refine (tt_impl f t u r _ HVT.out HRR.out ((HTAB.out.on HB.out).on HA1.out)).mono ?_); rintro e w2 ⟨rfl, hb2⟩; refine Hid.out ?_))
      refine Lib.hid ?_
      have hbb : Below wr.heap.size wr w2 := HA1.out.trans (hb2.mono HA1.out.size)
      have hrow2 := World.ownsRow.kept HROWK.out (row := none) ⟨hbb.os, hbb.tape, hbb.output, hbb.size, fun i hi _ => hbb.block i hi⟩ (by simp [Value.ownBlock])
      have q0 : w2.cell? ⟨w.heap.size, k, none⟩ = some (.string ⟨#[]⟩) := by rw [hrow2.cellAt k (by omega)]; exact fill_at (by rw [HPL.out]; exact hlt)
      have f0 := hrow2.frozenAt k
      have HN := Lib.hid (hrow2.stored k (.string r))
      have HBB := Lib.hid hbb
      clear hb2 hrow2 hbb
      go_wp2
      go_roundw
      case rel =>
        refine ⟨k + 1, by omega, by go_num, ?_, (HB.out.trans (HBB.out.mono HB.out.size)).grown HN.out.2 (Nat.le_trans HB.out.size HBB.out.size) (fun j hj => by cases hj; exact Nat.le_refl _), Nat.lt_of_lt_of_le HWS.out (Nat.le_trans HBB.out.size HN.out.2.size)⟩
        rw [← fill_set HPX.out]
        have h := HN.out.1
        rw [← HRR.out] at h ⊢
        exact h
      case measure => simp [intOf]; omega
    · obtain rfl : k = l.length := by omega
      have HROWK := Lib.hid (show OwnS wr w.heap.size (.slice (some ⟨w.heap.size, 0, none⟩) P.length P.length) P by
        have h := hrow
        rw [← HPL.out, fill_all] at h
        exact h)
      clear hrow
      go_wp2
      go_ret
      exact ⟨_, _, rfl, HROWK.out.inS, Nat.le_refl _, hb⟩

theorem joinX {n c : Nat} {a : Option Addr} {P : List Str} {J : ByteArray} {w : World} (s : ByteArray) (hin : InS w a P) (hn : P.length = n) (hl : P.length ≤ 4000000) (hcap : n ≤ c) (h0 : 0 < P.length) (hj : strOf (Lib.join P s.data.toList) = J) (hlen : (Lib.join P s.data.toList).length ≤ 4000000) :
    Calls Tryd.prog 20 #[.slice a n c, .string s] w fun e w' => e = .returned (.string J) ∧ Below w.heap.size w w' := by
  subst hn
  exact joinG_at s a c P J w hin hl hcap h0 hj hlen

set_option maxRecDepth 100000 in
theorem rt_impl (a : Option Addr) (c : Nat) (l : List TS) (r : ByteArray) (w : World) (h : SmTs w a l c) (hv : vrB l = true) (hr : strOf (ruL l) = r) (ht : TabAt w) :
    Calls Tryd.prog 22 #[.agg #[.slice a l.length c]] w fun e w' => e = .returned (.string r) ∧ Below w.heap.size w w' := by
  have HA1 := Lib.hid ((Below.refl w.heap.size w).alloc (Nat.le_refl _) (.cells #[.slice a l.length c] 41))
  obtain ⟨P, hP⟩ : ∃ P, l.map tsL = P := ⟨_, rfl⟩
  have HC := Lib.hid (fun (W : World) (hW : Below w.heap.size w W) => cvt_any a c l P W (h.below hW) (fun t ht => vr_test hv ht) hP (ht.on hW))
  have hPL : P.length = l.length := by rw [← hP]; simp
  have h13 := vr_len hv
  have HJ := Lib.hid (fun (W : World) (a' : Option Addr) (c' : Nat) (hin : InS W a' P) (hcap : l.length ≤ c') => joinX (J := r) (w := W) ⟨#[44]⟩ hin hPL (by omega) hcap (by omega) (by rw [← hr, ← hP]; rfl) (by have := ruL_len hv; unfold ruL at this; rw [← hP]; show (Lib.join _ [44]).length ≤ _; omega))
  clear h hv hP hr ht hPL h13
  go_enter Tryd.func22, Tryd.ntmps22
  go_wp2_with (first
    | (go_at_call 39; ((with_reducible refine (HC.out _ HA1.out).mono ?_); rintro e w2 ⟨a', c', rfl, hin, hcap, hb2⟩; have HIN := Lib.hid hin; have HCAP := Lib.hid hcap; have HB2 := Lib.hid (HA1.out.trans (hb2.mono HA1.out.size)); clear hin hcap hb2))
    | (go_at_call 20; ((with_reducible refine (HJ.out _ _ _ HIN.out HCAP.out).mono ?_); rintro e w3 ⟨rfl, hb3⟩; have HB3 := Lib.hid (HB2.out.trans (hb3.mono HB2.out.size)); clear hb3)))
  go_ret
  exact ⟨rfl, HB3.out⟩

set_option maxRecDepth 100000 in
set_option maxHeartbeats 2000000 in
theorem cvs_any (a : Option Addr) (c : Nat) (R : List (List TS)) (P : List Str) (w : World) (h : SmRu w a R c) (hv : ∀ l ∈ R, vrB l = true) (hP : R.map ruL = P) (ht : TabAt w) :
    Calls Tryd.prog 21 #[.slice a R.length c, .func (.func 22) #[] #[]] w (GivesX w R.length P) := by
  obtain ⟨i0, hi, hz0, hz1, hz2⟩ := info_parts info_str
  have HS := Lib.hid h
  have hl := h.len
  have HPL := Lib.hid (show P.length = R.length by rw [← hP]; simp)
  have HPA := Lib.hid (fun j l (hj : R[j]? = some l) => show P[j]? = some (ruL l) by rw [← hP, List.getElem?_map, hj]; rfl)
  have HV := Lib.hid hv
  have HTAB := Lib.hid ht
  clear h hv hP ht
  go_enter Tryd.func21, Tryd.ntmps21
  go_wp2_with (at_make; refine wpList_make_full _ rfl _ _ 47 rfl w.heap.size 9 i0 (.string ⟨#[]⟩) 1 Tryd.underlying47 hi hz0 hz1 .i64 .i64 _ _ R.length rfl rfl rfl rfl (by rw [hz2]; omega) (by unfold maxLen; omega) (Nat.le_refl _) ?_; intro w1 hrow hg)
  have HROW := Lib.hid hrow
  have HB1 := Lib.hid ((Below.refl w.heap.size w).grown hg (Nat.le_refl _) (fun k hk => by cases hk))
  have HLT := Lib.hid (World.ownsRow.lt hrow w.heap.size rfl).2
  clear hrow hg
  go_loopw [13] (fun i wr => ∃ k : Nat, k ≤ R.length ∧ i = .int .i64 k ∧ wr.ownsRow w.heap.size 9 1 (.slice (some ⟨w.heap.size, 0, none⟩) R.length R.length) R.length (fillV P k) ∧ Below w.heap.size w wr ∧ w.heap.size < wr.heap.size) (fun i _ => R.length - (intOf i).toNat)
  case atStart =>
    refine ⟨0, Nat.zero_le _, rfl, ?_, HB1.out, HLT.out⟩
    have h := HROW.out
    rw [Nat.mul_one, show (Value.string ⟨#[]⟩).cells = #[.string ⟨#[]⟩] from rfl, toList_madeCells_one] at h
    rw [fill_zero, HPL.out]
    exact h
  case round =>
    obtain ⟨k, hk, rfl, hrow, hb, hws⟩ := hrel
    by_cases hlt : k < R.length
    · obtain ⟨b, off, l, a', c', rfl, hbw, hx, c0, hsm⟩ := (HS.out.below hb).at_ hlt
      have HROWK := Lib.hid hrow
      have HB := Lib.hid hb
      have HWS := Lib.hid hws
      have HVT := Lib.hid (HV.out _ (List.mem_of_getElem? hx))
      have HPX := Lib.hid (HPA.out k _ hx)
      obtain ⟨r, hr⟩ : ∃ r, strOf (ruL l) = r := ⟨_, rfl⟩
      have HRR := Lib.hid hr
      have HSM := Lib.hid hsm
      have HA1 := Lib.hid ((Below.refl wr.heap.size wr).alloc (Nat.le_refl _) (.cells #[.slice a' l.length c'] 41))
      clear hx hrow hb hws hbw hr hsm
      go_wp2_with (go_at_call 22; ((with_reducible refine (rt_impl a' c' l r _ (HSM.out.below HA1.out) HVT.out HRR.out ((HTAB.out.on HB.out).on HA1.out)).mono ?_); rintro e w2 ⟨rfl, hb2⟩; refine Hid.out ?_))
      refine Lib.hid ?_
      have hbb : Below wr.heap.size wr w2 := HA1.out.trans (hb2.mono HA1.out.size)
      have hrow2 := World.ownsRow.kept HROWK.out (row := none) ⟨hbb.os, hbb.tape, hbb.output, hbb.size, fun i hi _ => hbb.block i hi⟩ (by simp [Value.ownBlock])
      have q0 : w2.cell? ⟨w.heap.size, k, none⟩ = some (.string ⟨#[]⟩) := by rw [hrow2.cellAt k (by omega)]; exact fill_at (by rw [HPL.out]; exact hlt)
      have f0 := hrow2.frozenAt k
      have HN := Lib.hid (hrow2.stored k (.string r))
      have HBB := Lib.hid hbb
      clear hb2 hrow2 hbb
      go_wp2
      go_roundw
      case rel =>
        refine ⟨k + 1, by omega, by go_num, ?_, (HB.out.trans (HBB.out.mono HB.out.size)).grown HN.out.2 (Nat.le_trans HB.out.size HBB.out.size) (fun j hj => by cases hj; exact Nat.le_refl _), Nat.lt_of_lt_of_le HWS.out (Nat.le_trans HBB.out.size HN.out.2.size)⟩
        rw [← fill_set HPX.out]
        have h := HN.out.1
        rw [← HRR.out] at h ⊢
        exact h
      case measure => simp [intOf]; omega
    · obtain rfl : k = R.length := by omega
      have HROWK := Lib.hid (show OwnS wr w.heap.size (.slice (some ⟨w.heap.size, 0, none⟩) P.length P.length) P by
        have h := hrow
        rw [← HPL.out, fill_all] at h
        exact h)
      clear hrow
      go_wp2
      go_ret
      exact ⟨_, _, rfl, HROWK.out.inS, Nat.le_refl _, hb⟩

set_option maxRecDepth 100000 in
set_option maxHeartbeats 1000000 in
theorem rf_impl (a : Option Addr) (c : Nat) (R : List (List TS)) (r : ByteArray) (w : World) (hr : rsR R = r) (h : SmRu w a R c) (ht : TabAt w) :
    Calls Tryd.prog 8 #[.agg #[.slice a R.length c]] w fun e w' => e = .returned (.string r) ∧ Below w.heap.size w w' := by
  obtain ⟨w1, hw1⟩ : ∃ w1, w.alloc (.cells #[.slice a R.length c] 29) = w1 := ⟨_, rfl⟩
  have HB1 := Lib.hid (show Below w.heap.size w w1 by rw [← hw1]; exact (Below.refl w.heap.size w).alloc (Nat.le_refl _) _)
  have HBX := Lib.hid (show BlkV w1 w.heap.size 29 #[.slice a R.length c] by rw [← hw1]; exact BlkV.new _ _ _)
  have q0 := HBX.out.one0
  obtain ⟨bv, hbv⟩ : ∃ b, vsB R = b := ⟨_, rfl⟩
  have HCV := Lib.hid (vs_impl a c R bv w1 hbv (h.below HB1.out))
  cases bv
  · obtain rfl : ⟨#[]⟩ = r := by rw [← hr, rsR_no hbv]
    clear hr h hbv
    go_enter Tryd.func8, Tryd.ntmps8
    go_wp2_with (go_at_call 19; ((with_reducible refine HCV.out.mono ?_); rintro e w2 ⟨rfl, hb2⟩; have HB2 := Lib.hid hb2; clear hb2))
    go_ret
    exact ⟨rfl, HB1.out.trans (HB2.out.mono HB1.out.size)⟩
  · obtain ⟨P, hP⟩ : ∃ P, R.map ruL = P := ⟨_, rfl⟩
    have HC := Lib.hid (fun (W : World) (hW : Below w1.heap.size w1 W) => cvs_any a c R P W ((h.below HB1.out).below hW) (fun t ht => vs_rule hbv ht) hP ((ht.on HB1.out).on hW))
    have hPL : P.length = R.length := by rw [← hP]; simp
    have h13 := vs_len hbv
    have HJ := Lib.hid (fun (W : World) (a' : Option Addr) (c' : Nat) (hin : InS W a' P) (hcap : R.length ≤ c') => joinX (J := r) (w := W) ⟨#[32, 111, 114, 32]⟩ hin hPL (by omega) hcap (by omega) (by rw [← hr, rsR_yes hbv, ← hP]; rfl) (by have := rsL_len hbv; unfold rsL at this; rw [← hP]; show (Lib.join _ orS).length ≤ _; omega))
    clear h hbv hP hr ht hPL h13
    go_enter Tryd.func8, Tryd.ntmps8
    go_wp2_with (first
      | (go_at_call 19; ((with_reducible refine HCV.out.mono ?_); rintro e w2 ⟨rfl, hb2⟩; have z0 := (HBX.out.below hb2).one0; have HB2 := Lib.hid hb2; clear hb2))
      | (go_at_call 21; ((with_reducible refine (HC.out _ HB2.out).mono ?_); rintro e w3 ⟨a', c', rfl, hin, hcap, hb3⟩; have HIN := Lib.hid hin; have HCAP := Lib.hid hcap; have HB3 := Lib.hid (HB2.out.trans (hb3.mono HB2.out.size)); clear hin hcap hb3))
      | (go_at_call 20; ((with_reducible refine (HJ.out _ _ _ HIN.out HCAP.out).mono ?_); rintro e w4 ⟨rfl, hb4⟩; have HB4 := Lib.hid (HB3.out.trans (hb4.mono HB3.out.size)); clear hb4)))
    go_ret
    exact ⟨rfl, HB1.out.trans (HB4.out.mono HB1.out.size)⟩

end Go.Proofs.YtknkhljegmielaaDoor
