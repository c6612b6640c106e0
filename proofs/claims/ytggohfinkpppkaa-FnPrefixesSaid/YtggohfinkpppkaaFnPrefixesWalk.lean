/-
  The walk of laws.FnPrefixes: it answers true for every slice of bytes, a nil one too. By an AI agent.
-/
import Derived.Test.YtggohfinkpppkaaPref
import Derived.Test.YtggohfinkpppkaaGTabDraw
namespace Go.Proofs.Ytggohfinkpppkaa
open Go.RowKit
set_option linter.unusedVariables false

theorem eqtok_same (a1 a2 : Option Addr) (c1 c2 : Nat) (l : List Str) (w : World) (hl : l.length ≤ maxLen) (h1 : InS w a1 l) (h2 : InS w a2 l) :
    Calls Try.prog 42 #[.slice a1 l.length c1, .slice a2 l.length c2] w fun e w' => e = .returned (.bool true) ∧ Below w.heap.size w w' :=
  (spec_eq a1 a2 c1 c2 l l w hl hl h1 h2).mono fun e w' h => by rwa [eqB_refl] at h
theorem sh_true {tab : List TC} {a b : List Str} {t : Int} (h : meetR a b t = true) (h0 : a.length + b.length ≠ 0) : shR tab a b t = true := by
  obtain ⟨z, h1, h2⟩ := share_one (tab := tab) h h0
  unfold shR
  refine decide_eq_true ?_
  have h3 : z ∈ commonR (ptR tab a t) (ptR tab b t) := (setL_mem _ _).2 (by simp [bothL, h1, h2])
  have := List.length_pos_of_mem h3
  omega

/-- what the answers have to do with one another -/
theorem pref_cases {tab : List TC} {l m pa q : List Str} {t lo hi n p : Int} {me is ta tb : Bool} (hl : l.length ≤ 7) (hm : m.length ≤ 7) (hpa : ptR tab l t = pa) (hq : commonR l m = q) (hme : meetR l m t = me) (his : shR tab l m t = is) (hta : tsB l = ta) (htb : tsB m = tb)
    (hlo : (if okS l.length && okT t then lbLo l.length t else -1) = lo) (hhi : (if okS l.length && okT t then lbHi l.length t else -1) = hi) (hn : (if goodR l.length m.length t then moR l.length m.length t else -1) = n) (hp : plR l.length t = p) :
    (ta = false ∧ me = false) ∨ (ta = true ∧ tb = false ∧ me = false) ∨ (ta = true ∧ tb = true ∧ t < 1 ∧ me = false) ∨ (ta = true ∧ tb = true ∧ 1 ≤ t ∧ 1000 < t ∧ me = false) ∨
    (ta = true ∧ tb = true ∧ 1 ≤ t ∧ t ≤ 1000 ∧ (pa.length : Int) = p ∧ me = false ∧ (q.length : Int) < n) ∨
    (ta = true ∧ tb = true ∧ 1 ≤ t ∧ t ≤ 1000 ∧ (pa.length : Int) = p ∧ me = true ∧ n ≤ (q.length : Int) ∧ lo ≤ (m.length : Int) ∧ (m.length : Int) ≤ hi ∧ ((l.length : Int) + (m.length : Int) = 0 ∨ (¬ (l.length : Int) + (m.length : Int) = 0 ∧ is = true))) := by
  have meno : meetR l m t = true → tsB l = true ∧ tsB m = true ∧ 1 ≤ t ∧ t ≤ 1000 := fun h => by
    obtain ⟨h1, h2, h3, _⟩ := meets_parts h
    exact ⟨h1, h2, okT_yes (good_parts h3).2.2⟩
  cases ta
  · exact .inl ⟨rfl, by cases me; rfl; exact absurd (meno hme).1 (by simp [hta])⟩
  cases tb
  · exact .inr (.inl ⟨rfl, rfl, by cases me; rfl; exact absurd (meno hme).2.1 (by simp [htb])⟩)
  by_cases t1 : t < 1
  · exact .inr (.inr (.inl ⟨rfl, rfl, t1, by cases me; rfl; have := (meno hme).2.2; omega⟩))
  by_cases t2 : 1000 < t
  · exact .inr (.inr (.inr (.inl ⟨rfl, rfl, by omega, t2, by cases me; rfl; have := (meno hme).2.2; omega⟩)))
  have gt : okT t = true := by simp [okT]; omega
  have ga : okS (l.length : Int) = true := by simp [okS]; omega
  have gb : okS (m.length : Int) = true := by simp [okS]; omega
  have oka : (okS l.length && okT t) = true := by rw [ga, gt]; rfl
  have hg : goodR l.length m.length t = true := by unfold goodR; rw [ga, gb, gt]; rfl
  have hpl : (pa.length : Int) = p := by rw [← hpa, ← hp]; exact pt_full hta oka
  have hcc : q.length = ccN l m := by rw [← hq]; exact common_count (tsB_asc hta)
  rw [if_pos hg] at hn
  rw [if_pos oka] at hlo hhi
  have hmo := meets_mo hta htb hg
  rw [hme, hn, ← hcc] at hmo
  cases me
  · refine .inr (.inr (.inr (.inr (.inl ⟨rfl, rfl, by omega, by omega, hpl, rfl, ?_⟩))))
    have := of_decide_eq_false hmo.symm
    omega
  · obtain ⟨_, _, k1, k2⟩ := meets_low hme
    rw [hlo] at k1
    rw [hhi] at k2
    refine .inr (.inr (.inr (.inr (.inr ⟨rfl, rfl, by omega, by omega, hpl, rfl, of_decide_eq_true hmo.symm, k1, k2, ?_⟩))))
    by_cases h0 : l.length + m.length = 0
    · exact .inl (by omega)
    · exact .inr ⟨by omega, by rw [← his]; exact sh_true hme h0⟩

set_option maxRecDepth 100000 in
set_option maxHeartbeats 4000000 in
theorem FnPrefixes_core (A : Option Addr) (len cap : Nat) (w : World) (hcode : CodeAt w w.heap.size A len) :
    Calls Try.prog 9 #[.slice A len cap] w fun e w' => e = .returned (.bool true) ∧ Below w.heap.size w w' := by
  have HCODE := Lib.hid hcode
  have hlen : (len : Int) ≤ 1048576 := by have := hcode.1; omega
  clear hcode
  go_enter Try.func9, Try.ntmps9
  go_wp2_with (go_at_call 39; (refine (big_no A len cap _ hlen).mono ?_); rintro e w0 ⟨rfl, rfl⟩; refine Hid.out ?_)
  refine Lib.hid ?_
  clear hlen
  go_wp2_with (go_at_call 47; ((with_reducible refine (drawShare_any A len cap _ HCODE.out).mono ?_); rintro e wd ⟨a1, a2, a3, c1, c2, c3, tab, l, m, t, rfl, h1, h2, h3, hl, hm, hbd⟩; refine Hid.out ?_))
  refine Lib.hid ?_
  have HBD := Lib.hid hbd
  clear hbd
  obtain ⟨pa, hpa⟩ : ∃ x, ptR tab l t = x := ⟨_, rfl⟩
  obtain ⟨q, hq⟩ : ∃ x, commonR l m = x := ⟨_, rfl⟩
  obtain ⟨me, hme⟩ : ∃ x, meetR l m t = x := ⟨_, rfl⟩
  obtain ⟨is, his⟩ : ∃ x, shR tab l m t = x := ⟨_, rfl⟩
  obtain ⟨ta, hta⟩ : ∃ x, tsB l = x := ⟨_, rfl⟩
  obtain ⟨tb, htb⟩ : ∃ x, tsB m = x := ⟨_, rfl⟩
  obtain ⟨lo, hlo⟩ : ∃ x, (if okS l.length && okT t then lbLo l.length t else -1) = x := ⟨_, rfl⟩
  obtain ⟨hi, hhi⟩ : ∃ x, (if okS l.length && okT t then lbHi l.length t else -1) = x := ⟨_, rfl⟩
  obtain ⟨n, hn⟩ : ∃ x, (if goodR l.length m.length t then moR l.length m.length t else -1) = x := ⟨_, rfl⟩
  obtain ⟨p, hp⟩ : ∃ x, plR l.length t = x := ⟨_, rfl⟩
  have hcase := pref_cases hl hm hpa hq hme his hta htb hlo hhi hn hp
  have hpl : pa.length ≤ maxLen := by have h := pt_len (tab := tab) (l := l) (t := t); rw [hpa] at h; unfold maxLen; omega
  have HPL := Lib.hid hpl
  have KSI := Lib.hid (fun (W : World) (hW : Below wd.heap.size wd W) => sh_impl a1 a2 a3 c1 c2 c3 tab l m t is W his (h1.below hW) (h2.below hW) (h3.below hW))
  have KSS := Lib.hid (fun (W : World) (hW : Below wd.heap.size wd W) => sh_spec a1 a2 a3 c1 c2 c3 tab l m t is W his (h1.below hW) (h2.below hW) (h3.below hW))
  have KPI := Lib.hid (fun (W : World) (hW : Below wd.heap.size wd W) => pt_impl a1 a2 c1 c2 tab l t pa W hpa (h1.below hW) (h2.below hW))
  have KPS := Lib.hid (fun (W : World) (hW : Below wd.heap.size wd W) => pt_spec a1 a2 c1 c2 tab l t pa W hpa (h1.below hW) (h2.below hW))
  have KMI := Lib.hid (fun (W : World) (hW : Below wd.heap.size wd W) => (meet_impl a2 a3 c2 c3 l m t W (h2.below hW) (h3.below hW)).mono fun e w' h => (show e = .returned (.bool me) ∧ Below W.heap.size W w' from by rw [← hme]; exact h))
  have KMS := Lib.hid (fun (W : World) (hW : Below wd.heap.size wd W) => (meet_spec a2 a3 c2 c3 l m t W (h2.below hW) (h3.below hW)).mono fun e w' h => (show e = .returned (.bool me) ∧ Below W.heap.size W w' from by rw [← hme]; exact h))
  have KLI := Lib.hid (fun (W : World) => lb_impl l.length t lo hi W hlo hhi)
  have KLS := Lib.hid (fun (W : World) => lb_spec l.length t lo hi W hlo hhi)
  have KOI := Lib.hid (fun (W : World) => mo_impl l.length m.length t n W hn)
  have KOS := Lib.hid (fun (W : World) => mo_spec l.length m.length t n W hn)
  have KQI := Lib.hid (fun (W : World) => pl_impl l.length t p W hp)
  have KQS := Lib.hid (fun (W : World) => pl_spec l.length t p W hp)
  have KTA := Lib.hid (fun (W : World) (hW : Below wd.heap.size wd W) => (tset_spec a2 c2 l W (h2.below hW)).mono fun e w' h => (show e = .returned (.bool ta) ∧ Below W.heap.size W w' from by rw [← hta]; exact h))
  have KTB := Lib.hid (fun (W : World) (hW : Below wd.heap.size wd W) => (tset_spec a3 c3 m W (h3.below hW)).mono fun e w' h => (show e = .returned (.bool tb) ∧ Below W.heap.size W w' from by rw [← htb]; exact h))
  have KC := Lib.hid (fun (W : World) (hW : Below wd.heap.size wd W) => (common_spec a2 a3 c2 c3 l m W (h2.below hW) (h3.below hW)).mono fun e w' h => (show GivesS W q e w' from by rw [← hq]; exact h))
  have HBW := Lib.hid (Below.refl wd.heap.size wd)
  clear hpa hq hme his hta htb hlo hhi hn hp h1 h2 h3 hpl
  rcases hcase with ⟨rfl, rfl⟩ | ⟨rfl, rfl, rfl⟩ | ⟨rfl, rfl, t1, rfl⟩ | ⟨rfl, rfl, t1, t2, rfl⟩ | ⟨rfl, rfl, t1, t2, rfl, rfl, e1⟩ | ⟨rfl, rfl, t1, t2, rfl, rfl, e1, e2, e3, e4 | ⟨e4, rfl⟩⟩
  all_goals
    go_wp2_with (first
      | (go_at_call 48; ((with_reducible refine (KSI.out _ HBW.out).mono ?_); rintro e wn ⟨rfl, hb⟩; have HBW2 := Lib.hid (HBW.out.trans (hb.mono HBW.out.size)); clear hb HBW; have HBW := HBW2; clear HBW2))
      | (go_at_call 49; ((with_reducible refine (KSS.out _ HBW.out).mono ?_); rintro e wn ⟨rfl, hb⟩; have HBW2 := Lib.hid (HBW.out.trans (hb.mono HBW.out.size)); clear hb HBW; have HBW := HBW2; clear HBW2))
      | (go_at_call 50; ((with_reducible refine (KPI.out _ HBW.out).mono ?_); rintro e wn ⟨ai, ci, rfl, ho, hb⟩; have HOI := Lib.hid ho.inS; have HBW2 := Lib.hid (HBW.out.trans (hb.mono HBW.out.size)); clear ho hb HBW; have HBW := HBW2; clear HBW2))
      | (go_at_call 51; ((with_reducible refine (KPS.out _ HBW.out).mono ?_); rintro e wn ⟨aj, cj, rfl, ho, hb⟩; have HOS := Lib.hid ho.inS; have HOI2 := Lib.hid (HOI.out.below hb); have HBW2 := Lib.hid (HBW.out.trans (hb.mono HBW.out.size)); clear ho hb HBW; have HBW := HBW2; clear HBW2))
      | (go_at_call 42; ((with_reducible refine (eqtok_same _ _ _ _ pa _ HPL.out HOI2.out HOS.out).mono ?_); rintro e wn ⟨rfl, hb⟩; have HBW2 := Lib.hid (HBW.out.trans (hb.mono HBW.out.size)); clear hb HBW HOI2 HOS; have HBW := HBW2; clear HBW2))
      | (go_at_call 52; ((with_reducible refine (KMI.out _ HBW.out).mono ?_); rintro e wn ⟨rfl, hb⟩; have HBW2 := Lib.hid (HBW.out.trans (hb.mono HBW.out.size)); clear hb HBW; have HBW := HBW2; clear HBW2))
      | (go_at_call 53; ((with_reducible refine (KMS.out _ HBW.out).mono ?_); rintro e wn ⟨rfl, hb⟩; have HBW2 := Lib.hid (HBW.out.trans (hb.mono HBW.out.size)); clear hb HBW; have HBW := HBW2; clear HBW2))
      | (go_at_call 54; ((with_reducible refine (KLI.out _).mono ?_); rintro e wn ⟨rfl, hb⟩; have HBW2 := Lib.hid (HBW.out.trans (hb.mono HBW.out.size)); clear hb HBW; have HBW := HBW2; clear HBW2))
      | (go_at_call 55; ((with_reducible refine (KLS.out _).mono ?_); rintro e wn ⟨rfl, hb⟩; have HBW2 := Lib.hid (HBW.out.trans (hb.mono HBW.out.size)); clear hb HBW; have HBW := HBW2; clear HBW2))
      | (go_at_call 56; ((with_reducible refine (KOI.out _).mono ?_); rintro e wn ⟨rfl, rfl⟩))
      | (go_at_call 57; ((with_reducible refine (KOS.out _).mono ?_); rintro e wn ⟨rfl, rfl⟩))
      | (go_at_call 58; ((with_reducible refine (KQI.out _).mono ?_); rintro e wn ⟨rfl, hb⟩; have HBW2 := Lib.hid (HBW.out.trans (hb.mono HBW.out.size)); clear hb HBW; have HBW := HBW2; clear HBW2))
      | (go_at_call 59; ((with_reducible refine (KQS.out _).mono ?_); rintro e wn ⟨rfl, hb⟩; have HBW2 := Lib.hid (HBW.out.trans (hb.mono HBW.out.size)); clear hb HBW; have HBW := HBW2; clear HBW2))
      | (go_at_call 60; ((with_reducible first | refine (KTA.out _ HBW.out).mono ?_ | refine (KTB.out _ HBW.out).mono ?_); rintro e wn ⟨rfl, hb⟩; have HBW2 := Lib.hid (HBW.out.trans (hb.mono HBW.out.size)); clear hb HBW; have HBW := HBW2; clear HBW2))
      | (go_at_call 61; ((with_reducible refine (KC.out _ HBW.out).mono ?_); rintro e wn ⟨ac, cc, rfl, ho, hb⟩; have HBW2 := Lib.hid (HBW.out.trans (hb.mono HBW.out.size)); clear ho hb HBW; have HBW := HBW2; clear HBW2)))
    go_ret
    exact ⟨by first | rfl | simp, HBD.out.trans (HBW.out.mono HBD.out.size)⟩

set_option maxRecDepth 100000 in
set_option maxHeartbeats 1000000 in
theorem FnPrefixes_walk (A : Option Addr) (len cap : Nat) (zs : List Int) (w : World) (h : IsRow .u8 w A len cap zs) :
    Calls Try.prog 9 #[.slice A len cap] w fun e w' => e = .returned (.bool true) ∧ Below w.heap.size w w' := by
  by_cases hl : 1048576 < (len : Int)
  · go_enter Try.func9, Try.ntmps9
    go_wp2_with (go_at_call 39; (refine (big_yes A len cap _ hl).mono ?_); rintro e w0 ⟨rfl, rfl⟩)
    go_ret
    exact ⟨rfl, Below.refl _ _⟩
  · exact FnPrefixes_core A len cap w (codeAt_of h (by omega))

end Go.Proofs.Ytggohfinkpppkaa
