/-
  What impl.soundBlockKeys, phoneBlockKeys, yearBlockKeys answer; slices.Concat of three. By an AI agent.
-/
import Derived.Test.YtebddnjccmaimaaGreatDoorBkR
import Derived.Test.YtebddnjccmaimaaGreatDoorGSet
import Derived.Deep.RegionHeld3
import Derived.Deep.RegionWith
namespace Go.Proofs.YtebddnjccmaimaaGreatDoor
open Go.RowKit Go.Maps
set_option linter.unusedVariables false

set_option maxRecDepth 100000 in
set_option maxHeartbeats 1600000 in
theorem concat_three (g : Nat) (a0 a1 a2 : Option Addr) (c0 c1 c2 : Nat) (l0 l1 l2 : List Str) (w : World) (h0 : Sm w a0 l0 c0) (h1 : Sm w a1 l1 c1) (h2 : Sm w a2 l2 c2) (hs : l0.length + l1.length + l2.length ≤ 4000000) (hc0 : w.cell? ⟨g, 0, none⟩ = some (.slice a0 l0.length c0)) (hc1 : w.cell? ⟨g, 1, none⟩ = some (.slice a1 l1.length c1)) (hc2 : w.cell? ⟨g, 2, none⟩ = some (.slice a2 l2.length c2)) :
    Calls Tryz.prog 54 #[.slice (some ⟨g, 0, none⟩) 3 3] w (GivesS w (l0 ++ l1 ++ l2)) := by
  obtain ⟨hin0, hn0, -, hl0, -⟩ := h0
  obtain ⟨hin1, hn1, -, hl1, -⟩ := h1
  obtain ⟨hin2, hn2, -, hl2, -⟩ := h2
  have H0 := Lib.hid hin0
  have H1 := Lib.hid hin1
  have H2 := Lib.hid hin2
  have N0 := Lib.hid hn0
  have N1 := Lib.hid hn1
  have N2 := Lib.hid hn2
  have hg := World.block_lt_of_cell? w _ hc0
  have C0 := Lib.hid hc0
  have C1 := Lib.hid hc1
  have C2 := Lib.hid hc2
  clear hin0 hin1 hn0 hn1 hin2 hn2
  go_enter Tryz.func54, Tryz.ntmps54
  go_wp2
  go_loop [3, 11] (fun s i => (i = .int .i64 (0 : Nat) ∧ s = .int .i64 (0 : Nat)) ∨ (i = .int .i64 (1 : Nat) ∧ s = .int .i64 l0.length) ∨ (i = .int .i64 (2 : Nat) ∧ s = .int .i64 ((l0.length + l1.length : Nat) : Int)) ∨ (i = .int .i64 (3 : Nat) ∧ s = .int .i64 ((l0.length + l1.length + l2.length : Nat) : Int))) (fun _ i => 3 - (intOf i).toNat)
  case atStart => exact .inl ⟨rfl, rfl⟩
  case round =>
    rcases hrel with ⟨rfl, rfl⟩ | ⟨rfl, rfl⟩ | ⟨rfl, rfl⟩ | ⟨rfl, rfl⟩
    · go_wp2
      go_round
      case rel => exact .inr (.inl ⟨by go_num, by go_num⟩)
      case measure => simp [intOf]
    · go_wp2
      go_round
      case rel => exact .inr (.inr (.inl ⟨by go_num, by go_num⟩))
      case measure => simp [intOf]
    · go_wp2
      go_round
      case rel => exact .inr (.inr (.inr ⟨by go_num, by go_num⟩))
      case measure => simp [intOf]
    · clear hc0 hc1 hc2
      go_wp2_with (go_at_call 90; (refine (grow_nil (l0.length + l1.length + l2.length) _ (by omega)).mono ?_); rintro e w1 ⟨ag, cg, rfl, ho1, hb1⟩; have HO1 := Lib.hid ho1; have HB1 := Lib.hid hb1; clear ho1 hb1)
      go_loopw [6, 27] (fun v i wr => ∃ (a : Option Addr) (c : Nat) (r : List Str), v = .slice a r.length c ∧ OwnS wr w.heap.size (.slice a r.length c) r ∧ Below w.heap.size w wr ∧ ((i = .int .i64 (0 : Nat) ∧ r = []) ∨ (i = .int .i64 (1 : Nat) ∧ r = l0) ∨ (i = .int .i64 (2 : Nat) ∧ r = l0 ++ l1) ∨ (i = .int .i64 (3 : Nat) ∧ r = l0 ++ l1 ++ l2))) (fun _ i _ => 3 - (intOf i).toNat)
      case atStart => exact ⟨ag, cg, [], rfl, HO1.out, HB1.out, .inl ⟨rfl, rfl⟩⟩
      case round =>
        obtain ⟨a, c, r, rfl, hown, hb, hrel⟩ := hrel
        have HOWN := Lib.hid hown
        have HB := Lib.hid hb
        have hcell0 : wr.cell? ⟨g, 0, none⟩ = some (.slice a0 l0.length c0) := by rw [HB.out.cell (p := ⟨g, 0, none⟩) hg]; exact C0.out
        have hcell1 : wr.cell? ⟨g, 1, none⟩ = some (.slice a1 l1.length c1) := by rw [HB.out.cell (p := ⟨g, 1, none⟩) hg]; exact C1.out
        have hcell2 : wr.cell? ⟨g, 2, none⟩ = some (.slice a2 l2.length c2) := by rw [HB.out.cell (p := ⟨g, 2, none⟩) hg]; exact C2.out
        clear hown hb
        rcases hrel with ⟨rfl, hr⟩ | ⟨rfl, hr⟩ | ⟨rfl, hr⟩ | ⟨rfl, hr⟩
        · have HR := Lib.hid hr
          obtain ⟨v', w2, hrun, ho, hgr⟩ := run_app 31 w.heap.size (.slice a r.length c) r wr HOWN.out a0 c0 l0 (H0.out.below HB.out) N0.out (by rw [hr]; simp; omega) HB.out.size
          obtain ⟨a', c', rfl⟩ := ho.shape
          have HRUN := Lib.hid hrun
          have HO := Lib.hid ho
          have HG := Lib.hid (HB.out.grown hgr HB.out.size (fun k hk => (World.ownsRow.lt HOWN.out k hk).1))
          clear hrun ho hgr hr
          go_wp2_with (at_builtin; refine Lib.wpList_append_run _ rfl _ _ _ _ rfl _ _ rfl rfl _ _ HRUN.out ?_)
          go_roundw
          case rel => exact ⟨a', c', r ++ l0, by simp, HO.out, HG.out, .inr (.inl ⟨by go_num, by rw [HR.out]; rfl⟩)⟩
          case measure => simp [intOf]
        · have HR := Lib.hid hr
          obtain ⟨v', w2, hrun, ho, hgr⟩ := run_app 31 w.heap.size (.slice a r.length c) r wr HOWN.out a1 c1 l1 (H1.out.below HB.out) N1.out (by rw [hr]; omega) HB.out.size
          obtain ⟨a', c', rfl⟩ := ho.shape
          have HRUN := Lib.hid hrun
          have HO := Lib.hid ho
          have HG := Lib.hid (HB.out.grown hgr HB.out.size (fun k hk => (World.ownsRow.lt HOWN.out k hk).1))
          clear hrun ho hgr hr
          go_wp2_with (at_builtin; refine Lib.wpList_append_run _ rfl _ _ _ _ rfl _ _ rfl rfl _ _ HRUN.out ?_)
          go_roundw
          case rel => exact ⟨a', c', r ++ l1, by simp, HO.out, HG.out, .inr (.inr (.inl ⟨by go_num, by rw [HR.out]⟩))⟩
          case measure => simp [intOf]
        · have HR := Lib.hid hr
          obtain ⟨v', w2, hrun, ho, hgr⟩ := run_app 31 w.heap.size (.slice a r.length c) r wr HOWN.out a2 c2 l2 (H2.out.below HB.out) N2.out (by rw [hr, List.length_append]; omega) HB.out.size
          obtain ⟨a', c', rfl⟩ := ho.shape
          have HRUN := Lib.hid hrun
          have HO := Lib.hid ho
          have HG := Lib.hid (HB.out.grown hgr HB.out.size (fun k hk => (World.ownsRow.lt HOWN.out k hk).1))
          clear hrun ho hgr hr
          go_wp2_with (at_builtin; refine Lib.wpList_append_run _ rfl _ _ _ _ rfl _ _ rfl rfl _ _ HRUN.out ?_)
          go_roundw
          case rel => exact ⟨a', c', r ++ l2, by simp, HO.out, HG.out, .inr (.inr (.inr ⟨by go_num, by rw [HR.out]⟩))⟩
          case measure => simp [intOf]
        · have HR := Lib.hid hr
          clear hr
          go_wp2
          go_ret
          rw [← HR.out]
          exact ⟨a, c, rfl, HOWN.out, HB.out⟩

theorem enc_cons {b : UInt8} {x : Str} {u : ByteArray} (h : u.data.toList = x) : Value.string ((⟨#[b]⟩ : ByteArray) ++ u) = encStr (b :: x) := by
  unfold encStr
  congr 1
  refine ByteArray.ext (Array.toList_inj.1 ?_)
  rw [cons_list, h]
theorem enc_of {x : Str} {u : ByteArray} (h : u.data.toList = x) : Value.string u = encStr x := by
  unfold encStr
  congr 1
  refine ByteArray.ext (Array.toList_inj.1 ?_)
  rw [h]

/-- the first k strings are turned -/
def turnV (f : Str → Str) (l : List Str) (k : Nat) : List Value := ((l.take k).map f).map encStr ++ (l.drop k).map encStr
theorem turnV_zero (f : Str → Str) (l : List Str) : turnV f l 0 = l.map encStr := by simp [turnV]
theorem turnV_all (f : Str → Str) (l : List Str) : turnV f l l.length = (l.map f).map encStr := by simp [turnV]
theorem turnV_at {f : Str → Str} {l : List Str} {k : Nat} {x : Str} (h : l[k]? = some x) : (turnV f l k)[k]? = some (encStr x) := by
  have hlt := (List.getElem?_eq_some_iff.1 h).1
  have hl : (((l.take k).map f).map encStr).length = k := by simp; omega
  unfold turnV
  rw [List.getElem?_append_right (by omega), hl, Nat.sub_self, List.getElem?_map, List.getElem?_drop, Nat.add_zero, h]
  rfl
theorem turnV_set {f : Str → Str} {l : List Str} {k : Nat} {x : Str} (h : l[k]? = some x) : (turnV f l k).set k (encStr (f x)) = turnV f l (k + 1) := by
  obtain ⟨hlt, he⟩ := List.getElem?_eq_some_iff.1 h
  have hl : (((l.take k).map f).map encStr).length = k := by simp; omega
  unfold turnV
  rw [List.set_append_right _ _ (by omega), hl, Nat.sub_self, List.drop_eq_getElem_cons hlt, List.map_cons, List.set_cons_zero, take_snoc' h]
  simp

set_option maxRecDepth 100000 in
set_option maxHeartbeats 1000000 in
theorem sk_impl (s : ByteArray) (w : World) (hs : s.size ≤ 1000) (hT : SpT w) :
    Calls Tryz.prog 55 #[.string s] w (GivesS w (sKeys s.data.toList)) := by
  obtain ⟨L, hL⟩ : ∃ L, soundR s.data.toList = L := ⟨_, rfl⟩
  have XS := Lib.hid (show Calls Tryz.prog 91 #[.string s] w (GivesS w L) by rw [← hL]; exact sound_impl s w (by omega) hT)
  have SX := Lib.hid (show ∀ x ∈ L, x.length ≤ 1048576 by rw [← hL]; exact (keys_small s hs).2)
  have hLl : L.length ≤ 4000000 := by rw [← hL]; exact (keys_small s hs).1
  have HRES := Lib.hid (show sKeys s.data.toList = L.map fun t => 115 :: t by unfold sKeys; rw [hL])
  clear hL hs hT
  obtain ⟨R, hR⟩ : ∃ R, sKeys s.data.toList = R := ⟨_, rfl⟩
  have HRR := Lib.hid (show (L.map fun t => 115 :: t) = R by rw [← hR, HRES.out])
  rw [hR]
  clear hR
  go_enter Tryz.func55, Tryz.ntmps55
  go_wp2_with (go_at_call 91; ((with_reducible refine (XS.out).mono ?_); rintro e w1 ⟨a, c, rfl, ho, hb⟩; refine Hid.out ?_))
  have B1 := Lib.hid hb
  have O1 := Lib.hid ho
  clear hb ho
  refine Lib.hid ?_
  go_wp2
  go_loopw [10] (fun i wr => ∃ k : Nat, k ≤ L.length ∧ i = .int .i64 k ∧ wr.ownsRow w.heap.size 9 1 (.slice a L.length c) L.length (turnV (fun t => 115 :: t) L k) ∧ Below w.heap.size w wr) (fun i _ => L.length - (intOf i).toNat)
  case atStart => exact ⟨0, Nat.zero_le _, rfl, by rw [turnV_zero]; exact O1.out, B1.out⟩
  case round =>
    obtain ⟨k, hk, rfl, hrow, hb⟩ := hrel
    have HB := Lib.hid hb
    clear hb
    by_cases hlt : k < L.length
    · obtain ⟨g, rfl, hbg, hgl, -⟩ := rowX_at hrow (by omega)
      obtain ⟨x, u, hx1, hx2, hx3, hx4⟩ := str_at hlt
      have hcell : wr.cell? ⟨g, k, none⟩ = some (.string u) := by rw [hrow.cellAt k (by omega), turnV_at hx1, hx3]
      have hfz : wr.frozen? ⟨g, k, none⟩ = false := hrow.frozenAt k
      have huz : u.size ≤ 1048576 := by rw [hx4]; exact SX.out x (List.mem_of_getElem? hx1)
      have hcat : ¬ (9223372036854775807 < 1 + u.size) := by omega
      have HN := Lib.hid (hrow.stored k (.string ((⟨#[115]⟩ : ByteArray) ++ u)))
      have HX1 := Lib.hid hx1
      have HX2 := Lib.hid hx2
      have HBG := Lib.hid hbg
      clear hrow hbg hgl hx1 hx2 hx3 hx4
      go_wp2
      go_roundw
      case rel =>
        refine ⟨k + 1, by omega, by go_num, ?_, HB.out.grown HN.out.2 HB.out.size (fun j hj => by cases hj; exact HBG.out)⟩
        rw [← turnV_set HX1.out, show encStr ((fun t : Str => 115 :: t) x) = .string ((⟨#[115]⟩ : ByteArray) ++ u) from (enc_cons HX2.out).symm]
        exact HN.out.1
      case measure => simp [intOf]; omega
    · obtain rfl : k = L.length := by omega
      have HROW := Lib.hid hrow
      clear hrow
      go_wp2
      go_ret
      have h := HROW.out
      rw [turnV_all, HRR.out] at h
      have e : L.length = R.length := by rw [← HRR.out, List.length_map]
      rw [e] at h ⊢
      exact ⟨a, c, rfl, h, HB.out⟩

theorem own_one (w : World) (u : ByteArray) (x : Str) (h : u.data.toList = x) : OwnS (w.alloc (.cells #[.string u] 9)) w.heap.size (.slice (some ⟨w.heap.size, 0, none⟩) 1 1) [x] := by
  have h1 := own_all w [x] (by unfold maxLen; simp)
  have e := enc_of h
  unfold encStr at e
  simpa [e] using h1

set_option maxRecDepth 100000 in
set_option maxHeartbeats 1000000 in
theorem pk_impl (s : ByteArray) (w : World) (hs : s.size ≤ 1000) :
    Calls Tryz.prog 56 #[.string s] w (GivesS w (pKeys s.data.toList)) := by
  obtain ⟨D, hD⟩ : ∃ x, nstr (digL s.data.toList) = x := ⟨_, rfl⟩
  have hDl : D.data.toList = digL s.data.toList := by rw [← hD, nstr_list]
  have hDz : (digL s.data.toList).length = D.size := by rw [← hDl]; simp
  have hD40 : D.size ≤ 1000 := by have := digL_length s.data.toList; have : s.data.toList.length = s.size := by simp
                                  omega
  have XD := Lib.hid (show Calls Tryz.prog 92 #[.string s] w (fun e w' => e = .returned (.string D) ∧ Below w.heap.size w w') by rw [← hD]; exact impl_dg s w (by omega))
  obtain ⟨P, hP⟩ : ∃ x, pKeys s.data.toList = x := ⟨_, rfl⟩
  rw [hP]
  by_cases h4 : 4 ≤ D.size
  · obtain ⟨f, hf⟩ : ∃ f, D.size = f + 4 := ⟨D.size - 4, by omega⟩
    have HP := Lib.hid (show [112 :: D.data.toList.drop f] = P by rw [← hP]; unfold pKeys; rw [hDz, if_pos h4, hDl]; congr 3; omega)
    have hf1 : (D.size : Int) - 4 = (f : Int) := by omega
    have hf2 : f ≤ D.size := by omega
    have hf3 : ¬ (9223372036854775807 < 1 + (D.size - f)) := by omega
    have hd4' : ¬ (D.size : Int) < 4 := by omega
    have HC := Lib.hid (show ((⟨#[112]⟩ : ByteArray) ++ D.extract f D.size).data.toList = 112 :: D.data.toList.drop f by rw [cons_list, ext_tail'])
    clear hD hDl hDz hP hf
    go_enter Tryz.func56, Tryz.ntmps56
    go_wp2_with (go_at_call 92; ((with_reducible refine (XD.out).mono ?_); rintro e w1 ⟨rfl, hb⟩; have B1 := Lib.hid hb; clear hb))
    go_ret
    rw [← HP.out]
    exact ⟨_, _, rfl, (own_one w1 _ _ HC.out).mono B1.out.size, B1.out.alloc B1.out.size _⟩
  · have HP := Lib.hid (show [] = P by rw [← hP]; unfold pKeys; rw [hDz, if_neg h4])
    have hd4' : (D.size : Int) < 4 := by omega
    clear hD hDl hDz hP
    go_enter Tryz.func56, Tryz.ntmps56
    go_wp2_with (go_at_call 92; ((with_reducible refine (XD.out).mono ?_); rintro e w1 ⟨rfl, hb⟩; have B1 := Lib.hid hb; clear hb))
    go_ret
    rw [← HP.out]
    exact ⟨none, 0, rfl, OwnS.nil _ _, B1.out⟩

set_option maxRecDepth 100000 in
set_option maxHeartbeats 1600000 in
theorem yk_impl (s t : ByteArray) (w : World) (hs : s.size ≤ 1000) (ht : t.size ≤ 1000) (hT : SpT w) (hA : TabAt w) :
    Calls Tryz.prog 57 #[.string s, .string t] w (GivesS w (yKeys s.data.toList t.data.toList)) := by
  obtain ⟨L, hL⟩ : ∃ L, tokensR t.data.toList = L := ⟨_, rfl⟩
  obtain ⟨y, hy⟩ : ∃ y, yrR s.data.toList = y := ⟨_, rfl⟩
  have hLl : L.length ≤ 4000000 := by rw [← hL]; exact (toks_small t ht).1
  have LX := Lib.hid (show ∀ x ∈ L, x ≠ [] ∧ x.length ≤ 1048576 by rw [← hL]; exact fun x hx => ⟨tok_full _ x hx, (toks_small t ht).2 x hx⟩)
  have hyr : 0 ≤ y ∧ y ≤ 9999 := by
    rw [← hy]
    exact ⟨by rcases yr_pos s.data.toList with h | h <;> omega, yr_top _⟩
  obtain ⟨hy0, hy1⟩ := hyr
  have XY := Lib.hid (yr_impl s y w (by omega) hA hy)
  have XT := Lib.hid (fun u (h : SpT u) => show Calls Tryz.prog 94 #[.string t] u (GivesS u L) by rw [← hL]; exact tokens_impl t u (by omega) h)
  obtain ⟨R, hR⟩ : ∃ R, yKeys s.data.toList t.data.toList = R := ⟨_, rfl⟩
  have HRR := Lib.hid (show (if y = 0 then [] else L.map (yKey y)) = R by rw [← hR]; unfold yKeys; rw [hy, hL])
  have HS := Lib.hid hT
  have HA := Lib.hid hA
  obtain ⟨TT, hTT⟩ : ∃ x, strOf (Lib.itoa y) = x := ⟨_, rfl⟩
  have hTz : TT.size ≤ 21 := by rw [← hTT, strOf_size]; exact Lib.itoa_length_le y (by omega) (by omega)
  have HTT := Lib.hid hTT
  rw [hR]
  clear hL hy hR hs ht hT hA hTT
  by_cases hz : y = 0
  · have HR0 := Lib.hid (show R = [] by rw [← HRR.out, if_pos hz])
    subst hz
    go_enter Tryz.func57, Tryz.ntmps57
    go_wp2_with (go_at_call 93; ((with_reducible refine (XY.out).mono ?_); rintro e w1 ⟨rfl, hb⟩; have B1 := Lib.hid hb; clear hb))
    go_ret
    rw [HR0.out]
    exact ⟨none, 0, rfl, OwnS.nil _ _, B1.out⟩
  · have HR0 := Lib.hid (show L.map (yKey y) = R by rw [← HRR.out, if_neg hz])
    have hz1 : (y == 0) = false := by simpa using hz
    clear hz
    go_enter Tryz.func57, Tryz.ntmps57
    go_wp2_with (first
      | (go_at_call 93; ((with_reducible refine (XY.out).mono ?_); rintro e w1 ⟨rfl, hb⟩; have B1 := Lib.hid hb; clear hb))
      | (go_at_call 94; ((with_reducible refine (XT.out _ (HS.out.below B1.out)).mono ?_); rintro e w2 ⟨a, c, rfl, ho, hb⟩; have B2 := Lib.hid (B1.out.trans (hb.mono B1.out.size)); have O2 := Lib.hid (ho.mono B1.out.size); clear hb ho)))
    go_loopw [17] (fun i wr => ∃ k : Nat, k ≤ L.length ∧ i = .int .i64 k ∧ wr.ownsRow w.heap.size 9 1 (.slice a L.length c) L.length (turnV (yKey y) L k) ∧ Below w.heap.size w wr) (fun i _ => L.length - (intOf i).toNat)
    case atStart => exact ⟨0, Nat.zero_le _, rfl, by rw [turnV_zero]; exact O2.out, B2.out⟩
    case round =>
      obtain ⟨k, hk, rfl, hrow, hb⟩ := hrel
      have HB := Lib.hid hb
      clear hb
      by_cases hlt : k < L.length
      · obtain ⟨g, rfl, hbg, hgl, -⟩ := rowX_at hrow (by omega)
        obtain ⟨x, u, hx1, hx2, hx3, hx4⟩ := str_at hlt
        have hcell : wr.cell? ⟨g, k, none⟩ = some (.string u) := by rw [hrow.cellAt k (by omega), turnV_at hx1, hx3]
        have hfz : wr.frozen? ⟨g, k, none⟩ = false := hrow.frozenAt k
        obtain ⟨hx5, hx6⟩ := LX.out x (List.mem_of_getElem? hx1)
        have huz : u.size ≤ 1048576 := by rw [hx4]; exact hx6
        have hu1 : 1 ≤ u.size := by rw [hx4]; exact List.length_pos_iff.2 hx5
        have hu2 : (1 : Int) ≤ (u.size : Int) := by omega
        have hes : (u.extract 0 1).size = 1 := by rw [ByteArray.size_extract]; omega
        have hcat1 : ¬ (9223372036854775807 < 1 + TT.size) := by omega
        have hcat2 : ¬ (9223372036854775807 < 1 + TT.size + 1) := by omega
        have HROW := Lib.hid hrow
        have HX1 := Lib.hid hx1
        have HX2 := Lib.hid hx2
        have HC := Lib.hid (yKey_is HTT.out hx2)
        have HBG := Lib.hid hbg
        have HGL := Lib.hid hgl
        clear hrow hbg hgl hx1 hx2 hx3 hx4 hx5 hx6
        go_wp2_with (fail)
        go_region_with (go_at_call 95; (with_reducible refine (impl_fi_at y TT _ (by omega) (by omega) (HA.out.on HB.out.drew) HTT.out).mono ?_); rintro e w3 ⟨rfl, hb⟩; have hq := undrew hb; have B3 := Lib.hid (HB.out.trans (hq.mono HB.out.size)); have R3 := Lib.hid (World.ownsRow.kept HROW.out (row := none) (grown_of_below hq none) (.inr (by simp [Value.ownBlock]))); have h3 := (hq.cell (p := ⟨g, k, none⟩) HGL.out).trans hcell; have f3 := (hq.frozen (p := ⟨g, k, none⟩) HGL.out).trans hfz; clear hb hq)
        have HN := Lib.hid (R3.out.stored k (.string ((⟨#[121]⟩ : ByteArray) ++ TT ++ u.extract 0 1)))
        all_goals go_wp2
        all_goals go_roundw
        case rel =>
          refine ⟨k + 1, by omega, by go_num, ?_, B3.out.grown HN.out.2 B3.out.size (fun j hj => by cases hj; exact HBG.out)⟩
          rw [← turnV_set HX1.out, show encStr (yKey y x) = .string ((⟨#[121]⟩ : ByteArray) ++ TT ++ u.extract 0 1) from (enc_of HC.out).symm]
          exact HN.out.1
        case measure => simp [intOf]; omega
      · obtain rfl : k = L.length := by omega
        have HROW := Lib.hid hrow
        clear hrow
        go_wp2
        go_ret
        have h := HROW.out
        rw [turnV_all, HR0.out] at h
        have e : L.length = R.length := by rw [← HR0.out, List.length_map]
        rw [e] at h ⊢
        exact ⟨a, c, rfl, h, HB.out⟩

theorem concat_box (a0 a1 a2 : Option Addr) (c0 c1 c2 : Nat) (l0 l1 l2 : List Str) (w : World) (h0 : Sm w a0 l0 c0) (h1 : Sm w a1 l1 c1) (h2 : Sm w a2 l2 c2) (hs : l0.length + l1.length + l2.length ≤ 4000000) :
    Calls Tryz.prog 54 #[.slice (some ⟨w.heap.size, 0, none⟩) 3 3] (w.alloc (.cells #[.slice a0 l0.length c0, .slice a1 l1.length c1, .slice a2 l2.length c2] 31)) (GivesS w (l0 ++ l1 ++ l2)) := by
  have hb0 : Below w.heap.size w (w.alloc (.cells #[.slice a0 l0.length c0, .slice a1 l1.length c1, .slice a2 l2.length c2] 31)) := (Below.refl _ _).alloc (Nat.le_refl _) _
  refine (concat_three w.heap.size a0 a1 a2 c0 c1 c2 l0 l1 l2 _ (h0.below hb0) (h1.below hb0) (h2.below hb0) hs (by rw [World.cell?_alloc_at _ _ _ _ rfl]; rfl) (by rw [World.cell?_alloc_at _ _ _ _ rfl]; rfl) (by rw [World.cell?_alloc_at _ _ _ _ rfl]; rfl)).mono fun e w1 h => ?_
  obtain ⟨a', c', he, ho, hb⟩ := h
  exact ⟨a', c', he, ho.mono hb0.size, hb0.trans (hb.mono hb0.size)⟩

end Go.Proofs.YtebddnjccmaimaaGreatDoor
