/-
  What spec.BlockKeys answers. By an AI agent.
-/
import Derived.Test.YtebddnjccmaimaaGreatDoorBkR
import Derived.Test.YtebddnjccmaimaaGreatDoorGSet
import Derived.Deep.RegionHeld3
import Derived.Deep.RegionWith
namespace Go.Proofs.YtebddnjccmaimaaGreatDoor
open Go.RowKit
set_option linter.unusedVariables false

theorem setL_snoc' (a b : List Str) {k : Nat} {x : Str} (f : Str → Str) (h : b[k]? = some x) : setL (a ++ (b.take (k + 1)).map f) = putL false (setL (a ++ (b.take k).map f)) (f x) := by
  rw [take_snoc' h, List.map_append, ← List.append_assoc, List.map_cons, List.map_nil, setL_snoc]

def YZ (y : Int) (n : Nat) : Prop := y = 0 → n = 0

set_option maxRecDepth 100000 in
set_option maxHeartbeats 3200000 in
theorem bk_spec (s k v : Int) (b : Option Addr) (d : Nat) (l r : List Str) (w : World) (hr : bkR ((s, k, v), l) = r) (h : Sm w b l d) (hT : SpT w) :
    Calls Tryz.prog 24 #[.agg #[.int .i64 s, .int .i64 k, .int .i64 v, .slice b l.length d]] w (GivesS w r) := by
  obtain ⟨wb, hwb⟩ : ∃ wb, wb = (w.alloc (.cells #[.int .i64 s, .int .i64 k, .int .i64 v, .slice b l.length d] 37)).alloc (.cells #[] 9) := ⟨_, rfl⟩
  have B0 := Lib.hid (show Below w.heap.size w wb by rw [hwb]; exact ((Below.refl w.heap.size w).alloc (Nat.le_refl _) _).alloc (by simp) _)
  have RA := Lib.hid (show RecB 37 wb w.heap.size s k v (.slice b l.length d) by rw [hwb]; exact (RecB.new _ _ _ _ _ _ _ rfl).alloc _)
  have ON := Lib.hid (show OwnS wb w.heap.size (.slice (some ⟨w.heap.size + 1, 0, none⟩) 0 0) [] by rw [hwb]; exact own_new _ _ _ (by simp) (by omega))
  have HWB := Lib.hid hwb
  have H0 := Lib.hid h
  have HS := Lib.hid hT
  have HR := Lib.hid hr
  clear hwb h hT hr
  obtain ⟨x, hx⟩ : ∃ x, recB s k v l = x := ⟨_, rfl⟩
  have HX := Lib.hid hx
  clear hx
  have qa0 := RA.out.c0
  have qa1 := RA.out.c1
  have qa2 := RA.out.c2
  have qa3 := RA.out.c3
  cases x
  · obtain rfl : [] = r := by rw [← HR.out, bk_no HX.out]
    go_enter Tryz.func24, Tryz.ntmps24
    go_wp2_with (go_at_call 64; rw [← HWB.out]; ((with_reducible refine (iv_spec s k v _ d l _ _ HX.out (H0.out.below B0.out)).mono ?_); rintro e w1 ⟨rfl, hb⟩; have B1 := Lib.hid (B0.out.trans (hb.mono B0.out.size)); have O1 := Lib.hid (ON.out.below hb); clear hb))
    go_ret
    exact ⟨_, _, rfl, O1.out, B1.out⟩
  · have hrr : setL (rawK l) = r := by rw [← HR.out, bk_yes HX.out]
    obtain ⟨A0, A1, A2, A3, ba, oa, hA⟩ := fours_of H0.out HX.out
    have HA := Lib.hid hA
    obtain ⟨rfl, hbal, hl0, hd0, hll, -, ha0, ha1, ha2, ha3⟩ := hA
    have hs0 : A0.data.toList.length ≤ 40 := (rec_list HX.out).2 _ (by rw [hll]; simp)
    have hs3 : A3.data.toList.length ≤ 40 := (rec_list HX.out).2 _ (by rw [hll]; simp)
    obtain ⟨S, hS⟩ : ∃ x, soundR A0.data.toList = x := ⟨_, rfl⟩
    obtain ⟨T, hTk⟩ : ∃ x, tokensR A0.data.toList = x := ⟨_, rfl⟩
    obtain ⟨y, hy⟩ : ∃ x, yrR A2.data.toList = x := ⟨_, rfl⟩
    obtain ⟨D, hD⟩ : ∃ x, nstr (digL A3.data.toList) = x := ⟨_, rfl⟩
    have hDl : D.data.toList = digL A3.data.toList := by rw [← hD, nstr_list]
    have hDz : (digL A3.data.toList).length = D.size := by rw [← hDl]; simp
    have hD40 : D.size ≤ 40 := by have := digL_length A3.data.toList; omega
    obtain ⟨P, hP⟩ : ∃ x, pKeys A3.data.toList = x := ⟨_, rfl⟩
    have hP1 : 4 ≤ D.size → P = [112 :: D.data.toList.drop (D.size - 4)] := fun h4 => by rw [← hP]; unfold pKeys; rw [hDz, if_pos h4, hDl]
    have hP2 : ¬ 4 ≤ D.size → P = [] := fun h4 => by rw [← hP]; unfold pKeys; rw [hDz, if_neg h4]
    obtain ⟨Y, hY⟩ : ∃ x, (if y = 0 then ([] : List Str) else T.map (yKey y)) = x := ⟨_, rfl⟩
    have HRES := Lib.hid (show setL ((S.map fun t => 115 :: t) ++ P ++ Y) = r by
      rw [← hrr, hll]
      congr 1
      symm
      show sKeys A0.data.toList ++ pKeys A3.data.toList ++ yKeys A2.data.toList A0.data.toList = _
      unfold sKeys yKeys
      rw [hS, hTk, hy, hP, hY])
    have hSl : S.length ≤ 81 := by rw [← hS]; exact snd_len40 hs0
    have hTl : T.length ≤ 81 := by rw [← hTk]; exact toks_len40 hs0
    have hyr : 0 ≤ y ∧ y ≤ 9999 := by
      rw [← hy]
      exact ⟨by rcases yr_pos A2.data.toList with h | h <;> omega, yr_top _⟩
    obtain ⟨hy0, hy1⟩ := hyr
    have SX := Lib.hid (show ∀ x ∈ S, x.length ≤ 1048576 by rw [← hS]; exact (keys_small A0 ha0).2)
    have TX := Lib.hid (show ∀ x ∈ T, x ≠ [] ∧ x.length ≤ 1048576 by rw [← hTk]; exact fun x hx => ⟨tok_full _ x hx, (toks_small A0 ha0).2 x hx⟩)
    have XS := Lib.hid (fun u (h : SpT u) => show Calls Tryz.prog 65 #[.string A0] u (GivesS u S) by rw [← hS]; exact sound_spec A0 u (by omega) h)
    have XT := Lib.hid (fun u (h : SpT u) => show Calls Tryz.prog 68 #[.string A0] u (GivesS u T) by rw [← hTk]; exact tokens_spec A0 u (by omega) h)
    have XD := Lib.hid (fun u => show Calls Tryz.prog 67 #[.string A3] u (fun e w' => e = .returned (.string D) ∧ Below u.heap.size u w') by rw [← hD]; exact spec_dg A3 u (by omega))
    have XY := Lib.hid (fun u => yr_spec A2 y u (by omega) hy)
    obtain ⟨TT, hTT⟩ : ∃ x, strOf (Lib.itoa y) = x := ⟨_, rfl⟩
    have hTz : TT.size ≤ 21 := by rw [← hTT, strOf_size]; exact Lib.itoa_length_le y (by omega) (by omega)
    have HTT := Lib.hid hTT
    have HP1 := Lib.hid hP1
    have HP2 := Lib.hid hP2
    have HY := Lib.hid hY
    have HL0 := Lib.hid hl0
    clear hS hTk hy hD hP hP1 hP2 hY hTT hDl hDz hll hs0 hs3 hl0 hrr
    go_enter Tryz.func24, Tryz.ntmps24
    go_wp2_with (go_at_call 64; rw [← HWB.out]; ((with_reducible refine (iv_spec s k v _ d l _ _ HX.out (H0.out.below B0.out)).mono ?_); rintro e w1 ⟨rfl, hb⟩; refine Hid.out ?_))
    have B1 := Lib.hid (B0.out.trans (hb.mono B0.out.size))
    have O1 := Lib.hid (ON.out.below hb)
    have c3 := (RA.out.below hb).c3
    rw [HL0.out] at c3
    have F1 := Lib.hid (show FixR w1 w.heap.size ba oa d A0 A2 A3 by
      have FA := HA.out.below B1.out
      exact ⟨c3, FA.2.2.2.2.2.1.1, FA.2.2.2.2.2.1.2.2.1, FA.2.2.2.2.2.1.2.2.2⟩)
    clear hb c3 qa0 qa1 qa2 qa3
    obtain ⟨p3, p0, -, -⟩ := F1.out
    refine Lib.hid ?_
    go_wp2_with (go_at_call 65; ((with_reducible refine (XS.out _ (HS.out.below B1.out)).mono ?_); rintro e w2 ⟨aS, cS, rfl, ho, hb⟩; refine Hid.out ?_))
    have B2 := Lib.hid (B1.out.trans (hb.mono B1.out.size))
    have O2 := Lib.hid (O1.out.below hb)
    have F2 := Lib.hid (F1.out.below hb)
    have I2 := Lib.hid ho.inS
    clear hb ho p3 p0
    refine Lib.hid ?_
    go_wp2
    go_loopw [3, 5] (fun v i wr => ∃ (n : Nat) (a : Option Addr) (c : Nat) (q : List Str), n ≤ S.length ∧ i = .int .i64 n ∧ v = .slice a q.length c ∧ q = setL ((S.take n).map fun t => 115 :: t) ∧ OwnS wr w.heap.size (.slice a q.length c) q ∧ InS wr aS S ∧ FixR wr w.heap.size ba oa d A0 A2 A3 ∧ Below w.heap.size w wr) (fun _ i _ => S.length - (intOf i).toNat)
    case atStart => exact ⟨0, _, _, [], Nat.zero_le _, rfl, rfl, rfl, O2.out, I2.out, F2.out, B2.out⟩
    case round =>
      obtain ⟨n, a, c, q, hn, rfl, rfl, hq, hown, hin, hfx, hb⟩ := hrel
      have hql : q.length ≤ n := by
        rw [hq]
        have h2 := setL_length ((S.take n).map fun t => 115 :: t)
        have h4 : (S.take n).length ≤ n := List.length_take_le _ _
        rw [List.length_map] at h2
        omega
      have HQ := Lib.hid hq
      have HOWN := Lib.hid hown
      have HIN := Lib.hid hin
      have HFX := Lib.hid hfx
      have HB := Lib.hid hb
      clear hq hown hin hfx hb
      by_cases hlt : n < S.length
      · obtain ⟨bS, off, rfl, hbw, hc⟩ := HIN.out (by omega)
        obtain ⟨x, u, hx1, hx2, hx3, hx4⟩ := str_at hlt
        have hcell : wr.cell? ⟨bS, off + n, none⟩ = some (.string u) := by rw [← hx3]; exact hc n x hx1
        have huz : u.size ≤ 1048576 := by rw [hx4]; exact SX.out x (List.mem_of_getElem? hx1)
        have hcat : ¬ (9223372036854775807 < 1 + u.size) := by omega
        have HX1 := Lib.hid hx1
        have HC := Lib.hid (show ((⟨#[115]⟩ : ByteArray) ++ u).data.toList = 115 :: x by rw [cons_list, hx2])
        clear hc hx1 hx2 hx3 hx4 hbw
        go_wp2_with (go_at_call 66; ((with_reducible refine (put_any false w.heap.size a c q _ (115 :: x) _ (by omega) HOWN.out HB.out.size HC.out).mono ?_); rintro e w3 ⟨a2, c2, rfl, ho3, hb3⟩; have HO3 := Lib.hid ho3; have HB3 := Lib.hid hb3; clear ho3 hb3))
        go_roundw
        case rel =>
          refine ⟨n + 1, a2, c2, putL false q (115 :: x), by omega, by go_num, rfl, ?_, HO3.out, HIN.out.below HB3.out, HFX.out.below HB3.out, HB.out.trans (HB3.out.mono HB.out.size)⟩
          have h := setL_snoc' [] S (fun t => 115 :: t) HX1.out
          rw [List.nil_append, List.nil_append, ← HQ.out] at h
          exact h.symm
        case measure => simp [intOf]; omega
      · obtain rfl : n = S.length := by omega
        have HQ1 := Lib.hid (show q = setL (S.map fun t => 115 :: t) by have h := HQ.out; rwa [List.take_length] at h)
        obtain ⟨p3, -, -, p0⟩ := HFX.out
        clear HQ
        go_wp2_with (go_at_call 67; ((with_reducible refine (XD.out _).mono ?_); rintro e w4 ⟨rfl, hb⟩; refine Hid.out ?_))
        have B4 := Lib.hid (HB.out.trans (hb.mono HB.out.size))
        have O4 := Lib.hid (HOWN.out.below hb)
        have F4 := Lib.hid (HFX.out.below hb)
        clear hb p3 p0
        by_cases hd4 : 4 ≤ D.size
        case' pos =>
          obtain ⟨f, hf⟩ : ∃ f, D.size = f + 4 := ⟨D.size - 4, by omega⟩
          have hf1 : (D.size : Int) - 4 = (f : Int) := by omega
          have hf2 : f ≤ D.size := by omega
          have hf3 : ¬ (9223372036854775807 < 1 + (D.size - f)) := by omega
          have HC := Lib.hid (show ((⟨#[112]⟩ : ByteArray) ++ D.extract f D.size).data.toList = 112 :: D.data.toList.drop f by rw [cons_list, ext_tail'])
          have HPX := Lib.hid (show P = [112 :: D.data.toList.drop f] by rw [HP1.out hd4]; congr 3; omega)
          have hd4' : (4 : Int) ≤ D.size := by omega
          clear hf
          refine Lib.hid ?_
          go_wp2_with (go_at_call 66; ((with_reducible refine (put_any false w.heap.size a c q _ (112 :: D.data.toList.drop f) _ (by omega) O4.out B4.out.size HC.out).mono ?_); rintro e w5 ⟨a5, c5, rfl, ho, hb⟩; refine Hid.out ?_))
          have B5 := Lib.hid (B4.out.trans (hb.mono B4.out.size))
          have F5 := Lib.hid (F4.out.below hb)
          have HQ5 := Lib.hid (show putL false q (112 :: D.data.toList.drop f) = setL ((S.map fun t => 115 :: t) ++ P) by rw [HPX.out, setL_snoc, ← HQ1.out])
          have hq5l := putL_length false (112 :: D.data.toList.drop f) q
          have O5 := Lib.hid ho
          clear hb ho
          generalize putL false q (112 :: D.data.toList.drop f) = q5 at HQ5 hq5l O5 ⊢
          have hq5 : q5.length ≤ 1000 := by omega
          clear hq5l
        case' neg =>
          obtain ⟨w5, rfl⟩ : ∃ w5, w5 = w4 := ⟨_, rfl⟩
          obtain ⟨q5, rfl⟩ : ∃ q5, q5 = q := ⟨_, rfl⟩
          obtain ⟨a5, rfl⟩ : ∃ a5, a5 = a := ⟨_, rfl⟩
          obtain ⟨c5, rfl⟩ : ∃ c5, c5 = c := ⟨_, rfl⟩
          have B5 := B4
          have O5 := O4
          have F5 := F4
          have hq5 : q5.length ≤ 1000 := by omega
          have HQ5 := Lib.hid (show q5 = setL ((S.map fun t => 115 :: t) ++ P) by rw [HP2.out hd4, List.append_nil]; exact HQ1.out)
          have hd4' : ¬ (4 : Int) ≤ D.size := by omega
        all_goals
          obtain ⟨p3, p0, -, -⟩ := F5.out
          refine Lib.hid ?_
          go_wp2_with (go_at_call 68; ((with_reducible refine (XT.out _ (HS.out.below B5.out)).mono ?_); rintro e w6 ⟨aT, cT, rfl, ho, hb⟩; refine Hid.out ?_))
          have B6 := Lib.hid (B5.out.trans (hb.mono B5.out.size))
          have F6 := Lib.hid (F5.out.below hb)
          have O6 := Lib.hid (O5.out.below hb)
          have I6 := Lib.hid ho.inS
          clear hb ho p3 p0
          obtain ⟨p3, -, p0, -⟩ := F6.out
          refine Lib.hid ?_
          go_wp2_with (go_at_call 69; ((with_reducible refine (XY.out _).mono ?_); rintro e w7 ⟨rfl, hb⟩; refine Hid.out ?_))
          have B7 := Lib.hid (B6.out.trans (hb.mono B6.out.size))
          have O7 := Lib.hid (O6.out.below hb)
          have I7 := Lib.hid (I6.out.below hb)
          clear hb p3 p0
          refine Lib.hid ?_
          go_wp2
          go_loopw [3, 9] (fun v i wr => ∃ (n : Nat) (a : Option Addr) (c : Nat) (q : List Str), n ≤ T.length ∧ i = .int .i64 n ∧ v = .slice a q.length c ∧ YZ y n ∧ q.length ≤ 1000 + n ∧ q = setL ((S.map fun t => 115 :: t) ++ P ++ (T.take n).map (yKey y)) ∧ OwnS wr w.heap.size (.slice a q.length c) q ∧ InS wr aT T ∧ Below w.heap.size w wr) (fun _ i _ => T.length - (intOf i).toNat)
          case atStart => exact ⟨0, _, _, q5, Nat.zero_le _, rfl, rfl, fun _ => rfl, by omega, by rw [List.take_zero, List.map_nil, List.append_nil]; exact HQ5.out, O7.out, I7.out, B7.out⟩
          case round =>
            obtain ⟨n, a, c, q, hn, rfl, rfl, hyz, hql, hq, hown, hin, hb⟩ := hrel
            have HQn := Lib.hid hq
            have HOWNn := Lib.hid hown
            have HINn := Lib.hid hin
            have HBn := Lib.hid hb
            have HYZ := Lib.hid hyz
            clear hq hown hin hb hyz
            by_cases hlt : n < T.length
            · by_cases hy2 : y = 0
              · have hy3 : ¬ 0 < y := by omega
                have HY2 := Lib.hid hy2
                clear hy2
                go_wp2
                go_ret
                have e : r = q := by
                  rw [← HRES.out, ← HY.out, if_pos HY2.out, HQn.out, HYZ.out HY2.out]
                  simp
                rw [e]
                exact ⟨_, _, rfl, HOWNn.out, HBn.out⟩
              · have hy3 : 0 < y := by omega
                obtain ⟨bT, off, rfl, hbw, hc⟩ := HINn.out (by omega)
                obtain ⟨x, u, hx1, hx2, hx3, hx4⟩ := str_at hlt
                have hcell : wr.cell? ⟨bT, off + n, none⟩ = some (.string u) := by rw [← hx3]; exact hc n x hx1
                obtain ⟨hx5, hx6⟩ := TX.out x (List.mem_of_getElem? hx1)
                have huz : u.size ≤ 1048576 := by rw [hx4]; exact hx6
                have hu1 : 1 ≤ u.size := by rw [hx4]; exact List.length_pos_iff.2 hx5
                have hu2 : (1 : Int) ≤ (u.size : Int) := by omega
                have hes : (u.extract 0 1).size = 1 := by rw [ByteArray.size_extract]; omega
                have hcat1 : ¬ (9223372036854775807 < 1 + TT.size) := by omega
                have hcat2 : ¬ (9223372036854775807 < 1 + TT.size + 1) := by omega
                have HX1 := Lib.hid hx1
                have HC := Lib.hid (yKey_is HTT.out hx2)
                have HY2 := Lib.hid hy2
                have HBB := Lib.hid hbw
                clear hc hx1 hx2 hx3 hx4 hx5 hx6 hbw hy2
                go_wp2_with (fail)
                go_region_held3 (fun w' => w'.cell? ⟨bT, off + n, none⟩ = some (.string u))
                  (first | with_reducible exact g2 | with_reducible exact g1 | exact hcell)
                  (first
                    | (go_at_call 70; (with_reducible refine (spec_fi_at y TT _ (by omega) (by omega) HTT.out).mono ?_); rintro e w8 ⟨rfl, hb⟩; have hq := undrew hb; have g1 := (hq.cell (p := ⟨bT, off + n, none⟩) (World.block_lt_of_cell? wr _ hcell)).trans hcell; have B8 := Lib.hid (HBn.out.trans (hq.mono HBn.out.size)); have O8 := Lib.hid (HOWNn.out.below hq); have I8 := Lib.hid (HINn.out.below hq); clear hb hq)
                    | (go_at_call 66; (with_reducible refine (put_any false w.heap.size a c q _ (yKey y x) _ (by omega) O8.out B8.out.size HC.out).mono ?_); rintro e w9 ⟨a9, c9, rfl, ho, hb⟩; have g2 := (hb.cell (p := ⟨bT, off + n, none⟩) (World.block_lt_of_cell? w8 _ g1)).trans g1; have B9 := Lib.hid (B8.out.trans (hb.mono B8.out.size)); have O9 := Lib.hid ho; have I9 := Lib.hid (I8.out.below hb); clear ho hb))
                all_goals refine Hid.out ?_
                all_goals refine Lib.hid ?_
                all_goals go_wp2
                all_goals go_roundw
                case rel =>
                  have hl := putL_length false (yKey y x) q
                  refine ⟨n + 1, a9, c9, putL false q (yKey y x), by omega, by go_num, rfl, fun h => absurd h HY2.out, by omega, ?_, O9.out, I9.out, B9.out⟩
                  rw [setL_snoc' _ T (yKey y) HX1.out, ← HQn.out]
                case measure => simp [intOf]; omega
            · obtain rfl : n = T.length := by omega
              have HE := Lib.hid (show r = q by
                have hq := HQn.out
                rw [List.take_length] at hq
                rw [← HRES.out, ← HY.out, hq]
                split
                · rename_i hy2
                  have := HYZ.out hy2
                  have hT : T = [] := List.eq_nil_of_length_eq_zero this
                  rw [hT]
                  simp
                · rfl)
              go_wp2
              go_ret
              rw [HE.out]
              exact ⟨_, _, rfl, HOWNn.out, HBn.out⟩

end Go.Proofs.YtebddnjccmaimaaGreatDoor
