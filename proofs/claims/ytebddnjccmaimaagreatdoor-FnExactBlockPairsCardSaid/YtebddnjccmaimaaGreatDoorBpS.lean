/-
  What spec.BlockPairs, spec.LargestBlock and spec.OversizedBlocks answer. By an AI agent.
-/
import Derived.Test.YtebddnjccmaimaaGreatDoorBbS
import Derived.Test.YtebddnjccmaimaaGreatDoorPutP
import Derived.Deep.RegionHeld3
namespace Go.Proofs.YtebddnjccmaimaaGreatDoor
open Go.RowKit Go.Maps
set_option linter.unusedVariables false

/-- bounds of a list of blocks -/
def SmB (B : List BK) : Prop := B.length ≤ 2000 ∧ ∀ x ∈ B, x.2.length ≤ 12 ∧ x.1.length ≤ 100
theorem blk_small (S : List RC) : SmB (blkL (kbR S)) := by
  refine ⟨?_, fun x hx => ?_⟩
  · rw [blkL_len]
    have h1 := setL_length (kbR S).flatten
    have h2 := kb_flat S
    omega
  · obtain ⟨y, hy, rfl⟩ := List.mem_map.1 hx
    have h1 := memN_len (kbR S) y
    have h2 := kb_len S
    exact ⟨by simp; omega, kb_key ((setL_mem _ _).1 hy)⟩
theorem small_len (most : Int) {x : BK} (h : x.2.length ≤ 12) : (smallB most x).length ≤ 144 := by
  unfold smallB
  split
  · have := prsN_len x.2
    have h2 : x.2.length * x.2.length ≤ 12 * 12 := Nat.mul_le_mul h h
    omega
  · simp
theorem raw_len (most : Int) : ∀ (B : List BK), (∀ x ∈ B, x.2.length ≤ 12) → (B.flatMap (smallB most)).length ≤ B.length * 144
  | [], _ => by simp
  | x :: B, h => by
    have h1 := raw_len most B fun y hy => h y (List.mem_cons_of_mem _ hy)
    have h2 := small_len most (h x (List.mem_cons_self ..))
    simp only [List.flatMap_cons, List.length_append, List.length_cons, Nat.succ_mul]
    omega
theorem bk_take {B : List BK} {k : Nat} {x : BK} (h : B[k]? = some x) : B.take (k + 1) = B.take k ++ [x] := by
  obtain ⟨hlt, he⟩ := List.getElem?_eq_some_iff.1 h
  rw [List.take_succ_eq_append_getElem hlt, he]
theorem raw_take {B : List BK} {k : Nat} {x : BK} (most : Int) (h : B[k]? = some x) : (B.take (k + 1)).flatMap (smallB most) = (B.take k).flatMap (smallB most) ++ smallB most x := by
  rw [bk_take h, List.flatMap_append]
  simp
/-- the pairs of the first i members, if they are few -/
def fewT (most : Int) (m : List Int) (i : Nat) : List IQ := if (m.length : Int) ≤ most then prsT m i else []
def FewI (most : Int) (m : List Int) (i : Nat) : Prop := ¬ (m.length : Int) ≤ most → i = 0
theorem few_all {most : Int} {x : BK} : fewT most x.2 x.2.length = smallB most x := rfl
theorem few_zero (most : Int) (m : List Int) : fewT most m 0 = [] := by unfold fewT; split <;> rfl
theorem drop_take {m : List Int} {i d : Nat} {z : Int} (h : m[i + 1 + d]? = some z) : (m.drop (i + 1)).take (d + 1) = (m.drop (i + 1)).take d ++ [z] := by
  have h2 : (m.drop (i + 1))[d]? = some z := by rw [List.getElem?_drop]; exact h
  obtain ⟨hlt, he⟩ := List.getElem?_eq_some_iff.1 h2
  rw [List.take_succ_eq_append_getElem hlt, he]
theorem prs_len2 {m : List Int} {i : Nat} (h : m.length ≤ 12) (hi : i ≤ m.length) : (prsT m i).length ≤ 144 := by
  have h1 := prsT_len m i hi
  have h2 : i * m.length ≤ 12 * 12 := Nat.mul_le_mul (by omega) h
  omega

set_option maxRecDepth 100000 in
set_option maxHeartbeats 4000000 in
theorem bp_spec (a : Option Addr) (c : Nat) (S : List RC) (most : Int) (r : List IP) (w : World) (hr : bpR (kbR S) most = r) (h : SmRc w a S c) (hT : SpT w) :
    Calls Tryz.prog 13 #[.slice a S.length c, .int .i64 most] w (GivesP w r) := by
  obtain ⟨w1, hw1⟩ : ∃ w1, w1 = w.alloc (.cells #[] 34) := ⟨_, rfl⟩
  have HW1 := Lib.hid hw1
  have HB1 := Lib.hid (show Below w.heap.size w w1 by rw [hw1]; exact (Below.refl _ _).alloc (Nat.le_refl _) _)
  have HO1 := Lib.hid (show OwnP w1 w.heap.size (.slice (some ⟨w.heap.size, 0, none⟩) 0 0) [] by rw [hw1]; exact OwnP.new w _ _ rfl (Nat.le_refl _))
  obtain ⟨B, hB⟩ : ∃ B, blkL (kbR S) = B := ⟨_, rfl⟩
  have HSB := Lib.hid (show SmB B by rw [← hB]; exact blk_small S)
  have HBB := Lib.hid (bb_spec a c S B w1 hB (h.below HB1.out) (hT.below HB1.out))
  have HR := Lib.hid (show setP (B.flatMap (smallB most)) = r by rw [← hr, ← hB]; rfl)
  have hbl := HSB.out.1
  clear hw1 hB h hT hr
  go_enter Tryz.func13, Tryz.ntmps13
  go_wp2_with (go_at_call 22; rw [← HW1.out]; ((with_reducible refine HBB.out.mono ?_); rintro e w2 ⟨ab, cb, qb, rfl, hq, ho, hb⟩; refine Hid.out ?_))
  have HIN2 := Lib.hid (show InBk w2 ab B by rw [← hq]; exact ho.inBk)
  have HO2 := Lib.hid (HO1.out.below hb)
  have HB2 := Lib.hid (HB1.out.trans (hb.mono HB1.out.size))
  clear hq ho hb
  refine Lib.hid ?_
  go_wp2
  go_loopw [5, 7] (fun v i wr => ∃ (k : Nat) (av : Option Addr) (cv : Nat) (q : List IP), k ≤ B.length ∧ i = .int .i64 k ∧ v = .slice av q.length cv ∧ q = setP ((B.take k).flatMap (smallB most)) ∧ OwnP wr w.heap.size (.slice av q.length cv) q ∧ Below w2.heap.size w2 wr) (fun _ i _ => B.length - (intOf i).toNat)
  case atStart => exact ⟨0, _, _, [], Nat.zero_le _, rfl, rfl, rfl, HO2.out, Below.refl _ _⟩
  case round =>
    obtain ⟨k, av, cv, q, hk, rfl, rfl, hq, hown, hb⟩ := hrel
    have HQ := Lib.hid hq
    have HOWN := Lib.hid hown
    have HB := Lib.hid hb
    clear hq hown hb
    by_cases hlt : k < B.length
    · obtain ⟨b, off, rfl, hbw, hc⟩ := HIN2.out (by omega)
      have hx := List.getElem?_eq_getElem hlt
      obtain ⟨a', c', p0, p1, _, _, p2⟩ := hc k _ hx
      have HX := Lib.hid hx
      have hm12 := (HSB.out.2 _ (List.mem_of_getElem? hx)).1
      have g1 : wr.cell? ⟨b, off + k * 2 + 1, none⟩ = some (.slice a' B[k].2.length c') := by rw [HB.out.cell (p := ⟨b, off + k * 2 + 1, none⟩) hbw]; exact p1
      generalize B[k] = x at HX hm12 g1 p2
      obtain ⟨x, M⟩ := x
      have HM := Lib.hid (show InI w2 a' M from p2)
      obtain ⟨P, hP⟩ : ∃ P, (B.take k).flatMap (smallB most) = P := ⟨_, rfl⟩
      have hPl : P.length ≤ 288000 := by
        rw [← hP]
        have h1 := raw_len most (B.take k) fun y hy => (HSB.out.2 y (List.mem_of_mem_take hy)).1
        have h2 := List.length_take_le k B
        omega
      have HP := Lib.hid hP
      have HQ' := Lib.hid (show q = setP (P ++ fewT most M 0) by rw [few_zero, List.append_nil, ← hP]; exact HQ.out)
      replace hm12 : M.length ≤ 12 := hm12
      replace g1 : wr.cell? ⟨b, off + k * 2 + 1, none⟩ = some (.slice a' M.length c') := g1
      clear hc hx p0 p1 p2 hP hbw
      go_wp2
      go_loopw [5, 9] (fun v i wr => ∃ (n : Nat) (av : Option Addr) (cv : Nat) (q : List IP), n ≤ M.length ∧ i = .int .i64 n ∧ v = .slice av q.length cv ∧ q = setP (P ++ fewT most M n) ∧ FewI most M n ∧ OwnP wr w.heap.size (.slice av q.length cv) q ∧ Below w2.heap.size w2 wr) (fun _ i _ => M.length - (intOf i).toNat)
      case atStart => exact ⟨0, _, _, q, Nat.zero_le _, rfl, rfl, HQ'.out, (fun _ => rfl), HOWN.out, HB.out⟩
      case round =>
        obtain ⟨n, av, cv, q, hn, rfl, rfl, hq, hfi, hown, hb⟩ := hrel
        have HQn := Lib.hid hq
        have HFI := Lib.hid hfi
        have HOWNn := Lib.hid hown
        have HBn := Lib.hid hb
        clear hq hown hb hfi
        by_cases hlt2 : n < M.length
        · by_cases hms : (M.length : Int) ≤ most
          · obtain ⟨bm, om, rfl, hbm, hcm⟩ := HM.out (by omega)
            have hz := List.getElem?_eq_getElem hlt2
            have d0 := hcm n _ hz
            generalize M[n] = z at hz d0
            have HZ := Lib.hid hz
            have HCM := Lib.hid hcm
            have HBM := Lib.hid hbm
            have HMS := Lib.hid hms
            have HQ0 := Lib.hid (show q = setP (P ++ prsT M n ++ ((M.drop (n + 1)).take 0).map fun y => (z, y)) by
              have h := HQn.out
              unfold fewT at h
              rw [if_pos hms] at h
              rw [List.take_zero, List.map_nil, List.append_nil]
              exact h)
            clear hcm hz hbm
            go_wp2
            go_loopw [5, 10] (fun v i wr => ∃ (j : Nat) (av : Option Addr) (cv : Nat) (q : List IP), n + 1 ≤ j ∧ j ≤ M.length ∧ i = .int .i64 j ∧ v = .slice av q.length cv ∧ q = setP (P ++ prsT M n ++ ((M.drop (n + 1)).take (j - (n + 1))).map fun y => (z, y)) ∧ OwnP wr w.heap.size (.slice av q.length cv) q ∧ Below w2.heap.size w2 wr) (fun _ i _ => M.length - (intOf i).toNat)
            case atStart => exact ⟨n + 1, _, _, q, Nat.le_refl _, by omega, by go_num, rfl, by rw [Nat.sub_self]; exact HQ0.out, HOWNn.out, HBn.out⟩
            case round =>
              obtain ⟨j, av, cv, q, hj1, hj2, rfl, rfl, hq, hown, hb⟩ := hrel
              have hql : q.length ≤ 1000000 := by
                rw [hq]
                have h1 := setP_length (P ++ prsT M n ++ ((M.drop (n + 1)).take (j - (n + 1))).map fun y => (z, y))
                have h2 := prs_len2 (i := n) hm12 (by omega)
                have h3 : (((M.drop (n + 1)).take (j - (n + 1))).map fun y => (z, y)).length ≤ 12 := by
                  rw [List.length_map, List.length_take, List.length_drop]
                  omega
                simp only [List.length_append] at h1
                omega
              have HQd := Lib.hid hq
              have HOWNd := Lib.hid hown
              have HBd := Lib.hid hb
              clear hq hown hb
              by_cases hlt3 : j < M.length
              · have hu := List.getElem?_eq_getElem hlt3
                have e1 := HCM.out _ _ hu
                have e0 := HCM.out _ _ HZ.out
                generalize M[j] = u at hu e1
                have HU := Lib.hid hu
                have f0 : wr.cell? ⟨bm, om + n, none⟩ = some (.int .i64 z) := by rw [HBd.out.cell (p := ⟨bm, om + n, none⟩) HBM.out]; exact e0
                have f1 : wr.cell? ⟨bm, om + j, none⟩ = some (.int .i64 u) := by rw [HBd.out.cell (p := ⟨bm, om + j, none⟩) HBM.out]; exact e1
                have HWB := Lib.hid (HB2.out.trans (HBd.out.mono HB2.out.size))
                clear hu e0 e1
                go_wp2_with (fail)
                go_region_held3 (fun w' => w'.cell? ⟨bm, om + n, none⟩ = some (.int .i64 z) ∧ w'.cell? ⟨bm, om + j, none⟩ = some (.int .i64 u))
                  (first | exact ⟨t0, t1⟩ | exact ⟨f0, f1⟩)
                  ((go_at_call 50; (with_reducible refine (putp_any w.heap.size av cv q z u _ hql (HOWNd.out.below (Below.refl _ _).drew) HWB.out.drew.size).mono ?_); rintro e w3 ⟨a3, c3, rfl, ho, hb⟩; have hq := undrew hb; have t0 := (hq.cell (p := ⟨bm, om + n, none⟩) (World.block_lt_of_cell? wr _ f0)).trans f0; have t1 := (hq.cell (p := ⟨bm, om + j, none⟩) (World.block_lt_of_cell? wr _ f1)).trans f1; have HO3 := Lib.hid ho; have HB3 := Lib.hid (HBd.out.trans (hq.mono HBd.out.size)); clear ho hb hq))
                refine Hid.out ?_
                clear t0 t1 f0 f1
                refine Lib.hid ?_
                go_wp2
                go_roundw
                case rel =>
                  refine ⟨j + 1, a3, c3, putP q (z, u), by omega, by omega, by go_num, rfl, ?_, HO3.out, HB3.out⟩
                  rw [show j + 1 - (n + 1) = j - (n + 1) + 1 by omega, drop_take (z := u) (by rw [show n + 1 + (j - (n + 1)) = j by omega]; exact HU.out), List.map_append, ← List.append_assoc, List.map_cons, List.map_nil, setP_snoc, ← HQd.out]
                case measure => simp [intOf]; omega
              · obtain rfl : j = M.length := by omega
                go_wp2
                go_roundw
                case rel =>
                  refine ⟨n + 1, av, cv, q, by omega, by go_num, rfl, ?_, (fun h => absurd HMS.out h), HOWNd.out, HBd.out⟩
                  have h := HQd.out
                  rw [List.take_of_length_le (by rw [List.length_drop]; omega), List.append_assoc] at h
                  unfold fewT
                  rw [if_pos HMS.out, prsT_succ HZ.out]
                  exact h
                case measure => simp [intOf]; omega
          · have HMS := Lib.hid hms
            have hms2 : most < (M.length : Int) := by omega
            go_wp2
            go_roundw
            case rel =>
              refine ⟨k + 1, av, cv, q, by omega, by go_num, rfl, ?_, HOWNn.out, HBn.out⟩
              have h := HQn.out
              unfold fewT at h
              rw [if_neg HMS.out, List.append_nil] at h
              rw [raw_take most HX.out, HP.out]
              unfold smallB
              rw [if_neg HMS.out, List.append_nil]
              exact h
            case measure => simp [intOf]; omega
        · obtain rfl : n = M.length := by omega
          go_wp2
          go_roundw
          case rel =>
            refine ⟨k + 1, av, cv, q, by omega, by go_num, rfl, ?_, HOWNn.out, HBn.out⟩
            rw [raw_take most HX.out, HP.out]
            exact HQn.out
          case measure => simp [intOf]; omega
    · obtain rfl : k = B.length := by omega
      have HE := Lib.hid (show q = r by rw [← HR.out, HQ.out, List.take_length])
      go_wp2
      go_ret
      obtain rfl := HE.out
      exact ⟨_, _, rfl, HOWN.out, HB2.out.trans (HB.out.mono HB2.out.size)⟩

/-- the greatest number of members of the first k blocks -/
def topK (B : List BK) (k : Nat) : Nat := (B.take k).foldl (fun n b => max n b.2.length) 0
theorem topK_succ {B : List BK} {k : Nat} {x : BK} (h : B[k]? = some x) : topK B (k + 1) = max (topK B k) x.2.length := by
  unfold topK
  rw [bk_take h, List.foldl_append]
  rfl
theorem topK_le {B : List BK} (h : SmB B) (k : Nat) : topK B k ≤ 12 := by
  rcases foldmax_is (B.take k) 0 with h1 | ⟨b, hb, h1⟩
  · have : topK B k = 0 := h1
    omega
  · have h2 := (h.2 b (List.mem_of_mem_take hb)).1
    have : topK B k = b.2.length := h1
    omega

set_option maxRecDepth 100000 in
set_option maxHeartbeats 2000000 in
theorem lb_spec (a : Option Addr) (c : Nat) (S : List RC) (r : Int) (w : World) (hr : ((lbR (kbR S) : Nat) : Int) = r) (h : SmRc w a S c) (hT : SpT w) :
    Calls Tryz.prog 15 #[.slice a S.length c] w fun e w' => e = .returned (.int .i64 r) ∧ Below w.heap.size w w' := by
  obtain ⟨B, hB⟩ : ∃ B, blkL (kbR S) = B := ⟨_, rfl⟩
  have HSB := Lib.hid (show SmB B by rw [← hB]; exact blk_small S)
  have HBB := Lib.hid (bb_spec a c S B w hB h hT)
  have HR := Lib.hid (show ((topK B B.length : Nat) : Int) = r by rw [← hr, ← hB]; unfold topK; rw [List.take_length]; rfl)
  have hbl := HSB.out.1
  clear hB h hT hr
  go_enter Tryz.func15, Tryz.ntmps15
  go_wp2_with (go_at_call 22; ((with_reducible refine HBB.out.mono ?_); rintro e w2 ⟨ab, cb, qb, rfl, hq, ho, hb⟩; refine Hid.out ?_))
  have HIN2 := Lib.hid (show InBk w2 ab B by rw [← hq]; exact ho.inBk)
  have HB2 := Lib.hid hb
  clear hq ho hb
  refine Lib.hid ?_
  go_wp2
  go_loop [3, 5] (fun n i => ∃ (k m : Nat), k ≤ B.length ∧ i = .int .i64 k ∧ n = .int .i64 m ∧ m = topK B k) (fun _ i => B.length - (intOf i).toNat)
  case atStart => exact ⟨0, 0, Nat.zero_le _, rfl, rfl, rfl⟩
  case round =>
    obtain ⟨k, m, hk, rfl, rfl, hm⟩ := hrel
    have hm12 : m ≤ 12 := by rw [hm]; exact topK_le HSB.out k
    have HM := Lib.hid hm
    clear hm
    by_cases hlt : k < B.length
    · obtain ⟨b, off, rfl, hbw, hc⟩ := HIN2.out (by omega)
      have hx := List.getElem?_eq_getElem hlt
      obtain ⟨a', c', p0, p1, _, _, p2⟩ := hc k _ hx
      have HX := Lib.hid hx
      have hx12 := (HSB.out.2 _ (List.mem_of_getElem? hx)).1
      generalize B[k] = x at HX hx12 p1
      obtain ⟨x, M⟩ := x
      replace hx12 : M.length ≤ 12 := hx12
      replace p1 : w2.cell? ⟨b, off + k * 2 + 1, none⟩ = some (.slice a' M.length c') := p1
      clear hc hx p0 p2 hbw
      have HE := Lib.hid (show max m M.length = topK B (k + 1) by rw [topK_succ HX.out, ← HM.out])
      go_wp2
      go_round
      case rel => exact ⟨k + 1, max m M.length, by omega, by go_num, by congr 1; omega, HE.out⟩
      case measure => simp [intOf]; omega
    · obtain rfl : k = B.length := by omega
      have HE := Lib.hid (show (m : Int) = r by rw [← HR.out, HM.out])
      go_wp2
      go_ret
      exact ⟨by rw [← HE.out]; rfl, HB2.out⟩

/-- the keys of the first k blocks that are too large -/
def bigK (most : Int) (B : List BK) (k : Nat) : List Str := ((B.take k).filter fun b => decide (most < (b.2.length : Int))).map Prod.fst
theorem bigK_succ {most : Int} {B : List BK} {k : Nat} {x : BK} (h : B[k]? = some x) : bigK most B (k + 1) = bigK most B k ++ if most < (x.2.length : Int) then [x.1] else [] := by
  unfold bigK
  rw [bk_take h, List.filter_append, List.map_append]
  congr 1
  by_cases hc : most < (x.2.length : Int)
  · simp [hc]
  · simp [hc]
theorem bigK_len {most : Int} {B : List BK} {k : Nat} : (bigK most B k).length ≤ k := by
  unfold bigK
  rw [List.length_map]
  have h1 := List.length_filter_le (fun b : BK => decide (most < (b.2.length : Int))) (B.take k)
  have h2 := List.length_take_le k B
  omega

set_option maxRecDepth 100000 in
set_option maxHeartbeats 2000000 in
theorem os_spec (a : Option Addr) (c : Nat) (S : List RC) (most : Int) (r : List Str) (w : World) (hr : osR (kbR S) most = r) (h : SmRc w a S c) (hT : SpT w) :
    Calls Tryz.prog 18 #[.slice a S.length c, .int .i64 most] w (GivesS w r) := by
  obtain ⟨w1, hw1⟩ : ∃ w1, w1 = w.alloc (.cells #[] 9) := ⟨_, rfl⟩
  have HW1 := Lib.hid hw1
  have HB1 := Lib.hid (show Below w.heap.size w w1 by rw [hw1]; exact (Below.refl _ _).alloc (Nat.le_refl _) _)
  have HO1 := Lib.hid (show OwnS w1 w.heap.size (.slice (some ⟨w.heap.size, 0, none⟩) 0 0) [] by rw [hw1]; exact own_new w _ _ rfl (Nat.le_refl _))
  obtain ⟨B, hB⟩ : ∃ B, blkL (kbR S) = B := ⟨_, rfl⟩
  have HSB := Lib.hid (show SmB B by rw [← hB]; exact blk_small S)
  have HBB := Lib.hid (bb_spec a c S B w1 hB (h.below HB1.out) (hT.below HB1.out))
  have HR := Lib.hid (show bigK most B B.length = r by rw [← hr, ← hB]; unfold bigK; rw [List.take_length]; rfl)
  have hbl := HSB.out.1
  clear hw1 hB h hT hr
  obtain ⟨i1, hi1, hy0, hy1, hy2⟩ := info_parts info_str
  go_enter Tryz.func18, Tryz.ntmps18
  go_wp2_with (go_at_call 22; rw [← HW1.out]; ((with_reducible refine HBB.out.mono ?_); rintro e w2 ⟨ab, cb, qb, rfl, hq, ho, hb⟩; refine Hid.out ?_))
  have HIN2 := Lib.hid (show InBk w2 ab B by rw [← hq]; exact ho.inBk)
  have HO2 := Lib.hid (HO1.out.below hb)
  have HB2 := Lib.hid (HB1.out.trans (hb.mono HB1.out.size))
  have HL2 := Lib.hid (show ∀ j, (Value.slice (some ⟨w.heap.size, 0, none⟩) 0 0).ownBlock = some j → j = w.heap.size from fun j hj => by simp [Value.ownBlock] at hj; exact hj.symm)
  have HLO := Lib.hid (show ∀ (b off : Nat), ab = some ⟨b, off, none⟩ → 0 < B.length → w1.heap.size ≤ b from fun b off e h0 => by
    have hbq : B.length = qb.length := by rw [← hq, blksB_len]
    have h9 := ho.out
    rw [← hbq] at h9
    obtain ⟨g, e2, hg, -⟩ := rowX_at h9 h0
    rw [e] at e2
    injection e2 with e2
    injection e2 with e2
    rw [e2]; exact hg)
  clear hq ho hb
  refine Lib.hid ?_
  go_wp2
  go_loopw [5, 7] (fun v i wr => ∃ (k : Nat) (q : List Str), k ≤ B.length ∧ i = .int .i64 k ∧ q = bigK most B k ∧ OwnS wr w.heap.size v q ∧ (∀ j, v.ownBlock = some j → j = w.heap.size ∨ w2.heap.size ≤ j) ∧ Chg w2 wr w.heap.size (w.heap.size + 1) ∧ Below w.heap.size w wr) (fun _ i _ => B.length - (intOf i).toNat)
  case atStart => exact ⟨0, [], Nat.zero_le _, rfl, rfl, HO2.out, (fun j hj => .inl (HL2.out j hj)), Chg.refl _ _ _, HB2.out⟩
  case round =>
    obtain ⟨k, q, hk, rfl, hq, hown, hv, hch, hb⟩ := hrel
    obtain ⟨av, cv, rfl⟩ := hown.shape
    have hql : q.length ≤ k := by rw [hq]; exact bigK_len
    have HQ := Lib.hid hq
    have HOWN := Lib.hid hown
    have HV := Lib.hid hv
    have HCH := Lib.hid hch
    have HB := Lib.hid hb
    clear hq hown hv hch hb
    by_cases hlt : k < B.length
    · obtain ⟨b, off, rfl, hbw, hc⟩ := HIN2.out (by omega)
      have hbl := HLO.out b off rfl (by omega)
      have hx := List.getElem?_eq_getElem hlt
      obtain ⟨a', c', p0, p1, _, _, p2⟩ := hc k _ hx
      have HX := Lib.hid hx
      have hx12 := (HSB.out.2 _ (List.mem_of_getElem? hx)).1
      generalize B[k] = x at HX hx12 p0 p1
      obtain ⟨x, M⟩ := x
      replace hx12 : M.length ≤ 12 := hx12
      obtain ⟨u, hu⟩ : ∃ u, encStr x = .string u := ⟨_, rfl⟩
      have hkeep : wr.heap[b]? = w2.heap[b]? := HCH.out.block b hbw (by have := HB1.out.size; have h1 : w1.heap.size = w.heap.size + 1 := by rw [HW1.out]; simp
                                                                        omega)
      have q0 : wr.cell? ⟨b, off + k * 2, none⟩ = some (.string u) := by rw [← hu]; exact (World.cell?_of_block hkeep).trans p0
      have q1 : wr.cell? ⟨b, off + k * 2 + 1, none⟩ = some (.slice a' M.length c') := (World.cell?_of_block hkeep).trans p1
      have HU := Lib.hid hu
      clear hc hx p0 p1 p2 hbw hbl hkeep hu
      by_cases hmm : most < (M.length : Int)
      · have HE := Lib.hid (show bigK most B (k + 1) = q ++ [x] by rw [bigK_succ HX.out, ← HQ.out]; rw [if_pos hmm])
        have hsw := HB.out.size
        go_wp2_with (at_builtin; refine wpList_append_own_at _ rfl _ _ 31 rfl w.heap.size 9 i1 (.string ⟨#[]⟩) 1 16 Tryz.underlying31 hi1 hy0 hy1 hy2 rfl (by decide) _ _ _ rfl (World.ownsRow.alloc HOWN.out _) ⟨wr.heap.size, 0, none⟩ 1 1 [.string u] rfl rfl (cell_one_new _ _ _) (by simp [Value.oneCell']) (by unfold maxLen; omega) (by omega) (by simp; omega) ?_; intro v' w3 hown3 hg3 hnil3 hat3; refine Hid.out ?_)
        have HO3 := Lib.hid (show OwnS w3 w.heap.size v' (q ++ [x]) by
          unfold OwnS
          rw [List.length_append, List.map_append, List.map_cons, List.map_nil, HU.out]
          exact hown3)
        have hva := fun j (hj : (Value.slice av q.length cv).ownBlock = some j) => (World.ownsRow.lt HOWN.out j hj)
        have HV3 := Lib.hid (show ∀ j, v'.ownBlock = some j → j = w.heap.size ∨ w2.heap.size ≤ j from fun j hj => by
          rcases hat3 with h1 | h1
          · rw [h1] at hj; exact HV.out j hj
          · rw [h1] at hj
            injection hj with hj
            have := HCH.out.size
            simp at hj
            omega)
        have HC3 := Lib.hid ((HCH.out.belowR ((Below.refl wr.heap.size wr).alloc (Nat.le_refl _) (.cells #[.string u] 9))).high hg3 (fun j hj => by
          rcases HV.out j hj with h1 | h1
          · exact .inl (by omega)
          · exact .inr h1))
        have HB3 := Lib.hid ((HB.out.alloc HB.out.size (.cells #[.string u] 9)).grown hg3 (by simp; omega) (fun j hj => (hva j hj).1))
        clear hown3 hg3 hnil3 hat3 hva q0 q1
        refine Lib.hid ?_
        go_wp2
        go_roundw
        case rel => exact ⟨k + 1, q ++ [x], by omega, by go_num, HE.out.symm, HO3.out, HV3.out, HC3.out, HB3.out⟩
        case measure => simp [intOf]; omega
      · have HE := Lib.hid (show bigK most B (k + 1) = q by rw [bigK_succ HX.out, ← HQ.out]; rw [if_neg hmm, List.append_nil])
        go_wp2
        go_roundw
        case rel => exact ⟨k + 1, q, by omega, by go_num, HE.out.symm, HOWN.out, HV.out, HCH.out, HB.out⟩
        case measure => simp [intOf]; omega
    · obtain rfl : k = B.length := by omega
      have HE := Lib.hid (show q = r by rw [HQ.out, HR.out])
      go_wp2
      go_ret
      obtain rfl := HE.out
      exact ⟨_, _, rfl, HOWN.out, HB.out⟩

end Go.Proofs.YtebddnjccmaimaaGreatDoor
