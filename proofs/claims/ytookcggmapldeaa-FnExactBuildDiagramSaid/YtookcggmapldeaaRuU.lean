/-
  Slices of rules: what the laws' own markRuleSet writes. By an AI agent.
-/
import Derived.Test.YtookcggmapldeaaRuS
import Derived.Test.YtookcggmapldeaaRuH
namespace Go.Proofs.Ytookcggmapldeaa
open Go.RowKit
set_option linter.unusedVariables false
set_option linter.unusedSimpArgs false
set_option linter.unnecessarySimpa false

/-- numbers for tests -/
def mkT (m : Nat) : TS := (((m : Nat), (m : Int) + 1), ((m : Int) + 1 + 1) % 3 == 0)
def mkTs (k0 n : Nat) : List TS := (List.range n).map fun j => mkT (k0 + 3 * j)
theorem mkTs_len (k0 n : Nat) : (mkTs k0 n).length = n := by simp [mkTs]
theorem mkTs_succ (k0 n : Nat) : mkTs k0 (n + 1) = mkTs k0 n ++ [mkT (k0 + 3 * n)] := by simp [mkTs, List.range_succ]
theorem mkTs_at {k0 n j : Nat} (h : j < n) : (mkTs k0 n)[j]? = some (mkT (k0 + 3 * j)) := by simp [mkTs, h]
def mkR (k0 : Nat) : List (List TS) → List (List TS)
  | [] => []
  | l :: R => mkTs k0 l.length :: mkR (k0 + 3 * l.length) R
/-- the numbers that are given to the first k rules -/
def ruT (R : List (List TS)) (k : Nat) : Nat := 3 * ((R.take k).map List.length).sum
theorem ruT_succ {R : List (List TS)} {k : Nat} {l : List TS} (h : R[k]? = some l) : ruT R (k + 1) = ruT R k + 3 * l.length := by
  unfold ruT
  obtain ⟨hlt, he⟩ := List.getElem?_eq_some_iff.1 h
  rw [List.take_succ_eq_append_getElem hlt, he]
  simp
  omega
theorem ruT_le {R : List (List TS)} {k : Nat} (hk : k ≤ R.length) : ruT R k ≤ ruT R R.length := by
  obtain ⟨d, hd⟩ : ∃ d, R.length = k + d := ⟨R.length - k, by omega⟩
  unfold ruT
  rw [List.take_length]
  have e : (R.map List.length).sum = ((R.take k).map List.length).sum + ((R.drop k).map List.length).sum := by
    rw [← List.sum_append, ← List.map_append, List.take_append_drop]
  omega
theorem mkR_append (k0 : Nat) (R S : List (List TS)) : mkR k0 (R ++ S) = mkR k0 R ++ mkR (k0 + 3 * (R.map List.length).sum) S := by
  induction R generalizing k0 with
  | nil => simp [mkR]
  | cons l R ih =>
    simp only [List.cons_append, mkR, ih, List.map_cons, List.sum_cons]
    rw [show k0 + 3 * l.length + 3 * (R.map List.length).sum = k0 + 3 * (l.length + (R.map List.length).sum) by omega]
theorem mkR_next {R : List (List TS)} {k k0 : Nat} {l : List TS} (h : R[k]? = some l) : mkR k0 (R.take (k + 1)) = mkR k0 (R.take k) ++ [mkTs (k0 + ruT R k) l.length] := by
  obtain ⟨hlt, he⟩ := List.getElem?_eq_some_iff.1 h
  rw [List.take_succ_eq_append_getElem hlt, he, mkR_append]
  rfl
theorem mkR_len (k0 : Nat) (R : List (List TS)) : (mkR k0 R).length = R.length := by
  induction R generalizing k0 with
  | nil => rfl
  | cons l R ih => simp [mkR, ih]
theorem mkR_at {R : List (List TS)} {k k0 : Nat} {l : List TS} (h : R[k]? = some l) : (mkR k0 R)[k]? = some (mkTs (k0 + ruT R k) l.length) := by
  have h1 := mkR_next (k0 := k0) h
  have h2 : mkR k0 R = mkR k0 (R.take (k + 1)) ++ mkR (k0 + 3 * ((R.take (k + 1)).map List.length).sum) (R.drop (k + 1)) := by rw [← mkR_append, List.take_append_drop]
  have hlt := (List.getElem?_eq_some_iff.1 h).1
  have h3 : (mkR k0 (R.take k)).length = k := by rw [mkR_len, List.length_take]; omega
  rw [h2, h1, List.append_assoc, List.getElem?_append_right (by omega), h3, Nat.sub_self]
  rfl

theorem flatTs_drop {l : List TS} {k : Nat} {x : TS} (h : l[k]? = some x) : flatTs (l.drop k) = .int .i64 x.1.1 :: .int .i64 x.1.2 :: .bool x.2 :: flatTs (l.drop (k + 1)) := by
  obtain ⟨hlt, he⟩ := List.getElem?_eq_some_iff.1 h
  rw [List.drop_eq_getElem_cons hlt, he, flatTs_cons]
theorem grown3u {a b d : World} {r : Option Nat} (h1 : a.grownBy b r) (h2 : b.grownBy d r) : a.grownBy d r :=
  ⟨h2.os.trans h1.os, h2.tape.trans h1.tape, h2.output.trans h1.output, Nat.le_trans h1.size h2.size, fun k hk hne => (h2.block k (Nat.lt_of_lt_of_le hk h1.size) hne).trans (h1.block k hk hne)⟩

set_option maxRecDepth 100000 in
set_option maxHeartbeats 1600000 in
theorem tsmark_any (base : Nat) (a : Option Addr) (cap : Nat) (l : List TS) (k0 : Nat) (w : World) (hl : l.length ≤ 4000000) (hk1 : k0 ≤ 90000000) (hown : OwnTs w base (.slice a l.length cap) l) :
    Calls Try.prog 16 #[.slice a l.length cap, .int .i64 k0] w fun e w' => e = .returned (.int .i64 ((k0 + 3 * l.length : Nat) : Int)) ∧ OwnTs w' base (.slice a l.length cap) (mkTs k0 l.length) ∧ w.grownBy w' (Value.slice a l.length cap).ownBlock := by
  have HOWN := Lib.hid hown
  clear hown
  go_enter Try.func16, Try.ntmps16
  go_wp2
  go_loopw [1, 5] (fun kk i wr => ∃ k : Nat, k ≤ l.length ∧ i = .int .i64 k ∧ kk = .int .i64 ((k0 + 3 * k : Nat) : Int) ∧ wr.ownsRow base 62 3 (.slice a l.length cap) l.length (flatTs (mkTs k0 k) ++ flatTs (l.drop k)) ∧ w.grownBy wr (Value.slice a l.length cap).ownBlock) (fun _ i _ => l.length - (intOf i).toNat)
  case atStart => exact ⟨0, Nat.zero_le _, rfl, by go_num, HOWN.out, World.grownBy.refl _ _⟩
  case round =>
    obtain ⟨k, hk, rfl, rfl, hrow, hg⟩ := hrel
    have HROW := Lib.hid hrow
    have HG := Lib.hid hg
    clear hrow hg
    by_cases hlt : k < l.length
    · obtain ⟨g, rfl, -, -, -⟩ := rowX_at HROW.out (by omega)
      have hrow1 := HROW.out
      have hx := List.getElem?_eq_getElem hlt
      rw [flatTs_drop hx] at hrow1
      have hfl : (flatTs (mkTs k0 k)).length = k * 3 := by rw [flatTs_len, mkTs_len]
      have q0 := hrow1.cellAt (k * 3) (by omega)
      have q1 := hrow1.cellAt (k * 3 + 1) (by omega)
      have q2 := hrow1.cellAt (k * 3 + 2) (by omega)
      rw [(gap3_at hfl).1] at q0
      rw [(gap3_at hfl).2.1] at q1
      rw [(gap3_at hfl).2.2] at q2
      have f0 := hrow1.frozenAt (k * 3)
      have f1 := hrow1.frozenAt (k * 3 + 1)
      have f2 := hrow1.frozenAt (k * 3 + 2)
      obtain ⟨m, hm⟩ : ∃ m, k0 + 3 * k = m := ⟨_, rfl⟩
      have hm9 : m ≤ 190000000 := by omega
      have HN := Lib.hid (hrow1.stored (k * 3) (.int .i64 (m : Int)))
      have HN2 := Lib.hid (HN.out.1.stored (k * 3 + 1) (.int .i64 ((m : Int) + 1)))
      have HN3 := Lib.hid (HN2.out.1.stored (k * 3 + 2) (.bool (((m : Int) + 1 + 1) % 3 == 0)))
      have HM := Lib.hid hm
      have HFL := Lib.hid hfl
      rw [hm]
      clear hrow1 hx hfl hm
      go_wp2
      go_roundw
      case rel =>
        refine ⟨k + 1, by omega, by go_num, by rw [← HM.out]; congr 1, ?_, ?_⟩
        · have h := HN3.out.1
          rw [gap3_set HFL.out] at h
          rw [mkTs_succ, flatTs_snoc, HM.out]
          exact h
        · exact grown3u (grown3u (grown3u HG.out HN.out.2) HN2.out.2) HN3.out.2
      case measure => simp [intOf]; omega
    · obtain rfl : k = l.length := by omega
      go_wp2
      go_ret
      refine ⟨rfl, ?_, HG.out⟩
      have h := HROW.out
      rw [List.drop_length, flatTs_nil, List.append_nil] at h
      unfold OwnTs
      rw [mkTs_len]
      exact h

theorem valsU_mid (q1 q2 : List XU) (p : XU) : valsU (q1 ++ p :: q2) = valsU q1 ++ p.2 :: valsU q2 := by simp [valsU]
/-- another rule of as many tests is stored -/
theorem OwnRu.setrow {w w' : World} {lo : Nat} {v : Value} {q1 q2 : List XU} {p : XU} {l : List TS} (h : OwnRu w lo v (q1 ++ p :: q2)) (hg : w.grownBy w' p.2.ownBlock) (ho : OwnTs w' lo p.2 l) : OwnRu w' lo v (q1 ++ (l, p.2) :: q2) := by
  have hp : p ∈ q1 ++ p :: q2 := List.mem_append_right _ (List.mem_cons_self ..)
  have hd := List.pairwise_append.1 h.dis
  have hd2 := List.pairwise_cons.1 hd.2.1
  refine ⟨?_, fun r hr => ?_, fun r hr k hk => ?_, ?_⟩
  · have h1 := row_keptO h.out hg (fun k hk => h.apart p hp k hk)
    rw [valsU_mid] at h1
    rw [valsU_mid]
    simpa using h1
  · rcases List.mem_append.1 hr with h1 | h1
    · exact row_keptO (h.row r (List.mem_append_left _ h1)) hg (fun k hk e => hd.2.2 r h1 p (List.mem_cons_self ..) k e hk)
    · rcases List.mem_cons.1 h1 with rfl | h1
      · exact ho
      · exact row_keptO (h.row r (List.mem_append_right _ (List.mem_cons_of_mem _ h1))) hg (fun k hk e => hd2.1 r h1 k hk e)
  · rcases List.mem_append.1 hr with h1 | h1
    · exact h.apart r (List.mem_append_left _ h1) k hk
    · rcases List.mem_cons.1 h1 with rfl | h1
      · exact h.apart p hp k hk
      · exact h.apart r (List.mem_append_right _ (List.mem_cons_of_mem _ h1)) k hk
  · have h1 : ((q1 ++ p :: q2).map Prod.snd).Pairwise fun u z => ∀ k, u.ownBlock = some k → z.ownBlock ≠ some k := by rw [List.pairwise_map]; exact h.dis
    have h2 : ((q1 ++ (l, p.2) :: q2).map Prod.snd).Pairwise fun u z => ∀ k, u.ownBlock = some k → z.ownBlock ≠ some k := by simpa using h1
    rw [List.pairwise_map] at h2
    exact h2
theorem xu_drop {q : List XU} {k : Nat} {p : XU} (h : q[k]? = some p) : q.drop k = p :: q.drop (k + 1) := by
  obtain ⟨hlt, he⟩ := List.getElem?_eq_some_iff.1 h
  rw [List.drop_eq_getElem_cons hlt, he]
theorem OwnHRu.setrow {w w' : World} {lo hi : Nat} {v : Value} {q1 q2 : List XU} {p : XU} {l : List TS} (h : OwnHRu w lo hi v (q1 ++ p :: q2)) (hg : w.grownBy w' p.2.ownBlock) (ho : OwnTs w' lo p.2 l) : OwnHRu w' lo hi v (q1 ++ (l, p.2) :: q2) :=
  ⟨h.1.setrow hg ho, h.2.1, fun r hr k hk => by
    rcases List.mem_append.1 hr with h1 | h1
    · exact h.2.2 r (List.mem_append_left _ h1) k hk
    · rcases List.mem_cons.1 h1 with rfl | h1
      · exact h.2.2 p (List.mem_append_right _ (List.mem_cons_self ..)) k hk
      · exact h.2.2 r (List.mem_append_right _ (List.mem_cons_of_mem _ h1)) k hk⟩

set_option maxRecDepth 100000 in
set_option maxHeartbeats 3200000 in
theorem rumark_q (lo hi : Nat) (a : Option Addr) (cap : Nat) (q : List XU) (k0 : Nat) (w : World) (hql : q.length ≤ 4000000) (hx : ∀ x ∈ rulesU q, x.length ≤ 4000000) (hn : k0 + ruT (rulesU q) (rulesU q).length ≤ 90000000) (hown : OwnHRu w lo hi (.slice a q.length cap) q) :
    Calls Try.prog 47 #[.slice a q.length cap, .int .i64 k0] w fun e w' => e = .returned (.int .i64 ((k0 + ruT (rulesU q) (rulesU q).length : Nat) : Int)) ∧ (∃ q', rulesU q' = mkR k0 (rulesU q) ∧ OwnHRu w' lo hi (.slice a q.length cap) q') ∧ Chg w w' lo hi := by
  have HOWN := Lib.hid hown
  have HN := Lib.hid (fun j (hj : j ≤ q.length) => show k0 + ruT (rulesU q) j ≤ 90000000 by have := ruT_le (R := rulesU q) (k := j) (by rw [rulesU_len]; exact hj); omega)
  have HXL := Lib.hid hx
  have HRL := Lib.hid (rulesU_len q)
  clear hown hn hx
  go_enter Try.func47, Try.ntmps47
  go_wp2
  go_loopw [1, 5] (fun kk i wr => ∃ (k : Nat) (q1 : List XU), k ≤ q.length ∧ i = .int .i64 k ∧ kk = .int .i64 ((k0 + ruT (rulesU q) k : Nat) : Int) ∧ q1.length = k ∧ rulesU q1 = mkR k0 ((rulesU q).take k) ∧ OwnHRu wr lo hi (.slice a q.length cap) (q1 ++ q.drop k) ∧ Chg w wr lo hi) (fun _ i _ => q.length - (intOf i).toNat)
  case atStart => exact ⟨0, [], Nat.zero_le _, rfl, by simp [ruT], rfl, rfl, by simpa using HOWN.out, Chg.refl _ _ _⟩
  case round =>
    obtain ⟨k, q1, hk, rfl, rfl, hkl, hrq, hox, hch⟩ := hrel
    have HCH := Lib.hid hch
    have HRQ := Lib.hid hrq
    clear hch hrq
    by_cases hlt : k < q.length
    · have hj := List.getElem?_eq_getElem hlt
      have HJ := Lib.hid (show q[k]? = some q[k] from hj)
      generalize q[k] = p at HJ
      rw [xu_drop HJ.out] at hox
      have HRJ := Lib.hid (show (rulesU q)[k]? = some p.1 by unfold rulesU; rw [List.getElem?_map, HJ.out]; rfl)
      have hlen : (q1 ++ p :: q.drop (k + 1)).length = q.length := by
        rw [List.length_append, List.length_cons, List.length_drop]
        omega
      have hout := hox.1.out
      rw [hlen] at hout
      obtain ⟨g, rfl, hbg, hgl, -⟩ := rowX_at hout (by omega)
      obtain ⟨m, hm⟩ : ∃ m, k0 + ruT (rulesU q) k = m := ⟨_, rfl⟩
      have HM := Lib.hid hm
      have hpl : p.1.length ≤ 4000000 := HXL.out _ (List.mem_of_getElem? HRJ.out)
      have hm2 : m + 3 * p.1.length ≤ 90000000 := by have h := HN.out (k + 1) hlt; rw [ruT_succ HRJ.out] at h; omega
      have hor := hox.1.row p (List.mem_append_right _ (List.mem_cons_self ..))
      obtain ⟨a', c', hp2⟩ := hor.shape
      have HP2 := Lib.hid hp2
      have q0 := hout.cellAt k (by omega)
      rw [valsU_mid, List.getElem?_append_right (by rw [valsU_len]; omega), valsU_len, hkl, Nat.sub_self, List.getElem?_cons_zero, hp2] at q0
      have HSI := Lib.hid hox
      have HOS := Lib.hid (show OwnTs wr lo (.slice a' p.1.length c') p.1 by rw [← hp2]; exact hor)
      have HKL := Lib.hid hkl
      rw [hm]
      clear hox hout hor hj hp2 hlen hbg hgl hkl hm
      go_wp2_with (go_at_call 16; (refine (tsmark_any lo a' c' p.1 m _ (by omega) (by omega) HOS.out).mono ?_); rintro e w4 ⟨rfl, ho, hg⟩; have HO := Lib.hid ho; have HG := Lib.hid hg; clear ho hg)
      go_roundw
      case rel =>
        have hP := HP2.out
        have hst := HSI.out.setrow (l := mkTs m p.1.length) (by rw [hP]; exact HG.out) (by rw [hP]; exact HO.out)
        refine ⟨k + 1, q1 ++ [(mkTs m p.1.length, p.2)], by omega, by go_num, ?_, by simp [HKL.out], ?_, ?_, ?_⟩
        · rw [ruT_succ HRJ.out]
          have := HM.out
          congr 2
          omega
        · rw [mkR_next HRJ.out, ← HRQ.out, HM.out]
          simp [rulesU]
        · rw [List.append_assoc]
          exact hst
        · refine HCH.out.grown HG.out fun j hj => ?_
          have h1 := World.ownsRow.lt HOS.out j hj
          exact ⟨h1.1, HSI.out.2.2 p (List.mem_append_right _ (List.mem_cons_self ..)) j (by rw [hP]; exact hj)⟩
      case measure => simp [intOf]; omega
    · obtain rfl : k = q.length := by omega
      have HOX := Lib.hid hox
      clear hox
      go_wp2
      go_ret
      refine ⟨by rw [HRL.out]; rfl, ⟨q1, ?_, ?_⟩, HCH.out⟩
      · rw [HRQ.out, ← HRL.out, List.take_length]
      · have h := HOX.out
        rw [List.drop_length, List.append_nil] at h
        exact h

set_option maxRecDepth 100000 in
theorem rumark_any (lo hi : Nat) (a : Option Addr) (cap n : Nat) (q : List XU) (R : List (List TS)) (k0 : Nat) (w : World) (hq : rulesU q = R) (hqn : R.length = n) (hk1 : k0 ≤ 90000) (hz : ruz R ≤ 1048576) (hlo : hi ≤ w.heap.size) (hown : OwnHRu w lo hi (.slice a n cap) q) :
    Calls Try.prog 15 #[.agg #[.slice a n cap], .int .i64 k0] w fun e w' => e = .returned (.int .i64 ((k0 + ruT R R.length : Nat) : Int)) ∧ (∃ q', rulesU q' = mkR k0 R ∧ OwnHRu w' lo hi (.slice a n cap) q') ∧ Chg w w' lo hi := by
  subst hq
  rw [rulesU_len] at hqn
  subst hqn
  have h1 := ruz_len (rulesU q)
  rw [rulesU_len] at h1
  have h2 : ruz (rulesU q) = (rulesU q).length + ((rulesU q).map List.length).sum := by unfold ruz ruzT; rw [List.take_length]
  have h3 : ruT (rulesU q) (rulesU q).length = 3 * ((rulesU q).map List.length).sum := by unfold ruT; rw [List.take_length]
  obtain ⟨w1, hw1⟩ : ∃ w1, w1 = w.alloc (.cells #[.slice a q.length cap] 30) := ⟨_, rfl⟩
  have HW := Lib.hid hw1
  have HB1 := Lib.hid (show Below w.heap.size w w1 by rw [hw1]; exact (Below.refl w.heap.size w).alloc (Nat.le_refl _) _)
  have HBX := Lib.hid (show BlkV w1 w.heap.size 30 #[.slice a q.length cap] by rw [hw1]; exact BlkV.new _ _ _)
  have q0 : w1.cell? ⟨w.heap.size, 0, none⟩ = some (.slice a q.length cap) := HBX.out.cell 0
  have HC := Lib.hid (rumark_q lo hi a cap q k0 w1 (by omega) (fun x hx => by have := ruz_mem hx; omega) (by omega) (hown.below HB1.out))
  clear hown hw1 h1 h2 h3
  rw [HW.out] at q0
  go_enter Try.func15, Try.ntmps15
  go_wp2_with (go_at_call 47; rw [← HW.out]; ((with_reducible refine HC.out.mono ?_); rintro e w2 ⟨rfl, hq, hc⟩; have HQ := Lib.hid hq; have HCH := Lib.hid hc; clear hq hc))
  go_ret
  exact ⟨rfl, HQ.out, ⟨HCH.out.os.trans HB1.out.os, HCH.out.tape.trans HB1.out.tape, HCH.out.output.trans HB1.out.output, Nat.le_trans HB1.out.size HCH.out.size, fun k hk hn => (HCH.out.block k (Nat.lt_of_lt_of_le hk HB1.out.size) hn).trans (HB1.out.block k hk)⟩⟩
theorem BlkV.chgU {w w' : World} {g : Nat} {t : TypeId} {cs : Array Value} {lo hi : Nat} (h : BlkV w g t cs) (hc : Chg w w' lo hi) (hn : ¬ (lo ≤ g ∧ g < hi)) : BlkV w' g t cs := (hc.block g h.lt hn).trans h
theorem rumark_m (lo hi : Nat) (a : Option Addr) (cap n m : Nat) (q : List XU) (R : List (List TS)) (k0 : Nat) (w : World) (hq : rulesU q = R) (hqn : R.length = n) (hk1 : k0 ≤ 90000) (hz : ruz R ≤ 1048576) (hm : k0 + ruT R R.length = m) (hlo : hi ≤ w.heap.size) (hown : OwnHRu w lo hi (.slice a n cap) q) :
    Calls Try.prog 15 #[.agg #[.slice a n cap], .int .i64 k0] w fun e w' => e = .returned (.int .i64 (m : Int)) ∧ (∃ q', rulesU q' = mkR k0 R ∧ OwnHRu w' lo hi (.slice a n cap) q') ∧ Chg w w' lo hi := by
  subst hm
  exact rumark_any lo hi a cap n q R k0 w hq hqn hk1 hz hlo hown
theorem ruT_small {R : List (List TS)} (hz : ruz R ≤ 1048576) : ruT R R.length ≤ 3145728 := by
  have h2 : ruz R = R.length + (R.map List.length).sum := by unfold ruz ruzT; rw [List.take_length]
  have h3 : ruT R R.length = 3 * (R.map List.length).sum := by unfold ruT; rw [List.take_length]
  omega

end Go.Proofs.Ytookcggmapldeaa
