/-
  What impl.hasOnlyLetters and impl.soundOf answer, for every string of at most 2^20 bytes. By an AI agent.
-/
import Derived.Test.YtggohfinkpppkabGreatDoorSound
import Derived.Deep.DeepCutAuto
namespace Go.Proofs.YtggohfinkpppkabGreatDoor
open Go.RowKit
set_option linter.unusedVariables false

theorem let_more (s : ByteArray) (k : Nat) (h : k < s.size) (hl : letS (s.data.toList.take k)) (hc : sc s[k] ≠ -2) : letS (s.data.toList.take (k + 1)) := by
  rw [ftake_snoc s k h]
  exact letS_snoc hl hc
theorem let_bad (s : ByteArray) (k : Nat) (h : k < s.size) (hc : sc s[k] = -2) : ¬ letS s.data.toList := fun e =>
  e s[k] (List.mem_of_getElem? (i := k) (by rw [fbyte_at? s k h])) hc
theorem let_at (s : ByteArray) (k : Nat) (h : k < s.size) (hl : letS s.data.toList) : sc s[k] ≠ -2 :=
  hl s[k] (List.mem_of_getElem? (i := k) (by rw [fbyte_at? s k h]))

set_option maxRecDepth 100000 in
set_option maxHeartbeats 800000 in
theorem impl_let (s : ByteArray) (w : World) (b : Bool) (hb : decide (letS s.data.toList) = b) (hs : s.size ≤ 4194304) :
    Calls Tryz.prog 121 #[.string s] w fun e w' => e = .returned (.bool b) ∧ w = w' := by
  have HS := Lib.hid hs
  have HBB := Lib.hid hb
  clear hb
  go_enter Tryz.func121, Tryz.ntmps121
  go_wp2
  go_loopw [6] (fun i wr => ∃ k : Nat, k ≤ s.size ∧ i = .int .i64 k ∧ letS (s.data.toList.take k) ∧ w = wr) (fun i _ => s.size - (intOf i).toNat)
  case atStart => exact ⟨0, Nat.zero_le _, rfl, fun c hc => by simp at hc, rfl⟩
  case round =>
    obtain ⟨k, hk, rfl, hlet, rfl⟩ := hrel
    have HLET := Lib.hid hlet
    clear hlet
    by_cases hlt : k < s.size
    · have hby := s[k].toNat_lt
      obtain ⟨n, hn⟩ : ∃ n, sc s[k] = n := ⟨_, rfl⟩
      have HN := Lib.hid hn
      clear hn
      have HC0 : ∀ w', Calls Tryz.prog 122 #[.int .u8 (s[k].toNat : Int)] w' fun e w'' => e = .returned (.int .i64 n) ∧ w' = w'' := by
        intro w'; rw [← HN.out]; exact impl_sc _ w'
      have HC := Lib.hid HC0
      clear HC0
      by_cases hbad : n = -2
      · have hq : (n == -2) = true := by simp; omega
        have HB2 := Lib.hid (show b = false by rw [← HBB.out]; exact decide_eq_false (let_bad s k hlt (by rw [HN.out, hbad])))
        clear hbad
        go_wp2_with (go_at_call 122; (with_reducible refine (HC.out _).mono ?_); rintro e w1 ⟨rfl, rfl⟩)
        go_ret
        exact ⟨nret_bool HB2.out.symm, rfl⟩
      · have hq : (n == -2) = false := by simp; omega
        have HL2 := Lib.hid (let_more s k hlt HLET.out (by rw [HN.out]; exact hbad))
        clear hbad
        go_wp2_with (go_at_call 122; (with_reducible refine (HC.out _).mono ?_); rintro e w1 ⟨rfl, rfl⟩)
        go_roundw
        case rel => exact ⟨k + 1, by omega, by go_num, HL2.out, trivial⟩
        case measure => simp [intOf]; omega
    · obtain rfl : k = s.size := by omega
      have HB2 := Lib.hid (show b = true by rw [← HBB.out]; exact decide_eq_true (by rw [← ftake_all s]; exact HLET.out))
      go_wp2
      go_ret
      exact ⟨nret_bool HB2.out.symm, rfl⟩

set_option maxRecDepth 100000 in
set_option maxHeartbeats 1600000 in
theorem impl_so_none (s : ByteArray) (w : World) (hs : s.size ≤ 4194304) (h : ¬ letS s.data.toList) :
    Calls Tryz.prog 102 #[.string s] w fun e w' => e = .returned (.agg #[.int .u8 0, .int .u8 0, .int .u8 0, .int .u8 0]) ∧ Below w.heap.size w w' := by
  have hne : 0 < s.size := by
    rcases Nat.eq_zero_or_pos s.size with h0 | h0
    · refine absurd (fun c hc => ?_) h
      rw [show s.data.toList = [] from List.eq_nil_of_length_eq_zero (by simpa using h0)] at hc
      cases hc
    · exact h0
  have HD := Lib.hid (decide_eq_false h)
  have HS := Lib.hid hs
  clear h hs
  have hse : s.toList.isEmpty = false := by
    rw [ByteArray.toList_eq]
    cases he : s.data.toList with
    | nil =>
      have h2 : s.data.toList.length = s.size := by simp
      rw [he, List.length_nil] at h2
      omega
    | cons a l => rfl
  go_enter Tryz.func102, Tryz.ntmps102
  go_wp2_with (go_at_call 121; (with_reducible refine (impl_let _ _ _ HD.out HS.out).mono ?_); rintro e w1 ⟨rfl, rfl⟩)
  exact bodyPost_ret (v := .agg #[.int .u8 0, .int .u8 0, .int .u8 0, .int .u8 0]) (by simp [results, Tryz.results102, go_sem]) rfl ⟨rfl, (Below.refl _ _).alloc (Nat.le_refl _) _⟩

set_option maxRecDepth 100000 in
set_option maxHeartbeats 1600000 in
theorem impl_so_empty (w : World) :
    Calls Tryz.prog 102 #[.string ⟨#[]⟩] w fun e w' => e = .returned (.agg #[.int .u8 0, .int .u8 0, .int .u8 0, .int .u8 0]) ∧ Below w.heap.size w w' := by
  go_enter Tryz.func102, Tryz.ntmps102
  go_wp2
  exact bodyPost_ret (v := .agg #[.int .u8 0, .int .u8 0, .int .u8 0, .int .u8 0]) (by simp [results, Tryz.results102, go_sem]) rfl ⟨rfl, (Below.refl _ _).alloc (Nat.le_refl _) _⟩

/-- block g holds an array of these bytes -/
def BlkA (w : World) (g : Nat) (l : List UInt8) : Prop := w.heap[g]? = some (.cells (Lib.byteCells l).toArray 94 (0, 0))

theorem BlkA.cell {w : World} {g : Nat} {l : List UInt8} (h : BlkA w g l) {i : Nat} {b : UInt8} (hi : l[i]? = some b) : w.cell? ⟨g, i, none⟩ = some (.int .u8 (b.toNat : Int)) := by
  rw [cell_of_row w g i _ 94 _ h]
  rw [List.getElem?_toArray]
  simp [Lib.byteCells, hi]
theorem BlkA.frozen {w : World} {g : Nat} {l : List UInt8} (h : BlkA w g l) (i : Nat) : w.frozen? ⟨g, i, none⟩ = false := by
  unfold BlkA at h
  simp [World.frozen?, h]
theorem BlkA.set_ {w : World} {g : Nat} {l : List UInt8} (h : BlkA w g l) (i : Nat) (b : UInt8) (x : Int) (hx : x = b.toNat) : BlkA (w.setCell ⟨g, i, none⟩ (.int .u8 x)) g (l.set i b) := by
  subst hx
  unfold BlkA at h ⊢
  have e : Lib.byteCells (l.set i b) = (Lib.byteCells l).set i (.int .u8 b.toNat) := by simp [Lib.byteCells, List.map_set]
  rw [e]
  simp [World.setCell, Array.getElem?_modify, h]
theorem BlkA.other {w : World} {g k : Nat} {l : List UInt8} (h : BlkA w g l) (o : Nat) (u : Value) (hne : g ≠ k) : BlkA (w.setCell ⟨k, o, none⟩ u) g l := by
  unfold BlkA at h ⊢
  rw [Below.heap_setCell w ⟨k, o, none⟩ u g hne, h]

theorem full_put {l : List UInt8} {c : UInt8} {m : Nat} {n : Int} (h0 : l ≠ []) (h1 : 0 < sc c) (h2 : sc c ≠ (sxS l).2) (h3 : (sxS l).1.length < 4) (hm : (sxS l).1.length = m) (hn : sc c = n) :
    sxFull (l ++ [c]) = (sxFull l).set m (UInt8.ofNat (48 + n).toNat) ∧ sxS (l ++ [c]) = ((sxS l).1 ++ [UInt8.ofNat (48 + n).toNat], n) := by
  subst hm
  subst hn
  have e : sxS (l ++ [c]) = ((sxS l).1 ++ [UInt8.ofNat (48 + sc c).toNat], sc c) := by rw [sxS_snoc h0, step_put h1 h2 h3]
  refine ⟨?_, e⟩
  unfold sxFull
  rw [e]
  obtain ⟨d, hd⟩ : ∃ d, 4 - (sxS l).1.length = d + 1 := ⟨3 - (sxS l).1.length, by omega⟩
  have e2 : 4 - ((sxS l).1 ++ [UInt8.ofNat (48 + sc c).toNat]).length = d := by rw [List.length_append]; simp; omega
  rw [List.set_append_right _ _ (Nat.le_refl _), Nat.sub_self, hd, e2, List.replicate_succ, List.set_cons_zero, List.append_assoc]
  rfl

theorem full_same {l : List UInt8} {c : UInt8} (h0 : l ≠ []) (h : ¬ (0 < sc c ∧ sc c ≠ (sxS l).2 ∧ (sxS l).1.length < 4)) : sxFull (l ++ [c]) = sxFull l := by
  have e : (sxS (l ++ [c])).1 = (sxS l).1 := by
    rw [sxS_snoc h0]
    unfold sxStep
    rw [if_neg h]
  unfold sxFull
  rw [e]

theorem full_end {l : List UInt8} (h : (sxS l).1.length = 4) (r : List UInt8) : sxFull (l ++ r) = sxFull l := by
  unfold sxFull
  rw [sxS_full h]

theorem take_some (s : ByteArray) (k : Nat) (h : k < s.size) (h0 : 1 ≤ k) : s.data.toList.take k ≠ [] := by
  intro e
  have h1 := congrArg List.length e
  have h2 : s.data.toList.length = s.size := by simp
  rw [List.length_take, h2, List.length_nil] at h1
  omega

set_option maxRecDepth 100000 in
set_option maxHeartbeats 1600000 in
theorem impl_so_main (s : ByteArray) (w : World) (hs : s.size ≤ 4194304) (h0 : 0 < s.size) (h : letS s.data.toList) (a0 a1 a2 a3 : UInt8) (hr : sxFull s.data.toList = [a0, a1, a2, a3]) :
    Calls Tryz.prog 102 #[.string s] w fun e w' => e = .returned (.agg #[.int .u8 (a0.toNat : Int), .int .u8 (a1.toNat : Int), .int .u8 (a2.toNat : Int), .int .u8 (a3.toNat : Int)]) ∧ Below w.heap.size w w' := by
  have HD := Lib.hid (decide_eq_true h)
  have HL := Lib.hid h
  have HS := Lib.hid hs
  have HR := Lib.hid hr
  clear h hr
  have hse : s.toList.isEmpty = false := by
    rw [ByteArray.toList_eq]
    cases he : s.data.toList with
    | nil =>
      have h2 : s.data.toList.length = s.size := by simp
      rw [he, List.length_nil] at h2
      omega
    | cons a l => rfl
  obtain ⟨y, hy⟩ : ∃ y, foldB s[0] = y := ⟨_, rfl⟩
  have HY := Lib.hid hy
  obtain ⟨n, hn⟩ : ∃ n, sc s[0] = n := ⟨_, rfl⟩
  have HN := Lib.hid hn
  clear hy hn
  have HC0 : ∀ w', Calls Tryz.prog 122 #[.int .u8 (s[0].toNat : Int)] w' fun e w'' => e = .returned (.int .i64 n) ∧ w' = w'' := by
    intro w'; rw [← HN.out]; exact impl_sc _ w'
  have HC := Lib.hid HC0
  clear HC0
  go_enter Tryz.func102, Tryz.ntmps102
  go_wp2_with (first
    | (go_at_call 121; (with_reducible refine (impl_let _ _ _ HD.out HS.out).mono ?_); rintro e w1 ⟨rfl, rfl⟩)
    | (go_at_call 114; (with_reducible refine (foldByte_is _ _ y HY.out).mono ?_); rintro e w1 ⟨rfl, rfl⟩)
    | (go_at_call 122; (with_reducible refine (HC.out _).mono ?_); rintro e w1 ⟨rfl, rfl⟩))
  go_loopw [4, 5, 6] (fun le pr i wr => ∃ k : Nat, 1 ≤ k ∧ k ≤ s.size ∧ i = .int .i64 k ∧ pr = .int .i64 (sxS (s.data.toList.take k)).2 ∧ le = .int .i64 ((sxS (s.data.toList.take k)).1.length : Nat) ∧
      BlkA wr w.heap.size [0, 0, 0, 0] ∧ BlkA wr (w.heap.size + 1) (sxFull (s.data.toList.take k)) ∧ Below w.heap.size w wr) (fun _ _ i _ => s.size - (intOf i).toNat)
  case atStart =>
    have HE : sxS (s.data.toList.take 1) = ([y], n) := by rw [ftake_snoc s 0 h0, List.take_zero, sxS_one, HY.out, HN.out]
    refine ⟨1, Nat.le_refl _, h0, rfl, by rw [HE], by rw [HE]; rfl, ?_, ?_, ((Below.refl _ _).alloc (Nat.le_refl _) _).alloc (by simp) _⟩
    · exact (Below.heap_alloc (w.alloc _) _ w.heap.size (by simp)).trans (heap_alloc_new w _)
    · unfold sxFull
      rw [HE]
      have h1 := heap_alloc_new (w.alloc (.cells #[.int .u8 0, .int .u8 0, .int .u8 0, .int .u8 0] 94)) (.cells #[.int .u8 (y.toNat : Int), .int .u8 48, .int .u8 48, .int .u8 48] 94)
      have h2 : (w.alloc (.cells #[.int .u8 0, .int .u8 0, .int .u8 0, .int .u8 0] 94)).heap.size = w.heap.size + 1 := by simp
      rw [h2] at h1
      exact h1
  case round =>
    obtain ⟨k, hk1, hk, rfl, rfl, rfl, hz, hc, hb⟩ := hrel
    have HZ := Lib.hid hz
    have HK := Lib.hid hc
    have HB := Lib.hid hb
    obtain ⟨la, hla⟩ : ∃ la, (sxS (s.data.toList.take k)).2 = la := ⟨_, rfl⟩
    obtain ⟨m, hm⟩ : ∃ m, (sxS (s.data.toList.take k)).1.length = m := ⟨_, rfl⟩
    have hm4 : m ≤ 4 := by rw [← hm]; exact sxS_len _
    rw [hm, hla]
    have HM := Lib.hid hm
    have HLA := Lib.hid hla
    clear hz hc hb hm hla
    by_cases hgo : k < s.size ∧ m < 4
    · obtain ⟨hlt, hmlt⟩ := hgo
      have hby := s[k].toNat_lt
      obtain ⟨n, hn⟩ : ∃ n, sc s[k] = n := ⟨_, rfl⟩
      have hr := sc_range s[k]
      have hr3 := let_at s k hlt HL.out
      rw [hn] at hr hr3
      obtain ⟨hr1, hr2⟩ := hr
      have HN := Lib.hid hn
      clear hn
      have HC0 : ∀ w', Calls Tryz.prog 122 #[.int .u8 (s[k].toNat : Int)] w' fun e w'' => e = .returned (.int .i64 n) ∧ w' = w'' := by
        intro w'; rw [← HN.out]; exact impl_sc _ w'
      have HC := Lib.hid HC0
      clear HC0
      have HT := Lib.hid (ftake_snoc s k hlt)
      have HNE := Lib.hid (take_some s k hlt hk1)
      by_cases hneg : n = -1
      · have hq : (n == -1) = true := by simp; omega
        have HE := Lib.hid (show sxS (s.data.toList.take (k + 1)) = sxS (s.data.toList.take k) by rw [HT.out, sxS_snoc HNE.out, step_skip (by rw [HN.out]; omega)])
        have HF := Lib.hid (show sxFull (s.data.toList.take (k + 1)) = sxFull (s.data.toList.take k) by unfold sxFull; rw [HE.out])
        clear hneg hr3
        go_wp2_with (go_at_call 122; (with_reducible refine (HC.out _).mono ?_); rintro e w1 ⟨rfl, rfl⟩)
        go_roundw
        case rel => exact ⟨k + 1, by omega, by omega, by go_num, by rw [HE.out, HLA.out], by rw [HE.out, HM.out], HZ.out, by rw [HF.out]; exact HK.out, HB.out⟩
        case measure => simp [intOf]; omega
      · have hq : (n == -1) = false := by simp; omega
        have hn0 : 0 ≤ n := by omega
        clear hneg hr3
        by_cases hput : 0 < n ∧ n ≠ la
        · obtain ⟨p1, p2⟩ := hput
          have p3 : (n != la) = true := by simp; exact p2
          obtain ⟨hF, hE⟩ := full_put (c := s[k]) (m := m) (n := n) HNE.out (by rw [HN.out]; exact p1) (by rw [HN.out, HLA.out]; exact p2) (by rw [HM.out]; exact hmlt) HM.out HN.out
          rw [← HT.out] at hF hE
          have HF := Lib.hid hF
          have HE := Lib.hid hE
          have hfz := HK.out.frozen m
          obtain ⟨ob, hob⟩ : ∃ ob, (sxFull (s.data.toList.take k))[m]? = some ob := ⟨_, List.getElem?_eq_getElem (by rw [sxFull_length]; exact hmlt)⟩
          have hcl := HK.out.cell hob
          clear hob
          have hp48 : 0 ≤ 48 + n ∧ 48 + n ≤ 255 := by omega
          clear hF hE p2
          go_wp2_with (go_at_call 122; (with_reducible refine (HC.out _).mono ?_); rintro e w1 ⟨rfl, rfl⟩)
          go_roundw
          case rel =>
            refine ⟨k + 1, by omega, by omega, by go_num, by rw [HE.out], by rw [HE.out, List.length_append, HM.out]; rfl, HZ.out.other _ _ (by omega), ?_, HB.out.setCell (by simp) _⟩
            rw [HF.out]
            exact HK.out.set_ _ _ _ (by rw [UInt8.toNat_ofNat']; omega)
          case measure => simp [intOf]; omega
        · have HPUT : ¬ (0 < sc s[k] ∧ sc s[k] ≠ (sxS (s.data.toList.take k)).2 ∧ (sxS (s.data.toList.take k)).1.length < 4) := by
            rw [HN.out, HLA.out]
            exact fun e => hput ⟨e.1, e.2.1⟩
          have HE := Lib.hid (show sxS (s.data.toList.take (k + 1)) = ((sxS (s.data.toList.take k)).1, n) by rw [HT.out, sxS_snoc HNE.out, step_same (by rw [HN.out]; exact hn0) HPUT, HN.out])
          have HF := Lib.hid (show sxFull (s.data.toList.take (k + 1)) = sxFull (s.data.toList.take k) by rw [HT.out]; exact full_same HNE.out HPUT)
          have hway : (¬ 0 < n) ∨ (0 < n ∧ (n != la) = false) := by
            by_cases c1 : 0 < n
            · exact .inr ⟨c1, by simp; exact Decidable.byContradiction fun e => hput ⟨c1, e⟩⟩
            · exact .inl c1
          clear HPUT hput
          rcases hway with q1 | ⟨q1, q2⟩
          all_goals
            go_wp2_with (go_at_call 122; (with_reducible refine (HC.out _).mono ?_); rintro e w1 ⟨rfl, rfl⟩)
            go_roundw
            case rel => exact ⟨k + 1, by omega, by omega, by go_num, by rw [HE.out], by rw [HE.out]; exact congrArg (fun x : Nat => Value.int .i64 (x : Int)) HM.out.symm, HZ.out, by rw [HF.out]; exact HK.out, HB.out⟩
            case measure => simp [intOf]; omega
    · have HF : sxFull (s.data.toList.take k) = [a0, a1, a2, a3] := by
        rw [← HR.out]
        by_cases e : k < s.size
        · have e4 : m = 4 := by omega
          have h1 := full_end (l := s.data.toList.take k) (by rw [HM.out, e4]) (s.data.toList.drop k)
          rw [List.take_append_drop] at h1
          exact h1.symm
        · obtain rfl : k = s.size := by omega
          rw [ftake_all]
      have hk2 := HK.out
      rw [HF] at hk2
      have c0 := hk2.cell (i := 0) (b := a0) rfl
      have c1 := hk2.cell (i := 1) (b := a1) rfl
      have c2 := hk2.cell (i := 2) (b := a2) rfl
      have c3 := hk2.cell (i := 3) (b := a3) rfl
      have d0 := HZ.out.cell (i := 0) (b := 0) rfl
      have d1 := HZ.out.cell (i := 1) (b := 0) rfl
      have d2 := HZ.out.cell (i := 2) (b := 0) rfl
      have d3 := HZ.out.cell (i := 3) (b := 0) rfl
      have f0 := HZ.out.frozen 0
      have f1 := HZ.out.frozen 1
      have f2 := HZ.out.frozen 2
      have f3 := HZ.out.frozen 3
      clear HF hk2
      have hway : (¬ k < s.size) ∨ (k < s.size ∧ ¬ m < 4) := by omega
      clear hgo
      rcases hway with q1 | ⟨q1, q2⟩
      all_goals
        go_wp2
        have z4 := (((HZ.out.set_ 0 a0 _ rfl).set_ 1 a1 _ rfl).set_ 2 a2 _ rfl).set_ 3 a3 _ rfl
        have e0 := z4.cell (i := 0) (b := a0) rfl
        have e1 := z4.cell (i := 1) (b := a1) rfl
        have e2 := z4.cell (i := 2) (b := a2) rfl
        have e3 := z4.cell (i := 3) (b := a3) rfl
        have hb4 := (((HB.out.setCell (p := ⟨w.heap.size, 0, none⟩) (Nat.le_refl _) (.int .u8 (a0.toNat : Int))).setCell (p := ⟨w.heap.size, 1, none⟩) (Nat.le_refl _) (.int .u8 (a1.toNat : Int))).setCell (p := ⟨w.heap.size, 2, none⟩) (Nat.le_refl _) (.int .u8 (a2.toNat : Int))).setCell (p := ⟨w.heap.size, 3, none⟩) (Nat.le_refl _) (.int .u8 (a3.toNat : Int))
        exact bodyPost_ret (v := .agg #[.int .u8 (a0.toNat : Int), .int .u8 (a1.toNat : Int), .int .u8 (a2.toNat : Int), .int .u8 (a3.toNat : Int)]) (by simp [results, Tryz.results102, go_sem, e0, e1, e2, e3]) rfl ⟨rfl, hb4⟩

/-- an array of four bytes -/
def arr4 (a b c d : UInt8) : Value := .agg #[.int .u8 (a.toNat : Int), .int .u8 (b.toNat : Int), .int .u8 (c.toNat : Int), .int .u8 (d.toNat : Int)]

theorem four_of {l : List UInt8} (h : l.length = 4) : ∃ a b c d, l = [a, b, c, d] := by
  match l, h with
  | [a, b, c, d], _ => exact ⟨a, b, c, d, rfl⟩

/-- soundOf, its four bytes under names -/
theorem impl_so (s : ByteArray) (w : World) (hs : s.size ≤ 4194304) (a b c d : UInt8) (h : sndL s.data.toList = [a, b, c, d]) :
    Calls Tryz.prog 102 #[.string s] w fun e w' => e = .returned (.agg #[.int .u8 (a.toNat : Int), .int .u8 (b.toNat : Int), .int .u8 (c.toNat : Int), .int .u8 (d.toNat : Int)]) ∧ Below w.heap.size w w' := by
  rcases Nat.eq_zero_or_pos s.size with h0 | h0
  · have hn : s.data.toList = [] := List.eq_nil_of_length_eq_zero (by simpa using h0)
    obtain rfl : s = ⟨#[]⟩ := by
      apply ByteArray.ext
      apply Array.toList_inj.1
      rw [hn]
    rw [sndL_none (by rw [hn]; exact sxL_nil)] at h
    injection h with e0 h
    injection h with e1 h
    injection h with e2 h
    injection h with e3 h
    subst e0; subst e1; subst e2; subst e3
    exact impl_so_empty w
  · have hne : s.data.toList ≠ [] := by
      intro e
      have h1 := congrArg List.length e
      have h2 : s.data.toList.length = s.size := by simp
      rw [h2, List.length_nil] at h1
      omega
    by_cases hl : letS s.data.toList
    · refine impl_so_main s w hs h0 hl a b c d ?_
      have e := sxL_some hne hl
      rw [← e, ← sndL_some (by rw [e]; exact sxFull_ne _), h]
    · rw [sndL_none (sxL_none hl)] at h
      injection h with e0 h
      injection h with e1 h
      injection h with e2 h
      injection h with e3 h
      subst e0; subst e1; subst e2; subst e3
      exact impl_so_none s w hs hl

end Go.Proofs.YtggohfinkpppkabGreatDoor
