/-
  Texts laid together: Sound, SndOf, Sound2, Sndex, SndLaw. By an AI agent.
-/
import Derived.Test.YtebddnjccmaimaaGreatDoorGNorm
import Derived.Test.YtebddnjccmaimaaGreatDoorGPlain
import Derived.Deep.DeepCutAuto
import Derived.ChangeKeysEq
import Derived.Deep.RegionHeld3
import Derived.Deep.RegionWith
/-
  What SoundCode answers on both sides, for every byte. By an AI agent.
-/
namespace Go.Proofs.YtebddnjccmaimaaGreatDoor
open Go.RowKit
set_option linter.unusedVariables false

theorem one_str (y k : UInt8) : ((⟨#[y]⟩ : ByteArray) = ⟨#[k]⟩) ↔ y = k := by
  constructor
  · intro h
    injection h with h
    injection h with h
    injection h
  · intro h
    rw [h]

theorem foldByte_is (c : UInt8) (w : World) (y : UInt8) (h : foldB c = y) :
    Calls Tryz.prog 167 #[.int .u8 (c.toNat : Int)] w fun e w' => e = .returned (.int .u8 (y.toNat : Int)) ∧ w = w' := by
  subst h
  exact foldByte_any c w

set_option maxRecDepth 100000 in
set_option maxHeartbeats 2000000 in
theorem impl_sc (c : UInt8) (w : World) :
    Calls Tryz.prog 168 #[.int .u8 (c.toNat : Int)] w fun e w' => e = .returned (.int .i64 (sc c)) ∧ w = w' := by
  obtain ⟨y, hy⟩ : ∃ y, foldB c = y := ⟨_, rfl⟩
  have HY := Lib.hid hy
  have e : sc c = scF (y.toNat : Int) := by unfold sc; rw [hy]
  rw [e]
  clear hy e
  go_enter Tryz.func168, Tryz.ntmps168
  go_wp2_with (go_at_call 167; refine (foldByte_is c _ y HY.out).mono ?_; rintro e w' ⟨rfl, rfl⟩)
  all_goals
    go_ret
    refine ⟨congrArg (fun x => Ending.returned (.int .i64 x)) (show _ = scF (y.toNat : Int) from ?_), rfl⟩
    simp_all [scF]

theorem fold_one (c : UInt8) : foldL (⟨#[c]⟩ : ByteArray).data.toList = [foldB c] := rfl

theorem spec_fc_one (c : UInt8) (w : World) (y : UInt8) (h : foldB c = y) :
    Calls Tryz.prog 128 #[.string ⟨#[c]⟩] w fun e w' => e = .returned (.string ⟨#[y]⟩) ∧ Below w.heap.size w w' := by
  subst h
  exact spec_fc ⟨#[c]⟩ w (show (1 : Nat) ≤ 1048576 by decide)

theorem conv_one (w : World) (c : UInt8) :
    (convert 22 9 (.slice (some ⟨w.heap.size, 0, none⟩) 1 1)).run Tryz.prog (w.alloc (.cells #[.int .u8 (c.toNat : Int)] 5)) =
      .ok (.string ⟨#[c]⟩) (w.alloc (.cells #[.int .u8 (c.toNat : Int)] 5)) := by
  have h := convert_one w (c.toNat : Int) (by omega) (by have := c.toNat_lt; omega)
  rw [byte_of_nat] at h
  exact h

end Go.Proofs.YtebddnjccmaimaaGreatDoor

/-
  What impl.hasOnlyLetters and impl.soundOf answer, for every string of at most 2^20 bytes. By an AI agent.
-/
namespace Go.Proofs.YtebddnjccmaimaaGreatDoor
open Go.RowKit
set_option linter.unusedVariables false

theorem let_more (s : ByteArray) (k : Nat) (h : k < s.size) (hl : letS (s.data.toList.take k)) (hc : sc s[k] ≠ -2) : letS (s.data.toList.take (k + 1)) := by
  rw [ftake_snoc s k h]
  exact letS_snoc hl hc
theorem let_bad (s : ByteArray) (k : Nat) (h : k < s.size) (hc : sc s[k] = -2) : ¬ letS s.data.toList := fun e =>
  e s[k] (List.mem_of_getElem? (i := k) (by rw [fbyte_at? s k h])) hc
theorem let_at (s : ByteArray) (k : Nat) (h : k < s.size) (hl : letS s.data.toList) : sc s[k] ≠ -2 :=
  hl s[k] (List.mem_of_getElem? (i := k) (by rw [fbyte_at? s k h]))

set_option maxRecDepth 100000 in
set_option maxHeartbeats 800000 in
theorem impl_let (s : ByteArray) (w : World) (b : Bool) (hb : decide (letS s.data.toList) = b) (hs : s.size ≤ 4194304) :
    Calls Tryz.prog 166 #[.string s] w fun e w' => e = .returned (.bool b) ∧ w = w' := by
  have HS := Lib.hid hs
  have HBB := Lib.hid hb
  clear hb
  go_enter Tryz.func166, Tryz.ntmps166
  go_wp2
  go_loopw [6] (fun i wr => ∃ k : Nat, k ≤ s.size ∧ i = .int .i64 k ∧ letS (s.data.toList.take k) ∧ w = wr) (fun i _ => s.size - (intOf i).toNat)
  case atStart => exact ⟨0, Nat.zero_le _, rfl, fun c hc => by simp at hc, rfl⟩
  case round =>
    obtain ⟨k, hk, rfl, hlet, rfl⟩ := hrel
    have HLET := Lib.hid hlet
    clear hlet
    by_cases hlt : k < s.size
    · have hby := s[k].toNat_lt
      obtain ⟨n, hn⟩ : ∃ n, sc s[k] = n := ⟨_, rfl⟩
      have HN := Lib.hid hn
      clear hn
      have HC0 : ∀ w', Calls Tryz.prog 168 #[.int .u8 (s[k].toNat : Int)] w' fun e w'' => e = .returned (.int .i64 n) ∧ w' = w'' := by
        intro w'; rw [← HN.out]; exact impl_sc _ w'
      have HC := Lib.hid HC0
      clear HC0
      by_cases hbad : n = -2
      · have hq : (n == -2) = true := by simp; omega
        have HB2 := Lib.hid (show b = false by rw [← HBB.out]; exact decide_eq_false (let_bad s k hlt (by rw [HN.out, hbad])))
        clear hbad
        go_wp2_with (go_at_call 168; (with_reducible refine (HC.out _).mono ?_); rintro e w1 ⟨rfl, rfl⟩)
        go_ret
        exact ⟨nret_bool HB2.out.symm, rfl⟩
      · have hq : (n == -2) = false := by simp; omega
        have HL2 := Lib.hid (let_more s k hlt HLET.out (by rw [HN.out]; exact hbad))
        clear hbad
        go_wp2_with (go_at_call 168; (with_reducible refine (HC.out _).mono ?_); rintro e w1 ⟨rfl, rfl⟩)
        go_roundw
        case rel => exact ⟨k + 1, by omega, by go_num, HL2.out, trivial⟩
        case measure => simp [intOf]; omega
    · obtain rfl : k = s.size := by omega
      have HB2 := Lib.hid (show b = true by rw [← HBB.out]; exact decide_eq_true (by rw [← ftake_all s]; exact HLET.out))
      go_wp2
      go_ret
      exact ⟨nret_bool HB2.out.symm, rfl⟩

set_option maxRecDepth 100000 in
set_option maxHeartbeats 1600000 in
theorem impl_so_none (s : ByteArray) (w : World) (hs : s.size ≤ 4194304) (h : ¬ letS s.data.toList) :
    Calls Tryz.prog 148 #[.string s] w fun e w' => e = .returned (.agg #[.int .u8 0, .int .u8 0, .int .u8 0, .int .u8 0]) ∧ Below w.heap.size w w' := by
  have hne : 0 < s.size := by
    rcases Nat.eq_zero_or_pos s.size with h0 | h0
    · refine absurd (fun c hc => ?_) h
      rw [show s.data.toList = [] from List.eq_nil_of_length_eq_zero (by simpa using h0)] at hc
      cases hc
    · exact h0
  have HD := Lib.hid (decide_eq_false h)
  have HS := Lib.hid hs
  clear h hs
  have hse : s.toList.isEmpty = false := by
    rw [ByteArray.toList_eq]
    cases he : s.data.toList with
    | nil =>
      have h2 : s.data.toList.length = s.size := by simp
      rw [he, List.length_nil] at h2
      omega
    | cons a l => rfl
  go_enter Tryz.func148, Tryz.ntmps148
  go_wp2_with (go_at_call 166; (with_reducible refine (impl_let _ _ _ HD.out HS.out).mono ?_); rintro e w1 ⟨rfl, rfl⟩)
  exact bodyPost_ret (v := .agg #[.int .u8 0, .int .u8 0, .int .u8 0, .int .u8 0]) (by simp [results, Tryz.results148, go_sem]) rfl ⟨rfl, (Below.refl _ _).alloc (Nat.le_refl _) _⟩

set_option maxRecDepth 100000 in
set_option maxHeartbeats 1600000 in
theorem impl_so_empty (w : World) :
    Calls Tryz.prog 148 #[.string ⟨#[]⟩] w fun e w' => e = .returned (.agg #[.int .u8 0, .int .u8 0, .int .u8 0, .int .u8 0]) ∧ Below w.heap.size w w' := by
  go_enter Tryz.func148, Tryz.ntmps148
  go_wp2
  exact bodyPost_ret (v := .agg #[.int .u8 0, .int .u8 0, .int .u8 0, .int .u8 0]) (by simp [results, Tryz.results148, go_sem]) rfl ⟨rfl, (Below.refl _ _).alloc (Nat.le_refl _) _⟩

/-- block g holds an array of these bytes -/
def BlkA (w : World) (g : Nat) (l : List UInt8) : Prop := w.heap[g]? = some (.cells (Lib.byteCells l).toArray 146 (0, 0))

theorem BlkA.cell {w : World} {g : Nat} {l : List UInt8} (h : BlkA w g l) {i : Nat} {b : UInt8} (hi : l[i]? = some b) : w.cell? ⟨g, i, none⟩ = some (.int .u8 (b.toNat : Int)) := by
  rw [cell_of_row w g i _ 146 _ h]
  rw [List.getElem?_toArray]
  simp [Lib.byteCells, hi]
theorem BlkA.frozen {w : World} {g : Nat} {l : List UInt8} (h : BlkA w g l) (i : Nat) : w.frozen? ⟨g, i, none⟩ = false := by
  unfold BlkA at h
  simp [World.frozen?, h]
theorem BlkA.set_ {w : World} {g : Nat} {l : List UInt8} (h : BlkA w g l) (i : Nat) (b : UInt8) (x : Int) (hx : x = b.toNat) : BlkA (w.setCell ⟨g, i, none⟩ (.int .u8 x)) g (l.set i b) := by
  subst hx
  unfold BlkA at h ⊢
  have e : Lib.byteCells (l.set i b) = (Lib.byteCells l).set i (.int .u8 b.toNat) := by simp [Lib.byteCells, List.map_set]
  rw [e]
  simp [World.setCell, Array.getElem?_modify, h]
theorem BlkA.other {w : World} {g k : Nat} {l : List UInt8} (h : BlkA w g l) (o : Nat) (u : Value) (hne : g ≠ k) : BlkA (w.setCell ⟨k, o, none⟩ u) g l := by
  unfold BlkA at h ⊢
  rw [Below.heap_setCell w ⟨k, o, none⟩ u g hne, h]

theorem full_put {l : List UInt8} {c : UInt8} {m : Nat} {n : Int} (h0 : l ≠ []) (h1 : 0 < sc c) (h2 : sc c ≠ (sxS l).2) (h3 : (sxS l).1.length < 4) (hm : (sxS l).1.length = m) (hn : sc c = n) :
    sxFull (l ++ [c]) = (sxFull l).set m (UInt8.ofNat (48 + n).toNat) ∧ sxS (l ++ [c]) = ((sxS l).1 ++ [UInt8.ofNat (48 + n).toNat], n) := by
  subst hm
  subst hn
  have e : sxS (l ++ [c]) = ((sxS l).1 ++ [UInt8.ofNat (48 + sc c).toNat], sc c) := by rw [sxS_snoc h0, step_put h1 h2 h3]
  refine ⟨?_, e⟩
  unfold sxFull
  rw [e]
  obtain ⟨d, hd⟩ : ∃ d, 4 - (sxS l).1.length = d + 1 := ⟨3 - (sxS l).1.length, by omega⟩
  have e2 : 4 - ((sxS l).1 ++ [UInt8.ofNat (48 + sc c).toNat]).length = d := by rw [List.length_append]; simp; omega
  rw [List.set_append_right _ _ (Nat.le_refl _), Nat.sub_self, hd, e2, List.replicate_succ, List.set_cons_zero, List.append_assoc]
  rfl

theorem full_same {l : List UInt8} {c : UInt8} (h0 : l ≠ []) (h : ¬ (0 < sc c ∧ sc c ≠ (sxS l).2 ∧ (sxS l).1.length < 4)) : sxFull (l ++ [c]) = sxFull l := by
  have e : (sxS (l ++ [c])).1 = (sxS l).1 := by
    rw [sxS_snoc h0]
    unfold sxStep
    rw [if_neg h]
  unfold sxFull
  rw [e]

theorem full_end {l : List UInt8} (h : (sxS l).1.length = 4) (r : List UInt8) : sxFull (l ++ r) = sxFull l := by
  unfold sxFull
  rw [sxS_full h]

theorem take_some (s : ByteArray) (k : Nat) (h : k < s.size) (h0 : 1 ≤ k) : s.data.toList.take k ≠ [] := by
  intro e
  have h1 := congrArg List.length e
  have h2 : s.data.toList.length = s.size := by simp
  rw [List.length_take, h2, List.length_nil] at h1
  omega

set_option maxRecDepth 100000 in
set_option maxHeartbeats 1600000 in
theorem impl_so_main (s : ByteArray) (w : World) (hs : s.size ≤ 4194304) (h0 : 0 < s.size) (h : letS s.data.toList) (a0 a1 a2 a3 : UInt8) (hr : sxFull s.data.toList = [a0, a1, a2, a3]) :
    Calls Tryz.prog 148 #[.string s] w fun e w' => e = .returned (.agg #[.int .u8 (a0.toNat : Int), .int .u8 (a1.toNat : Int), .int .u8 (a2.toNat : Int), .int .u8 (a3.toNat : Int)]) ∧ Below w.heap.size w w' := by
  have HD := Lib.hid (decide_eq_true h)
  have HL := Lib.hid h
  have HS := Lib.hid hs
  have HR := Lib.hid hr
  clear h hr
  have hse : s.toList.isEmpty = false := by
    rw [ByteArray.toList_eq]
    cases he : s.data.toList with
    | nil =>
      have h2 : s.data.toList.length = s.size := by simp
      rw [he, List.length_nil] at h2
      omega
    | cons a l => rfl
  obtain ⟨y, hy⟩ : ∃ y, foldB s[0] = y := ⟨_, rfl⟩
  have HY := Lib.hid hy
  obtain ⟨n, hn⟩ : ∃ n, sc s[0] = n := ⟨_, rfl⟩
  have HN := Lib.hid hn
  clear hy hn
  have HC0 : ∀ w', Calls Tryz.prog 168 #[.int .u8 (s[0].toNat : Int)] w' fun e w'' => e = .returned (.int .i64 n) ∧ w' = w'' := by
    intro w'; rw [← HN.out]; exact impl_sc _ w'
  have HC := Lib.hid HC0
  clear HC0
  go_enter Tryz.func148, Tryz.ntmps148
  go_wp2_with (first
    | (go_at_call 166; (with_reducible refine (impl_let _ _ _ HD.out HS.out).mono ?_); rintro e w1 ⟨rfl, rfl⟩)
    | (go_at_call 167; (with_reducible refine (foldByte_is _ _ y HY.out).mono ?_); rintro e w1 ⟨rfl, rfl⟩)
    | (go_at_call 168; (with_reducible refine (HC.out _).mono ?_); rintro e w1 ⟨rfl, rfl⟩))
  go_loopw [4, 5, 6] (fun le pr i wr => ∃ k : Nat, 1 ≤ k ∧ k ≤ s.size ∧ i = .int .i64 k ∧ pr = .int .i64 (sxS (s.data.toList.take k)).2 ∧ le = .int .i64 ((sxS (s.data.toList.take k)).1.length : Nat) ∧
      BlkA wr w.heap.size [0, 0, 0, 0] ∧ BlkA wr (w.heap.size + 1) (sxFull (s.data.toList.take k)) ∧ Below w.heap.size w wr) (fun _ _ i _ => s.size - (intOf i).toNat)
  case atStart =>
    have HE : sxS (s.data.toList.take 1) = ([y], n) := by rw [ftake_snoc s 0 h0, List.take_zero, sxS_one, HY.out, HN.out]
    refine ⟨1, Nat.le_refl _, h0, rfl, by rw [HE], by rw [HE]; rfl, ?_, ?_, ((Below.refl _ _).alloc (Nat.le_refl _) _).alloc (by simp) _⟩
    · exact (Below.heap_alloc (w.alloc _) _ w.heap.size (by simp)).trans (heap_alloc_new w _)
    · unfold sxFull
      rw [HE]
      have h1 := heap_alloc_new (w.alloc (.cells #[.int .u8 0, .int .u8 0, .int .u8 0, .int .u8 0] 146)) (.cells #[.int .u8 (y.toNat : Int), .int .u8 48, .int .u8 48, .int .u8 48] 146)
      have h2 : (w.alloc (.cells #[.int .u8 0, .int .u8 0, .int .u8 0, .int .u8 0] 146)).heap.size = w.heap.size + 1 := by simp
      rw [h2] at h1
      exact h1
  case round =>
    obtain ⟨k, hk1, hk, rfl, rfl, rfl, hz, hc, hb⟩ := hrel
    have HZ := Lib.hid hz
    have HK := Lib.hid hc
    have HB := Lib.hid hb
    obtain ⟨la, hla⟩ : ∃ la, (sxS (s.data.toList.take k)).2 = la := ⟨_, rfl⟩
    obtain ⟨m, hm⟩ : ∃ m, (sxS (s.data.toList.take k)).1.length = m := ⟨_, rfl⟩
    have hm4 : m ≤ 4 := by rw [← hm]; exact sxS_len _
    rw [hm, hla]
    have HM := Lib.hid hm
    have HLA := Lib.hid hla
    clear hz hc hb hm hla
    by_cases hgo : k < s.size ∧ m < 4
    · obtain ⟨hlt, hmlt⟩ := hgo
      have hby := s[k].toNat_lt
      obtain ⟨n, hn⟩ : ∃ n, sc s[k] = n := ⟨_, rfl⟩
      have hr := sc_range s[k]
      have hr3 := let_at s k hlt HL.out
      rw [hn] at hr hr3
      obtain ⟨hr1, hr2⟩ := hr
      have HN := Lib.hid hn
      clear hn
      have HC0 : ∀ w', Calls Tryz.prog 168 #[.int .u8 (s[k].toNat : Int)] w' fun e w'' => e = .returned (.int .i64 n) ∧ w' = w'' := by
        intro w'; rw [← HN.out]; exact impl_sc _ w'
      have HC := Lib.hid HC0
      clear HC0
      have HT := Lib.hid (ftake_snoc s k hlt)
      have HNE := Lib.hid (take_some s k hlt hk1)
      by_cases hneg : n = -1
      · have hq : (n == -1) = true := by simp; omega
        have HE := Lib.hid (show sxS (s.data.toList.take (k + 1)) = sxS (s.data.toList.take k) by rw [HT.out, sxS_snoc HNE.out, step_skip (by rw [HN.out]; omega)])
        have HF := Lib.hid (show sxFull (s.data.toList.take (k + 1)) = sxFull (s.data.toList.take k) by unfold sxFull; rw [HE.out])
        clear hneg hr3
        go_wp2_with (go_at_call 168; (with_reducible refine (HC.out _).mono ?_); rintro e w1 ⟨rfl, rfl⟩)
        go_roundw
        case rel => exact ⟨k + 1, by omega, by omega, by go_num, by rw [HE.out, HLA.out], by rw [HE.out, HM.out], HZ.out, by rw [HF.out]; exact HK.out, HB.out⟩
        case measure => simp [intOf]; omega
      · have hq : (n == -1) = false := by simp; omega
        have hn0 : 0 ≤ n := by omega
        clear hneg hr3
        by_cases hput : 0 < n ∧ n ≠ la
        · obtain ⟨p1, p2⟩ := hput
          have p3 : (n != la) = true := by simp; exact p2
          obtain ⟨hF, hE⟩ := full_put (c := s[k]) (m := m) (n := n) HNE.out (by rw [HN.out]; exact p1) (by rw [HN.out, HLA.out]; exact p2) (by rw [HM.out]; exact hmlt) HM.out HN.out
          rw [← HT.out] at hF hE
          have HF := Lib.hid hF
          have HE := Lib.hid hE
          have hfz := HK.out.frozen m
          obtain ⟨ob, hob⟩ : ∃ ob, (sxFull (s.data.toList.take k))[m]? = some ob := ⟨_, List.getElem?_eq_getElem (by rw [sxFull_length]; exact hmlt)⟩
          have hcl := HK.out.cell hob
          clear hob
          have hp48 : 0 ≤ 48 + n ∧ 48 + n ≤ 255 := by omega
          clear hF hE p2
          go_wp2_with (go_at_call 168; (with_reducible refine (HC.out _).mono ?_); rintro e w1 ⟨rfl, rfl⟩)
          go_roundw
          case rel =>
            refine ⟨k + 1, by omega, by omega, by go_num, by rw [HE.out], by rw [HE.out, List.length_append, HM.out]; rfl, HZ.out.other _ _ (by omega), ?_, HB.out.setCell (by simp) _⟩
            rw [HF.out]
            exact HK.out.set_ _ _ _ (by rw [UInt8.toNat_ofNat']; omega)
          case measure => simp [intOf]; omega
        · have HPUT : ¬ (0 < sc s[k] ∧ sc s[k] ≠ (sxS (s.data.toList.take k)).2 ∧ (sxS (s.data.toList.take k)).1.length < 4) := by
            rw [HN.out, HLA.out]
            exact fun e => hput ⟨e.1, e.2.1⟩
          have HE := Lib.hid (show sxS (s.data.toList.take (k + 1)) = ((sxS (s.data.toList.take k)).1, n) by rw [HT.out, sxS_snoc HNE.out, step_same (by rw [HN.out]; exact hn0) HPUT, HN.out])
          have HF := Lib.hid (show sxFull (s.data.toList.take (k + 1)) = sxFull (s.data.toList.take k) by rw [HT.out]; exact full_same HNE.out HPUT)
          have hway : (¬ 0 < n) ∨ (0 < n ∧ (n != la) = false) := by
            by_cases c1 : 0 < n
            · exact .inr ⟨c1, by simp; exact Decidable.byContradiction fun e => hput ⟨c1, e⟩⟩
            · exact .inl c1
          clear HPUT hput
          rcases hway with q1 | ⟨q1, q2⟩
          all_goals
            go_wp2_with (go_at_call 168; (with_reducible refine (HC.out _).mono ?_); rintro e w1 ⟨rfl, rfl⟩)
            go_roundw
            case rel => exact ⟨k + 1, by omega, by omega, by go_num, by rw [HE.out], by rw [HE.out]; exact congrArg (fun x : Nat => Value.int .i64 (x : Int)) HM.out.symm, HZ.out, by rw [HF.out]; exact HK.out, HB.out⟩
            case measure => simp [intOf]; omega
    · have HF : sxFull (s.data.toList.take k) = [a0, a1, a2, a3] := by
        rw [← HR.out]
        by_cases e : k < s.size
        · have e4 : m = 4 := by omega
          have h1 := full_end (l := s.data.toList.take k) (by rw [HM.out, e4]) (s.data.toList.drop k)
          rw [List.take_append_drop] at h1
          exact h1.symm
        · obtain rfl : k = s.size := by omega
          rw [ftake_all]
      have hk2 := HK.out
      rw [HF] at hk2
      have c0 := hk2.cell (i := 0) (b := a0) rfl
      have c1 := hk2.cell (i := 1) (b := a1) rfl
      have c2 := hk2.cell (i := 2) (b := a2) rfl
      have c3 := hk2.cell (i := 3) (b := a3) rfl
      have d0 := HZ.out.cell (i := 0) (b := 0) rfl
      have d1 := HZ.out.cell (i := 1) (b := 0) rfl
      have d2 := HZ.out.cell (i := 2) (b := 0) rfl
      have d3 := HZ.out.cell (i := 3) (b := 0) rfl
      have f0 := HZ.out.frozen 0
      have f1 := HZ.out.frozen 1
      have f2 := HZ.out.frozen 2
      have f3 := HZ.out.frozen 3
      clear HF hk2
      have hway : (¬ k < s.size) ∨ (k < s.size ∧ ¬ m < 4) := by omega
      clear hgo
      rcases hway with q1 | ⟨q1, q2⟩
      all_goals
        go_wp2
        have z4 := (((HZ.out.set_ 0 a0 _ rfl).set_ 1 a1 _ rfl).set_ 2 a2 _ rfl).set_ 3 a3 _ rfl
        have e0 := z4.cell (i := 0) (b := a0) rfl
        have e1 := z4.cell (i := 1) (b := a1) rfl
        have e2 := z4.cell (i := 2) (b := a2) rfl
        have e3 := z4.cell (i := 3) (b := a3) rfl
        have hb4 := (((HB.out.setCell (p := ⟨w.heap.size, 0, none⟩) (Nat.le_refl _) (.int .u8 (a0.toNat : Int))).setCell (p := ⟨w.heap.size, 1, none⟩) (Nat.le_refl _) (.int .u8 (a1.toNat : Int))).setCell (p := ⟨w.heap.size, 2, none⟩) (Nat.le_refl _) (.int .u8 (a2.toNat : Int))).setCell (p := ⟨w.heap.size, 3, none⟩) (Nat.le_refl _) (.int .u8 (a3.toNat : Int))
        exact bodyPost_ret (v := .agg #[.int .u8 (a0.toNat : Int), .int .u8 (a1.toNat : Int), .int .u8 (a2.toNat : Int), .int .u8 (a3.toNat : Int)]) (by simp [results, Tryz.results148, go_sem, e0, e1, e2, e3]) rfl ⟨rfl, hb4⟩

/-- an array of four bytes -/
def arr4 (a b c d : UInt8) : Value := .agg #[.int .u8 (a.toNat : Int), .int .u8 (b.toNat : Int), .int .u8 (c.toNat : Int), .int .u8 (d.toNat : Int)]

theorem four_of {l : List UInt8} (h : l.length = 4) : ∃ a b c d, l = [a, b, c, d] := by
  match l, h with
  | [a, b, c, d], _ => exact ⟨a, b, c, d, rfl⟩

/-- soundOf, its four bytes under names -/
theorem impl_so (s : ByteArray) (w : World) (hs : s.size ≤ 4194304) (a b c d : UInt8) (h : sndL s.data.toList = [a, b, c, d]) :
    Calls Tryz.prog 148 #[.string s] w fun e w' => e = .returned (.agg #[.int .u8 (a.toNat : Int), .int .u8 (b.toNat : Int), .int .u8 (c.toNat : Int), .int .u8 (d.toNat : Int)]) ∧ Below w.heap.size w w' := by
  rcases Nat.eq_zero_or_pos s.size with h0 | h0
  · have hn : s.data.toList = [] := List.eq_nil_of_length_eq_zero (by simpa using h0)
    obtain rfl : s = ⟨#[]⟩ := by
      apply ByteArray.ext
      apply Array.toList_inj.1
      rw [hn]
    rw [sndL_none (by rw [hn]; exact sxL_nil)] at h
    injection h with e0 h
    injection h with e1 h
    injection h with e2 h
    injection h with e3 h
    subst e0; subst e1; subst e2; subst e3
    exact impl_so_empty w
  · have hne : s.data.toList ≠ [] := by
      intro e
      have h1 := congrArg List.length e
      have h2 : s.data.toList.length = s.size := by simp
      rw [h2, List.length_nil] at h1
      omega
    by_cases hl : letS s.data.toList
    · refine impl_so_main s w hs h0 hl a b c d ?_
      have e := sxL_some hne hl
      rw [← e, ← sndL_some (by rw [e]; exact sxFull_ne _), h]
    · rw [sndL_none (sxL_none hl)] at h
      injection h with e0 h
      injection h with e1 h
      injection h with e2 h
      injection h with e3 h
      subst e0; subst e1; subst e2; subst e3
      exact impl_so_none s w hs hl

end Go.Proofs.YtebddnjccmaimaaGreatDoor

/-
  What spec.SoundCode answers, for every byte. By an AI agent.
-/
namespace Go.Proofs.YtebddnjccmaimaaGreatDoor
open Go.RowKit
set_option linter.unusedVariables false

theorem spec_fc_named (c : UInt8) (w : World) (S : ByteArray) (h : S = ⟨#[foldB c]⟩) :
    Calls Tryz.prog 128 #[.string ⟨#[c]⟩] w fun e w' => e = .returned (.string S) ∧ Below w.heap.size w w' := by
  subst h
  exact spec_fc_one c w _ rfl

theorem one_is (y k : UInt8) : ((⟨#[y]⟩ : ByteArray).toList == [k]) = ((y.toNat : Int) == (k.toNat : Int)) := by
  rw [ByteArray.toList_eq]
  apply Bool.eq_iff_iff.2
  simp only [beq_iff_eq]
  constructor
  · intro h
    have h : [y] = [k] := h
    injection h with h
    rw [h]
  · intro h
    have h : y = k := UInt8.toNat_inj.1 (by omega)
    rw [h]

set_option maxRecDepth 100000 in
set_option maxHeartbeats 2000000 in
theorem spec_sc (c : UInt8) (w : World) :
    Calls Tryz.prog 127 #[.int .u8 (c.toNat : Int)] w fun e w' => e = .returned (.int .i64 (sc c)) ∧ Below w.heap.size w w' := by
  obtain ⟨y, hy⟩ : ∃ y, foldB c = y := ⟨_, rfl⟩
  have HY := Lib.hid hy
  have e : sc c = scF (y.toNat : Int) := by unfold sc; rw [hy]
  rw [e]
  clear hy e
  have hcv := conv_one w c
  obtain ⟨S, hS⟩ : ∃ S : ByteArray, S = ⟨#[foldB c]⟩ := ⟨_, rfl⟩
  have HS := Lib.hid hS
  have hq : ∀ k : UInt8, (S.toList == [k]) = ((y.toNat : Int) == (k.toNat : Int)) := by
    rw [hS, HY.out]
    exact one_is y
  clear hS
  go_enter Tryz.func127, Tryz.ntmps127
  go_wp2_with (go_at_call 128; with_reducible refine (spec_fc_named c _ S HS.out).mono ?_; rintro e w' ⟨rfl, hb⟩)
  all_goals
    go_ret
    refine ⟨congrArg (fun x => Ending.returned (.int .i64 x)) (show _ = scF (y.toNat : Int) from ?_), ?_⟩
    · clear hq hcv hb
      simp_all [scF]
    · exact ((Below.refl _ _).alloc (Nat.le_refl _) _).trans (hb.mono (by simp))

end Go.Proofs.YtebddnjccmaimaaGreatDoor

/-
  What spec.Soundex answers, for every string of at most 2^20 bytes. By an AI agent.
-/
namespace Go.Proofs.YtebddnjccmaimaaGreatDoor
open Go.RowKit
set_option linter.unusedVariables false

theorem OwnB.below {w w' : World} {base : Nat} {v : Value} {l : List UInt8} (h : OwnB w base v l) (hb : Below w.heap.size w w') : OwnB w' base v l :=
  World.ownsRow.kept h (row := none) ⟨hb.os, hb.tape, hb.output, hb.size, fun i hi _ => hb.block i hi⟩ (by cases hv : v.ownBlock <;> simp)

theorem spec_fc_first (s : ByteArray) (w : World) (y : UInt8) (h0 : 0 < s.size) (h : foldB s[0] = y) :
    Calls Tryz.prog 128 #[.string (s.extract 0 1)] w fun e w' => e = .returned (.string ⟨#[y]⟩) ∧ Below w.heap.size w w' := by
  have e : s.extract 0 1 = ⟨#[s[0]]⟩ := by
    apply ByteArray.ext
    apply Array.toList_inj.1
    have h1 : (s.extract 0 1).data.toList = s.data.toList.take 1 := by simp
    rw [h1, ftake_snoc s 0 h0]
    rfl
  rw [e]
  exact spec_fc_one _ w y h

theorem sx_first (s : ByteArray) (h : 0 < s.size) : sxS (s.data.toList.take (0 + 1)) = ([foldB s[0]], sc s[0]) := by
  rw [ftake_snoc s 0 h]; rfl
theorem take_ne (s : ByteArray) (k : Nat) (h : k < s.size) (h0 : 0 < k) : s.data.toList.take k ≠ [] := by
  intro e
  have h1 := congrArg List.length e
  have h2 : s.data.toList.length = s.size := by simp
  rw [List.length_take, h2, List.length_nil] at h1
  omega
theorem sx_next (s : ByteArray) (k : Nat) (h : k < s.size) (h0 : 0 < k) : sxS (s.data.toList.take (k + 1)) = sxStep (sxS (s.data.toList.take k)) s[k] := by
  rw [ftake_snoc s k h]
  exact sxS_snoc (take_ne s k h h0) _
theorem let_next (s : ByteArray) (k : Nat) (h : k < s.size) (hl : letS (s.data.toList.take k)) (hc : sc s[k] ≠ -2) : letS (s.data.toList.take (k + 1)) := by
  rw [ftake_snoc s k h]
  exact letS_snoc hl hc
theorem sx_bad (s : ByteArray) (k : Nat) (h : k < s.size) (hc : sc s[k] = -2) : sxL s.data.toList = [] :=
  sxL_bad (c := s[k]) (by rw [← ftake_all s]; exact List.mem_of_getElem? (i := k) (by rw [ftake_all, fbyte_at? s k h])) hc

theorem sx_pad (s : ByteArray) (j : Nat) (h0 : 0 < s.size) (hl : letS s.data.toList) (hj : (sxS s.data.toList).1.length + j = 4) : (sxS s.data.toList).1 ++ List.replicate j 48 = sxL s.data.toList := by
  have hne : s.data.toList ≠ [] := by
    intro e
    have h1 := congrArg List.length e
    have h2 : s.data.toList.length = s.size := by simp
    rw [h2, List.length_nil] at h1
    omega
  rw [sxL_some hne hl]
  unfold sxFull
  rw [show j = 4 - (sxS s.data.toList).1.length by omega]

theorem sx_empty (s : ByteArray) (h0 : s.size = 0) : sxL s.data.toList = [] := by
  rw [show s.data.toList = [] from List.eq_nil_of_length_eq_zero (by simpa using h0)]
  exact sxL_nil

set_option maxRecDepth 100000 in
set_option maxHeartbeats 1600000 in
theorem spec_sx (s : ByteArray) (w : World) (hs : s.size ≤ 4194304) :
    Calls Tryz.prog 98 #[.string s] w fun e w' => e = .returned (.string (nstr (sxL s.data.toList))) ∧ Below w.heap.size w w' := by
  have HS := Lib.hid hs
  go_enter Tryz.func98, Tryz.ntmps98
  go_wp2
  go_loopw [3, 4, 5] (fun v la i wr => ∃ k : Nat, k ≤ s.size ∧ i = .int .i64 k ∧ la = .int .i64 (sxS (s.data.toList.take k)).2 ∧ letS (s.data.toList.take k) ∧ OwnB wr w.heap.size v (sxS (s.data.toList.take k)).1 ∧ Below w.heap.size w wr) (fun _ _ i _ => s.size - (intOf i).toNat)
  case atStart => exact ⟨0, Nat.zero_le _, rfl, rfl, fun c hc => by simp at hc, OwnB.made w _ #[] 0 (Nat.le_refl _) (Nat.zero_le _) rfl, (Below.refl _ _).alloc (Nat.le_refl _) _⟩
  case round =>
    obtain ⟨k, hk, rfl, rfl, hlet, hown, hb⟩ := hrel
    have HB := Lib.hid hb
    have HLET := Lib.hid hlet
    have HOWN := Lib.hid hown
    obtain ⟨A, cp, hv⟩ := hown.form
    obtain ⟨la, hla⟩ : ∃ la, (sxS (s.data.toList.take k)).2 = la := ⟨_, rfl⟩
    obtain ⟨m, hm⟩ : ∃ m, (sxS (s.data.toList.take k)).1.length = m := ⟨_, rfl⟩
    have hm4 : m ≤ 4 := by rw [← hm]; exact sxS_len _
    rw [hm] at hv
    rw [hla]
    subst hv
    have HM := Lib.hid hm
    have HLA := Lib.hid hla
    have HLN := Lib.hid (show (sxS (s.data.toList.take k)).1.length ≤ 70368744177664 by rw [hm]; omega)
    clear hb hlet hown hm hla
    by_cases hlt : k < s.size
    · have hby := s[k].toNat_lt
      have hbs := Lib.hid HB.out.size
      obtain ⟨n, hn⟩ : ∃ n, sc s[k] = n := ⟨_, rfl⟩
      have hr := sc_range s[k]
      rw [hn] at hr
      obtain ⟨hr1, hr2⟩ := hr
      have HN := Lib.hid hn
      clear hn
      have HC0 : ∀ w', Calls Tryz.prog 127 #[.int .u8 (s[k].toNat : Int)] w' fun e w'' => e = .returned (.int .i64 n) ∧ Below w'.heap.size w' w'' := by
        intro w'; rw [← HN.out]; exact spec_sc _ w'
      have HC := Lib.hid HC0
      clear HC0
      by_cases hbad : n = -2
      · have hq : (n == -2) = true := by simp; omega
        have HX := Lib.hid (sx_bad s k hlt (by rw [HN.out, hbad]))
        clear hbad
        go_wp2_with (go_at_call 127; (with_reducible refine (HC.out _).mono ?_); rintro e w1 ⟨rfl, hb1⟩)
        go_ret
        exact ⟨nret_str (by rw [HX.out]; rfl), HB.out.trans (hb1.mono hbs.out)⟩
      · have hq : (n == -2) = false := by simp; omega
        have HLT2 := Lib.hid (let_next s k hlt HLET.out (by rw [HN.out]; exact hbad))
        clear hbad
        rcases Nat.eq_zero_or_pos k with h0 | h0
        · subst h0
          have hs0 : 0 < s.size := hlt
          obtain ⟨y, hy⟩ : ∃ y, foldB s[0] = y := ⟨_, rfl⟩
          have hyb := y.toNat_lt
          have HY := Lib.hid hy
          have HE := Lib.hid (sx_first s hlt)
          have HNIL : sxS (s.data.toList.take 0) = ([], 0) := by simp [sxS]
          have HM0 : m = 0 := by rw [← HM.out, HNIL]; rfl
          have HNIL := Lib.hid HNIL
          subst HM0
          clear hy
          go_wp2_with (go_at_call 127; (with_reducible refine (HC.out _).mono ?_); rintro e w1 ⟨rfl, hb1⟩; refine Hid.out ?_)
          refine Lib.hid ?_
          have HB1 := Lib.hid (HB.out.trans (hb1.mono hbs.out))
          have HS1 := Lib.hid HB1.out.size
          have HOWN1 := Lib.hid (HOWN.out.below hb1)
          clear hb1
          go_wp2_with (go_at_call 128; (with_reducible refine (spec_fc_first s _ y hs0 HY.out).mono ?_); rintro e w2 ⟨rfl, hb2⟩; refine Hid.out ?_)
          refine Lib.hid ?_
          have HB2 := Lib.hid (HB1.out.trans (hb2.mono HS1.out))
          have HS2 := Lib.hid HB2.out.size
          have HOWN2 := Lib.hid (HOWN1.out.below hb2)
          clear hb2
          go_wp2_with (at_builtin; refine append_byte rfl _ _ rfl w.heap.size _ (sxS (s.data.toList.take 0)).1 (y.toNat : Int) HOWN2.out rfl rfl (by omega) (by omega) HLN.out HS2.out ?_; intro v1 w3 hown3 hb3)
          go_roundw
          case rel =>
            refine ⟨0 + 1, by omega, by go_num, ?_, HLT2.out, ?_, HB2.out.trans hb3⟩
            · rw [HE.out]; exact congrArg (Value.int .i64) HN.out.symm
            · rw [HE.out, HY.out]
              rw [byte_of_nat, HNIL.out] at hown3
              exact hown3
          case measure => simp [intOf]; omega
        · have hk0 : (((k : Nat) : Int) == 0) = false := by simp; omega
          by_cases hput : 0 < n ∧ n ≠ la ∧ m < 4
          · have HE : sxS (s.data.toList.take (k + 1)) = ((sxS (s.data.toList.take k)).1 ++ [UInt8.ofNat (48 + n).toNat], n) := by
              rw [sx_next s k hlt h0, step_put (by rw [HN.out]; exact hput.1) (by rw [HN.out, HLA.out]; exact hput.2.1) (by rw [HM.out]; exact hput.2.2), HN.out]
            have HE := Lib.hid HE
            obtain ⟨p1, p2, p3⟩ := hput
            have p4 : (n != la) = true := by simp; exact p2
            have p5 : 0 ≤ n := by omega
            clear p2
            go_wp2_with (first
              | (go_at_call 127; (with_reducible refine (HC.out _).mono ?_); rintro e w1 ⟨rfl, hb1⟩; refine Hid.out ?_))
            refine Lib.hid ?_
            have HB1 := Lib.hid (HB.out.trans (hb1.mono hbs.out))
            have HS1 := Lib.hid HB1.out.size
            have HOWN1 := Lib.hid (HOWN.out.below hb1)
            clear hb1
            go_wp2_with (at_builtin; refine append_byte rfl _ _ rfl w.heap.size _ (sxS (s.data.toList.take k)).1 (48 + n) HOWN1.out rfl rfl (by omega) (by omega) HLN.out HS1.out ?_; intro v1 w3 hown3 hb3)
            go_roundw
            case rel =>
              refine ⟨k + 1, by omega, by go_num, ?_, HLT2.out, ?_, HB1.out.trans hb3⟩
              · rw [HE.out]
              · rw [HE.out]
                exact hown3
            case measure => simp [intOf]; omega
          · have HPUT := Lib.hid hput
            clear hput
            by_cases hn0 : 0 ≤ n
            · have HE : sxS (s.data.toList.take (k + 1)) = ((sxS (s.data.toList.take k)).1, n) := by
                rw [sx_next s k hlt h0, step_same (by rw [HN.out]; exact hn0) (by rw [HN.out, HLA.out, HM.out]; exact HPUT.out), HN.out]
              have HE := Lib.hid HE
              have hway : (¬ 0 < n) ∨ (0 < n ∧ (n != la) = false) ∨ (0 < n ∧ (n != la) = true ∧ ¬ m < 4) := by
                have h1 := HPUT.out
                by_cases c1 : 0 < n
                · by_cases c2 : n = la
                  · exact .inr (.inl ⟨c1, by simp; exact c2⟩)
                  · exact .inr (.inr ⟨c1, by simp; exact c2, fun c3 => h1 ⟨c1, c2, c3⟩⟩)
                · exact .inl c1
              rcases hway with q1 | ⟨q1, q2⟩ | ⟨q1, q2, q3⟩
              all_goals
                go_wp2_with (go_at_call 127; (with_reducible refine (HC.out _).mono ?_); rintro e w1 ⟨rfl, hb1⟩)
                go_roundw
                case rel =>
                  refine ⟨k + 1, by omega, by go_num, ?_, HLT2.out, ?_, HB.out.trans (hb1.mono hbs.out)⟩
                  · rw [HE.out]
                  · rw [HE.out]
                    exact HOWN.out.below hb1
                case measure => simp [intOf]; omega
            · have HE := Lib.hid (show sxS (s.data.toList.take (k + 1)) = sxS (s.data.toList.take k) by rw [sx_next s k hlt h0, step_skip (by rw [HN.out]; omega)])
              have q1 : ¬ 0 < n := by omega
              go_wp2_with (go_at_call 127; (with_reducible refine (HC.out _).mono ?_); rintro e w1 ⟨rfl, hb1⟩)
              go_roundw
              case rel =>
                refine ⟨k + 1, by omega, by go_num, ?_, HLT2.out, ?_, HB.out.trans (hb1.mono hbs.out)⟩
                · rw [HE.out, HLA.out]
                · rw [HE.out]
                  exact HOWN.out.below hb1
              case measure => simp [intOf]; omega
    · obtain rfl : k = s.size := by omega
      rcases Nat.eq_zero_or_pos s.size with h0 | h0
      · have HX := Lib.hid (sx_empty s h0)
        have hm0 : m = 0 := by rw [← HM.out, h0]; rfl
        have HH0 := Lib.hid h0
        subst hm0
        clear h0
        go_wp2
        go_ret
        exact ⟨nret_str (by rw [HX.out]; rfl), HB.out⟩
      · have HP := Lib.hid h0
        have hmp : 0 < m := by
          rw [← HM.out, ftake_all]
          refine sxS_pos ?_
          have h2 := take_ne s s.size
          intro e
          have h1 := congrArg List.length e
          have h2 : s.data.toList.length = s.size := by simp
          rw [h2, List.length_nil] at h1
          omega
        have hmq : ((m : Int) == 0) = false := by simp; omega
        go_wp2
        go_loopw [3] (fun v wx => ∃ (j : Nat) (A : Option Addr) (c : Nat), m + j ≤ 4 ∧ v = .slice A (m + j : Nat) c ∧ OwnB wx w.heap.size v ((sxS (s.data.toList.take s.size)).1 ++ List.replicate j 48) ∧ Below w.heap.size w wx) (fun v _ => match v with | .slice _ n _ => 4 - n | _ => 0)
        case atStart => exact ⟨0, A, cp, by omega, rfl, by rw [List.replicate_zero, List.append_nil]; exact HOWN.out, HB.out⟩
        case round =>
          obtain ⟨j, A, c, hj, rfl, hown, hb⟩ := hrel
          obtain ⟨q, hq⟩ : ∃ q, m + j = q := ⟨_, rfl⟩
          rw [hq] at hj hown ⊢
          have HQ := Lib.hid hq
          have HOWN2 := Lib.hid hown
          have HB2 := Lib.hid hb
          have HS2 := Lib.hid hb.size
          have HL2 := Lib.hid (show ((sxS (s.data.toList.take s.size)).1 ++ List.replicate j 48).length = q by rw [List.length_append, List.length_replicate, HM.out, hq])
          have HL3 := Lib.hid (show ((sxS (s.data.toList.take s.size)).1 ++ List.replicate j 48).length ≤ 70368744177664 by rw [HL2.out]; omega)
          clear hq hown hb
          by_cases hlt : q < 4
          · go_wp2_with (at_builtin; refine append_byte rfl _ _ rfl w.heap.size _ ((sxS (s.data.toList.take s.size)).1 ++ List.replicate j 48) 48 HOWN2.out rfl rfl (by omega) (by omega) HL3.out HS2.out ?_; intro v1 w3 hown3 hb3)
            obtain ⟨A3, c3, hv3⟩ := hown3.form
            rw [List.length_append, HL2.out] at hv3
            subst hv3
            go_roundw
            case rel =>
              refine ⟨j + 1, A3, c3, by have := HQ.out; omega, by have := HQ.out; simp; omega, ?_, HB2.out.trans hb3⟩
              rw [List.replicate_succ', ← List.append_assoc]
              exact hown3
            case measure => simp; omega
          · have hcv := HOWN2.out.convert
            have hq4 : q = 4 := by omega
            subst hq4
            go_wp2
            go_ret
            refine ⟨nret_str ?_, HB2.out⟩
            have h1 := sx_pad s j HP.out (by rw [← ftake_all s]; exact HLET.out) (by rw [← ftake_all s, HM.out]; exact HQ.out)
            rw [ftake_all, h1]
            rfl

end Go.Proofs.YtebddnjccmaimaaGreatDoor

/-
  What impl.Soundex, impl.SoundsAlike and spec.SoundsAlike answer, for strings of at most 2^20 bytes; the walks of the laws. By an AI agent.
-/
namespace Go.Proofs.YtebddnjccmaimaaGreatDoor
open Go.RowKit
set_option linter.unusedVariables false

theorem run_eq4 (w : World) (a b c d a' b' c' d' : Int) :
    (Op.equalIn 10000 146 (.agg #[.int .u8 a, .int .u8 b, .int .u8 c, .int .u8 d]) (.agg #[.int .u8 a', .int .u8 b', .int .u8 c', .int .u8 d'])).run Tryz.prog w = .ok (a == a' && (b == b' && (c == c' && d == d'))) w := by
  obtain ⟨i0, hi, hz0, hz1, hz2⟩ := info_parts info_u8
  have hc : Tryz.prog.cellsOf 5 = 1 := by kernel_rfl
  have hr : List.range 4 = [0, 1, 2, 3] := rfl
  rw [show (10000 : Nat) = 9998 + 1 + 1 from rfl, run_equalIn_array w (9998 + 1) _ _ Tryz.underlying146 hi, hc, hr]
  have hp : ∀ (xs : Array Value) (i : Nat) (v : Value) (w : World), xs[i]? = some v → (part 5 xs (i * 1)).run Tryz.prog w = .ok v w := by
    intro xs i v w h
    simp [part, sizeOf, typeInfo, hi, hz1, h]
  have he : ∀ (x y : Int) (w : World), (Op.equalIn (9998 + 1) 5 (.int .u8 x) (.int .u8 y)).run Tryz.prog w = .ok (x == y) w := fun x y w => run_equalIn_int w 9998 5 .u8 .u8 x y Tryz.underlying5
  have x0 : ∀ w : World, (part 5 #[.int .u8 a, .int .u8 b, .int .u8 c, .int .u8 d] (0 * 1)).run Tryz.prog w = .ok (.int .u8 a) w := fun w => hp _ 0 _ w rfl
  have x1 : ∀ w : World, (part 5 #[.int .u8 a, .int .u8 b, .int .u8 c, .int .u8 d] (1 * 1)).run Tryz.prog w = .ok (.int .u8 b) w := fun w => hp _ 1 _ w rfl
  have x2 : ∀ w : World, (part 5 #[.int .u8 a, .int .u8 b, .int .u8 c, .int .u8 d] (2 * 1)).run Tryz.prog w = .ok (.int .u8 c) w := fun w => hp _ 2 _ w rfl
  have x3 : ∀ w : World, (part 5 #[.int .u8 a, .int .u8 b, .int .u8 c, .int .u8 d] (3 * 1)).run Tryz.prog w = .ok (.int .u8 d) w := fun w => hp _ 3 _ w rfl
  have y0 : ∀ w : World, (part 5 #[.int .u8 a', .int .u8 b', .int .u8 c', .int .u8 d'] (0 * 1)).run Tryz.prog w = .ok (.int .u8 a') w := fun w => hp _ 0 _ w rfl
  have y1 : ∀ w : World, (part 5 #[.int .u8 a', .int .u8 b', .int .u8 c', .int .u8 d'] (1 * 1)).run Tryz.prog w = .ok (.int .u8 b') w := fun w => hp _ 1 _ w rfl
  have y2 : ∀ w : World, (part 5 #[.int .u8 a', .int .u8 b', .int .u8 c', .int .u8 d'] (2 * 1)).run Tryz.prog w = .ok (.int .u8 c') w := fun w => hp _ 2 _ w rfl
  have y3 : ∀ w : World, (part 5 #[.int .u8 a', .int .u8 b', .int .u8 c', .int .u8 d'] (3 * 1)).run Tryz.prog w = .ok (.int .u8 d') w := fun w => hp _ 3 _ w rfl
  simp only [Op.eqItems, Sem.run_bind, x0, y0, he, Result.andThen_ok]
  cases h0 : (a == a')
  · simp
  simp only [Bool.not_true, Bool.false_eq_true, if_false, Sem.run_bind, x1, y1, he, Result.andThen_ok, Bool.true_and]
  cases h1 : (b == b')
  · simp
  simp only [Bool.not_true, Bool.false_eq_true, if_false, Sem.run_bind, x2, y2, he, Result.andThen_ok, Bool.true_and]
  cases h2 : (c == c')
  · simp
  simp only [Bool.not_true, Bool.false_eq_true, if_false, Sem.run_bind, x3, y3, he, Result.andThen_ok, Bool.true_and]
  cases h3 : (d == d')
  · simp
  · simp

/-- the four bytes as a number's worth of tests -/
def same4 (a b c d a' b' c' d' : UInt8) : Bool := decide ([a, b, c, d] = [a', b', c', d'])

theorem run_arr4 (w : World) (a b c d a' b' c' d' : UInt8) (r : Bool) (h : same4 a b c d a' b' c' d' = r) :
    (Op.equalIn 10000 146 (.agg #[.int .u8 (a.toNat : Int), .int .u8 (b.toNat : Int), .int .u8 (c.toNat : Int), .int .u8 (d.toNat : Int)]) (.agg #[.int .u8 (a'.toNat : Int), .int .u8 (b'.toNat : Int), .int .u8 (c'.toNat : Int), .int .u8 (d'.toNat : Int)])).run Tryz.prog w = .ok r w := by
  rw [run_eq4, ← h]
  congr 1
  have e : ∀ x y : UInt8, ((x.toNat : Int) == (y.toNat : Int)) = decide (x = y) := by
    intro x y
    apply Bool.eq_iff_iff.2
    simp only [beq_iff_eq, decide_eq_true_eq]
    constructor
    · intro h; exact UInt8.toNat_inj.1 (by omega)
    · intro h; rw [h]
  simp only [e]
  unfold same4
  apply Bool.eq_iff_iff.2
  simp

theorem run_zero4 (w : World) (a b c d : UInt8) (r : Bool) (h : same4 a b c d 0 0 0 0 = r) :
    (Op.equalIn 10000 146 (.agg #[.int .u8 (a.toNat : Int), .int .u8 (b.toNat : Int), .int .u8 (c.toNat : Int), .int .u8 (d.toNat : Int)]) (.agg #[.int .u8 0, .int .u8 0, .int .u8 0, .int .u8 0])).run Tryz.prog w = .ok r w :=
  run_arr4 w a b c d 0 0 0 0 r h

theorem conv_arr4 (w : World) (a b c d : UInt8) :
    (convert 22 9 (.slice (some ⟨w.heap.size, 0, none⟩) 4 4)).run Tryz.prog (w.alloc (.cells #[.int .u8 (a.toNat : Int), .int .u8 (b.toNat : Int), .int .u8 (c.toNat : Int), .int .u8 (d.toNat : Int)] 146)) =
      .ok (.string (nstr [a, b, c, d])) (w.alloc (.cells #[.int .u8 (a.toNat : Int), .int .u8 (b.toNat : Int), .int .u8 (c.toNat : Int), .int .u8 (d.toNat : Int)] 146)) := by
  have hb : BlkA (w.alloc (.cells #[.int .u8 (a.toNat : Int), .int .u8 (b.toNat : Int), .int .u8 (c.toNat : Int), .int .u8 (d.toNat : Int)] 146)) w.heap.size [a, b, c, d] := heap_alloc_new w _
  refine run_convert_bytes_back (P := Tryz.prog) _ 22 9 5 ⟨w.heap.size, 0, none⟩ 4 [a, b, c, d] Tryz.underlying22 Tryz.underlying5 Tryz.underlying9 (fun j hj => ?_)
  have e : (⟨w.heap.size, 0, none⟩ : Addr).add j = ⟨w.heap.size, j, none⟩ := by unfold Addr.add; split <;> simp_all
  rw [e]
  exact hb.cell (List.getElem?_eq_getElem hj)

set_option maxRecDepth 100000 in
set_option maxHeartbeats 1600000 in
theorem impl_sx (s : ByteArray) (w : World) (hs : s.size ≤ 4194304) :
    Calls Tryz.prog 121 #[.string s] w fun e w' => e = .returned (.string (nstr (sxL s.data.toList))) ∧ Below w.heap.size w w' := by
  obtain ⟨a, b, c, d, hd⟩ := four_of (sndL_length s.data.toList)
  have HD := Lib.hid hd
  have HS := Lib.hid hs
  have HZ := sndL_zero s.data.toList
  rw [hd] at HZ
  by_cases h0 : sxL s.data.toList = []
  · have hq := fun w : World => run_zero4 w a b c d true (by unfold same4; exact decide_eq_true (HZ.2 h0))
    have H0 := Lib.hid h0
    clear hd hs HZ h0
    go_enter Tryz.func121, Tryz.ntmps121
    go_wp2_with (go_at_call 148; (with_reducible refine (impl_so _ _ HS.out a b c d HD.out).mono ?_); rintro e w1 ⟨rfl, hb1⟩)
    go_ret
    exact ⟨nret_str (by rw [H0.out]; rfl), hb1.alloc hb1.size _⟩
  · have hq := fun w : World => run_zero4 w a b c d false (by unfold same4; exact decide_eq_false (fun e => h0 (HZ.1 e)))
    have hcv := fun w : World => conv_arr4 w a b c d
    have H0 := Lib.hid (show [a, b, c, d] = sxL s.data.toList by rw [← hd, sndL_some h0])
    clear hd hs HZ h0
    go_enter Tryz.func121, Tryz.ntmps121
    go_wp2_with (go_at_call 148; (with_reducible refine (impl_so _ _ HS.out a b c d HD.out).mono ?_); rintro e w1 ⟨rfl, hb1⟩)
    go_ret
    exact ⟨nret_str (by rw [H0.out]), hb1.alloc hb1.size _⟩

end Go.Proofs.YtebddnjccmaimaaGreatDoor

