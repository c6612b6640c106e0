/-
  Texts laid together (tools/join.py): EqTokS, SimFacts, Draw, Draw1, Draw2, SetDraw, SsS, SsT, Cnt, TcM, CntS, CntC, TabDraw, TabDraw2, LawCode. By an AI agent.
-/
import Derived.Test.YtggohfinkpppkaaStrT
import Derived.Test.YtggohfinkpppkaaSim
import Derived.Test.YtggohfinkpppkaaOwnBytes
import Derived.BigQuiet
import Derived.Deep.QuietTactic
import Derived.Laws.BitsLemmas
import Derived.Test.YtggohfinkpppkaaEncVar
import Derived.Test.YtggohfinkpppkaaStrS
import Derived.Deep.RegionWith
import Derived.Test.YtggohfinkpppkaaPut2
import Derived.Lib.AppendZeros
import Derived.Test.YtggohfinkpppkaaMarks
import Derived.Test.YtggohfinkpppkaaTcS
import Derived.Deep.Slices
import Derived.Test.YtggohfinkpppkaaIMap
import Derived.Test.YtggohfinkpppkaaPut
import Derived.Test.YtggohfinkpppkaaTcT
import Derived.Test.YtggohfinkpppkaaCommon
import Derived.Test.YtggohfinkpppkaaTcW
/-
  What spec.EqualTokens answers at any two lists. By an AI agent.
-/
namespace Go.Proofs.Ytggohfinkpppkaa
open Go.RowKit
set_option linter.unusedVariables false

def eqB (l m : List Str) : Bool := decide (l = m)

theorem str_ne {x y : Str} {s t : ByteArray} (hs : s.data.toList = x) (ht : t.data.toList = y) (h : x ≠ y) : (s.toList == t.toList) = false := by
  rw [ByteArray.toList_eq, ByteArray.toList_eq, hs, ht]
  simpa using h

theorem ret_bool {a b : Bool} (h : a = b) : Ending.returned (.bool a) = .returned (.bool b) := by rw [h]

theorem eqB_same {l m : List Str} (hn : l.length = m.length) (h : ∀ j, j < l.length → l[j]? = m[j]?) : eqB l m = true := by
  unfold eqB
  refine decide_eq_true (List.ext_getElem? fun j => ?_)
  by_cases hj : j < l.length
  · exact h j hj
  · rw [List.getElem?_eq_none (by omega), List.getElem?_eq_none (by omega)]
theorem eqB_other {l m : List Str} {k : Nat} {x y : Str} (hx : l[k]? = some x) (hy : m[k]? = some y) (h : x ≠ y) : eqB l m = false := by
  unfold eqB
  refine decide_eq_false fun e => ?_
  rw [e, hy] at hx
  exact h (Option.some.inj hx).symm
theorem eqB_len {l m : List Str} (h : l.length ≠ m.length) : eqB l m = false := by
  unfold eqB
  exact decide_eq_false fun e => h (by rw [e])

set_option maxRecDepth 100000 in
theorem spec_eq (a1 a2 : Option Addr) (c1 c2 : Nat) (l m : List Str) (w : World) (hl : l.length ≤ maxLen) (hm : m.length ≤ maxLen) (h1 : InS w a1 l) (h2 : InS w a2 m) :
    Calls Try.prog 42 #[.slice a1 l.length c1, .slice a2 m.length c2] w fun e w' => e = .returned (.bool (eqB l m)) ∧ Below w.heap.size w w' := by
  unfold maxLen at hl hm
  have H1 := Lib.hid h1
  have H2 := Lib.hid h2
  clear h1 h2
  by_cases hn : l.length = m.length
  · have HN := Lib.hid hn
    have hnb : ((l.length : Int) != (m.length : Int)) = false := by simp [hn]
    clear hn
    go_enter Try.func42, Try.ntmps42
    go_wp2
    go_loopw [5] (fun i wr => ∃ k n : Nat, k ≤ l.length ∧ i = .int .i64 k ∧ wr = w.drewN n ∧ ∀ j, j < k → l[j]? = m[j]?) (fun i _ => l.length - (intOf i).toNat)
    case atStart => exact ⟨0, 0, Nat.zero_le _, rfl, rfl, fun j hj => absurd hj (Nat.not_lt_zero _)⟩
    case round =>
      obtain ⟨k, n, hk, rfl, rfl, hall⟩ := hrel
      have HALL := Lib.hid hall
      clear hall
      by_cases hlt : k < l.length
      · have hlt2 : k < m.length := by have := HN.out; omega
        obtain ⟨b1, o1, rfl, hb1, hc1⟩ := H1.out (by omega)
        obtain ⟨b2, o2, rfl, hb2, hc2⟩ := H2.out (by omega)
        obtain ⟨x, s, hx1, hx2, hx3, hx4⟩ := str_at hlt
        obtain ⟨y, t, hy1, hy2, hy3, hy4⟩ := str_at hlt2
        have hcell1 : w.cell? ⟨b1, o1 + k, none⟩ = some (.string s) := by rw [← hx3]; exact hc1 k x hx1
        have hcell2 : w.cell? ⟨b2, o2 + k, none⟩ = some (.string t) := by rw [← hy3]; exact hc2 k y hy1
        have HX := Lib.hid hx1
        have HY := Lib.hid hy1
        by_cases hxy : x = y
        · have hst : s = t := by
            subst hxy
            have := hx3.symm.trans hy3
            simpa using this
          subst hst
          have HXY := Lib.hid hxy
          clear hc1 hc2 hx1 hx2 hx3 hx4 hy1 hy2 hy3 hy4 hxy
          go_wp2
          go_quiet (fail)
          go_wp2
          go_roundw
          case rel =>
            refine ⟨k + 1, _, by omega, by go_num, rfl, fun j hj => ?_⟩
            by_cases e : j = k
            · rw [e, HX.out, HY.out, HXY.out]
            · exact HALL.out j (by omega)
          case measure => simp [intOf]; omega
        · have hst := str_ne hx2 hy2 hxy
          have HXY := Lib.hid hxy
          clear hc1 hc2 hx1 hx2 hx3 hx4 hy1 hy2 hy3 hy4 hxy
          go_wp2
          go_quiet (fail)
          go_wp2
          go_ret
          exact ⟨ret_bool (by rw [eqB_other HX.out HY.out HXY.out]), (quiet_below _ _ _).trans (quiet_below _ _ _)⟩
      · obtain rfl : k = l.length := by omega
        go_wp2
        go_ret
        exact ⟨ret_bool (by rw [eqB_same HN.out HALL.out]), quiet_below _ _ _⟩
  · have hnb : ((l.length : Int) != (m.length : Int)) = true := by simp; omega
    have HN := Lib.hid hn
    clear hn
    go_enter Try.func42, Try.ntmps42
    go_wp2
    go_ret
    exact ⟨ret_bool (by rw [eqB_len HN.out]), Below.refl _ _⟩

end Go.Proofs.Ytggohfinkpppkaa

/-
  Facts of the similarities of two lists: symmetric, ordered, 1000 for equal sets alone. By an AI agent.
-/
namespace Go.Proofs.Ytggohfinkpppkaa
open Go.RowKit
set_option linter.unusedVariables false

theorem sim_comm (a b : List Str) : (tsB a && tsB b) = (tsB b && tsB a) := Bool.and_comm _ _
theorem uni_comm {a b : List Str} : (uniteR a b).length = (uniteR b a).length := by
  have : uniteR a b = uniteR b a := setL_congr fun x => by rw [List.mem_append, List.mem_append]; exact or_comm
  rw [this]
theorem jac_comm (a b : List Str) : jacR b a = jacR a b := by
  unfold jacR
  rw [sim_comm b a]
  cases h : tsB a && tsB b
  · rfl
  · obtain ⟨ha, hb⟩ := pair_yes h
    rw [cc_comm hb ha, uni_comm]
theorem dice_comm (a b : List Str) : diceR b a = diceR a b := by
  unfold diceR
  rw [sim_comm b a]
  cases h : tsB a && tsB b
  · rfl
  · obtain ⟨ha, hb⟩ := pair_yes h
    rw [cc_comm hb ha, Int.add_comm]
theorem cont_comm (a b : List Str) : contR b a = contR a b := by
  unfold contR
  rw [sim_comm b a]
  cases h : tsB a && tsB b
  · rfl
  · obtain ⟨ha, hb⟩ := pair_yes h
    rw [cc_comm hb ha, Int.min_comm]

theorem rat_le {n d m e : Int} (hn : 0 ≤ n) (hd : 0 < d) (he : 0 < e) (h : n * e ≤ m * d) : ratI n d ≤ ratI m e := by
  rw [ratI_some (by omega), ratI_some (by omega), Int.le_ediv_iff_mul_le he]
  have h1 : 1000 * n / d * d ≤ 1000 * n := Int.ediv_mul_le _ (by omega)
  have h2 : 1000 * n / d * d * e ≤ 1000 * n * e := Int.mul_le_mul_of_nonneg_right h1 (by omega)
  have h3 : 1000 * n * e ≤ 1000 * m * d := by rw [Int.mul_assoc, Int.mul_assoc]; omega
  have h4 : 1000 * n / d * e * d ≤ 1000 * m * d := by
    rw [Int.mul_right_comm]
    exact Int.le_trans h2 h3
  exact Int.le_of_mul_le_mul_right h4 hd

theorem jac_dice (a b : List Str) : jacR a b ≤ diceR a b := by
  unfold jacR diceR
  cases h : tsB a && tsB b
  · exact Int.le_refl _
  · obtain ⟨ha, hb⟩ := pair_yes h
    rw [if_pos rfl, if_pos rfl]
    have h1 := unite_count ha hb
    have h2 := cc_le a b
    have h3 := cc_le' ha hb
    obtain ⟨n, hn⟩ : ∃ n, ccN a b = n := ⟨_, rfl⟩
    obtain ⟨u, hu⟩ : ∃ u, (uniteR a b).length = u := ⟨_, rfl⟩
    rw [show (setL (a ++ b)).length = u from hu] at h1
    rw [hn] at h1 h2 h3 ⊢
    rw [hu]
    by_cases h0 : u = 0
    · rw [ratI_zero (by omega), ratI_zero (by omega)]
      exact Int.le_refl _
    · refine rat_le (by omega) (by omega) (by omega) ?_
      have e1 : (a.length : Int) + (b.length : Int) = (u : Int) + (n : Int) := by omega
      rw [e1, Int.mul_add, Int.mul_assoc, Int.two_mul]
      have h5 : (n : Int) * (n : Int) ≤ (n : Int) * (u : Int) := Int.mul_le_mul_of_nonneg_left (by omega) (by omega)
      omega
theorem dice_cont (a b : List Str) : diceR a b ≤ contR a b := by
  unfold diceR contR
  cases h : tsB a && tsB b
  · exact Int.le_refl _
  · obtain ⟨ha, hb⟩ := pair_yes h
    rw [if_pos rfl, if_pos rfl]
    have h2 := cc_le a b
    have h3 := cc_le' ha hb
    obtain ⟨n, hn⟩ : ∃ n, ccN a b = n := ⟨_, rfl⟩
    obtain ⟨m, hm⟩ : ∃ m : Int, min (a.length : Int) (b.length : Int) = m := ⟨_, rfl⟩
    rw [hn] at h2 h3 ⊢
    rw [hm]
    by_cases h0 : m = 0
    · rw [ratI_zero h0]
      by_cases h1 : (a.length : Int) + (b.length : Int) = 0
      · rw [ratI_zero h1]; exact Int.le_refl _
      · obtain rfl : n = 0 := by omega
        rw [ratI_some h1]
        simp
    · refine rat_le (by omega) (by omega) (by omega) ?_
      have h5 : 2 * m ≤ (a.length : Int) + (b.length : Int) := by omega
      have h6 : (n : Int) * (2 * m) ≤ (n : Int) * ((a.length : Int) + (b.length : Int)) := Int.mul_le_mul_of_nonneg_left h5 (by omega)
      rw [show 2 * (n : Int) * m = (n : Int) * (2 * m) by rw [Int.mul_comm 2 (n : Int), Int.mul_assoc]]
      exact h6
theorem ratI_nonneg {n d : Int} (hn : 0 ≤ n) (hd : 0 ≤ d) : 0 ≤ ratI n d := by
  unfold ratI
  split
  · omega
  · exact Int.ediv_nonneg (by omega) hd

theorem cc_full {a b : List Str} (h : ccN a b = a.length) : ∀ x ∈ a, x ∈ b := by
  have h2 := List.length_filter_eq_length_iff.1 h
  intro x hx
  simpa using h2 x hx
theorem cc_self (a : List Str) : ccN a a = a.length := by
  unfold ccN
  rw [List.length_filter_eq_length_iff.2 (fun x hx => by simpa using hx)]
theorem jac_same {a b : List Str} (h : (tsB a && tsB b) = true) : (jacR a b == 1000) = eqB a b := by
  obtain ⟨ha, hb⟩ := pair_yes h
  unfold jacR eqB
  rw [h, if_pos rfl, Bool.eq_iff_iff, beq_iff_eq, decide_eq_true_iff]
  have h1 := unite_count ha hb
  have h2 := cc_le a b
  have h3 := cc_le' ha hb
  obtain ⟨u, hu⟩ : ∃ u, (uniteR a b).length = u := ⟨_, rfl⟩
  rw [show (setL (a ++ b)).length = u from hu] at h1
  rw [hu]
  constructor
  · intro e
    have hn : ccN a b = a.length ∧ ccN a b = b.length := by
      by_cases h0 : u = 0
      · omega
      · rw [ratI_some (by omega)] at e
        have h4 : (1000 : Int) * (u : Int) ≤ 1000 * (ccN a b : Int) := (Int.le_ediv_iff_mul_le (by omega)).1 (Int.le_of_eq e.symm)
        omega
    refine asc_ext ha hb fun x => ⟨fun hx => cc_full hn.1 x hx, fun hx => cc_full (by rw [← cc_comm ha hb]; exact hn.2) x hx⟩
  · rintro rfl
    rw [cc_self] at h1 ⊢
    have hu2 : u = a.length := by omega
    rw [hu2]
    by_cases h0 : (a.length : Int) = 0
    · rw [ratI_zero h0]
    · rw [ratI_some h0, Int.mul_ediv_cancel _ h0]
theorem tok_common {a b : List Str} (h : (tsB a && tsB b) = true) : tsB (commonR a b) = true := by
  rw [Bool.and_eq_true] at h
  refine tsB_yes ⟨fun x hx => ?_, setL_asc _⟩
  have h2 := (setL_mem _ x).1 hx
  exact (tsB_true h.1).1 x (List.mem_filter.1 h2).1
theorem tok_unite {a b : List Str} (h : (tsB a && tsB b) = true) : tsB (uniteR a b) = true := by
  rw [Bool.and_eq_true] at h
  refine tsB_yes ⟨fun x hx => ?_, setL_asc _⟩
  have h2 := (setL_mem _ x).1 hx
  rcases List.mem_append.1 h2 with h2 | h2
  · exact (tsB_true h.1).1 x h2
  · exact (tsB_true h.2).1 x h2
theorem both_lens {a b : List Str} (h : (tsB a && tsB b) = true) : (commonR a b).length + (uniteR a b).length = a.length + b.length := by
  obtain ⟨ha, hb⟩ := pair_yes h
  have h1 := unite_count ha hb
  have h2 := common_count (b := b) ha
  show (setL (a.filter fun x => decide (x ∈ b))).length + (setL (a ++ b)).length = a.length + b.length
  omega
theorem jac_no {a b : List Str} (h : (tsB a && tsB b) = false) : jacR a b = 0 := by unfold jacR; rw [h]; rfl
theorem dice_no {a b : List Str} (h : (tsB a && tsB b) = false) : diceR a b = 0 := by unfold diceR; rw [h]; rfl
theorem cont_no {a b : List Str} (h : (tsB a && tsB b) = false) : contR a b = 0 := by unfold contR; rw [h]; rfl
theorem eqB_refl (a : List Str) : eqB a a = true := by unfold eqB; simp

end Go.Proofs.Ytggohfinkpppkaa

/-
  What the cursor of spec (l1New, l1Byte, l1Below, l1PickInt) does: some numbers within their bounds; nothing but the cursor is written. By an AI agent.
-/
namespace Go.Proofs.Ytggohfinkpppkaa
open Go.RowKit
set_option linter.unusedVariables false

/-- the cursor's block -/
def CurB (w : World) (c : Nat) (A : Option Addr) (len cap i : Nat) (h : Int) : Prop :=
  w.heap[c]? = some (.cells #[.slice A len cap, .int .i64 i, .int .i64 h] 132 (0, 0))

/-- the bytes that the cursor reads lie below block B -/
def CodeAt (w : World) (B : Nat) (A : Option Addr) (len : Nat) : Prop :=
  len ≤ 1048576 ∧ (0 < len → ∃ b off, A = some ⟨b, off, none⟩ ∧ b < B ∧ ∀ j, j < len → ∃ z : Int, 0 ≤ z ∧ z ≤ 255 ∧ w.cell? ⟨b, off + j, none⟩ = some (.int .u8 z))

def Cur (w : World) (B c : Nat) : Prop := B ≤ c ∧ ∃ A len cap i h, i ≤ len ∧ CurB w c A len cap i h ∧ CodeAt w B A len

theorem CurB.cell {w : World} {c : Nat} {A : Option Addr} {len cap i : Nat} {h : Int} (hc : CurB w c A len cap i h) (k : Nat) : w.cell? ⟨c, k, none⟩ = (#[Value.slice A len cap, .int .i64 i, .int .i64 h] : Array Value)[k]? :=
  cell_of_row w c k _ 132 (0, 0) hc
theorem CurB.frozen {w : World} {c : Nat} {A : Option Addr} {len cap i : Nat} {h : Int} (hc : CurB w c A len cap i h) (k : Nat) : w.frozen? ⟨c, k, none⟩ = false := by
  unfold CurB at hc
  simp [World.frozen?, hc]
theorem CurB.set1 {w : World} {c : Nat} {A : Option Addr} {len cap i : Nat} {h : Int} (hc : CurB w c A len cap i h) (j : Nat) : CurB (w.setCell ⟨c, 1, none⟩ (.int .i64 j)) c A len cap j h := by
  unfold CurB at hc ⊢
  simp [World.setCell, Array.getElem?_modify, hc]
theorem CurB.set2 {w : World} {c : Nat} {A : Option Addr} {len cap i : Nat} {h : Int} (hc : CurB w c A len cap i h) (h' : Int) : CurB (w.setCell ⟨c, 2, none⟩ (.int .i64 h')) c A len cap i h' := by
  unfold CurB at hc ⊢
  simp [World.setCell, Array.getElem?_modify, hc]
theorem CurB.lt {w : World} {c : Nat} {A : Option Addr} {len cap i : Nat} {h : Int} (hc : CurB w c A len cap i h) : c < w.heap.size := by
  rcases Nat.lt_or_ge c w.heap.size with hlt | hge
  · exact hlt
  · unfold CurB at hc; rw [Array.getElem?_eq_none hge] at hc; cases hc

theorem CodeAt.keep {w w' : World} {B : Nat} {A : Option Addr} {len : Nat} (h : CodeAt w B A len) (hk : ∀ k, k < B → w'.heap[k]? = w.heap[k]?) : CodeAt w' B A len := by
  refine ⟨h.1, fun h0 => ?_⟩
  obtain ⟨b, off, hA, hb, hz⟩ := h.2 h0
  refine ⟨b, off, hA, hb, fun j hj => ?_⟩
  obtain ⟨z, h1, h2, h3⟩ := hz j hj
  exact ⟨z, h1, h2, by rw [World.cell?_of_block (hk b hb)]; exact h3⟩

theorem Cur.lt {w : World} {B c : Nat} (h : Cur w B c) : c < w.heap.size := by
  obtain ⟨_, _, _, _, _, _, _, hc, _⟩ := h
  exact hc.lt
theorem Cur.alloc {w : World} {B c : Nat} (h : Cur w B c) (o : Obj) : Cur (w.alloc o) B c := by
  have hlt := h.lt
  obtain ⟨hB, A, len, cap, i, hh, hi, hc, hcode⟩ := h
  exact ⟨hB, A, len, cap, i, hh, hi, (Below.heap_alloc w o c hlt).trans hc, hcode.keep fun k hk => Below.heap_alloc w o k (by omega)⟩
/-- writes to other blocks leave the cursor alone -/
theorem Cur.below {w w' : World} {B c B' : Nat} (h : Cur w B c) (hb : Below B' w w') (hc' : c < B') : Cur w' B c := by
  obtain ⟨hB, A, len, cap, i, hh, hi, hc, hcode⟩ := h
  exact ⟨hB, A, len, cap, i, hh, hi, (hb.block c hc').trans hc, hcode.keep fun k hk => hb.block k (by omega)⟩

theorem and255 (a : Int) : 0 ≤ bits .and .i64 a 255 ∧ bits .and .i64 a 255 ≤ 255 := by
  have h : ((BitVec.ofInt 64 a) &&& (BitVec.ofInt 64 255)).toNat ≤ 255 := by
    rw [BitVec.toNat_and]
    exact Nat.and_le_right
  have e : bits .and .i64 a 255 = (((BitVec.ofInt 64 a) &&& (BitVec.ofInt 64 255)).toNat : Int) := by
    show IntKind.i64.wrap ((((BitVec.ofInt 64 a) &&& (BitVec.ofInt 64 255)).toNat : Nat) : Int) = _
    exact IntWalk.i64_in _ (by omega)
  rw [e]
  omega

theorem grown_set (w : World) (c k : Nat) (u : Value) : w.grownBy (w.setCell ⟨c, k, none⟩ u) (some c) :=
  ⟨rfl, rfl, rfl, by simp [World.setCell], fun j _ hne => Below.heap_setCell w ⟨c, k, none⟩ u j (fun e => hne (by rw [e]))⟩
theorem grown_trans {a b d : World} {c : Nat} (h1 : a.grownBy b (some c)) (h2 : b.grownBy d (some c)) : a.grownBy d (some c) :=
  ⟨h2.os.trans h1.os, h2.tape.trans h1.tape, h2.output.trans h1.output, Nat.le_trans h1.size h2.size, fun k hk hne => (h2.block k (Nat.lt_of_lt_of_le hk h1.size) hne).trans (h1.block k hk hne)⟩
theorem grown_drewN {a b : World} {c : Nat} (h : a.grownBy b (some c)) (n : Nat) : a.grownBy (b.drewN n) (some c) := ⟨h.os, h.tape, h.output, h.size, h.block⟩
theorem CurB.drewN {w : World} {c : Nat} {A : Option Addr} {len cap i : Nat} {h : Int} (hc : CurB w c A len cap i h) (n : Nat) : CurB (w.drewN n) c A len cap i h := hc

def SomeByte (w : World) (B c : Nat) (e : Ending) (w' : World) : Prop := ∃ x : Int, e = .returned (.int .i64 x) ∧ 0 ≤ x ∧ x ≤ 255 ∧ Cur w' B c ∧ w.grownBy w' (some c)

set_option maxRecDepth 100000 in
set_option maxHeartbeats 1000000 in
theorem l1Byte_any (B c : Nat) (w : World) (hcur : Cur w B c) : Calls Try.prog 133 #[.pointer (some ⟨c, 0, none⟩)] w (SomeByte w B c) := by
  obtain ⟨hB, A, len, cap, i, h, hi, hc, hcode⟩ := hcur
  have HC := Lib.hid hc
  have HCODE := Lib.hid hcode
  have c0 : w.cell? ⟨c, 0, none⟩ = some (.slice A len cap) := hc.cell 0
  have c1 : w.cell? ⟨c, 1, none⟩ = some (.int .i64 i) := hc.cell 1
  have c2 : w.cell? ⟨c, 2, none⟩ = some (.int .i64 h) := hc.cell 2
  have f1 := hc.frozen 1
  have f2 := hc.frozen 2
  clear hc hcode
  by_cases hlt : i < len
  · obtain ⟨b, off, rfl, hb, hz⟩ := HCODE.out.2 (by omega)
    obtain ⟨z, z0, z1, hcell⟩ := hz i hlt
    clear hz
    have hlen := HCODE.out.1
    have hcell2 : ∀ v, (w.setCell ⟨c, 2, none⟩ v).cell? ⟨b, off + i, none⟩ = some (.int .u8 z) := fun v => by
      rw [World.cell?_setCell_other w _ _ v (fun e => by have h := congrArg Addr.block e; simp only at h; omega)]
      exact hcell
    go_enter Try.func133, Try.ntmps133
    go_wp2
    go_quiet (fail)
    go_wp2
    go_quiet (fail)
    go_wp2
    go_quiet (fail)
    go_wp2
    go_ret
    refine ⟨_, rfl, (and255 _).1, (and255 _).2, ⟨hB, _, len, cap, i + 1, _, by omega, (((HC.out.set2 _).set1 (i + 1))), ?_⟩, ?_⟩
    · exact HCODE.out.keep fun k hk => (Below.heap_setCell _ ⟨c, 1, none⟩ _ k (by simp; omega)).trans (Below.heap_setCell w ⟨c, 2, none⟩ _ k (by simp; omega))
    · exact grown_trans (grown_drewN (grown_set w c 2 _) _) (grown_set _ c 1 _)
  · go_enter Try.func133, Try.ntmps133
    go_wp2
    go_quiet (fail)
    go_wp2
    go_quiet (fail)
    go_wp2
    go_ret
    refine ⟨_, rfl, (and255 _).1, (and255 _).2, ⟨hB, A, len, cap, i, _, hi, HC.out.set2 _, ?_⟩, ?_⟩
    · exact HCODE.out.keep fun k hk => Below.heap_setCell w ⟨c, 2, none⟩ _ k (by simp; omega)
    · exact grown_drewN (grown_drewN (grown_set w c 2 _) _) _

theorem SomeByte.mk {w w' : World} {B c : Nat} {e : Ending} (h : SomeByte w B c e w') : ∃ x : Int, e = .returned (.int .i64 x) ∧ 0 ≤ x ∧ x ≤ 255 ∧ Cur w' B c ∧ w.grownBy w' (some c) := h

def SomeBelow (w : World) (B c : Nat) (n : Int) (e : Ending) (w' : World) : Prop := ∃ x : Int, e = .returned (.int .i64 x) ∧ 0 ≤ x ∧ x < n ∧ Cur w' B c ∧ w.grownBy w' (some c)

set_option maxRecDepth 100000 in
set_option maxHeartbeats 1000000 in
theorem l1Below_small (B c : Nat) (n : Int) (w : World) (hcur : Cur w B c) (h0 : 0 < n) (h1 : n ≤ 256) : Calls Try.prog 119 #[.pointer (some ⟨c, 0, none⟩), .int .i64 n] w (SomeBelow w B c n) := by
  have HC := Lib.hid hcur
  clear hcur
  go_enter Try.func119, Try.ntmps119
  go_wp2_with (go_at_call 133; (refine (l1Byte_any B c _ HC.out).mono ?_); rintro e w1 ⟨x, rfl, hx0, hx1, hc1, hg1⟩; have HC1 := Lib.hid hc1; have HG1 := Lib.hid hg1; clear hc1 hg1)
  go_ret
  exact ⟨_, rfl, Int.emod_nonneg _ (by omega), Int.emod_lt_of_pos _ h0, HC1.out, HG1.out⟩

set_option maxRecDepth 100000 in
set_option maxHeartbeats 1000000 in
theorem l1Below_large (B c : Nat) (n : Int) (w : World) (hcur : Cur w B c) (h0 : 256 < n) (h1 : n ≤ 4611686018427387904) : Calls Try.prog 119 #[.pointer (some ⟨c, 0, none⟩), .int .i64 n] w (SomeBelow w B c n) := by
  have HC := Lib.hid hcur
  have HG := Lib.hid (show 0 < n by omega)
  clear hcur
  go_enter Try.func119, Try.ntmps119
  go_wp2_with (go_at_call 133; (refine (l1Byte_any B c _ HC.out).mono ?_); rintro e w1 ⟨x1, rfl, hx0, hx1, hc1, hg1⟩; refine Hid.out ?_)
  refine Lib.hid ?_
  have HC1 := Lib.hid hc1
  have HG1 := Lib.hid hg1
  clear hc1 hg1
  go_wp2_with (go_at_call 133; (refine (l1Byte_any B c _ HC1.out).mono ?_); rintro e w2 ⟨x2, rfl, hy0, hy1, hc2, hg2⟩; refine Hid.out ?_)
  refine Lib.hid ?_
  have HC2 := Lib.hid hc2
  have HG2 := Lib.hid (grown_trans HG1.out hg2)
  clear hc2 hg2
  go_wp2_with (go_at_call 133; (refine (l1Byte_any B c _ HC2.out).mono ?_); rintro e w3 ⟨x3, rfl, hz0, hz1, hc3, hg3⟩; refine Hid.out ?_)
  refine Lib.hid ?_
  have HC3 := Lib.hid hc3
  have HG3 := Lib.hid (grown_trans HG2.out hg3)
  clear hc3 hg3
  go_wp2_with (go_at_call 133; (refine (l1Byte_any B c _ HC3.out).mono ?_); rintro e w4 ⟨x4, rfl, hu0, hu1, hc4, hg4⟩; refine Hid.out ?_)
  refine Lib.hid ?_
  have HC4 := Lib.hid hc4
  have HG4 := Lib.hid (grown_trans HG3.out hg4)
  clear hc4 hg4
  go_wp2
  go_ret
  exact ⟨_, rfl, Int.emod_nonneg _ (by have := HG.out; omega), Int.emod_lt_of_pos _ HG.out, HC4.out, HG4.out⟩

theorem l1Below_any (B c : Nat) (n : Int) (w : World) (hcur : Cur w B c) (h0 : 0 < n) (h1 : n ≤ 4611686018427387904) : Calls Try.prog 119 #[.pointer (some ⟨c, 0, none⟩), .int .i64 n] w (SomeBelow w B c n) := by
  by_cases h : n ≤ 256
  · exact l1Below_small B c n w hcur h0 h
  · exact l1Below_large B c n w hcur (by omega) h1

def SomeInt (w : World) (B c : Nat) (e : Ending) (w' : World) : Prop := ∃ x : Int, e = .returned (.int .i64 x) ∧ -9223372036854775808 ≤ x ∧ x ≤ 9223372036854775807 ∧ Cur w' B c ∧ w.grownBy w' (some c)

set_option maxRecDepth 100000 in
set_option maxHeartbeats 1000000 in
theorem l1PickInt_any (B c g n : Nat) (w : World) (hcur : Cur w B c) (hn : 0 < n) (hn2 : n ≤ 65536) (hg : g ≠ c)
    (hl : ∀ j, j < n → ∃ z : Int, -9223372036854775808 ≤ z ∧ z ≤ 9223372036854775807 ∧ w.cell? ⟨g, j, none⟩ = some (.int .i64 z)) :
    Calls Try.prog 127 #[.pointer (some ⟨c, 0, none⟩), .slice (some ⟨g, 0, none⟩) n n] w (SomeInt w B c) := by
  have HC := Lib.hid hcur
  have HL := Lib.hid hl
  clear hcur hl
  go_enter Try.func127, Try.ntmps127
  go_wp2_with (go_at_call 119; (refine (l1Below_any B c _ _ HC.out (by omega) (by omega)).mono ?_); rintro e w1 ⟨x, rfl, hx0, hx1, hc1, hg1⟩; refine Hid.out ?_)
  refine Lib.hid ?_
  obtain ⟨k, rfl⟩ := Int.eq_ofNat_of_zero_le hx0
  obtain ⟨z, hz0, hz1, hcell⟩ := HL.out k (by omega)
  have hcell1 : w1.cell? ⟨g, k, none⟩ = some (.int .i64 z) := hg1.cell hcell (by simpa using hg)
  have HC1 := Lib.hid hc1
  have HG1 := Lib.hid hg1
  clear hc1 hg1
  go_wp2
  go_ret
  exact ⟨_, rfl, hz0, hz1, HC1.out, HG1.out⟩

end Go.Proofs.Ytggohfinkpppkaa

/-
  What the drawing functions of chapter 1 (l1New, l1Num, l1Text, DrawEncodeVarint, DrawEncodeHex, DrawEncodeFixed) hand back: some numbers and texts within their bounds. By an AI agent.
-/
namespace Go.Proofs.Ytggohfinkpppkaa
open Go.RowKit
set_option linter.unusedVariables false

def SomeCur (w : World) (e : Ending) (w' : World) : Prop := ∃ c, e = .returned (.pointer (some ⟨c, 0, none⟩)) ∧ Cur w' w.heap.size c ∧ Below w.heap.size w w'

set_option maxRecDepth 100000 in
set_option maxHeartbeats 1000000 in
theorem l1New_any (A : Option Addr) (len cap : Nat) (w : World) (hcode : CodeAt w w.heap.size A len) : Calls Try.prog 87 #[.slice A len cap] w (SomeCur w) := by
  have HCODE := Lib.hid hcode
  have hlen : (len : Int) ≤ 1048576 := by have := hcode.1; omega
  clear hcode
  go_enter Try.func87, Try.ntmps87
  go_wp2
  go_loop [3, 4] (fun h i => ∃ (k : Nat) (x : Int), k ≤ len ∧ k ≤ 4000 ∧ i = .int .i64 k ∧ h = .int .i64 x) (fun _ i => 4000 - (intOf i).toNat)
  case atStart => exact ⟨0, _, Nat.zero_le _, by omega, rfl, rfl⟩
  case round =>
    obtain ⟨k, x, hk, hk4, rfl, rfl⟩ := hrel
    by_cases hlt : k < len ∧ k < 4000
    · obtain ⟨h1, h2⟩ := hlt
      obtain ⟨b, off, rfl, hb, hz⟩ := HCODE.out.2 (by omega)
      obtain ⟨z, z0, z1, hcell⟩ := hz k h1
      clear hz
      go_wp2
      go_round
      case rel => exact ⟨k + 1, _, by omega, by omega, by go_num, rfl⟩
      case measure => simp [intOf]; omega
    · have hex : ¬ k < len ∨ ¬ k < 4000 := by omega
      clear hlt
      rcases hex with hex | hex
      all_goals go_wp2
      all_goals go_ret
      all_goals refine ⟨w.heap.size, rfl, ⟨Nat.le_refl _, A, len, cap, 0, _, Nat.zero_le _, heap_alloc_new w _, HCODE.out.keep fun j hj => Below.heap_alloc w _ j hj⟩, (Below.refl _ _).alloc (Nat.le_refl _) _⟩

theorem lit_cells (w : World) (l : List Int) (hr : ∀ z ∈ l, -9223372036854775808 ≤ z ∧ z ≤ 9223372036854775807) : ∀ j, j < l.length → ∃ z : Int, -9223372036854775808 ≤ z ∧ z ≤ 9223372036854775807 ∧
    (w.alloc (.cells (l.map (Value.int .i64)).toArray 3)).cell? ⟨w.heap.size, j, none⟩ = some (.int .i64 z) := by
  intro j hj
  refine ⟨l[j], (hr _ (List.getElem_mem hj)).1, (hr _ (List.getElem_mem hj)).2, ?_⟩
  rw [World.cell?_alloc_at _ _ _ _ rfl]
  simp [hj]

theorem grown_alloc (w : World) (o : Obj) (c : Nat) : w.grownBy (w.alloc o) (some c) := World.grownBy_alloc w o _

theorem OwnB.kept {w w' : World} {base c : Nat} {v : Value} {l : List UInt8} (h : OwnB w base v l) (hg : w.grownBy w' (some c)) (hc : c < base) : OwnB w' base v l := by
  refine World.ownsRow.kept h hg (.inr fun e => ?_)
  have := (World.ownsRow.lt h c e).1
  omega

theorem grown_below {a b d : World} {c : Nat} (h1 : a.grownBy b (some c)) (h2 : Below a.heap.size b d) : a.grownBy d (some c) :=
  ⟨h2.os.trans h1.os, h2.tape.trans h1.tape, h2.output.trans h1.output, Nat.le_trans h1.size h2.size, fun k hk hne => (h2.block k hk).trans (h1.block k hk hne)⟩

def SomeText (w : World) (B c : Nat) (most : Nat) (e : Ending) (w' : World) : Prop := ∃ l : List UInt8, e = .returned (.string (strOf l)) ∧ l.length ≤ most ∧ Cur w' B c ∧ w.grownBy w' (some c)

end Go.Proofs.Ytggohfinkpppkaa

/-
  What the drawing functions of chapter 2 (l1Pick, l1Spoil, l2Name, l2Text) hand back: some texts within their bounds; nothing but the cursor is written. By an AI agent.
-/
namespace Go.Proofs.Ytggohfinkpppkaa
open Go.RowKit
set_option linter.unusedVariables false

def SomeStr (w : World) (B c m : Nat) (e : Ending) (w' : World) : Prop := ∃ s : ByteArray, e = .returned (.string s) ∧ s.size ≤ m ∧ Cur w' B c ∧ w.grownBy w' (some c)

theorem lit_strs (w : World) (l : List ByteArray) (m : Nat) (hr : ∀ s ∈ l, s.size ≤ m) : ∀ j, j < l.length → ∃ s : ByteArray, s.size ≤ m ∧ (w.alloc (.cells (l.map Value.string).toArray 9)).cell? ⟨w.heap.size, j, none⟩ = some (.string s) := by
  intro j hj
  refine ⟨l[j], hr _ (List.getElem_mem hj), ?_⟩
  rw [World.cell?_alloc_at _ _ _ _ rfl]
  simp [hj]

set_option maxRecDepth 100000 in
set_option maxHeartbeats 1000000 in
theorem l1Pick_any (B c g n m : Nat) (w : World) (hcur : Cur w B c) (hn : 0 < n) (hn2 : n ≤ 65536) (hg : g ≠ c)
    (hl : ∀ j, j < n → ∃ s : ByteArray, s.size ≤ m ∧ w.cell? ⟨g, j, none⟩ = some (.string s)) :
    Calls Try.prog 121 #[.pointer (some ⟨c, 0, none⟩), .slice (some ⟨g, 0, none⟩) n n] w (SomeStr w B c m) := by
  have HC := Lib.hid hcur
  have HL := Lib.hid hl
  clear hcur hl
  go_enter Try.func121, Try.ntmps121
  go_wp2_with (go_at_call 119; (refine (l1Below_any B c _ _ HC.out (by omega) (by omega)).mono ?_); rintro e w1 ⟨x, rfl, hx0, hx1, hc1, hg1⟩; refine Hid.out ?_)
  refine Lib.hid ?_
  obtain ⟨k, rfl⟩ := Int.eq_ofNat_of_zero_le hx0
  obtain ⟨s, hs, hcell⟩ := HL.out k (by omega)
  have hcell1 : w1.cell? ⟨g, k, none⟩ = some (.string s) := hg1.cell hcell (by simpa using hg)
  have HC1 := Lib.hid hc1
  have HG1 := Lib.hid hg1
  clear hc1 hg1
  go_wp2
  go_ret
  exact ⟨s, rfl, hs, HC1.out, HG1.out⟩

theorem ext_le (s : ByteArray) (a b : Nat) : (s.extract a b).size ≤ s.size := by rw [ByteArray.size_extract]; omega
theorem u8_lo (z : Int) : 0 ≤ IntKind.u8.wrap z := by rw [IntKind.wrap_u8]; omega
theorem u8_hi (z : Int) : IntKind.u8.wrap z ≤ 255 := by rw [IntKind.wrap_u8]; omega
theorem one_size (x : UInt8) : (⟨#[x]⟩ : ByteArray).size = 1 := rfl

end Go.Proofs.Ytggohfinkpppkaa

/-
  What spec.l1Once, l3Set, l3Any and the drawing functions over two lists of strings hand back. By an AI agent.
-/
namespace Go.Proofs.Ytggohfinkpppkaa
open Go.RowKit
set_option linter.unusedVariables false

theorem own_keptc {w w' : World} {base c : Nat} {v : Value} {l : List Str} (h : OwnS w base v l) (hg : w.grownBy w' (some c)) (hc : c < base) : OwnS w' base v l := by
  refine World.ownsRow.kept h hg (.inr fun e => ?_)
  have := (World.ownsRow.lt h c e).1
  omega
theorem below_own {w0 w w' : World} {v : Value} {l : List Str} (ho : OwnS w w0.heap.size v l) (hs : w0.heap.size ≤ w.heap.size) (hg : w.grownBy w' v.ownBlock) : Below w0.heap.size w w' :=
  (Below.refl _ _).grown hg hs (fun k hk => (World.ownsRow.lt ho k hk).1)

def SomeBool (w : World) (B c : Nat) (e : Ending) (w' : World) : Prop := ∃ b : Bool, e = .returned (.bool b) ∧ Cur w' B c ∧ w.grownBy w' (some c)
def SomeSet (w : World) (B c m : Nat) (e : Ending) (w' : World) : Prop := ∃ (a : Option Addr) (cap : Nat) (l : List Str), e = .returned (.slice a l.length cap) ∧ OwnS w' w.heap.size (.slice a l.length cap) l ∧ l.length ≤ m ∧ (∀ x ∈ l, x.length ≤ 10) ∧ Cur w' B c ∧ w.grownBy w' (some c)

set_option maxRecDepth 100000 in
theorem l1Once_any (B c : Nat) (n : Int) (w : World) (hcur : Cur w B c) (h0 : 0 < n) (h1 : n ≤ 4611686018427387904) : Calls Try.prog 95 #[.pointer (some ⟨c, 0, none⟩), .int .i64 n] w (SomeBool w B c) := by
  have HC := Lib.hid hcur
  clear hcur
  go_enter Try.func95, Try.ntmps95
  go_wp2_with (go_at_call 119; (refine (l1Below_any B c _ _ HC.out h0 h1).mono ?_); rintro e w1 ⟨x, rfl, hx0, hx1, hc1, hg1⟩; have HC1 := Lib.hid hc1; have HG1 := Lib.hid hg1; clear hc1 hg1)
  go_ret
  exact ⟨_, rfl, HC1.out, HG1.out⟩

theorem put_small {l : List Str} {x : Str} (h : ∀ y ∈ l, y.length ≤ 10) (hx : x.length ≤ 10) : ∀ y ∈ putL false l x, y.length ≤ 10 := by
  intro y hy
  rcases (putL_mem false x y l).1 hy with rfl | hy
  · exact hx
  · exact h y hy

set_option maxRecDepth 100000 in
set_option maxHeartbeats 2000000 in
theorem l3Set_any (B c : Nat) (w : World) (hcur : Cur w B c) : Calls Try.prog 120 #[.pointer (some ⟨c, 0, none⟩)] w (SomeSet w B c 6) := by
  have HC := Lib.hid hcur
  have HLT := Lib.hid hcur.lt
  clear hcur
  go_enter Try.func120, Try.ntmps120
  go_wp2_with (go_at_call 119; (refine (l1Below_any B c _ _ (HC.out.alloc _) (by omega) (by omega)).mono ?_); rintro e w1 ⟨x, rfl, hx0, hx1, hc1, hg1⟩; refine Hid.out ?_)
  refine Lib.hid ?_
  obtain ⟨n, rfl⟩ := Int.eq_ofNat_of_zero_le hx0
  have HC1 := Lib.hid hc1
  have HG1 := Lib.hid (grown_trans (grown_alloc w _ c) hg1)
  have HO1 := Lib.hid (own_keptc (own_new w w.heap.size w.heap.size rfl (Nat.le_refl _)) hg1 HLT.out)
  have hn : n ≤ 6 := by omega
  clear hc1 hg1 hx0 hx1
  go_wp2
  go_loopw [3, 4] (fun v i wr => ∃ (k : Nat) (a : Option Addr) (cap : Nat) (l : List Str), i = .int .i64 k ∧ v = .slice a l.length cap ∧ k + l.length ≤ 6 ∧ (∀ x ∈ l, x.length ≤ 10) ∧ OwnS wr w.heap.size (.slice a l.length cap) l ∧ Cur wr B c ∧ w.grownBy wr (some c)) (fun _ i _ => (intOf i).toNat)
  case atStart => exact ⟨n, _, _, [], rfl, rfl, hn, by simp, HO1.out, HC1.out, HG1.out⟩
  case round =>
    clear HC1 HG1 HO1
    obtain ⟨k, a, cap, l, rfl, rfl, hk, hx, hown, hcur, hg⟩ := hrel
    have HX := Lib.hid hx
    have HOWN := Lib.hid hown
    have HCU := Lib.hid hcur
    have HCL := Lib.hid hcur.lt
    have HG := Lib.hid hg
    clear hx hown hcur hg
    by_cases hlt : 0 < k
    · obtain ⟨j, rfl⟩ : ∃ j, k = j + 1 := ⟨k - 1, by omega⟩
      go_wp2_with (first
        | (go_at_call 121; (refine (l1Pick_any B c wr.heap.size 9 5 _ (HCU.out.alloc _) (by omega) (by omega) (by have := HCL.out; omega) (lit_strs wr [⟨#[97]⟩, ⟨#[98]⟩, ⟨#[99]⟩, ⟨#[100]⟩, ⟨#[101]⟩, ⟨#[97, 110, 110]⟩, ⟨#[108, 101, 101]⟩, ⟨#[115, 109, 105, 116, 104]⟩, ⟨#[57]⟩] 5 (by decide))).mono ?_); rintro e w2 ⟨s, rfl, hs, hc2, hg2⟩; have HS := Lib.hid hs; have HC2 := Lib.hid hc2; have HG2 := Lib.hid (grown_trans HG.out (grown_trans (grown_alloc wr _ c) hg2)); have HO2 := Lib.hid (own_keptc (HOWN.out.alloc _) hg2 HLT.out); clear hs hc2 hg2)
        | (go_at_call 84; (refine (put_any false w.heap.size a cap l s s.data.toList _ (by omega) HO2.out HG2.out.size rfl).mono ?_); rintro e w3 ⟨a3, c3, rfl, ho3, hb3⟩; have HO3 := Lib.hid ho3; have HB3 := Lib.hid hb3; clear ho3 hb3))
      go_roundw
      case rel =>
        refine ⟨j, a3, c3, putL false l s.data.toList, by go_num, rfl, ?_, put_small HX.out ?_, HO3.out, HC2.out.below HB3.out HC2.out.lt, grown_below HG2.out (HB3.out.mono HG2.out.size)⟩
        · have := putL_length false s.data.toList l
          omega
        · have h1 : s.data.toList.length = s.size := Array.length_toList
          have := HS.out
          omega
      case measure => simp [intOf]
    · obtain rfl : k = 0 := by omega
      go_wp2
      go_ret
      exact ⟨a, cap, l, rfl, HOWN.out, by omega, HX.out, HCU.out, HG.out⟩

set_option maxRecDepth 100000 in
set_option maxHeartbeats 2000000 in
theorem l3Any_any (B c : Nat) (w : World) (hcur : Cur w B c) : Calls Try.prog 89 #[.pointer (some ⟨c, 0, none⟩)] w (SomeSet w B c 7) := by
  have HC := Lib.hid hcur
  have HLT := Lib.hid hcur.lt
  clear hcur
  go_enter Try.func89, Try.ntmps89
  go_wp2_with (go_at_call 120; (refine (l3Set_any B c _ HC.out).mono ?_); rintro e w1 ⟨a, cap, l, rfl, ho1, hl1, hx1, hc1, hg1⟩; refine Hid.out ?_)
  refine Lib.hid ?_
  have HO1 := Lib.hid ho1
  have HX1 := Lib.hid hx1
  have HC1 := Lib.hid hc1
  have HG1 := Lib.hid hg1
  clear ho1 hx1 hc1 hg1
  go_wp2_with (go_at_call 95; (refine (l1Once_any B c _ _ HC1.out (by omega) (by omega)).mono ?_); rintro e w2 ⟨b, rfl, hc2, hg2⟩; refine Hid.out ?_)
  refine Lib.hid ?_
  have HC2 := Lib.hid hc2
  have HL2 := Lib.hid hc2.lt
  have HG2 := Lib.hid (grown_trans HG1.out hg2)
  have HO2 := Lib.hid (own_keptc HO1.out hg2 HLT.out)
  clear hc2 hg2
  cases b
  · go_wp2
    go_ret
    exact ⟨a, cap, l, rfl, HO2.out, by omega, HX1.out, HC2.out, HG2.out⟩
  · go_wp2_with (go_at_call 121; (refine (l1Pick_any B c w2.heap.size 5 3 _ (HC2.out.alloc _) (by omega) (by omega) (by have := HL2.out; omega) (lit_strs w2 [⟨#[]⟩, ⟨#[65]⟩, ⟨#[97]⟩, ⟨#[97, 32, 98]⟩, ⟨#[122, 122]⟩] 3 (by decide))).mono ?_); rintro e w3 ⟨s, rfl, hs, hc3, hg3⟩; refine Hid.out ?_)
    refine Lib.hid ?_
    have HS := Lib.hid hs
    have HC3 := Lib.hid hc3
    have HG3 := Lib.hid (grown_trans HG2.out (grown_trans (grown_alloc w2 _ c) hg3))
    have HO3 := Lib.hid (own_keptc (HO2.out.alloc _) hg3 HLT.out)
    clear hs hc3 hg3
    obtain ⟨v', w4, hrun, ho, hgr⟩ := run_app 43 w.heap.size (.slice a l.length cap) l (w3.alloc (.cells #[.string s] 9)) (HO3.out.alloc _) (some ⟨w3.heap.size, 0, none⟩) 1 [s.data.toList]
      (in_one w3 w3.heap.size s _ rfl rfl) nofun (by simp; omega) (by have := HG3.out.size; simp; omega)
    obtain ⟨a', c', rfl⟩ := ho.shape
    have HRUN := Lib.hid hrun
    have HO := Lib.hid ho
    have HB := Lib.hid (below_own (w0 := w) (HO3.out.alloc (.cells #[.string s] 9)) (by have := HG3.out.size; simp; omega) hgr)
    have HC4 := Lib.hid ((HC3.out.alloc (.cells #[.string s] 9)).below HB.out HLT.out)
    have HG4 := Lib.hid (grown_below (grown_trans HG3.out (grown_alloc w3 (.cells #[.string s] 9) c)) HB.out)
    clear hrun ho hgr
    go_wp2_with (at_builtin; refine Lib.wpList_append_run _ rfl _ _ _ _ rfl _ _ rfl rfl _ _ HRUN.out ?_)
    go_ret
    refine ⟨a', c', l ++ [s.data.toList], by rw [List.length_append]; rfl, HO.out, by simp; omega, fun x hx => ?_, HC4.out, HG4.out⟩
    rcases List.mem_append.1 hx with hx | hx
    · exact HX1.out x hx
    · rw [List.mem_singleton.1 hx]
      have h1 : s.data.toList.length = s.size := Array.length_toList
      have := HS.out
      omega

/-- two lists of strings are handed back -/
def DrawnSets (w : World) (e : Ending) (w' : World) : Prop := ∃ (a1 a2 : Option Addr) (c1 c2 : Nat) (l1 l2 : List Str), e = .returned (.tuple #[.slice a1 l1.length c1, .slice a2 l2.length c2]) ∧ Sm w' a1 l1 c1 ∧ Sm w' a2 l2 c2 ∧ l1.length ≤ 7 ∧ l2.length ≤ 7 ∧ Below w.heap.size w w'

end Go.Proofs.Ytggohfinkpppkaa

/-
  Slices of slices of strings: one that reads as a list of lists, one of the call's own. By an AI agent.
-/
namespace Go.Proofs.Ytggohfinkpppkaa
open Go.RowKit
set_option linter.unusedVariables false

/-- a slice whose elements are the lists of a list -/
def InSS (w : World) (a : Option Addr) (ls : List (List Str)) : Prop :=
  0 < ls.length → ∃ b off, a = some ⟨b, off, none⟩ ∧ b < w.heap.size ∧ ∀ j l, ls[j]? = some l → ∃ a' c', w.cell? ⟨b, off + j, none⟩ = some (.slice a' l.length c') ∧ (a' = none → c' = 0) ∧ l.length ≤ c' ∧ InS w a' l
theorem InSS.below {w w' : World} {a : Option Addr} {ls : List (List Str)} (h : InSS w a ls) (hb : Below w.heap.size w w') : InSS w' a ls := by
  intro h0
  obtain ⟨b, off, ha, hlt, hc⟩ := h h0
  refine ⟨b, off, ha, Nat.lt_of_lt_of_le hlt hb.size, fun j l hj => ?_⟩
  obtain ⟨a', c', h1, h2, h3, h4⟩ := hc j l hj
  exact ⟨a', c', (World.cell?_of_block (hb.block b hlt)).trans h1, h2, h3, h4.below hb⟩

/-- an argument of a law -/
def ArgSS (w : World) (a : Option Addr) (ls : List (List Str)) : Prop := InSS w a ls ∧ ls.length ≤ maxLen ∧ ∀ l ∈ ls, l.length ≤ maxLen ∧ ∀ x ∈ l, x.length ≤ maxLen
theorem argSS_of {w : World} {x : Addr} {len cap : Nat} (hl : len ≤ cap) (hm : cap ≤ maxLen) (h : ∀ i, i < len → ∃ (a' : Option Addr) (l : List Str) (c' : Nat), w.cell? (x.add i) = some (.slice a' l.length c') ∧ (a' = none → c' = 0) ∧ l.length ≤ c' ∧ ArgS w a' l) : ∃ L : List (List Str), len = L.length ∧ ArgSS w (some x) L := by
  obtain ⟨f, hf⟩ := Go.Deep.choose_lt (n := len) (p := fun i (q : Option Addr × List Str × Nat) => w.cell? (x.add i) = some (.slice q.1 q.2.1.length q.2.2) ∧ (q.1 = none → q.2.2 = 0) ∧ q.2.1.length ≤ q.2.2 ∧ ArgS w q.1 q.2.1) (fun i hi => by obtain ⟨a', l, c', h1⟩ := h i hi; exact ⟨(a', l, c'), h1⟩)
  refine ⟨(List.range len).map fun i => (f i).2.1, by simp, fun h0 => ?_, by simp; omega, fun y hy => ?_⟩
  · simp at h0
    obtain ⟨b, off, spot⟩ := x
    have hspot : spot = none := by simpa [Addr.add] using World.cell?_spot (hf 0 (by omega)).1
    subst hspot
    have hadd : ∀ j, (⟨b, off, none⟩ : Addr).add j = ⟨b, off + j, none⟩ := fun j => by unfold Addr.add; split <;> simp_all
    refine ⟨b, off, rfl, World.block_lt_of_cell? w _ (hf 0 (by omega)).1, fun j y hj => ?_⟩
    obtain ⟨hlt, he⟩ := List.getElem?_eq_some_iff.1 hj
    simp at hlt he
    obtain ⟨h1, h2, h3, h4⟩ := hf j hlt
    rw [hadd] at h1
    subst he
    exact ⟨_, _, h1, h2, h3, h4.1⟩
  · obtain ⟨i, hi, rfl⟩ := List.mem_map.1 hy
    exact (hf i (List.mem_range.1 hi)).2.2.2.2

/-- the values and letters of the lists -/
def yzT (ls : List (List Str)) (k : Nat) : Nat := ls.length + ((ls.take k).map szL).sum
def yzL (ls : List (List Str)) : Nat := yzT ls ls.length
theorem ss_take {ls : List (List Str)} {k : Nat} {l : List Str} (h : ls[k]? = some l) : ls.take (k + 1) = ls.take k ++ [l] := by
  obtain ⟨hlt, he⟩ := List.getElem?_eq_some_iff.1 h
  rw [List.take_succ_eq_append_getElem hlt, he]
theorem yzT_succ {ls : List (List Str)} {k : Nat} {l : List Str} (h : ls[k]? = some l) : yzT ls (k + 1) = yzT ls k + szL l := by
  unfold yzT
  rw [ss_take h]
  simp
  omega
theorem yzT_le {ls : List (List Str)} {j k : Nat} (h : j ≤ k) : yzT ls j ≤ yzT ls k := by
  obtain ⟨d, rfl⟩ : ∃ d, k = j + d := ⟨k - j, by omega⟩
  unfold yzT
  rw [List.take_add]
  simp
theorem yzL_len (ls : List (List Str)) : ls.length ≤ yzL ls := by unfold yzL yzT; omega
theorem yzL_mem {ls : List (List Str)} {l : List Str} (h : l ∈ ls) : szL l ≤ yzL ls := by
  obtain ⟨k, hk⟩ := List.getElem?_of_mem h
  have h1 := yzT_succ hk
  have h2 := yzT_le (ls := ls) (show k + 1 ≤ ls.length from (List.getElem?_eq_some_iff.1 hk).1)
  unfold yzL
  omega
theorem flat_sum (ls : List (List Str)) : ls.flatten.length ≤ (ls.map szL).sum := by
  induction ls with
  | nil => simp
  | cons l ls ih =>
    have := szL_len l
    simp only [List.flatten_cons, List.length_append, List.map_cons, List.sum_cons]
    omega
theorem yzL_flat (ls : List (List Str)) : ls.flatten.length ≤ yzL ls := by
  have h := flat_sum ls
  unfold yzL yzT
  rw [List.take_length]
  omega
theorem yz_len {ls : List (List Str)} (hs : yzL ls ≤ 1048576) : ls.length ≤ 4000000 := by have := yzL_len ls; omega
def yzR (ls : List (List Str)) (left : Nat) : Int := if yzL ls ≤ left then (left : Int) - (yzL ls : Int) else -1
theorem yzR_yes {ls : List (List Str)} {left : Nat} (h : yzL ls ≤ left) : yzR ls left = ((left - yzL ls : Nat) : Int) := by unfold yzR; rw [if_pos h]; omega
theorem yzR_no {ls : List (List Str)} {left : Nat} (h : ¬ yzL ls ≤ left) : yzR ls left = -1 := by unfold yzR; rw [if_neg h]

/-- an argument of moderate size -/
def SmSS (w : World) (a : Option Addr) (ls : List (List Str)) : Prop := InSS w a ls ∧ ls.length ≤ 4000000 ∧ ls.flatten.length ≤ 4000000 ∧ ∀ l ∈ ls, ∀ x ∈ l, x.length ≤ 1048576
theorem SmSS.below {w w' : World} {a : Option Addr} {ls : List (List Str)} (h : SmSS w a ls) (hb : Below w.heap.size w w') : SmSS w' a ls := ⟨h.1.below hb, h.2⟩

/-- what is written into the blocks from lo on and below hi alone -/
structure Chg (w w' : World) (lo hi : Nat) : Prop where
  os : w'.os = w.os
  tape : w'.tape = w.tape
  output : w'.output = w.output
  size : w.heap.size ≤ w'.heap.size
  block : ∀ k, k < w.heap.size → ¬ (lo ≤ k ∧ k < hi) → w'.heap[k]? = w.heap[k]?
theorem Chg.refl (w : World) (lo hi : Nat) : Chg w w lo hi := ⟨rfl, rfl, rfl, Nat.le_refl _, fun _ _ _ => rfl⟩
theorem Chg.grown {w w1 w2 : World} {lo hi : Nat} {r : Option Nat} (h : Chg w w1 lo hi) (hg : w1.grownBy w2 r) (hr : ∀ k, r = some k → lo ≤ k ∧ k < hi) : Chg w w2 lo hi :=
  ⟨hg.os.trans h.os, hg.tape.trans h.tape, hg.output.trans h.output, Nat.le_trans h.size hg.size, fun k hk hn => (hg.block k (Nat.lt_of_lt_of_le hk h.size) (fun e => hn (hr k e.symm))).trans (h.block k hk hn)⟩
theorem below_chg {w0 w w' : World} {lo hi : Nat} (hb : Below w0.heap.size w0 w) (h : Chg w w' lo hi) (hlo : w0.heap.size ≤ lo) : Below w0.heap.size w0 w' :=
  ⟨h.os.trans hb.os, h.tape.trans hb.tape, h.output.trans hb.output, Nat.le_trans hb.size h.size, fun k hk => (h.block k (Nat.lt_of_lt_of_le hk hb.size) (by omega)).trans (hb.block k hk)⟩
theorem row_chg {w w' : World} {lo hi base : Nat} {e : TypeId} {size n : Nat} {v : Value} {xs : List Value} (h : w.ownsRow base e size v n xs) (hc : Chg w w' lo hi) (hn : ∀ k, v.ownBlock = some k → ¬ (lo ≤ k ∧ k < hi)) : w'.ownsRow base e size v n xs := by
  refine ⟨h.1, ?_⟩
  rcases h.2 with h1 | ⟨g, cap, cur, rfl, hb, hg, rest⟩
  · exact .inl h1
  · exact .inr ⟨g, cap, cur, rfl, hb, (hc.block g (Array.getElem?_eq_some_iff.1 hg).1 (hn g rfl)).trans hg, rest⟩
theorem OwnHT.chg {w w' : World} {lo hi lo' hi' : Nat} {v : Value} {l : List TC} (h : OwnHT w lo hi v l) (hc : Chg w w' lo' hi') (hd : hi ≤ lo' ∨ hi' ≤ lo) : OwnHT w' lo hi v l :=
  ⟨row_chg h.1 hc fun k hk => by have := h.row k hk; omega, h.2⟩
theorem OwnH.chg {w w' : World} {lo hi lo' hi' : Nat} {v : Value} {l : List Str} (h : OwnH w lo hi v l) (hc : Chg w w' lo' hi') (hd : hi ≤ lo' ∨ hi' ≤ lo) : OwnH w' lo hi v l :=
  ⟨row_chg h.1 hc fun k hk => by have := h.row k hk; omega, h.2⟩

/-- a slice of slices of the call's own -/
structure OwnSS (w : World) (lo : Nat) (v : Value) (vs : List Value) (ls : List (List Str)) : Prop where
  len : vs.length = ls.length
  out : w.ownsRow lo 43 1 v ls.length vs
  row : ∀ (j : Nat) (u : Value) (l : List Str), vs[j]? = some u → ls[j]? = some l → OwnS w lo u l
  apart : ∀ (j : Nat) (u : Value) (k : Nat), vs[j]? = some u → u.ownBlock = some k → v.ownBlock ≠ some k
  dis : ∀ (i j : Nat) (u z : Value) (k : Nat), i ≠ j → vs[i]? = some u → vs[j]? = some z → u.ownBlock = some k → z.ownBlock ≠ some k
theorem OwnSS.below {w w' : World} {lo : Nat} {v : Value} {vs : List Value} {ls : List (List Str)} (h : OwnSS w lo v vs ls) (hb : Below w.heap.size w w') : OwnSS w' lo v vs ls :=
  ⟨h.len, World.ownsRow.kept h.out (row := none) ⟨hb.os, hb.tape, hb.output, hb.size, fun i hi _ => hb.block i hi⟩ (by cases hv : v.ownBlock <;> simp), fun j u l h1 h2 => (h.row j u l h1 h2).below hb, h.apart, h.dis⟩
theorem cell_own {w : World} {base : Nat} {e : TypeId} {a : Option Addr} {n cap : Nat} {xs : List Value} (h : w.ownsRow base e 1 (.slice a n cap) n xs) (h0 : 0 < n) : ∃ g, a = some ⟨g, 0, none⟩ ∧ base ≤ g ∧ g < w.heap.size ∧ ∀ j u, xs[j]? = some u → w.cell? ⟨g, 0 + j, none⟩ = some u := by
  rcases h.2 with ⟨_, h1⟩ | ⟨g, cap', cur, hv, hb, hg, _, _, _, ht⟩
  · omega
  · simp only [Value.slice.injEq] at hv
    refine ⟨g, hv.1, hb, (Array.getElem?_eq_some_iff.1 hg).1, fun j u hj => ?_⟩
    have hlt := (List.getElem?_eq_some_iff.1 hj).1
    rw [h.1] at hlt
    rw [Nat.zero_add, cell_of_row w g j cur _ (0, 0) hg, ← Array.getElem?_toList]
    have h2 : (cur.toList.take (n * 1))[j]? = xs[j]? := by rw [ht]
    rw [List.getElem?_take_of_lt hlt] at h2
    rw [h2, hj]
theorem OwnSS.inSS {w : World} {lo : Nat} {a : Option Addr} {cap : Nat} {vs : List Value} {ls : List (List Str)} (h : OwnSS w lo (.slice a ls.length cap) vs ls) : InSS w a ls := by
  intro h0
  obtain ⟨g, rfl, _, hg, hc⟩ := cell_own h.out h0
  refine ⟨g, 0, rfl, hg, fun j l hj => ?_⟩
  have hlt := (List.getElem?_eq_some_iff.1 hj).1
  have hv : vs[j]? = some (vs[j]'(by rw [h.len]; exact hlt)) := List.getElem?_eq_getElem _
  have ho := h.row j _ l hv hj
  obtain ⟨a', c', e⟩ := ho.shape
  have hcell := hc j _ hv
  rw [e] at ho hcell
  exact ⟨a', c', hcell, ho.none_cap, ho.cap_ge, ho.inS⟩

def OwnHS (w : World) (lo hi : Nat) (v : Value) (vs : List Value) (ls : List (List Str)) : Prop := OwnSS w lo v vs ls ∧ (∀ k, v.ownBlock = some k → lo ≤ k ∧ k < hi) ∧ ∀ (j : Nat) (u : Value) (k : Nat), vs[j]? = some u → u.ownBlock = some k → lo ≤ k ∧ k < hi
def GivesSS (w : World) (ls : List (List Str)) (e : Ending) (w' : World) : Prop :=
  ∃ a cap vs, e = .returned (.slice a ls.length cap) ∧ OwnSS w' w.heap.size (.slice a ls.length cap) vs ls ∧ Below w.heap.size w w'
theorem OwnHS.of {w w' : World} {a : Option Addr} {cap : Nat} {vs : List Value} {ls : List (List Str)} (h : OwnSS w' w.heap.size (.slice a ls.length cap) vs ls) : OwnHS w' w.heap.size w'.heap.size (.slice a ls.length cap) vs ls :=
  ⟨h, fun k hk => World.ownsRow.lt h.out k hk, fun j u k hj hk => by
    have hlt := (List.getElem?_eq_some_iff.1 hj).1
    rw [h.len] at hlt
    exact World.ownsRow.lt (h.row j u _ hj (List.getElem?_eq_getElem hlt)) k hk⟩
theorem OwnHS.below {w w' : World} {lo hi : Nat} {v : Value} {vs : List Value} {ls : List (List Str)} (h : OwnHS w lo hi v vs ls) (hb : Below w.heap.size w w') : OwnHS w' lo hi v vs ls := ⟨h.1.below hb, h.2⟩
theorem OwnHS.inSS {w : World} {lo hi : Nat} {a : Option Addr} {cap : Nat} {vs : List Value} {ls : List (List Str)} (h : OwnHS w lo hi (.slice a ls.length cap) vs ls) : InSS w a ls := h.1.inSS
theorem sm_of_yz {w : World} {a : Option Addr} {ls : List (List Str)} (h : InSS w a ls) (hz : yzL ls ≤ 1048576) : SmSS w a ls :=
  ⟨h, yz_len hz, by have := yzL_flat ls; omega, fun l hl x hx => by have := yzL_mem hl; have := szL_mem hx; omega⟩
theorem OwnHS.smS {w : World} {lo hi : Nat} {a : Option Addr} {cap : Nat} {vs : List Value} {ls : List (List Str)} (h : OwnHS w lo hi (.slice a ls.length cap) vs ls) (hz : yzL ls ≤ 1048576) : SmSS w a ls := sm_of_yz h.inSS hz

end Go.Proofs.Ytggohfinkpppkaa

/-
  What the laws' own szStringSS, toStringSS, eqStringSS and markStringSS do. By an AI agent.
-/
namespace Go.Proofs.Ytggohfinkpppkaa
open Go.RowKit
set_option linter.unusedVariables false

set_option maxRecDepth 100000 in
theorem yz_any (a : Option Addr) (cap : Nat) (ls : List (List Str)) (left : Nat) (w : World) (h : ArgSS w a ls) (hleft : left ≤ 1048576) :
    Calls Try.prog 32 #[.slice a ls.length cap, .int .i64 left] w fun e w' => e = .returned (.int .i64 (yzR ls left)) ∧ w' = w := by
  obtain ⟨hin, hl, hx⟩ := h
  unfold maxLen at hl
  have HX := Lib.hid hx
  have HIN := Lib.hid hin
  clear hx hin
  by_cases h1 : ls.length ≤ left
  · go_enter Try.func32, Try.ntmps32
    go_wp2
    go_loop [1, 5] (fun r i => ∃ k m : Nat, k ≤ ls.length ∧ i = .int .i64 k ∧ r = .int .i64 m ∧ m ≤ left ∧ m + yzT ls k = left) (fun _ i => ls.length - (intOf i).toNat)
    case atStart => exact ⟨0, left - ls.length, Nat.zero_le _, rfl, by rw [Int.ofNat_sub h1], by omega, by simp [yzT]; omega⟩
    case round =>
      obtain ⟨k, m, hk, rfl, rfl, hm, hs⟩ := hrel
      have HS := Lib.hid hs
      clear hs
      by_cases hlt : k < ls.length
      · obtain ⟨b, off, rfl, hb, hc⟩ := HIN.out (by omega)
        have hj := List.getElem?_eq_getElem hlt
        obtain ⟨a', c', hcell, _, _, hin'⟩ := hc k _ hj
        have HT := Lib.hid (yzT_succ hj)
        have HT2 := Lib.hid (yzT_le (ls := ls) (show k + 1 ≤ ls.length from hlt))
        obtain ⟨q1, q2⟩ := HX.out _ (List.mem_of_getElem? hj)
        have HC := Lib.hid (fun (W : World) (hW : W = w) => sz_any a' c' ls[k] m W q1 (by rw [hW]; exact hin') q2 (by omega))
        generalize ls[k] = l at hcell HT HC
        clear hc hj hin' q1 q2
        by_cases hn : szL l ≤ m
        · have HN := Lib.hid (szR_yes hn)
          go_wp2_with (go_at_call 24; (refine (HC.out _ rfl).mono ?_); rw [HN.out]; rintro e w1 ⟨rfl, rfl⟩)
          go_round
          case rel => exact ⟨k + 1, m - szL l, by omega, by go_num, rfl, by omega, by have := HS.out; have := HT.out; omega⟩
          case measure => simp [intOf]; omega
        · have HN := Lib.hid (szR_no hn)
          go_wp2_with (go_at_call 24; (refine (HC.out _ rfl).mono ?_); rw [HN.out]; rintro e w1 ⟨rfl, rfl⟩)
          go_ret
          exact ⟨ret_int (by rw [yzR_no (by have := HS.out; have := HT.out; have := HT2.out; unfold yzL; omega)]), rfl⟩
      · obtain rfl : k = ls.length := by omega
        go_wp2
        go_ret
        exact ⟨ret_int (by rw [yzR_yes (by have := HS.out; unfold yzL; omega)]; have := HS.out; unfold yzL; omega), rfl⟩
  · go_enter Try.func32, Try.ntmps32
    go_wp2
    go_ret
    exact ⟨ret_int (by rw [yzR_no (by have := yzL_len ls; omega)]), rfl⟩

theorem ArgSS.below {w0 w : World} {a : Option Addr} {ls : List (List Str)} (h : ArgSS w0 a ls) (hb : Below w0.heap.size w0 w) : ArgSS w a ls := ⟨h.1.below hb, h.2⟩
theorem yz_no {w0 : World} (a : Option Addr) (cap : Nat) (ls : List (List Str)) (left : Nat) (w : World) (h : ArgSS w0 a ls) (hb : Below w0.heap.size w0 w) (hleft : left ≤ 1048576) (hn : ¬ yzL ls ≤ left) :
    Calls Try.prog 32 #[.slice a ls.length cap, .int .i64 left] w fun e w' => e = .returned (.int .i64 (-1)) ∧ w' = w :=
  (yz_any a cap ls left w (h.below hb) hleft).mono fun e w' ⟨he, hw⟩ => ⟨by rw [he, yzR_no hn], hw⟩
theorem yz_yes {w0 : World} (a : Option Addr) (cap : Nat) (ls : List (List Str)) (left r : Nat) (w : World) (h : ArgSS w0 a ls) (hb : Below w0.heap.size w0 w) (hleft : left ≤ 1048576) (hr : r + yzL ls = left) :
    Calls Try.prog 32 #[.slice a ls.length cap, .int .i64 left] w fun e w' => e = .returned (.int .i64 r) ∧ w' = w :=
  (yz_any a cap ls left w (h.below hb) hleft).mono fun e w' ⟨he, hw⟩ => ⟨by rw [he, yzR_yes (by omega)]; congr 3; omega, hw⟩

theorem info_ss : (Try.prog.info? 43).map (fun i => (i.zero, i.size, i.bytes)) = some (some (.slice none 0 0), 1, 24) := by kernel_rfl

theorem ss_row_at {vs rest : List Value} {k n : Nat} (h : (vs ++ rest).length = n) (hv : vs.length = k) (hk : k < n) : ∃ y r, rest = y :: r ∧ (vs ++ y :: r)[k]? = some y ∧ ∀ u, (vs ++ y :: r).set k u = (vs ++ [u]) ++ r := by
  match rest, h with
  | [], h => simp at h; omega
  | y :: r, _ =>
    refine ⟨y, r, rfl, ?_, fun u => ?_⟩
    · rw [List.getElem?_append_right (by omega), hv, Nat.sub_self]; rfl
    · rw [List.set_append_right _ _ (by omega), hv, Nat.sub_self, List.set_cons_zero]; simp
theorem snoc_at {α : Type} {vs : List α} {u x : α} {j : Nat} (h : (vs ++ [u])[j]? = some x) : vs[j]? = some x ∨ (j = vs.length ∧ x = u) := by
  rcases Nat.lt_or_ge j vs.length with hlt | hge
  · rw [List.getElem?_append_left hlt] at h; exact .inl h
  · rw [List.getElem?_append_right hge] at h
    have : j - vs.length = 0 := by have := (List.getElem?_eq_some_iff.1 h).1; simp at this; omega
    rw [this] at h
    simp at h
    exact .inr ⟨by omega, h.symm⟩
theorem row_kept {w w' : World} {base : Nat} {v : Value} {l : List Str} {g : Nat} (h : OwnS w base v l) (hg : w.grownBy w' (some g)) (hn : ∀ k, v.ownBlock = some k → k ≠ g) : OwnS w' base v l := by
  refine World.ownsRow.kept h hg ?_
  cases hv : v.ownBlock with
  | none => exact .inl rfl
  | some k => exact .inr fun e => hn k hv (by injection e)

set_option maxRecDepth 100000 in
set_option maxHeartbeats 1000000 in
theorem sto_any (a : Option Addr) (cap : Nat) (ls : List (List Str)) (w : World) (hz : yzL ls ≤ 1048576) (hin : InSS w a ls) :
    Calls Try.prog 34 #[.slice a ls.length cap] w (GivesSS w ls) := by
  obtain ⟨i0, hi, hz0, hz1, hz2⟩ := info_parts info_ss
  have HIN := Lib.hid hin
  have HZ := Lib.hid (fun l (hl : l ∈ ls) => (show l.length ≤ 4000000 by have := yzL_mem hl; have := szL_len l; omega))
  have hl := yz_len hz
  clear hin hz
  go_enter Try.func34, Try.ntmps34
  go_wp2_with (at_make; refine wpList_make_full _ rfl _ _ 51 rfl w.heap.size 43 i0 _ 1 Try.underlying51 hi hz0 hz1 .i64 .i64 _ _ ls.length rfl rfl rfl rfl (by rw [hz2]; omega) (by unfold maxLen; omega) (Nat.le_refl _) ?_; intro w1 hrow hg)
  have HROW := Lib.hid hrow
  have HB1 := Lib.hid ((Below.refl w.heap.size w).grown hg (Nat.le_refl _) (fun k hk => by cases hk))
  have HLT := Lib.hid (World.ownsRow.lt hrow w.heap.size rfl).2
  clear hrow hg
  go_loopw [4] (fun i wr => ∃ (k : Nat) (vs rest : List Value), k ≤ ls.length ∧ i = .int .i64 k ∧ vs.length = k ∧ wr.ownsRow w.heap.size 43 1 (.slice (some ⟨w.heap.size, 0, none⟩) ls.length ls.length) ls.length (vs ++ rest) ∧
    (∀ (j : Nat) (u : Value) (l : List Str), vs[j]? = some u → ls[j]? = some l → OwnS wr (w.heap.size + 1) u l) ∧ (∀ (i j : Nat) (u z : Value) (k : Nat), i ≠ j → vs[i]? = some u → vs[j]? = some z → u.ownBlock = some k → z.ownBlock ≠ some k) ∧ Below w.heap.size w wr ∧ w.heap.size < wr.heap.size) (fun i _ => ls.length - (intOf i).toNat)
  case atStart => exact ⟨0, [], _, Nat.zero_le _, rfl, rfl, HROW.out, fun j u l h => by simp at h, fun i j u z k _ h => by simp at h, HB1.out, HLT.out⟩
  case round =>
    obtain ⟨k, vs, rest, hk, rfl, hvl, hrow, hrows, hdis, hb, hws⟩ := hrel
    by_cases hlt : k < ls.length
    · obtain ⟨b, off, rfl, hbw, hc⟩ := HIN.out (by omega)
      have hj := List.getElem?_eq_getElem hlt
      obtain ⟨a', c', hcl, _, _, hin'⟩ := hc k _ hj
      have hcell : wr.cell? ⟨b, off + k, none⟩ = some (.slice a' ls[k].length c') := by rw [hb.cell (p := ⟨b, off + k, none⟩) hbw]; exact hcl
      have HC := Lib.hid (to_any a' c' ls[k] wr (HZ.out _ (List.mem_of_getElem? hj)) (hin'.below hb))
      have HJ := Lib.hid hj
      generalize ls[k] = l at hcell HC HJ
      have HROW2 := Lib.hid hrow
      have HROWS := Lib.hid hrows
      have HDIS := Lib.hid hdis
      have HB := Lib.hid hb
      have HVL := Lib.hid hvl
      have HWS := Lib.hid hws
      clear hc hcl hj hin' hrow hrows hdis hb hvl hws hbw
      go_wp2_with (go_at_call 26; (refine HC.out.mono ?_); rintro e w2 ⟨a2, c2, rfl, ho2, hb2⟩; refine Hid.out ?_)
      refine Lib.hid ?_
      have hrow2 := World.ownsRow.kept HROW2.out (row := none) ⟨hb2.os, hb2.tape, hb2.output, hb2.size, fun i hi _ => hb2.block i hi⟩ (by simp [Value.ownBlock])
      obtain ⟨y, r2, rfl, hq, hset⟩ := ss_row_at hrow2.1 HVL.out (by omega)
      have q0 := hrow2.cellAt k (by omega)
      rw [hq] at q0
      have f0 := hrow2.frozenAt k
      have HN := Lib.hid (hrow2.stored k (.slice a2 l.length c2))
      rw [hset] at HN
      have HO2 := Lib.hid ho2
      have HB2 := Lib.hid hb2
      clear hb2 hrow2 hq hset ho2
      go_wp2
      go_roundw
      case rel =>
        have hlow : ∀ (j : Nat) (u : Value) (k' : Nat), vs[j]? = some u → u.ownBlock = some k' → w.heap.size + 1 ≤ k' ∧ k' < wr.heap.size := by
          intro j u k' hj hk'
          have hjl : j < ls.length := by have := (List.getElem?_eq_some_iff.1 hj).1; have := HVL.out; omega
          exact World.ownsRow.lt (HROWS.out j u _ hj (List.getElem?_eq_getElem hjl)) k' hk'
        have hnew : ∀ k', (Value.slice a2 l.length c2).ownBlock = some k' → wr.heap.size ≤ k' := fun k' hk' => (World.ownsRow.lt HO2.out k' hk').1
        have hws := HWS.out
        refine ⟨k + 1, vs ++ [.slice a2 l.length c2], r2, by omega, by go_num, by have := HVL.out; simp; omega, HN.out.1, ?_, ?_, ?_, ?_⟩
        · intro j u m hj hm
          rcases snoc_at hj with h | ⟨rfl, rfl⟩
          · exact row_kept ((HROWS.out j u m h hm).below HB2.out) HN.out.2 fun k' hk' => by have := hlow j u k' h hk'; omega
          · rw [HVL.out] at hm
            rw [HJ.out] at hm
            obtain rfl := Option.some.inj hm
            exact row_kept (HO2.out.mono (by omega)) HN.out.2 fun k' hk' => by have := hnew k' hk'; omega
        · intro i j u z k' hij hi hj hk'
          rcases snoc_at hi with h | ⟨rfl, rfl⟩
          · rcases snoc_at hj with h2 | ⟨rfl, rfl⟩
            · exact HDIS.out i j u z k' hij h h2 hk'
            · intro e
              have := hnew k' e
              have := hlow i u k' h hk'
              omega
          · rcases snoc_at hj with h2 | ⟨rfl, rfl⟩
            · intro e
              have := hnew k' hk'
              have := hlow j z k' h2 e
              omega
            · exact absurd rfl hij
        · exact (HB.out.trans (HB2.out.mono HB.out.size)).grown HN.out.2 (Nat.le_trans HB.out.size HB2.out.size) (fun j hj => by cases hj; exact Nat.le_refl _)
        · exact Nat.lt_of_lt_of_le hws (Nat.le_trans HB2.out.size HN.out.2.size)
      case measure => simp [intOf]; omega
    · obtain rfl : k = ls.length := by omega
      have HROW2 := Lib.hid hrow
      have HROWS := Lib.hid hrows
      have HDIS := Lib.hid hdis
      clear hrow hrows hdis
      go_wp2
      go_ret
      have h := HROW2.out
      have h1 := h.1
      rw [List.length_append] at h1
      obtain rfl : rest = [] := List.eq_nil_of_length_eq_zero (by omega)
      rw [List.append_nil] at h
      refine ⟨_, _, vs, rfl, ⟨hvl, h, fun j u l h2 h3 => (HROWS.out j u l h2 h3).mono (by omega), fun j u k' hj hk' e => ?_, HDIS.out⟩, hb⟩
      have hjl : j < ls.length := by have := (List.getElem?_eq_some_iff.1 hj).1; omega
      have h4 := (World.ownsRow.lt (HROWS.out j u _ hj (List.getElem?_eq_getElem hjl)) k' hk').1
      simp [Value.ownBlock] at e
      omega

set_option maxRecDepth 100000 in
theorem seq_same (a1 a2 : Option Addr) (c1 c2 : Nat) (ls : List (List Str)) (w : World) (hz : yzL ls ≤ 1048576) (h1 : InSS w a1 ls) (h2 : InSS w a2 ls) :
    Calls Try.prog 36 #[.slice a1 ls.length c1, .slice a2 ls.length c2] w fun e w' => e = .returned (.bool true) ∧ Below w.heap.size w w' := by
  have H1 := Lib.hid h1
  have H2 := Lib.hid h2
  have HZ := Lib.hid (fun l (hl : l ∈ ls) => (show l.length ≤ maxLen by have := yzL_mem hl; have := szL_len l; unfold maxLen; omega))
  have hl := yz_len hz
  clear h1 h2 hz
  go_enter Try.func36, Try.ntmps36
  go_wp2
  go_loopw [5] (fun i wr => ∃ k : Nat, k ≤ ls.length ∧ i = .int .i64 k ∧ Below w.heap.size w wr) (fun i _ => ls.length - (intOf i).toNat)
  case atStart => exact ⟨0, Nat.zero_le _, rfl, Below.refl _ _⟩
  case round =>
    obtain ⟨k, hk, rfl, hb⟩ := hrel
    have HB := Lib.hid hb
    clear hb
    by_cases hlt : k < ls.length
    · obtain ⟨b1, o1, rfl, hb1, hc1⟩ := H1.out (by omega)
      obtain ⟨b2, o2, rfl, hb2, hc2⟩ := H2.out (by omega)
      have hj := List.getElem?_eq_getElem hlt
      obtain ⟨a', c', p0, _, _, p1⟩ := hc1 k _ hj
      obtain ⟨a'', c'', q0, _, _, q1⟩ := hc2 k _ hj
      have g0 : wr.cell? ⟨b1, o1 + k, none⟩ = some (.slice a' ls[k].length c') := by rw [HB.out.cell (p := ⟨b1, o1 + k, none⟩) hb1]; exact p0
      have g1 : wr.cell? ⟨b2, o2 + k, none⟩ = some (.slice a'' ls[k].length c'') := by rw [HB.out.cell (p := ⟨b2, o2 + k, none⟩) hb2]; exact q0
      have HM := Lib.hid (fun (W : World) (hW : Below w.heap.size w W) => eq_same a' a'' c' c'' ls[k] W (HZ.out _ (List.mem_of_getElem? hj)) (p1.below hW) (q1.below hW))
      generalize ls[k] = l at g0 g1 HM
      clear hc1 hc2 hj p0 p1 q0 q1 hb1 hb2
      go_wp2
      go_region_with (go_at_call 28; refine (HM.out _ (HB.out.drew)).mono ?_; rintro e w1 ⟨rfl, hb1⟩; have HB1 := Lib.hid hb1; clear hb1)
      all_goals go_wp2
      all_goals go_roundw
      all_goals first
        | (case rel => exact ⟨k + 1, by omega, by go_num, (HB.out.drew).trans (HB1.out.mono HB.out.size)⟩)
        | skip
      all_goals (simp [intOf]; omega)
    · obtain rfl : k = ls.length := by omega
      go_wp2
      go_ret
      exact ⟨rfl, HB.out⟩

/-- lists of the same lengths -/
def SameLen (ls ls' : List (List Str)) : Prop := ls'.length = ls.length ∧ ∀ (j : Nat) (l l' : List Str), ls[j]? = some l → ls'[j]? = some l' → l'.length = l.length
theorem SameLen.refl (ls : List (List Str)) : SameLen ls ls := ⟨rfl, fun j l l' h h' => by rw [h] at h'; rw [Option.some.inj h']⟩
def sumL (ls : List (List Str)) (k : Nat) : Nat := (ls.take k).flatten.length
theorem sumL_succ {ls : List (List Str)} {k : Nat} {l : List Str} (h : ls[k]? = some l) : sumL ls (k + 1) = sumL ls k + l.length := by
  unfold sumL
  rw [ss_take h]
  simp
theorem sumL_all (ls : List (List Str)) : sumL ls ls.length = ls.flatten.length := by unfold sumL; rw [List.take_length]
theorem sumL_le (ls : List (List Str)) (k : Nat) : sumL ls k ≤ ls.flatten.length := by
  unfold sumL
  conv => rhs; rw [← List.take_append_drop k ls]
  rw [List.flatten_append, List.length_append]
  omega

set_option maxRecDepth 100000 in
set_option maxHeartbeats 1000000 in
theorem smark_any (lo hi : Nat) (a : Option Addr) (cap : Nat) (vs : List Value) (ls : List (List Str)) (k0 : Nat) (w : World) (hz : yzL ls ≤ 1048576) (hk0 : 0 < k0) (hk1 : k0 ≤ 1000000) (hown : OwnHS w lo hi (.slice a ls.length cap) vs ls) :
    Calls Try.prog 37 #[.slice a ls.length cap, .int .i64 k0] w fun e w' => e = .returned (.int .i64 ((k0 + ls.flatten.length : Nat) : Int)) ∧ Chg w w' lo hi := by
  have HOWN := Lib.hid hown
  have hl := yz_len hz
  have hf := yzL_flat ls
  have HZ := Lib.hid (fun l (hl : l ∈ ls) => (show l.length ≤ 4000000 by have := yzL_mem hl; have := szL_len l; omega))
  have hq : ∀ k, sumL ls k ≤ 1048576 := fun k => by have := sumL_le ls k; omega
  have HQ := Lib.hid hq
  clear hown hz hf hq
  go_enter Try.func37, Try.ntmps37
  go_wp2
  go_loopw [1, 5] (fun kk i wr => ∃ (k m : Nat) (ls' : List (List Str)), k ≤ ls.length ∧ i = .int .i64 k ∧ kk = .int .i64 (m : Int) ∧ m ≤ 3000000 ∧ 0 < m ∧ Hid (m = k0 + sumL ls k) ∧ SameLen ls ls' ∧ OwnSS wr lo (.slice a ls.length cap) vs ls' ∧ Chg w wr lo hi) (fun _ i _ => ls.length - (intOf i).toNat)
  case atStart => exact ⟨0, k0, ls, Nat.zero_le _, rfl, rfl, by omega, hk0, Lib.hid (by simp [sumL]), SameLen.refl ls, HOWN.out.1, Chg.refl _ _ _⟩
  case round =>
    obtain ⟨k, m, ls', hk, rfl, rfl, hm1, hm2, HMM, hsl, hss, hch⟩ := hrel
    have HSL := Lib.hid hsl
    have HSS := Lib.hid hss
    have HCH := Lib.hid hch
    clear hsl hss hch
    by_cases hlt : k < ls.length
    · have hj := List.getElem?_eq_getElem hlt
      have hlt' : k < ls'.length := by rw [HSL.out.1]; exact hlt
      have hj' := List.getElem?_eq_getElem hlt'
      have hvl : k < vs.length := by rw [HSS.out.len]; exact hlt'
      have hv := List.getElem?_eq_getElem hvl
      have hrow := HSS.out.row k _ _ hv hj'
      obtain ⟨a', c', ev⟩ := hrow.shape
      have hout := HSS.out.out
      rw [HSL.out.1] at hout
      obtain ⟨g, rfl, hbg, hgl, hcl⟩ := cell_own hout (by omega)
      clear hout
      have hcell : wr.cell? ⟨g, k, none⟩ = some (.slice a' ls'[k].length c') := by
        have h := hcl k _ hv
        rw [Nat.zero_add, ev] at h
        exact h
      have hll := HSL.out.2 k _ _ hj hj'
      have HJ := Lib.hid hj
      have HJ' := Lib.hid hj'
      have HV := Lib.hid hv
      have HSUM := Lib.hid (sumL_succ hj)
      have hlen := HZ.out _ (List.mem_of_getElem? hj)
      have HM := Lib.hid (mark_any lo a' c' ls'[k] m wr (by rw [hll]; exact hlen) hm2 (by omega) (by rw [← ev]; exact hrow))
      have HEV := Lib.hid ev
      generalize hl1 : ls'[k] = l1 at hcell HM HJ' HEV hll
      generalize hl2 : ls[k] = l2 at HJ HSUM hll
      have HLL := Lib.hid hll
      clear hrow hcl hj hj' hv hbg hgl ev hl1 hl2 hlen hll
      go_wp2_with (go_at_call 29; (refine HM.out.mono ?_); rintro e w2 ⟨rfl, ho, hg⟩; refine Hid.out ?_)
      refine Lib.hid ?_
      have HO := Lib.hid ho
      have HG := Lib.hid hg
      clear ho hg
      go_wp2
      go_roundw
      case rel =>
        have hss := HSS.out
        have hsl := HSL.out
        have hnew : ∀ k', (Value.slice a' l1.length c').ownBlock = some k' → lo ≤ k' ∧ k' < hi := fun k' hk' => HOWN.out.2.2 k _ k' HV.out (by rw [HEV.out]; exact hk')
        refine ⟨k + 1, m + l1.length, ls'.set k (marksL m l1.length), by omega, by go_num, rfl, by have := HQ.out (k + 1); have := HSUM.out; have := HMM.out; have := HLL.out; omega, by omega, Lib.hid (by have := HSUM.out; have := HMM.out; have := HLL.out; omega), ⟨by simp; exact hsl.1, fun j l l' h1 h2 => ?_⟩, ?_, HCH.out.grown HG.out hnew⟩
        · by_cases e : j = k
          · subst e
            rw [List.getElem?_set_self (by have := (List.getElem?_eq_some_iff.1 HJ'.out).1; exact this)] at h2
            rw [HJ.out] at h1
            rw [← Option.some.inj h2, ← Option.some.inj h1, marks_length]
            exact HLL.out
          · rw [List.getElem?_set_ne (fun h => e h.symm)] at h2
            exact hsl.2 j l l' h1 h2
        · have hne : ∀ k', (Value.slice a' l1.length c').ownBlock = some k' → (Value.slice (some ⟨g, 0, none⟩) ls.length cap).ownBlock ≠ some k' := fun k' hk' => hss.apart k _ k' HV.out (by rw [HEV.out]; exact hk')
          refine ⟨by rw [List.length_set]; exact hss.len, ?_, fun j u l h1 h2 => ?_, hss.apart, hss.dis⟩
          · rw [List.length_set]
            refine World.ownsRow.kept hss.out HG.out (.inr fun e => ?_)
            exact hne g (e.symm.trans rfl) rfl
          · by_cases e : j = k
            · subst e
              rw [List.getElem?_set_self (by have := (List.getElem?_eq_some_iff.1 HJ'.out).1; exact this)] at h2
              rw [HV.out] at h1
              rw [← Option.some.inj h2, ← Option.some.inj h1, HEV.out]
              exact HO.out
            · rw [List.getElem?_set_ne (fun h => e h.symm)] at h2
              have ho := hss.row j u l h1 h2
              refine World.ownsRow.kept ho HG.out ?_
              cases hu : u.ownBlock with
              | none => exact .inl rfl
              | some q => exact .inr fun e2 => hss.dis j k u _ q e h1 HV.out hu (by rw [HEV.out]; exact e2.symm)
      case measure => simp [intOf]; omega
    · obtain rfl : k = ls.length := by omega
      go_wp2
      go_ret
      refine ⟨?_, HCH.out⟩
      rw [HMM.out, sumL_all]
      rfl

end Go.Proofs.Ytggohfinkpppkaa

/-
  What impl.CountTokens answers. By an AI agent.
-/
namespace Go.Proofs.Ytggohfinkpppkaa
open Go.RowKit Go.Maps Go.Sort
set_option linter.unusedVariables false

set_option maxRecDepth 100000 in
set_option maxHeartbeats 2000000 in
theorem cnt_impl (a : Option Addr) (c : Nat) (ls : List (List Str)) (w : World) (h0 : SmSS w a ls) :
    Calls Try.prog 35 #[.slice a ls.length c] w (GivesT w (ctR ls)) := by
  obtain ⟨hin, hl, hfl, hx⟩ := h0
  have HIN := Lib.hid hin
  have HX := Lib.hid hx
  have HQ := Lib.hid (show ∀ k, sumL ls k ≤ 4000000 from fun k => by have := sumL_le ls k; omega)
  have HLL := Lib.hid (show ∀ l ∈ ls, l.length ≤ 4000000 from fun l hl => by
    obtain ⟨k, hk⟩ := List.getElem?_of_mem hl
    have h1 := sumL_succ hk
    have h2 := sumL_le ls (k + 1)
    omega)
  clear hin hx hfl
  have hmm := @run_makeMap Try.prog
  obtain ⟨i0, hi, hz0, hz1, hz2⟩ := info_parts info_tc
  go_enter Try.func35, Try.ntmps35
  go_wp2
  go_loopw [13] (fun i wr => ∃ k : Nat, k ≤ ls.length ∧ i = .int .i64 k ∧ IMap wr w.heap.size (sumL ls k) (ls.take k).flatten (fun x => (hasN (ls.take k) x : Int)) ∧ Below w.heap.size w wr ∧ w.heap.size < wr.heap.size) (fun i _ => ls.length - (intOf i).toNat)
  case atStart => exact ⟨0, Nat.zero_le _, rfl, IMap.made w, (Below.refl _ _).alloc (Nat.le_refl _) _, by simp⟩
  case round =>
    obtain ⟨k, hk, rfl, hmap, hb, hws⟩ := hrel
    have HMAP := Lib.hid hmap
    have HB := Lib.hid hb
    have HWS := Lib.hid hws
    clear hmap hb hws
    by_cases hlt : k < ls.length
    · obtain ⟨b, off, rfl, hbw, hc⟩ := HIN.out (by omega)
      have hj := List.getElem?_eq_getElem hlt
      obtain ⟨a', c', hcl, _, _, hin'⟩ := hc k _ hj
      have hcell : wr.cell? ⟨b, off + k, none⟩ = some (.slice a' ls[k].length c') := by rw [HB.out.cell (p := ⟨b, off + k, none⟩) hbw]; exact hcl
      have hm := List.mem_of_getElem? hj
      have HC := Lib.hid (set_of a' c' ls[k] wr (by have := HLL.out _ hm; omega) (fun x hx => by have := HX.out _ hm x hx; omega) (hin'.below HB.out))
      have HJ := Lib.hid hj
      have HLK := Lib.hid (HLL.out _ hm)
      have HXK := Lib.hid (HX.out _ hm)
      generalize ls[k] = l at hcell HC HJ HLK HXK
      clear hc hcl hj hin' hm hbw
      go_wp2_with (first
        | (go_at_call 85; (refine HC.out.mono ?_); rintro e w1 ⟨bS, rfl, hs1, hlo, hb1⟩; obtain ⟨D, hown, hhas, hat0⟩ := hs1; clear hat0; have HHAS := Lib.hid hhas; have HB1 := Lib.hid hb1; have HSZ := Lib.hid (size_own hown); have HSLT := Lib.hid hown.lt; have HMAP1 := Lib.hid (HMAP.out.below hb1); have HLO := Lib.hid hlo; clear hhas hb1 hlo)
        | (at_range; refine wpList_range_own _ rfl _ 102 rfl 9 4 keyS Try.underlying102 _ bS l.length _ rfl hown ?_; intro w0 hrg0 hg0 hs0))
      go_frame
      go_loopw [6] (fun _ wq => ∃ (left : Lit → Bool) (cnt : Nat) (ss : List (List UInt8)), wq.ranges Try.prog 9 (plainElem Try.prog 4) bS w1.heap.size l.length D left cnt ∧ ss.length + cnt ≤ Maps.size D ∧ Collected D left ss ∧
          IMap wq w.heap.size (sumL ls k + ss.length) ((ls.take k).flatten ++ ss) (fun x => (hasN (ls.take k) x : Int) + if x ∈ ss then 1 else 0) ∧ Below w.heap.size w wq)
        (fun _ wq => wq.rangeLeft bS w1.heap.size)
      case atStart =>
        have hmap1 := HMAP1.out.kept hg0 (by simp)
        exact ⟨_, _, [], hrg0, by simp, Collected.start D, by simpa using hmap1, (HB.out.trans (HB1.out.mono HB.out.size)).grown hg0 (Nat.le_trans HB.out.size HB1.out.size) (fun j hj => by cases hj)⟩
      case round =>
        obtain ⟨left, cnt, ss, hrg, hcs, hC, hmp, hbq⟩ := hrel
        have HC2 := Lib.hid hC
        have HMP := Lib.hid hmp
        have HBQ := Lib.hid hbq
        clear hC hmp hbq
        go_wp2_with (first
          | (at_next; refine wpList_next_ranges _ rfl _ rfl 9 keyS (plainElem Try.prog 4) encStr (fun v : Value => v) (fun key kl hk => by obtain ⟨x, hx, _⟩ := Maps.keyOf_str Try.underlying9 hk; exact ⟨x, hx⟩) (fun v y hv => ⟨v, rfl⟩) bS w1.heap.size l.length _ _ _ rfl hrg ?_ ?_)
          | go_in)
        · -- nothing is left: every token of the set has been counted
          intro hc0 hl0
          go_wp2
          go_roundw
          case rel =>
            have hmem : ∀ x, x ∈ ss ↔ x ∈ l := fun x => by
              rw [HC2.out.2 x, hl0, HHAS.out x]
              simp
            have hss : ss.length ≤ l.length := by have := HSZ.out; omega
            have hw1 := HBQ.out.size
            refine ⟨k + 1, by omega, by go_num, ?_, HBQ.out, Nat.lt_of_lt_of_le HWS.out (Nat.le_trans HB1.out.size (Nat.le_of_lt hrg.lt))⟩
            refine (HMP.out.mono (by rw [sumL_succ HJ.out]; omega)).congr (fun x => ?_) (fun x => ?_)
            · rw [ss_take HJ.out, List.flatten_append, List.mem_append, List.mem_append]
              simp [hmem x]
            · rw [ss_take HJ.out, hasN_snoc]
              by_cases hxl : x ∈ l
              · rw [if_pos ((hmem x).2 hxl), if_pos hxl]; rfl
              · rw [if_neg (fun h => hxl ((hmem x).1 h)), if_neg hxl]; rfl
          case measure => simp [intOf]; omega
        · -- a token has come: it is counted once more
          intro x cv kl yd yp w2 cnt2 hkey hlk hv hat hrg2 hlt2 hg2 hs2 hen
          obtain ⟨x', ex, rfl, hxs⟩ := Maps.keyOf_str Try.underlying9 hkey
          obtain rfl : x = x' := encStr_inj ex
          have hC2 := HC2.out.step hlk hat
          have hnd : x ∉ ss := fun h => by
            have h1 := hC2.1
            rw [List.nodup_append] at h1
            exact h1.2.2 x h x (by simp) rfl
          have hws := HWS.out
          have hwr := HB1.out.size
          have hmp2 := HMP.out.kept hg2 (fun e => by injection e; omega)
          obtain ⟨m, hm⟩ : ∃ m, hasN (ls.take k) x = m := ⟨_, rfl⟩
          have hmb : m ≤ 4000000 := by
            have := hasN_le (ls.take k) x
            have := List.length_take_le k ls
            omega
          have hsum := HQ.out k
          have hssb : ss.length ≤ 4000000 := by have := HSZ.out; have := HLK.out; omega
          have HMP2 := Lib.hid hmp2
          have HM := Lib.hid hm
          have HND := Lib.hid hnd
          have HC3 := Lib.hid hC2
          have HG2 := Lib.hid hg2
          clear hmp2 hC2 hm hnd hat hs2
          go_wp2_with (first
            | (at_lookup; refine wpList_imap_lookup _ 101 Try.underlying101 rfl _ _ rfl w.heap.size _ _ _ HMP2.out rfl ⟨x.toArray⟩ x rfl (by simp) (by simpa [ByteArray.size] using hxs) (m : Int) (by rw [HM.out, if_neg HND.out]; simp) ?_)
            | (at_mapUpdate; refine wpList_imap_store _ 101 Try.underlying101 rfl _ _ _ rfl w.heap.size _ _ _ HMP2.out rfl (by unfold maxLen; omega) ⟨x.toArray⟩ x rfl ((m : Int) + 1) rfl (WalkArith.wf_i64 (by omega)) (by simp) (by simpa [ByteArray.size] using hxs) ?_; intro w3 hmap3 hg3)
            | go_in)
          go_roundw
          case rel =>
            have hlo := HLO.out
            refine ⟨_, cnt2, hrg2.kept hg3 (fun e => by injection e; omega) (fun e => by injection e; omega), ss ++ [x], by simp; omega, HC3.out, ?_, ?_⟩
            · refine (hmap3.mono (by simp; omega)).congr (fun y => by simp) (fun y => ?_)
              by_cases e : y = x
              · subst e
                rw [if_pos rfl, if_pos (by simp), HM.out]
              · rw [if_neg e]
                by_cases h : y ∈ ss
                · rw [if_pos h, if_pos (by simp [h])]
                · rw [if_neg h, if_neg (by simp [h, e])]
            · exact (HBQ.out.grown HG2.out HBQ.out.size (fun j hj => by cases hj; omega)).grown hg3 (Nat.le_trans HBQ.out.size HG2.out.size) (fun j hj => by cases hj; exact Nat.le_refl _)
          case measure => rw [(hrg2.kept hg3 (fun e => by injection e; have := HLO.out; omega) (fun e => by injection e; omega)).left_eq, hrg.left_eq]; exact hlt2
    · obtain rfl : k = ls.length := by omega
      obtain ⟨wa, rfl⟩ : ∃ wa, wa = wr := ⟨_, rfl⟩
      obtain ⟨i1, hi1, hy0, hy1, hy2⟩ := info_parts info_tc
      have HMAP2 := Lib.hid (show IMap wa w.heap.size (sumL ls ls.length) ls.flatten (fun x => (hasN ls x : Int)) by have h := HMAP.out; rw [List.take_length] at h; exact h)
      obtain ⟨D, hown, -, -⟩ := HMAP2.out
      have hsz := size_own hown
      have hq := HQ.out ls.length
      obtain ⟨keys, hkeys⟩ : ∃ keys, setL ls.flatten = keys := ⟨_, rfl⟩
      have HK := Lib.hid hkeys
      have HKL := Lib.hid (show keys.length ≤ 4000000 by
        have h1 := setL_length ls.flatten
        have h2 := sumL_all ls
        rw [hkeys] at h1
        have h3 := HQ.out ls.length
        omega)
      have HKX := Lib.hid (show ∀ x ∈ keys, x.length ≤ 1048576 from fun x hx => by
        rw [← hkeys, setL_mem, List.mem_flatten] at hx
        obtain ⟨l, h1, h2⟩ := hx
        exact HX.out l h1 x h2)
      clear hkeys
      have HS := Lib.hid (fun (W : World) (hW : IMap W w.heap.size (sumL ls ls.length) ls.flatten (fun x => (hasN ls x : Int))) => (sorted_keys w.heap.size (sumL ls ls.length) ls.flatten (fun x => (hasN ls x : Int)) W (by omega) hW).mono (fun e w' h => by rw [HK.out] at h; exact h))
      go_wp2_with (first
        | (at_len; refine wpList_len_own _ rfl _ 101 rfl 9 3 Try.underlying101 _ w.heap.size _ _ rfl hown ?_)
        | (at_make; refine wpList_make_own _ rfl _ _ 24 rfl wa.heap.size 66 i1 _ 2 Try.underlying24 hi1 hy0 hy1 _ _ _ (Maps.size D) rfl rfl rfl (by rw [hy2]; omega) (by unfold maxLen; omega) (Nat.le_refl _) ?_; intro w1 hrow1 hg1; have HROW1 := Lib.hid hrow1; have HG1 := Lib.hid hg1; have HMAP3 := Lib.hid (HMAP2.out.kept hg1 (by simp)); clear hrow1 hg1 hown; refine Hid.out ?_)
        | go_in)
      refine Lib.hid ?_
      go_wp2_with (first
        | (go_at_call 86; (refine (HS.out _ HMAP3.out).mono ?_); rintro e w2 ⟨aK, cK, rfl, ho2, hb2⟩; have HO2 := Lib.hid ho2; have HB2 := Lib.hid hb2; clear ho2 hb2)
        | go_in)
      go_loopw [7, 35] (fun v i wq => ∃ k : Nat, k ≤ keys.length ∧ i = .int .i64 k ∧ wq.ownsRow wa.heap.size 66 2 v k (flatT ((keys.take k).map fun t => (t, (hasN ls t : Int)))) ∧ v ≠ .slice none 0 0 ∧
          IMap wq w.heap.size (sumL ls ls.length) ls.flatten (fun x => (hasN ls x : Int)) ∧ InS wq aK keys ∧ (∀ bK off, aK = some ⟨bK, off, none⟩ → some bK ≠ v.ownBlock ∧ bK < w2.heap.size) ∧ Below w.heap.size w wq ∧ w2.heap.size ≤ wq.heap.size) (fun _ i _ => keys.length - (intOf i).toNat)
      case atStart =>
        have hlt1 := (World.ownsRow.lt HROW1.out wa.heap.size rfl).2
        refine ⟨0, Nat.zero_le _, rfl, ?_, by simp, HMAP3.out.below HB2.out, HO2.out.inS, fun bK off e => ?_, (HB.out.grown HG1.out HB.out.size (fun j hj => by cases hj)).trans (HB2.out.mono (Nat.le_trans HB.out.size HG1.out.size)), Nat.le_refl _⟩
        · exact World.ownsRow.kept HROW1.out (row := none) (grown_below_none HB2.out) (by simp [Value.ownBlock])
        · have h := World.ownsRow.lt HO2.out bK (by rw [e]; rfl)
          exact ⟨fun e2 => by have e3 : bK = wa.heap.size := (by simpa [Value.ownBlock] using e2); omega, h.2⟩
      case round =>
        obtain ⟨k, hk, rfl, hrow, hnn, hmap, hinK, hblk, hbq, hsq⟩ := hrel
        by_cases hlt : k < keys.length
        · obtain ⟨bK, offK, rfl, hbK, hcK⟩ := hinK (by omega)
          obtain ⟨x, s, hx1, hx2, hx3, hx4⟩ := str_at hlt
          have hcell : wr.cell? ⟨bK, offK + k, none⟩ = some (.string s) := by rw [← hx3]; exact hcK k x hx1
          obtain ⟨hne, hbK2⟩ := hblk bK offK rfl
          obtain ⟨m, hm⟩ : ∃ m, hasN ls x = m := ⟨_, rfl⟩
          have HM := Lib.hid hm
          have HSL := Lib.hid (show s.size ≤ maxLen by rw [hx4]; have := HKX.out x (List.mem_of_getElem? hx1); unfold maxLen; omega)
          have HX1 := Lib.hid hx1
          have HX2 := Lib.hid hx2
          have HX3 := Lib.hid hx3
          have HROW := Lib.hid hrow
          have HMP := Lib.hid hmap
          have HINK := Lib.hid hinK
          have HNE := Lib.hid hne
          have HBK2 := Lib.hid hbK2
          have HNN := Lib.hid hnn
          have HBQ := Lib.hid hbq
          have HSQ := Lib.hid hsq
          have hkl := HKL.out
          have hbase : wa.heap.size ≤ wr.heap.size := Nat.le_trans HG1.out.size (Nat.le_trans HB2.out.size hsq)
          clear hx1 hx2 hx3 hx4 hrow hmap hinK hne hnn hblk hbq hcK hm hbK hbK2 hsq
          go_wp2_with (first
            | (at_lookup; refine wpList_imap_lookup _ 101 Try.underlying101 rfl _ _ rfl w.heap.size _ _ _ HMP.out rfl s x rfl HX2.out HSL.out (m : Int) (by rw [HM.out]) ?_)
            | (at_builtin; refine wpList_append_own_at _ rfl _ _ 24 rfl wa.heap.size 66 i1 _ 2 24 Try.underlying24 hi1 hy0 hy1 hy2 rfl (by decide) _ k _ rfl (World.ownsRow.alloc HROW.out _) ⟨wr.heap.size, 0, none⟩ 1 1 [.string s, .int .i64 (m : Int)] rfl rfl (two_new wr _ _ _) (by simp [Value.oneCell']) (by unfold maxLen; omega) (by omega) (by simp; omega) ?_; intro v' w3 hown' hg3 hnil3 hat3; have HN3 := Lib.hid hnil3; have HA3 := Lib.hid hat3; have HO3 := Lib.hid hown'; have HG3 := Lib.hid hg3; clear hnil3 hat3 hown' hg3)
            | go_in)
          go_roundw
          case rel =>
            have hbs := (World.grownBy_alloc wr (.cells #[.string s, .int .i64 (m : Int)] 66) none).size
            have hg4 := HG3.out.size
            have hsq := HSQ.out
            have hlt4 : w.heap.size < wa.heap.size := HWS.out
            refine ⟨k + 1, by omega, by go_num, ?_, fun e => by have := (HN3.out.1 e).2; omega, ?_, ?_, ?_, ?_, by omega⟩
            · rw [take_snoc' HX1.out, List.map_append, flat_append]
              have e : flatT ([x].map fun t => (t, (hasN ls t : Int))) = [.string s, .int .i64 (m : Int)] := by
                show [encStr x, .int .i64 (hasN ls x : Int)] = _
                rw [HX3.out, HM.out]
              rw [e]
              exact HO3.out
            · exact (HMP.out.alloc _).kept HG3.out (row_ne_low HROW.out hlt4)
            · exact InS.grown (InS.alloc HINK.out _) HG3.out fun b off e => by injection e with e1; injection e1 with e2 e3; subst e2; exact HNE.out
            · intro b off e
              injection e with e1
              injection e1 with e2 e3
              subst e2
              refine ⟨fun e4 => ?_, HBK2.out⟩
              rcases HA3.out with h | h
              · rw [h] at e4; exact HNE.out e4
              · rw [h] at e4
                injection e4 with e5
                have := HBK2.out
                omega
            · exact (HBQ.out.alloc HBQ.out.size _).grown HG3.out (by have := HBQ.out.size; omega) fun j hj => by have := (HROW.out.lt j hj).1; omega
          case measure => simp [intOf]; omega
        · obtain rfl : k = keys.length := by omega
          have HROW := Lib.hid hrow
          clear hrow hmap hinK hblk
          go_wp2
          go_ret
          have h := HROW.out
          rw [List.take_length] at h
          have e : keys.map (fun t => (t, (hasN ls t : Int))) = ctR ls := by unfold ctR; rw [HK.out]
          rw [e] at h
          have e2 : keys.length = (ctR ls).length := by rw [← e, List.length_map]
          rw [e2] at h
          exact GivesT.mk (OwnT.mono h HB.out.size) hbq

end Go.Proofs.Ytggohfinkpppkaa

/-
  What the laws' own markTokenCountS and heldTokenCountS do. By an AI agent.
-/
namespace Go.Proofs.Ytggohfinkpppkaa
open Go.RowKit
set_option linter.unusedVariables false

def tmarks (k0 n : Nat) : List TC := (List.range n).map fun j => (markL (k0 + 2 * j), ((k0 + 2 * j + 1 : Nat) : Int))
theorem tmarks_len (k0 n : Nat) : (tmarks k0 n).length = n := by simp [tmarks]
theorem tmarks_succ (k0 n : Nat) : tmarks k0 (n + 1) = tmarks k0 n ++ [(markL (k0 + 2 * n), ((k0 + 2 * n + 1 : Nat) : Int))] := by simp [tmarks, List.range_succ]
theorem tmarks_at {k0 n j : Nat} (h : j < n) : (tmarks k0 n)[j]? = some (markL (k0 + 2 * j), ((k0 + 2 * j + 1 : Nat) : Int)) := by simp [tmarks, h]

theorem gap_at {p : List TC} {k : Nat} {y0 y1 : Value} {r : List Value} (hp : p.length = k) : (flatT p ++ y0 :: y1 :: r)[k * 2]? = some y0 ∧ (flatT p ++ y0 :: y1 :: r)[k * 2 + 1]? = some y1 := by
  have h : (flatT p).length = k * 2 := by rw [flat_len, hp]
  constructor
  · rw [List.getElem?_append_right (by omega), h, Nat.sub_self]; rfl
  · rw [List.getElem?_append_right (by omega), h, show k * 2 + 1 - k * 2 = 1 by omega]; rfl
theorem gap_set0 {p : List TC} {k : Nat} {y0 y1 u : Value} {r : List Value} (hp : p.length = k) : (flatT p ++ y0 :: y1 :: r).set (k * 2) u = flatT p ++ u :: y1 :: r := by
  have h : (flatT p).length = k * 2 := by rw [flat_len, hp]
  rw [List.set_append_right _ _ (by omega), h, Nat.sub_self]; rfl
theorem gap_set1 {p : List TC} {k : Nat} {y0 y1 u : Value} {r : List Value} (hp : p.length = k) : (flatT p ++ y0 :: y1 :: r).set (k * 2 + 1) u = flatT p ++ y0 :: u :: r := by
  have h : (flatT p).length = k * 2 := by rw [flat_len, hp]
  rw [List.set_append_right _ _ (by omega), h, show k * 2 + 1 - k * 2 = 1 by omega]; rfl
theorem flat_drop {l : List TC} {k : Nat} {x : TC} (h : l[k]? = some x) : flatT (l.drop k) = encStr x.1 :: .int .i64 x.2 :: flatT (l.drop (k + 1)) := by
  obtain ⟨hlt, he⟩ := List.getElem?_eq_some_iff.1 h
  rw [List.drop_eq_getElem_cons hlt, he]
  simp [flatT, encT]

def MarkedT (w : World) (base : Nat) (a : Option Addr) (n cap k0 : Nat) (e : Ending) (w' : World) : Prop :=
  e = .returned (.int .i64 ((k0 + 2 * n : Nat) : Int)) ∧ OwnT w' base (.slice a n cap) (tmarks k0 n) ∧ w.grownBy w' (Value.slice a n cap).ownBlock

set_option maxRecDepth 100000 in
theorem tmark_any (base : Nat) (a : Option Addr) (cap : Nat) (l : List TC) (k0 : Nat) (w : World) (hl : l.length ≤ 4000000) (hk0 : 0 < k0) (hk1 : k0 ≤ 4000000) (hown : OwnT w base (.slice a l.length cap) l) :
    Calls Try.prog 17 #[.slice a l.length cap, .int .i64 k0] w (MarkedT w base a l.length cap k0) := by
  have HOWN := Lib.hid hown
  clear hown
  go_enter Try.func17, Try.ntmps17
  go_wp2
  go_loopw [1, 5] (fun kk i wr => ∃ k : Nat, k ≤ l.length ∧ i = .int .i64 k ∧ kk = .int .i64 ((k0 + 2 * k : Nat) : Int) ∧ wr.ownsRow base 66 2 (.slice a l.length cap) l.length (flatT (tmarks k0 k) ++ flatT (l.drop k)) ∧ w.grownBy wr (Value.slice a l.length cap).ownBlock) (fun _ i _ => l.length - (intOf i).toNat)
  case atStart => exact ⟨0, Nat.zero_le _, rfl, by go_num, HOWN.out, World.grownBy.refl _ _⟩
  case round =>
    obtain ⟨k, hk, rfl, rfl, hrow, hg⟩ := hrel
    have HROW := Lib.hid hrow
    have HG := Lib.hid hg
    clear hrow hg
    by_cases hlt : k < l.length
    · obtain ⟨g, rfl, hbg, hgl⟩ := ownT_at HROW.out (by omega)
      have HGL := Lib.hid hgl
      clear hgl hbg
      go_wp2_with (go_at_call 69; (refine (mark_text (k0 + 2 * k) _ (by omega) (by omega)).mono ?_); rintro e w1 ⟨rfl, hb1⟩; refine Hid.out ?_)
      refine Lib.hid ?_
      have HB1 := Lib.hid hb1
      have hrow1 := World.ownsRow.kept HROW.out (row := none) (grown_of_below hb1 none) (.inr (by simp [Value.ownBlock]))
      have hx := List.getElem?_eq_getElem hlt
      rw [flat_drop hx] at hrow1
      have q0 := hrow1.cellAt (k * 2) (by omega)
      have q1 := hrow1.cellAt (k * 2 + 1) (by omega)
      rw [(gap_at (tmarks_len k0 k)).1] at q0
      rw [(gap_at (tmarks_len k0 k)).2] at q1
      have f0 := hrow1.frozenAt (k * 2)
      have f1 := hrow1.frozenAt (k * 2 + 1)
      have HN := Lib.hid (hrow1.stored (k * 2) (encStr (markL (k0 + 2 * k))))
      have HN2 := Lib.hid (HN.out.1.stored (k * 2 + 1) (.int .i64 ((k0 + 2 * k + 1 : Nat) : Int)))
      clear hb1 hrow1 hx
      go_wp2
      go_roundw
      case rel =>
        refine ⟨k + 1, by omega, by go_num, by go_num, ?_, ?_⟩
        · have h := HN2.out.1
          rw [gap_set0 (tmarks_len k0 k), gap_set1 (tmarks_len k0 k)] at h
          rw [tmarks_succ, flat_snoc, List.append_assoc]
          exact h
        · exact grown_trans' (grown_trans' (grown_trans' HG.out (grown_of_below HB1.out _)) HN.out.2) HN2.out.2
      case measure => simp [intOf]; omega
    · obtain rfl : k = l.length := by omega
      go_wp2
      go_ret
      refine ⟨rfl, ?_, HG.out⟩
      have h := HROW.out
      rw [List.drop_length, flat_nil, List.append_nil] at h
      unfold OwnT
      rw [tmarks_len]
      exact h

set_option maxRecDepth 100000 in
theorem theld_any (a : Option Addr) (cap n k0 : Nat) (w : World) (hl : n ≤ 4000000) (hk0 : 0 < k0) (hk1 : k0 ≤ 4000000) (hin : InT w a (tmarks k0 n)) :
    Calls Try.prog 38 #[.slice a n cap, .int .i64 k0] w fun e w' => e = .returned (.int .i64 ((k0 + 2 * n : Nat) : Int)) ∧ Below w.heap.size w w' := by
  have HIN := Lib.hid hin
  clear hin
  go_enter Try.func38, Try.ntmps38
  go_wp2
  go_loopw [1, 5] (fun kk i wr => ∃ k : Nat, k ≤ n ∧ i = .int .i64 k ∧ kk = .int .i64 ((k0 + 2 * k : Nat) : Int) ∧ Below w.heap.size w wr) (fun _ i _ => n - (intOf i).toNat)
  case atStart => exact ⟨0, Nat.zero_le _, rfl, by go_num, Below.refl _ _⟩
  case round =>
    obtain ⟨k, hk, rfl, rfl, hb⟩ := hrel
    have HB := Lib.hid hb
    clear hb
    by_cases hlt : k < n
    · obtain ⟨b, off, rfl, hbw, hc⟩ := HIN.out (by rw [tmarks_len]; omega)
      have hbr : b < wr.heap.size := Nat.lt_of_lt_of_le hbw HB.out.size
      have HBR := Lib.hid hbr
      obtain ⟨s, hs⟩ : ∃ s : ByteArray, encStr (markL (k0 + 2 * k)) = .string s := ⟨_, rfl⟩
      obtain ⟨p0, p1⟩ := hc k _ (tmarks_at hlt)
      have g0 : wr.cell? ⟨b, off + k * 2, none⟩ = some (.string s) := by rw [HB.out.cell (p := ⟨b, off + k * 2, none⟩) hbw, ← hs]; exact p0
      have g1 : wr.cell? ⟨b, off + k * 2 + 1, none⟩ = some (.int .i64 ((k0 + 2 * k + 1 : Nat) : Int)) := by rw [HB.out.cell (p := ⟨b, off + k * 2 + 1, none⟩) hbw]; exact p1
      have G1 := Lib.hid g1
      have HM := Lib.hid (fun (W : World) => (mark_text (k0 + 2 * k) W (by omega) (by omega)).mono (fun e w' h => (show e = .returned (.string s) ∧ Below W.heap.size W w' from ⟨by rw [← hs]; exact h.1, h.2⟩)))
      clear hc hs hbr hbw p0 p1 g1
      go_wp2
      go_region_with (go_at_call 69; refine (HM.out _).mono ?_; rintro e w1 ⟨rfl, hb1⟩; have HB1 := Lib.hid hb1; have g2 := (hb1.cell (p := ⟨b, off + k * 2, none⟩) HBR.out).trans g0; have g3 := (hb1.cell (p := ⟨b, off + k * 2 + 1, none⟩) HBR.out).trans G1.out; clear hb1)
      all_goals go_wp2
      all_goals go_roundw
      all_goals first
        | (case rel => exact ⟨k + 1, by omega, by go_num, by go_num, (HB.out.drew).trans (HB1.out.mono HB.out.size)⟩)
        | skip
      all_goals (simp [intOf]; omega)
    · obtain rfl : k = n := by omega
      go_wp2
      go_ret
      exact ⟨rfl, HB.out⟩

end Go.Proofs.Ytggohfinkpppkaa

/-
  What spec.CountTokens answers. By an AI agent.
-/
namespace Go.Proofs.Ytggohfinkpppkaa
open Go.RowKit Go.Maps
set_option linter.unusedVariables false

theorem le_last {r : List Str} (hs : r.Pairwise (· ≤ ·)) {j : Nat} {x : Str} (hx : r[j]? = some x) : ∀ y ∈ r.take (j + 1), y ≤ x := by
  intro y hy
  obtain ⟨i, hi⟩ := List.getElem?_of_mem hy
  have hij : i < j + 1 := by
    have := (List.getElem?_eq_some_iff.1 hi).1
    rw [List.length_take] at this
    omega
  rw [List.getElem?_take_of_lt hij] at hi
  by_cases e : i = j
  · subst e
    rw [hx] at hi
    rw [← Option.some.inj hi]
    exact List.le_refl x
  · obtain ⟨h1, h2⟩ := List.getElem?_eq_some_iff.1 hi
    obtain ⟨h3, h4⟩ := List.getElem?_eq_some_iff.1 hx
    have := (List.pairwise_iff_getElem.1 hs) i j h1 h3 (by omega)
    rw [h2, h4] at this
    exact this
theorem mem_last {r : List Str} {j : Nat} {x : Str} (hx : r[j]? = some x) : x ∈ r.take (j + 1) := by
  rw [take_snoc' hx]
  simp
theorem put_count (r : List Str) (x t : Str) : (putL true r x).count t = r.count t + if x = t then 1 else 0 := by
  rw [(putL_perm x r).count_eq, List.count_cons]
  by_cases h : x = t
  · subst h; simp
  · have : (x == t) = false := by simpa using h
    simp [h, this]
theorem mem_step {l : List Str} {j : Nat} {x : Str} (h : l[j]? = some x) (t : Str) : t ∈ l.take (j + 1) ↔ t ∈ l.take j ∨ t = x := by
  rw [take_snoc' h, List.mem_append, List.mem_singleton]
theorem row_made_t (w : World) : (w.alloc (.cells #[] 66)).ownsRow w.heap.size 66 2 (.slice (some ⟨w.heap.size, 0, none⟩) 0 0) 0 [] :=
  World.ownsRow_made w #[] 0 (Nat.le_refl _) (by unfold maxLen; omega) rfl

set_option maxRecDepth 100000 in
set_option maxHeartbeats 2000000 in
theorem cnt_spec (a : Option Addr) (c : Nat) (ls : List (List Str)) (w : World) (h0 : SmSS w a ls) :
    Calls Try.prog 33 #[.slice a ls.length c] w (GivesT w (ctR ls)) := by
  obtain ⟨hin, hl, hfl, hx⟩ := h0
  have HIN := Lib.hid hin
  have HX := Lib.hid hx
  have HQ := Lib.hid (show ∀ k, sumL ls k ≤ 4000000 from fun k => by have := sumL_le ls k; omega)
  have HLL := Lib.hid (show ∀ l ∈ ls, l.length ≤ 4000000 from fun l hl => by
    obtain ⟨k, hk⟩ := List.getElem?_of_mem hl
    have h1 := sumL_succ hk
    have h2 := sumL_le ls (k + 1)
    omega)
  clear hin hx hfl
  obtain ⟨i1, hi1, hy0, hy1, hy2⟩ := info_parts info_tc
  go_enter Try.func33, Try.ntmps33
  go_wp2
  go_loopw [3, 4] (fun v i wr => ∃ (k : Nat) (a : Option Addr) (c : Nat) (r : List Str), k ≤ ls.length ∧ i = .int .i64 k ∧ v = .slice a r.length c ∧ OwnS wr w.heap.size (.slice a r.length c) r ∧ r.Pairwise (· ≤ ·) ∧ (∀ t, r.count t = hasN (ls.take k) t) ∧ r.length ≤ sumL ls k ∧ Below w.heap.size w wr) (fun _ i _ => ls.length - (intOf i).toNat)
  case atStart => exact ⟨0, _, _, [], Nat.zero_le _, rfl, rfl, own_new w w.heap.size w.heap.size rfl (Nat.le_refl _), List.Pairwise.nil, fun t => rfl, Nat.zero_le _, (Below.refl _ _).alloc (Nat.le_refl _) _⟩
  case round =>
    obtain ⟨k, ar, cr, r, hk, rfl, rfl, hown, hso, hcn, hrl, hb⟩ := hrel
    have HOWN := Lib.hid hown
    have HSO := Lib.hid hso
    have HCN := Lib.hid hcn
    have HRL := Lib.hid hrl
    have HB := Lib.hid hb
    clear hown hso hcn hrl hb
    by_cases hlt : k < ls.length
    · have hj := List.getElem?_eq_getElem hlt
      have HJ := Lib.hid hj
      have hm := List.mem_of_getElem? hj
      have HLK := Lib.hid (HLL.out _ hm)
      have HXK := Lib.hid (HX.out _ hm)
      obtain ⟨b, off, rfl, hbw, hc⟩ := HIN.out (by omega)
      obtain ⟨a', c', hcl, -, hlc, hin'⟩ := hc k _ hj
      have hl4 := HLK.out
      generalize hgl : ls[k] = l at hcl hin' hlc HJ HLK HXK hl4
      have HC := Lib.hid hcl
      have HI := Lib.hid hin'
      have HBW := Lib.hid hbw
      clear hj hm hc hcl hin' hbw hgl
      have hcell : wr.cell? ⟨b, off + k, none⟩ = some (.slice a' l.length c') := by rw [HB.out.cell (p := ⟨b, off + k, none⟩) HBW.out]; exact HC.out
      obtain ⟨wo, rfl⟩ : ∃ wo, wo = wr := ⟨_, rfl⟩
      go_wp2
      go_loopw [3, 5] (fun v i wr => ∃ (j : Nat) (a : Option Addr) (c : Nat) (r : List Str), j ≤ l.length ∧ i = .int .i64 j ∧ v = .slice a r.length c ∧ OwnS wr w.heap.size (.slice a r.length c) r ∧ r.Pairwise (· ≤ ·) ∧ (∀ t, r.count t = hasN (ls.take k) t + if t ∈ l.take j then 1 else 0) ∧ r.length ≤ sumL ls k + j ∧ Below w.heap.size w wr) (fun _ i _ => l.length - (intOf i).toNat)
      case atStart => exact ⟨0, ar, cr, r, Nat.zero_le _, rfl, rfl, HOWN.out, HSO.out, fun t => by rw [HCN.out t]; simp, by have := HRL.out; omega, HB.out⟩
      case round =>
        clear hcell HOWN HSO HCN HRL HB
        obtain ⟨j, ar2, cr2, r2, hjl, rfl, rfl, hown, hso, hcn, hrl, hb⟩ := hrel
        have HOWN := Lib.hid hown
        have HSO := Lib.hid hso
        have HCN := Lib.hid hcn
        have HRL := Lib.hid hrl
        have HB := Lib.hid hb
        clear hown hso hcn hrl hb
        have hcell : wr.cell? ⟨b, off + k, none⟩ = some (.slice a' l.length c') := by rw [HB.out.cell (p := ⟨b, off + k, none⟩) HBW.out]; exact HC.out
        have hq := HQ.out k
        have hr8 : r2.length ≤ 8000000 := by have := HRL.out; omega
        by_cases hjt : j < l.length
        · obtain ⟨b', off', rfl, hbw', hc'⟩ := HI.out (by omega)
          obtain ⟨x, s, hx1, hx2, hx3, hx4⟩ := str_at hjt
          have hcell2 : wr.cell? ⟨b', off' + j, none⟩ = some (.string s) := by rw [HB.out.cell (p := ⟨b', off' + j, none⟩) hbw', ← hx3]; exact hc' j x hx1
          have HX1 := Lib.hid hx1
          have HX2 := Lib.hid hx2
          have hjc : j ≤ c' := by omega
          have hlen : (l.take j).length = j := by rw [List.length_take, Nat.min_eq_left (by omega)]
          by_cases hmem : x ∈ l.take j
          · have HD := Lib.hid (fun n : Nat => by
              have h := has_yes (some ⟨b', off', none⟩) c' (l.take j) s x (wr.drewN n) (by omega) (((HI.out.below HB.out).below (quiet_below _ _ n)).take' j) hx2 hmem
              rw [hlen] at h
              exact h)
            have HM := Lib.hid hmem
            clear hx1 hx2 hx3 hx4 hc' hbw' hmem hlen
            go_wp2
            go_quiet ((go_at_call 83; with_reducible exact Calls.quiet_of_same (HD.out _)))
            go_wp2
            go_roundw
            case rel =>
              refine ⟨j + 1, ar2, cr2, r2, by omega, by go_num, rfl, HOWN.out.below (quiet_below _ _ _), HSO.out, fun t => ?_, by have := HRL.out; omega, HB.out.trans (quiet_below _ _ _)⟩
              rw [HCN.out t]
              congr 1
              by_cases h : t ∈ l.take j
              · rw [if_pos h, if_pos ((mem_step HX1.out t).2 (.inl h))]
              · rw [if_neg h, if_neg (fun h2 => ((mem_step HX1.out t).1 h2).elim h (fun e => h (by rw [e]; exact HM.out)))]
            case measure => simp [intOf]; omega
          · have HD := Lib.hid (fun n : Nat => by
              have h := has_no (some ⟨b', off', none⟩) c' (l.take j) s x (wr.drewN n) (by omega) (((HI.out.below HB.out).below (quiet_below _ _ n)).take' j) hx2 hmem
              rw [hlen] at h
              exact h)
            have HM := Lib.hid hmem
            clear hx1 hx2 hx3 hx4 hc' hbw' hmem hlen
            go_wp2
            go_quiet ((go_at_call 83; with_reducible exact Calls.quiet_of_same (HD.out _)))
            go_wp2_with (go_at_call 84; (refine (put_any true w.heap.size ar2 cr2 r2 s x _ (by omega) (HOWN.out.below (quiet_below _ _ _)) HB.out.size HX2.out).mono ?_); rintro e w2 ⟨a2, c2, rfl, ho2, hb2⟩; have HO2 := Lib.hid ho2; have HB2 := Lib.hid hb2; clear ho2 hb2)
            go_roundw
            case rel =>
              refine ⟨j + 1, a2, c2, putL true r2 x, by omega, by go_num, rfl, HO2.out, putL_sorted HSO.out, fun t => ?_, by have := HRL.out; have := putL_length true x r2; omega, (HB.out.trans (quiet_below _ _ _)).trans (HB2.out.mono HB.out.size)⟩
              rw [put_count, HCN.out t]
              by_cases e : x = t
              · subst e
                rw [if_neg HM.out, if_pos rfl, if_pos ((mem_step HX1.out x).2 (.inr rfl))]
              · rw [if_neg e]
                by_cases h : t ∈ l.take j
                · rw [if_pos h, if_pos ((mem_step HX1.out t).2 (.inl h))]
                · rw [if_neg h, if_neg (fun h2 => ((mem_step HX1.out t).1 h2).elim h (fun e2 => e e2.symm))]
            case measure => simp [intOf]; omega
        · obtain rfl : j = l.length := by omega
          go_wp2
          go_roundw
          case rel =>
            refine ⟨k + 1, ar2, cr2, r2, by omega, by go_num, rfl, HOWN.out, HSO.out, fun t => ?_, by rw [sumL_succ HJ.out]; exact HRL.out, HB.out⟩
            rw [HCN.out t, List.take_length, ss_take HJ.out, hasN_snoc]
          case measure => simp [intOf]; omega
    · obtain rfl : k = ls.length := by omega
      have HG := Lib.hid (grp_is (ls := ls) (m := r) (fun t => by have h := HCN.out t; rwa [List.take_length] at h))
      have hr4 : r.length ≤ 4000000 := by have := HRL.out; have := HQ.out ls.length; omega
      clear HCN
      obtain ⟨wo, rfl⟩ : ∃ wo, wo = wr := ⟨_, rfl⟩
      go_wp2
      go_loopw [6, 7] (fun v i wr => ∃ k : Nat, k ≤ r.length ∧ i = .int .i64 k ∧ wr.ownsRow wo.heap.size 66 2 v (grpL (r.take k)).length (flatT (grpL (r.take k))) ∧ v ≠ .slice none 0 0 ∧ Below wo.heap.size wo wr) (fun _ i _ => r.length - (intOf i).toNat)
      case atStart => exact ⟨0, Nat.zero_le _, rfl, row_made_t wo, by simp, (Below.refl _ _).alloc (Nat.le_refl _) _⟩
      case round =>
        obtain ⟨k, hk, rfl, hrow, hnn, hbq⟩ := hrel
        have HROW := Lib.hid hrow
        have HNN := Lib.hid hnn
        have HBQ := Lib.hid hbq
        clear hrow hnn hbq
        by_cases hlt2 : k < r.length
        · obtain ⟨g, rfl, hg, hinA⟩ : ∃ g, ar = some ⟨g, 0, none⟩ ∧ g < wo.heap.size ∧ ∀ j x, r[j]? = some x → wo.cell? ⟨g, 0 + j, none⟩ = some (encStr x) := by
            obtain ⟨b, off, e, h1, h2⟩ := HOWN.out.inS (by omega)
            rcases HOWN.out.2 with ⟨hv, _⟩ | ⟨g, cap', cur, hv, _⟩
            · rw [e] at hv; simp at hv
            · simp only [Value.slice.injEq] at hv
              rw [e] at hv
              obtain ⟨hv1, -, -⟩ := hv
              injection hv1 with hv2
              injection hv2 with hv3 hv4
              subst hv3
              subst hv4
              exact ⟨b, e, h1, h2⟩
          obtain ⟨x, s, hx1, hx2, hx3, hx4⟩ := str_at hlt2
          have hcell : wr.cell? ⟨g, k, none⟩ = some (.string s) := by
            have h := hinA k x hx1
            rw [Nat.zero_add, hx3] at h
            rw [HBQ.out.cell (p := ⟨g, k, none⟩) hg]
            exact h
          have HX1 := Lib.hid hx1
          have HX3 := Lib.hid hx3
          have HGL := Lib.hid (grp_len (r.take k))
          have hglen : (grpL (r.take k)).length ≤ 4000000 := by
            have := grp_len (r.take k)
            have := List.length_take_le k r
            omega
          have hb0 : wo.heap.size ≤ wr.heap.size := HBQ.out.size
          by_cases h0 : k = 0
          · subst h0
            have HD := Lib.hid (show grpL (r.take (0 + 1)) = grpL (r.take 0) ++ [(x, 1)] by rw [take_snoc' HX1.out]; exact grp_new (fun y hy => by simp at hy))
            obtain ⟨G, hG⟩ : ∃ G, grpL (r.take 0) = G := ⟨_, rfl⟩
            have HGG := Lib.hid hG
            rw [hG] at HROW HD hglen
            clear hx1 hx2 hx3 hx4 hinA hG HGL
            go_wp2
            go_quiet (fail)
            go_wp2_with (first
              | (at_builtin; refine wpList_append_own _ rfl _ _ 24 rfl wo.heap.size 66 i1 _ 2 24 Try.underlying24 hi1 hy0 hy1 hy2 rfl (by decide) _ G.length _ rfl (World.ownsRow.alloc (show (wr.drewN nq).ownsRow _ _ _ _ _ _ from HROW.out) _) ⟨wr.heap.size, 0, none⟩ 1 1 [.string s, .int .i64 1] rfl rfl (two_new (wr.drewN nq) _ _ _) (by simp [Value.oneCell']) (by unfold maxLen; omega) (by omega) (by simp; omega) ?_; intro v' w3 hown' hg3 hnil3; have HN3 := Lib.hid hnil3; have HO3 := Lib.hid hown'; have HG3 := Lib.hid hg3; clear hnil3 hown' hg3)
              | go_in)
            go_roundw
            case rel =>
              refine ⟨0 + 1, by omega, by go_num, ?_, fun e => by have := (HN3.out.1 e).2; omega, ?_⟩
              · rw [HD.out, flat_append, List.length_append]
                have e : flatT [(x, (1 : Int))] = [.string s, .int .i64 1] := by
                  show [encStr x, .int .i64 1] = _
                  rw [HX3.out]
                rw [e]
                exact HO3.out
              · exact ((HBQ.out.trans (quiet_below _ _ nq)).alloc (by simpa using hb0) _).grown HG3.out (by simp; omega) fun j hj => (HROW.out.lt j hj).1
            case measure => simp [intOf]; omega
          · obtain ⟨j, rfl⟩ : ∃ j, k = j + 1 := ⟨k - 1, by omega⟩
            obtain ⟨y, t, hy1, hy2, hy3, hy4⟩ := str_at (show j < r.length by omega)
            have hcell2 : wr.cell? ⟨g, j, none⟩ = some (.string t) := by
              have h := hinA j y hy1
              rw [Nat.zero_add, hy3] at h
              rw [HBQ.out.cell (p := ⟨g, j, none⟩) hg]
              exact h
            have HY1 := Lib.hid hy1
            have hyx := List.pairwise_iff_getElem.1 HSO.out j (j + 1) (by omega) hlt2 (by omega)
            have ex1 : r[j]'(by omega) = y := (List.getElem?_eq_some_iff.1 hy1).2
            have ex2 : r[j + 1] = x := (List.getElem?_eq_some_iff.1 hx1).2
            rw [ex1, ex2] at hyx
            by_cases he : y = x
            · subst he
              obtain rfl := str_eq3 hy2 hx2 rfl
              obtain ⟨q, cn, e1, e2, e3⟩ := grp_same (mem_last hy1) (le_last HSO.out hy1)
              rw [← take_snoc' hx1] at e2
              have hcn : cn ≤ 4000000 := by
                have := List.length_take_le (j + 1) r
                omega
              have HROW2 := Lib.hid HROW.out
              rw [e1] at HROW2
              obtain ⟨m, hm⟩ : ∃ m, q.length = m := ⟨_, rfl⟩
              have hql : (q ++ [(y, (cn : Int))]).length = m + 1 := by simp [hm]
              rw [hql] at HROW2
              have hmb : m ≤ 4000000 := by rw [e1, hql] at hglen; omega
              obtain ⟨g2, cap2, ev⟩ : ∃ g2 cap2, u6 = Value.slice (some ⟨g2, 0, none⟩) (m + 1) cap2 := by
                rcases HROW2.out.2 with ⟨_, h1⟩ | ⟨g', cap', cur, hv, _⟩
                · omega
                · exact ⟨g', cap', hv⟩
              subst ev
              have hr2 := HROW2.out
              rw [flat_snoc] at hr2
              have q1 := hr2.cellAt (m * 2 + 1) (by omega)
              rw [show encT (y, (cn : Int)) = encStr y :: .int .i64 (cn : Int) :: [] from rfl, (gap_at hm).2] at q1
              have f1 := hr2.frozenAt (m * 2 + 1)
              have HN := Lib.hid (fun n : Nat => (show (wr.drewN n).ownsRow _ _ _ _ _ _ from hr2).stored (m * 2 + 1) (.int .i64 ((cn : Int) + 1)))
              have HM := Lib.hid hm
              have HE2 := Lib.hid e2
              have HGB := Lib.hid (World.ownsRow.lt hr2 g2 rfl)
              clear hx1 hx2 hx3 hx4 hy1 hy2 hy3 hy4 hinA hyx ex1 ex2 h0 e1 e2 e3 hr2 hm hql HROW2 HROW HGL hglen
              go_wp2
              go_quiet (fail)
              go_wp2
              go_roundw
              case rel =>
                refine ⟨j + 1 + 1, by omega, by go_num, ?_, by simp, ?_⟩
                · have h := (HN.out nq).1
                  rw [show encT (y, (cn : Int)) = encStr y :: .int .i64 (cn : Int) :: [] from rfl, gap_set1 HM.out] at h
                  rw [HE2.out, flat_snoc, List.length_append, HM.out]
                  exact h
                · exact ((HBQ.out.trans (quiet_below _ _ nq))).grown (HN.out nq).2 (by simpa using hb0) fun j hj => by cases hj; exact HGB.out.1
              case measure => simp [intOf]; omega
            · have hne := str_ne3 hy2 hx2 he
              have hlt3 := str_lt_of hyx he
              have HNEW := Lib.hid (fun z (hz : z ∈ r.take (j + 1)) => (show z < x from by
                have h1 := le_last HSO.out HY1.out z hz
                by_cases e : z = y
                · rw [e]; exact hlt3
                · exact str_lt_trans (str_lt_of h1 e) hlt3))
              have HD := Lib.hid (show grpL (r.take (j + 1 + 1)) = grpL (r.take (j + 1)) ++ [(x, 1)] by rw [take_snoc' HX1.out]; exact grp_new HNEW.out)
              obtain ⟨G, hG⟩ : ∃ G, grpL (r.take (j + 1)) = G := ⟨_, rfl⟩
              have HGG := Lib.hid hG
              rw [hG] at HROW HD hglen
              clear hx1 hx2 hx3 hx4 hinA hy1 hy2 hy3 hy4 hyx ex1 ex2 h0 he hlt3 hG HGL
              go_wp2
              go_quiet (fail)
              go_wp2_with (first
                | (at_builtin; refine wpList_append_own _ rfl _ _ 24 rfl wo.heap.size 66 i1 _ 2 24 Try.underlying24 hi1 hy0 hy1 hy2 rfl (by decide) _ G.length _ rfl (World.ownsRow.alloc (show (wr.drewN nq).ownsRow _ _ _ _ _ _ from HROW.out) _) ⟨wr.heap.size, 0, none⟩ 1 1 [.string s, .int .i64 1] rfl rfl (two_new (wr.drewN nq) _ _ _) (by simp [Value.oneCell']) (by unfold maxLen; omega) (by omega) (by simp; omega) ?_; intro v' w3 hown' hg3 hnil3; have HN3 := Lib.hid hnil3; have HO3 := Lib.hid hown'; have HG3 := Lib.hid hg3; clear hnil3 hown' hg3)
                | go_in)
              go_roundw
              case rel =>
                refine ⟨j + 1 + 1, by omega, by go_num, ?_, fun e => by have := (HN3.out.1 e).2; omega, ?_⟩
                · rw [HD.out, flat_append, List.length_append]
                  have e : flatT [(x, (1 : Int))] = [.string s, .int .i64 1] := by
                    show [encStr x, .int .i64 1] = _
                    rw [HX3.out]
                  rw [e]
                  exact HO3.out
                · exact ((HBQ.out.trans (quiet_below _ _ nq)).alloc (by simpa using hb0) _).grown HG3.out (by simp; omega) fun j hj => (HROW.out.lt j hj).1
              case measure => simp [intOf]; omega
        · obtain rfl : k = r.length := by omega
          go_wp2
          go_ret
          have h := HROW.out
          rw [List.take_length, HG.out] at h
          exact GivesT.mk (OwnT.mono h HB.out.size) (HB.out.trans (HBQ.out.mono HB.out.size))

end Go.Proofs.Ytggohfinkpppkaa

/-
  CountTokens with its answer under a name. By an AI agent.
-/
namespace Go.Proofs.Ytggohfinkpppkaa
open Go.RowKit
set_option linter.unusedVariables false

theorem cnt_specC (a : Option Addr) (c : Nat) (ls : List (List Str)) (r : List TC) (w : World) (hr : ctR ls = r) (h : SmSS w a ls) :
    Calls Try.prog 33 #[.slice a ls.length c] w (GivesT w r) := by
  subst hr
  exact cnt_spec a c ls w h
theorem cnt_implC (a : Option Addr) (c : Nat) (ls : List (List Str)) (r : List TC) (w : World) (hr : ctR ls = r) (h : SmSS w a ls) :
    Calls Try.prog 35 #[.slice a ls.length c] w (GivesT w r) := by
  subst hr
  exact cnt_impl a c ls w h
theorem ct_small {ls : List (List Str)} (h : yzL ls ≤ 1048576) : (ctR ls).length ≤ 4000000 := by
  have := ct_len ls
  have := yzL_flat ls
  omega

end Go.Proofs.Ytggohfinkpppkaa

/-
  What the drawing functions of spec's chapter 11 draw. By an AI agent.
-/
namespace Go.Proofs.Ytggohfinkpppkaa
open Go.RowKit
set_option linter.unusedVariables false

theorem row_keptc {w w' : World} {base c : Nat} {e : TypeId} {sz n : Nat} {v : Value} {xs : List Value} (h : w.ownsRow base e sz v n xs) (hg : w.grownBy w' (some c)) (hc : c < base) : w'.ownsRow base e sz v n xs := by
  refine World.ownsRow.kept h hg ?_
  cases hv : v.ownBlock with
  | none => exact .inl rfl
  | some k => exact .inr fun e => by have := (World.ownsRow.lt h k hv).1; injection e with e; omega
theorem below_row0 {w0 w w' : World} {e : TypeId} {sz n : Nat} {v : Value} {xs : List Value} (ho : w.ownsRow w0.heap.size e sz v n xs) (hs : w0.heap.size ≤ w.heap.size) (hg : w.grownBy w' v.ownBlock) : Below w0.heap.size w w' :=
  ⟨hg.os, hg.tape, hg.output, hg.size, fun k hk => hg.block k (Nat.lt_of_lt_of_le hk hs) (fun e => by have := (World.ownsRow.lt ho k e.symm).1; omega)⟩

/-- a drawn slice of slices -/
structure RowsO (w : World) (lo : Nat) (v : Value) (vs : List Value) (ls : List (List Str)) : Prop where
  len : vs.length = ls.length
  out : w.ownsRow lo 43 1 v ls.length vs
  row : ∀ (j : Nat) (u : Value) (l : List Str), vs[j]? = some u → ls[j]? = some l → OwnS w lo u l
  apart : ∀ (j : Nat) (u : Value) (k : Nat), vs[j]? = some u → u.ownBlock = some k → v.ownBlock ≠ some k
theorem RowsO.keptc {w w' : World} {lo c : Nat} {v : Value} {vs : List Value} {ls : List (List Str)} (h : RowsO w lo v vs ls) (hg : w.grownBy w' (some c)) (hc : c < lo) : RowsO w' lo v vs ls :=
  ⟨h.len, row_keptc h.out hg hc, fun j u l h1 h2 => row_keptc (h.row j u l h1 h2) hg hc, h.apart⟩
theorem RowsO.below {w w' : World} {lo : Nat} {v : Value} {vs : List Value} {ls : List (List Str)} (h : RowsO w lo v vs ls) (hb : Below w.heap.size w w') : RowsO w' lo v vs ls :=
  ⟨h.len, World.ownsRow.kept h.out (row := none) (grown_below_none hb) (by cases hv : v.ownBlock <;> simp), fun j u l h1 h2 => (h.row j u l h1 h2).below hb, h.apart⟩
theorem RowsO.inSS {w : World} {lo : Nat} {a : Option Addr} {cap : Nat} {vs : List Value} {ls : List (List Str)} (h : RowsO w lo (.slice a ls.length cap) vs ls) : InSS w a ls := by
  intro h0
  obtain ⟨g, rfl, _, hg, hc⟩ := cell_own h.out h0
  refine ⟨g, 0, rfl, hg, fun j l hj => ?_⟩
  have hlt := (List.getElem?_eq_some_iff.1 hj).1
  have hv : vs[j]? = some (vs[j]'(by rw [h.len]; exact hlt)) := List.getElem?_eq_getElem _
  have ho := h.row j _ l hv hj
  obtain ⟨a', c', e⟩ := ho.shape
  have hcell := hc j _ hv
  rw [e] at ho hcell
  exact ⟨a', c', hcell, ho.none_cap, ho.cap_ge, ho.inS⟩
/-- one slice more -/
theorem RowsO.snoc {w w1 w2 w3 : World} {lo c : Nat} {v v' u : Value} {vs : List Value} {ls : List (List Str)} {l : List Str} (h : RowsO w lo v vs ls) (hlo : lo ≤ w.heap.size) (hc : c < lo) (h1 : w.grownBy w1 (some c)) (hu : OwnS w1 w.heap.size u l) (h2 : Below w1.heap.size w1 w2) (hg : w2.grownBy w3 v.ownBlock)
    (ho : w3.ownsRow lo 43 1 v' (ls.length + 1) (vs ++ [u])) (hat : v'.ownBlock = v.ownBlock ∨ v'.ownBlock = some w2.heap.size) : RowsO w3 lo v' (vs ++ [u]) (ls ++ [l]) := by
  have h3 := (h.keptc h1 hc).below h2
  have hvl : ∀ k, v.ownBlock = some k → k < w.heap.size := fun k hk => (World.ownsRow.lt h.out k hk).2
  have hul := fun k hk => World.ownsRow.lt (hu.below h2) k hk
  have hul1 := fun k hk => World.ownsRow.lt hu k hk
  refine ⟨by simp [h.len], by simpa using ho, fun j z m hj hm => ?_, fun j z k hj hk e => ?_⟩
  · rcases snoc_at hj with hj1 | ⟨rfl, rfl⟩
    · have hjl : j < ls.length := by have := (List.getElem?_eq_some_iff.1 hj1).1; have := h.len; omega
      rw [List.getElem?_append_left hjl] at hm
      have h4 := h3.row j z m hj1 hm
      refine World.ownsRow.kept h4 hg ?_
      cases hz : z.ownBlock with
      | none => exact .inl rfl
      | some k => exact .inr fun e => h.apart j z k hj1 hz e.symm
    · rw [h.len, List.getElem?_append_right (Nat.le_refl _), Nat.sub_self] at hm
      simp at hm
      subst hm
      refine World.ownsRow.kept ((hu.below h2).mono hlo) hg ?_
      cases hz : z.ownBlock with
      | none => exact .inl rfl
      | some k => exact .inr fun e => by have := hvl k e.symm; have := (hul k hz).1; omega
  · rcases snoc_at hj with hj1 | ⟨rfl, rfl⟩
    · have hjl : j < ls.length := by have := (List.getElem?_eq_some_iff.1 hj1).1; have := h.len; omega
      have h5 := (World.ownsRow.lt (h3.row j z _ hj1 (List.getElem?_eq_getElem hjl)) k hk).2
      rcases hat with h6 | h6
      · rw [h6] at e; exact h.apart j z k hj1 hk e
      · rw [h6] at e; injection e with e; omega
    · have h5 := hul1 k hk
      rcases hat with h6 | h6
      · rw [h6] at e; have := hvl k e; omega
      · rw [h6] at e; injection e with e; have := h2.size; omega

/-- drawn slices, some -/
def SomeSets (w : World) (B c m : Nat) (e : Ending) (w' : World) : Prop :=
  ∃ (a : Option Addr) (cap : Nat) (vs : List Value) (ls : List (List Str)), e = .returned (.slice a ls.length cap) ∧ RowsO w' w.heap.size (.slice a ls.length cap) vs ls ∧ ls.length ≤ m ∧ (∀ l ∈ ls, l.length ≤ 6 ∧ ∀ x ∈ l, x.length ≤ 10) ∧ Cur w' B c ∧ w.grownBy w' (some c)

set_option maxRecDepth 100000 in
set_option maxHeartbeats 2000000 in
theorem l11Sets_any (B c : Nat) (w : World) (hcur : Cur w B c) : Calls Try.prog 94 #[.pointer (some ⟨c, 0, none⟩)] w (SomeSets w B c 5) := by
  obtain ⟨i0, hi, hz0, hz1, hz2⟩ := info_parts info_ss
  have HC := Lib.hid hcur
  have HLT := Lib.hid hcur.lt
  clear hcur
  go_enter Try.func94, Try.ntmps94
  go_wp2_with (go_at_call 119; (refine (l1Below_any B c _ _ (HC.out.alloc _) (by omega) (by omega)).mono ?_); rintro e w1 ⟨x, rfl, hx0, hx1, hc1, hg1⟩; refine Hid.out ?_)
  refine Lib.hid ?_
  obtain ⟨n, rfl⟩ := Int.eq_ofNat_of_zero_le hx0
  have HC1 := Lib.hid hc1
  have HG1 := Lib.hid (grown_trans (grown_alloc w _ c) hg1)
  have HO1 := Lib.hid (row_keptc (World.ownsRow_made w #[] 0 (Nat.le_refl _) (by unfold maxLen; omega) rfl : (w.alloc (.cells #[] 43)).ownsRow w.heap.size 43 1 (.slice (some ⟨w.heap.size, 0, none⟩) 0 0) 0 []) hg1 HLT.out)
  have hn : n ≤ 5 := by omega
  clear hc1 hg1 hx0 hx1
  go_wp2
  go_loopw [3, 4] (fun v i wr => ∃ (k : Nat) (a : Option Addr) (cap : Nat) (vs : List Value) (ls : List (List Str)), i = .int .i64 k ∧ v = .slice a ls.length cap ∧ k + ls.length ≤ 5 ∧ (∀ l ∈ ls, l.length ≤ 6 ∧ ∀ x ∈ l, x.length ≤ 10) ∧ RowsO wr w.heap.size (.slice a ls.length cap) vs ls ∧ Cur wr B c ∧ w.grownBy wr (some c)) (fun _ i _ => (intOf i).toNat)
  case atStart => exact ⟨n, _, _, [], [], rfl, rfl, hn, by simp, ⟨rfl, HO1.out, fun j u l h => by simp at h, fun j u k h => by simp at h⟩, HC1.out, HG1.out⟩
  case round =>
    clear HC1 HG1 HO1
    obtain ⟨k, a, cap, vs, ls, rfl, rfl, hk, hx, hown, hcur, hg⟩ := hrel
    have HX := Lib.hid hx
    have HOWN := Lib.hid hown
    have HCU := Lib.hid hcur
    have HG := Lib.hid hg
    clear hx hown hcur hg
    by_cases hlt : 0 < k
    · obtain ⟨j, rfl⟩ : ∃ j, k = j + 1 := ⟨k - 1, by omega⟩
      go_wp2_with (go_at_call 120; (refine (l3Set_any B c _ HCU.out).mono ?_); rintro e w2 ⟨a2, cap2, l2, rfl, ho2, hl2, hx2, hc2, hg2⟩; refine Hid.out ?_)
      refine Lib.hid ?_
      have HO2 := Lib.hid ho2
      have HX2 := Lib.hid hx2
      have HC2 := Lib.hid hc2
      have HG2 := Lib.hid hg2
      have HR2 := Lib.hid ((HOWN.out.keptc hg2 HLT.out).out.alloc (.cells #[.slice a2 l2.length cap2] 43))
      have HW2 := Lib.hid (Nat.le_trans HG.out.size hg2.size)
      clear ho2 hx2 hc2 hg2
      go_wp2_with (at_builtin; refine wpList_append_own_at _ rfl _ _ 51 rfl w.heap.size 43 i0 _ 1 24 Try.underlying51 hi hz0 hz1 hz2 rfl (by decide) _ ls.length _ rfl HR2.out ⟨w2.heap.size, 0, none⟩ 1 1 [.slice a2 l2.length cap2] rfl rfl (cell_one_new _ _ _) (by simp [Value.oneCell']) (by unfold maxLen; omega) (by omega) (by have := HW2.out; simp; omega) ?_; intro v' w3 hown' hg3 hnil3 hat3; have HO3 := Lib.hid hown'; have HG3 := Lib.hid hg3; have HA3 := Lib.hid (show v'.ownBlock = (Value.slice a ls.length cap).ownBlock ∨ v'.ownBlock = some (w2.alloc (.cells #[.slice a2 l2.length cap2] 43)).heap.size from hat3); clear hnil3 hown' hg3 hat3)
      go_roundw
      case rel =>
        have hB := below_row0 HR2.out (by have := HW2.out; simp; omega) HG3.out
        have hsn := RowsO.snoc HOWN.out HG.out.size HLT.out HG2.out HO2.out ((Below.refl _ _).alloc (Nat.le_refl _) (.cells #[.slice a2 l2.length cap2] 43)) HG3.out HO3.out HA3.out
        obtain ⟨a', cap', ev⟩ : ∃ a' cap', v' = .slice a' (ls ++ [l2]).length cap' := by
          rcases HO3.out.2 with ⟨_, h1⟩ | ⟨g, cap', cur, hv, _⟩
          · omega
          · exact ⟨some ⟨g, 0, none⟩, cap', by rw [hv]; simp⟩
        subst ev
        refine ⟨j, a', cap', _, _, by go_num, rfl, by simp; omega, fun l hl => ?_, hsn, (HC2.out.alloc _).below hB HLT.out, grown_below (grown_trans (grown_trans HG.out HG2.out) (grown_alloc w2 _ c)) hB⟩
        rcases List.mem_append.1 hl with hl | hl
        · exact HX.out l hl
        · rw [List.mem_singleton.1 hl]
          exact ⟨hl2, HX2.out⟩
      case measure => simp [intOf]
    · obtain rfl : k = 0 := by omega
      go_wp2
      go_ret
      exact ⟨a, cap, vs, ls, rfl, HOWN.out, by omega, HX.out, HCU.out, HG.out⟩

theorem sets_small {ls : List (List Str)} {m : Nat} (h : ls.length ≤ m) (hx : ∀ l ∈ ls, l.length ≤ 6 ∧ ∀ x ∈ l, x.length ≤ 10) : ls.flatten.length ≤ 6 * m := by
  induction ls generalizing m with
  | nil => simp
  | cons l ls ih =>
    have h1 := (hx l (by simp)).1
    simp only [List.length_cons] at h
    have h2 := ih (m := m - 1) (by omega) fun l' hl => hx l' (List.mem_cons_of_mem l hl)
    simp only [List.flatten_cons, List.length_append]
    omega
theorem sets_sm {w : World} {lo m : Nat} {a : Option Addr} {cap : Nat} {vs : List Value} {ls : List (List Str)} (h : RowsO w lo (.slice a ls.length cap) vs ls) (hm : ls.length ≤ m) (hm2 : m ≤ 1000) (hx : ∀ l ∈ ls, l.length ≤ 6 ∧ ∀ x ∈ l, x.length ≤ 10) : SmSS w a ls :=
  ⟨h.inSS, by omega, by have := sets_small hm hx; omega, fun l hl x hx2 => by have := (hx l hl).2 x hx2; omega⟩

/-- a drawn table, some -/
def SomeTab (w : World) (B c : Nat) (e : Ending) (w' : World) : Prop :=
  ∃ (a : Option Addr) (cap : Nat) (tab : List TC), e = .returned (.slice a tab.length cap) ∧ OwnT w' w.heap.size (.slice a tab.length cap) tab ∧ tab.length ≤ 31 ∧ (∀ x ∈ tab, x.1.length ≤ 10 ∧ 0 ≤ x.2 ∧ x.2 ≤ 5) ∧ Cur w' B c ∧ w.grownBy w' (some c)
theorem ct_bounds {ls : List (List Str)} (hm : ls.length ≤ 5) (hx : ∀ l ∈ ls, l.length ≤ 6 ∧ ∀ x ∈ l, x.length ≤ 10) : (ctR ls).length ≤ 30 ∧ ∀ x ∈ ctR ls, x.1.length ≤ 10 ∧ 0 ≤ x.2 ∧ x.2 ≤ 5 := by
  have h1 := ct_len ls
  have h2 := sets_small hm hx
  refine ⟨by omega, fun x hx2 => ?_⟩
  have h3 := ct_count hx2
  obtain ⟨t, ht, rfl⟩ := List.mem_map.1 hx2
  rw [setL_mem, List.mem_flatten] at ht
  obtain ⟨l, hl, htl⟩ := ht
  exact ⟨(hx l hl).2 t htl, by omega, by omega⟩

set_option maxRecDepth 100000 in
set_option maxHeartbeats 2000000 in
theorem l11Table_any (B c : Nat) (w : World) (hcur : Cur w B c) : Calls Try.prog 88 #[.pointer (some ⟨c, 0, none⟩)] w (SomeTab w B c) := by
  obtain ⟨i1, hi1, hy0, hy1, hy2⟩ := info_parts info_tc
  have HC := Lib.hid hcur
  have HLT := Lib.hid hcur.lt
  clear hcur
  go_enter Try.func88, Try.ntmps88
  go_wp2_with (go_at_call 94; (refine (l11Sets_any B c _ HC.out).mono ?_); rintro e w1 ⟨a, cap, vs, ls, rfl, ho1, hl1, hx1, hc1, hg1⟩; refine Hid.out ?_)
  refine Lib.hid ?_
  have HS1 := Lib.hid (sets_sm ho1 hl1 (by omega) hx1)
  have HCT := Lib.hid (ct_bounds hl1 hx1)
  have HC1 := Lib.hid hc1
  have HG1 := Lib.hid hg1
  clear ho1 hx1 hc1 hg1
  obtain ⟨tab, htab⟩ : ∃ tab, ctR ls = tab := ⟨_, rfl⟩
  have HTAB := Lib.hid htab
  rw [htab] at HCT
  clear htab
  go_wp2_with (go_at_call 33; (refine (cnt_specC a cap ls tab _ HTAB.out HS1.out).mono ?_); rintro e w2 ⟨a2, cap2, rfl, ho2, hb2⟩; refine Hid.out ?_)
  refine Lib.hid ?_
  have HO2 := Lib.hid (ho2.mono HG1.out.size)
  have HC2 := Lib.hid (HC1.out.below hb2 HC1.out.lt)
  have HG2 := Lib.hid (grown_below HG1.out (hb2.mono HG1.out.size))
  have htl := HCT.out.1
  clear ho2 hb2
  go_wp2_with (go_at_call 95; (refine (l1Once_any B c _ _ HC2.out (by omega) (by omega)).mono ?_); rintro e w3 ⟨b, rfl, hc3, hg3⟩; refine Hid.out ?_)
  refine Lib.hid ?_
  have HC3 := Lib.hid hc3
  have HG3 := Lib.hid (grown_trans HG2.out hg3)
  have HO3 := Lib.hid (show OwnT w3 w.heap.size _ _ from row_keptc HO2.out hg3 HLT.out)
  clear hc3 hg3
  cases b
  · go_wp2
    go_ret
    exact ⟨a2, cap2, tab, rfl, HO3.out, by omega, HCT.out.2, HC3.out, HG3.out⟩
  · go_wp2_with (go_at_call 119; (refine (l1Below_any B c _ _ HC3.out (by omega) (by omega)).mono ?_); rintro e w4 ⟨x, rfl, hx0, hx1, hc4, hg4⟩; refine Hid.out ?_)
    refine Lib.hid ?_
    have HC4 := Lib.hid hc4
    have HG4 := Lib.hid (grown_trans HG3.out hg4)
    have HO4 := Lib.hid (World.ownsRow.alloc (row_keptc HO3.out hg4 HLT.out) (.cells #[.string ⟨#[97]⟩, .int .i64 x] 66))
    have HW4 := Lib.hid (Nat.le_trans HG3.out.size hg4.size)
    clear hc4 hg4
    go_wp2_with (at_builtin; refine wpList_append_own _ rfl _ _ 24 rfl w.heap.size 66 i1 _ 2 24 Try.underlying24 hi1 hy0 hy1 hy2 rfl (by decide) _ tab.length _ rfl HO4.out ⟨w4.heap.size, 0, none⟩ 1 1 [.string ⟨#[97]⟩, .int .i64 x] rfl rfl (two_new w4 _ _ _) (by simp [Value.oneCell']) (by unfold maxLen; omega) (by omega) (by have := HW4.out; simp; omega) ?_; intro v' w5 hown' hg5 hnil5; have HO5 := Lib.hid hown'; have HG5 := Lib.hid hg5; clear hnil5 hown' hg5)
    go_ret
    have hB := below_row0 HO4.out (by have := HW4.out; simp; omega) HG5.out
    have hfin : OwnT w5 w.heap.size v' (tab ++ [([97], x)]) := by
      have h := HO5.out
      unfold OwnT
      rw [flat_append, List.length_append]
      exact h
    obtain ⟨a', cap', rfl⟩ := hfin.shape
    refine ⟨a', cap', tab ++ [([97], x)], rfl, hfin, by simp; omega, fun y hy => ?_, (HC4.out.alloc _).below hB HLT.out, grown_below (grown_trans HG4.out (grown_alloc w4 _ c)) hB⟩
    rcases List.mem_append.1 hy with hy | hy
    · exact HCT.out.2 y hy
    · rw [List.mem_singleton.1 hy]
      exact ⟨by simp, hx0, by omega⟩

theorem tab_sm {w : World} {base : Nat} {a : Option Addr} {cap : Nat} {tab : List TC} (h : OwnT w base (.slice a tab.length cap) tab) (h1 : tab.length ≤ 31) (h2 : ∀ x ∈ tab, x.1.length ≤ 10 ∧ 0 ≤ x.2 ∧ x.2 ≤ 5) : SmW w a tab cap :=
  ⟨h.smT (by omega) (fun x hx => by have := (h2 x hx).1; omega), fun x hx => WalkArith.wf_i64 (by have := (h2 x hx).2; omega)⟩

end Go.Proofs.Ytggohfinkpppkaa

/-
  What DrawOrderTokens, DrawSharePrefix and DrawCountTokens of spec hand back. By an AI agent.
-/
namespace Go.Proofs.Ytggohfinkpppkaa
open Go.RowKit
set_option linter.unusedVariables false

set_option maxRecDepth 100000 in
set_option maxHeartbeats 1000000 in
theorem l5Level_any (B c : Nat) (w : World) (hcur : Cur w B c) : Calls Try.prog 96 #[.pointer (some ⟨c, 0, none⟩)] w (SomeInt w B c) := by
  have HC := Lib.hid hcur
  have HLT := Lib.hid hcur.lt
  clear hcur
  go_enter Try.func96, Try.ntmps96
  go_wp2_with (go_at_call 127; (refine (l1PickInt_any B c w.heap.size 9 _ (HC.out.alloc _) (by omega) (by omega) (by have := HLT.out; omega) (lit_cells w [500, 300, 700, 800, 1000, 1, 333, 0, 1001] (by decide))).mono ?_); rintro e w1 ⟨x, rfl, hx0, hx1, hc1, hg1⟩; refine Hid.out ?_)
  refine Lib.hid ?_
  have HC1 := Lib.hid hc1
  have HG1 := Lib.hid (grown_trans (grown_alloc w _ c) hg1)
  clear hc1 hg1
  go_wp2
  go_ret
  exact ⟨x, rfl, hx0, hx1, HC1.out, HG1.out⟩

theorem results_tmp4 {fn : Func} {t u v x : Tmp} (h : fn.results = #[.tmp t, .tmp u, .tmp v, .tmp x]) (tmps : Array Value) (P : Program) (w : World) :
    (results fn tmps).run P w = .ok (.tuple #[tmps.getD t undef, tmps.getD u undef, tmps.getD v undef, tmps.getD x undef]) w := by
  simp [results, h]

theorem ownT_keptc {w w' : World} {base c : Nat} {v : Value} {tab : List TC} (h : OwnT w base v tab) (hg : w.grownBy w' (some c)) (hc : c < base) : OwnT w' base v tab := row_keptc h hg hc

/-- a table and a list of strings are handed back -/
def DrawnOrd (w : World) (e : Ending) (w' : World) : Prop := ∃ (a1 a2 : Option Addr) (c1 c2 : Nat) (tab : List TC) (l : List Str), e = .returned (.tuple #[.slice a1 tab.length c1, .slice a2 l.length c2]) ∧ SmW w' a1 tab c1 ∧ Sm w' a2 l c2 ∧ tab.length ≤ 31 ∧ l.length ≤ 7 ∧ (∀ x ∈ l, x.length ≤ 10) ∧ Below w.heap.size w w'

set_option maxRecDepth 100000 in
set_option maxHeartbeats 1000000 in
theorem drawOrd_any (A : Option Addr) (len cap : Nat) (w : World) (hcode : CodeAt w w.heap.size A len) : Calls Try.prog 40 #[.slice A len cap] w (DrawnOrd w) := by
  have HCODE := Lib.hid hcode
  clear hcode
  go_enter Try.func40, Try.ntmps40
  go_wp2_with (go_at_call 87; (refine (l1New_any A len cap _ HCODE.out).mono ?_); rintro e w1 ⟨c, rfl, hc1, hb1⟩; refine Hid.out ?_)
  refine Lib.hid ?_
  have HC1 := Lib.hid hc1
  have HL1 := Lib.hid hc1.lt
  have HB1 := Lib.hid hb1
  clear hc1 hb1
  go_wp2_with (go_at_call 88; (refine (l11Table_any w.heap.size c _ HC1.out).mono ?_); rintro e w2 ⟨a1, c1, tab, rfl, ho2, hl2, hx2, hc2, hg2⟩; refine Hid.out ?_)
  refine Lib.hid ?_
  have HO2 := Lib.hid ho2
  have HX2 := Lib.hid hx2
  have HC2 := Lib.hid hc2
  have HG2 := Lib.hid hg2
  clear ho2 hx2 hc2 hg2
  go_wp2_with (go_at_call 89; (refine (l3Any_any w.heap.size c _ HC2.out).mono ?_); rintro e w3 ⟨a2, c2, l2, rfl, ho3, hl3, hx3, hc3, hg3⟩; refine Hid.out ?_)
  refine Lib.hid ?_
  have HO3 := Lib.hid ho3
  have HX3 := Lib.hid hx3
  have HO23 := Lib.hid (ownT_keptc HO2.out hg3 HL1.out)
  have HG3 := Lib.hid (grown_trans HG2.out hg3)
  clear ho3 hx3 hc3 hg3
  go_wp2
  go_ret2
  exact ⟨a1, a2, c1, c2, tab, l2, rfl, tab_sm HO23.out hl2 HX2.out, HO3.out.sm (by omega) (fun x hx => by have := HX3.out x hx; omega), hl2, hl3, HX3.out, HB1.out.grown HG3.out HB1.out.size (fun k hk => by injection hk with hk; have := HC1.out.1; omega)⟩

/-- a table, two lists of strings and a threshold are handed back -/
def DrawnShare (w : World) (e : Ending) (w' : World) : Prop := ∃ (a1 a2 a3 : Option Addr) (c1 c2 c3 : Nat) (tab : List TC) (l m : List Str) (t : Int), e = .returned (.tuple #[.slice a1 tab.length c1, .slice a2 l.length c2, .slice a3 m.length c3, .int .i64 t]) ∧ SmW w' a1 tab c1 ∧ Sm w' a2 l c2 ∧ Sm w' a3 m c3 ∧ l.length ≤ 7 ∧ m.length ≤ 7 ∧ Below w.heap.size w w'

set_option maxRecDepth 100000 in
set_option maxHeartbeats 1000000 in
theorem drawShare_any (A : Option Addr) (len cap : Nat) (w : World) (hcode : CodeAt w w.heap.size A len) : Calls Try.prog 47 #[.slice A len cap] w (DrawnShare w) := by
  have HCODE := Lib.hid hcode
  clear hcode
  go_enter Try.func47, Try.ntmps47
  go_wp2_with (go_at_call 87; (refine (l1New_any A len cap _ HCODE.out).mono ?_); rintro e w1 ⟨c, rfl, hc1, hb1⟩; refine Hid.out ?_)
  refine Lib.hid ?_
  have HC1 := Lib.hid hc1
  have HL1 := Lib.hid hc1.lt
  have HB1 := Lib.hid hb1
  clear hc1 hb1
  go_wp2_with (go_at_call 88; (refine (l11Table_any w.heap.size c _ HC1.out).mono ?_); rintro e w2 ⟨a1, c1, tab, rfl, ho2, hl2, hx2, hc2, hg2⟩; refine Hid.out ?_)
  refine Lib.hid ?_
  have HO2 := Lib.hid ho2
  have HX2 := Lib.hid hx2
  have HC2 := Lib.hid hc2
  have HL2 := Lib.hid hc2.lt
  have HG2 := Lib.hid hg2
  clear ho2 hx2 hc2 hg2
  go_wp2_with (go_at_call 89; (refine (l3Any_any w.heap.size c _ HC2.out).mono ?_); rintro e w3 ⟨a2, c2, l2, rfl, ho3, hl3, hx3, hc3, hg3⟩; refine Hid.out ?_)
  refine Lib.hid ?_
  have HO3 := Lib.hid ho3
  have HX3 := Lib.hid hx3
  have HO23 := Lib.hid (ownT_keptc HO2.out hg3 HL1.out)
  have HC3 := Lib.hid hc3
  have HL3 := Lib.hid hc3.lt
  have HG3 := Lib.hid (grown_trans HG2.out hg3)
  clear ho3 hx3 hc3 hg3
  go_wp2_with (go_at_call 89; (refine (l3Any_any w.heap.size c _ HC3.out).mono ?_); rintro e w4 ⟨a3, c3, l3, rfl, ho4, hl4, hx4, hc4, hg4⟩; refine Hid.out ?_)
  refine Lib.hid ?_
  have HO4 := Lib.hid ho4
  have HX4 := Lib.hid hx4
  have HO24 := Lib.hid (ownT_keptc HO23.out hg4 HL1.out)
  have HO34 := Lib.hid (own_keptc HO3.out hg4 HL2.out)
  have HC4 := Lib.hid hc4
  have HG4 := Lib.hid (grown_trans HG3.out hg4)
  clear ho4 hx4 hc4 hg4
  go_wp2_with (go_at_call 96; (refine (l5Level_any w.heap.size c _ HC4.out).mono ?_); rintro e w5 ⟨t, rfl, ht0, ht1, hc5, hg5⟩; refine Hid.out ?_)
  refine Lib.hid ?_
  have HO25 := Lib.hid (ownT_keptc HO24.out hg5 HL1.out)
  have HO35 := Lib.hid (own_keptc HO34.out hg5 HL2.out)
  have HO45 := Lib.hid (own_keptc HO4.out hg5 HL3.out)
  have HG5 := Lib.hid (grown_trans HG4.out hg5)
  clear hc5 hg5
  go_wp2
  (try simp only [Exit.inBlock, Exit.then])
  refine bodyPost_ret (results_tmp4 rfl _ _ _) rfl ?_
  exact ⟨a1, a2, a3, c1, c2, c3, tab, l2, l3, t, rfl, tab_sm HO25.out hl2 HX2.out, HO35.out.sm (by omega) (fun x hx => by have := HX3.out x hx; omega), HO45.out.sm (by omega) (fun x hx => by have := HX4.out x hx; omega), hl3, hl4, HB1.out.grown HG5.out HB1.out.size (fun k hk => by injection hk with hk; have := HC1.out.1; omega)⟩

theorem lit_bab (w : World) : OwnS (w.alloc (.cells #[.string ⟨#[98]⟩, .string ⟨#[97]⟩, .string ⟨#[98]⟩] 9)) w.heap.size (.slice (some ⟨w.heap.size, 0, none⟩) 3 3) [[98], [97], [98]] :=
  ⟨rfl, .inr ⟨w.heap.size, 3, _, rfl, Nat.le_refl _, heap_alloc_new w _, Nat.le_refl _, by unfold maxLen; omega, rfl, rfl⟩⟩

/-- slices of strings are handed back -/
def DrawnSetsS (w : World) (e : Ending) (w' : World) : Prop := ∃ (a : Option Addr) (cap : Nat) (ls : List (List Str)), e = .returned (.slice a ls.length cap) ∧ SmSS w' a ls ∧ ls.length ≤ 6 ∧ (∀ l ∈ ls, l.length ≤ 6 ∧ ∀ x ∈ l, x.length ≤ 10) ∧ Below w.heap.size w w'

set_option maxRecDepth 100000 in
set_option maxHeartbeats 2000000 in
theorem drawCount_any (A : Option Addr) (len cap : Nat) (w : World) (hcode : CodeAt w w.heap.size A len) : Calls Try.prog 45 #[.slice A len cap] w (DrawnSetsS w) := by
  obtain ⟨i0, hi, hz0, hz1, hz2⟩ := info_parts info_ss
  have HCODE := Lib.hid hcode
  clear hcode
  go_enter Try.func45, Try.ntmps45
  go_wp2_with (go_at_call 87; (refine (l1New_any A len cap _ HCODE.out).mono ?_); rintro e w1 ⟨c, rfl, hc1, hb1⟩; refine Hid.out ?_)
  refine Lib.hid ?_
  have HC1 := Lib.hid hc1
  have HL1 := Lib.hid hc1.lt
  have HB1 := Lib.hid hb1
  clear hc1 hb1
  go_wp2_with (go_at_call 94; (refine (l11Sets_any w.heap.size c _ HC1.out).mono ?_); rintro e w2 ⟨a, cp, vs, ls, rfl, ho2, hl2, hx2, hc2, hg2⟩; refine Hid.out ?_)
  refine Lib.hid ?_
  have HO2 := Lib.hid ho2
  have HX2 := Lib.hid hx2
  have HC2 := Lib.hid hc2
  have HG2 := Lib.hid hg2
  clear ho2 hx2 hc2 hg2
  go_wp2_with (go_at_call 95; (refine (l1Once_any w.heap.size c _ _ HC2.out (by omega) (by omega)).mono ?_); rintro e w3 ⟨b, rfl, hc3, hg3⟩; refine Hid.out ?_)
  refine Lib.hid ?_
  have HC3 := Lib.hid hc3
  have HG3 := Lib.hid (grown_trans HG2.out hg3)
  have HO3 := Lib.hid (HO2.out.keptc hg3 HL1.out)
  clear hc3 hg3
  cases b
  · go_wp2
    go_ret
    exact ⟨a, cp, ls, rfl, sets_sm HO3.out hl2 (by omega) HX2.out, by omega, HX2.out, HB1.out.grown HG3.out HB1.out.size (fun k hk => by injection hk with hk; have := HC1.out.1; omega)⟩
  · have HLB := Lib.hid (lit_bab w3)
    have HW3 := Lib.hid HG3.out.size
    obtain ⟨wl, hwl⟩ : ∃ wl, w3.alloc (.cells #[.string ⟨#[98]⟩, .string ⟨#[97]⟩, .string ⟨#[98]⟩] 9) = wl := ⟨_, rfl⟩
    have HGL := Lib.hid (show w3.grownBy wl (some c) by rw [← hwl]; exact grown_alloc w3 _ c)
    have HWL := Lib.hid (show wl.heap.size = w3.heap.size + 1 by rw [← hwl]; simp)
    rw [hwl] at HLB
    have HRL := Lib.hid ((HO3.out.keptc HGL.out HL1.out).out.alloc (.cells #[.slice (some ⟨w3.heap.size, 0, none⟩) 3 3] 43))
    go_wp2_with (at_builtin; refine wpList_append_own_at _ rfl _ _ 51 rfl w1.heap.size 43 i0 _ 1 24 Try.underlying51 hi hz0 hz1 hz2 rfl (by decide) _ ls.length _ rfl HRL.out ⟨wl.heap.size, 0, none⟩ 1 1 [.slice (some ⟨w3.heap.size, 0, none⟩) 3 3] rfl rfl (cell_one_new _ _ _) (by simp [Value.oneCell']) (by unfold maxLen; omega) (by omega) (by have := HW3.out; have := HWL.out; simp; omega) ?_; intro v' w4 hown' hg4 hnil4 hat4; have HO4 := Lib.hid hown'; have HG4 := Lib.hid hg4; have HA4 := Lib.hid (show v'.ownBlock = (Value.slice a ls.length cp).ownBlock ∨ v'.ownBlock = some (wl.alloc (.cells #[.slice (some ⟨w3.heap.size, 0, none⟩) 3 3] 43)).heap.size from hat4); clear hnil4 hown' hg4 hat4)
    go_ret
    have hB := below_row0 HRL.out (by have := HW3.out; have := HWL.out; simp; omega) HG4.out
    have hsn := RowsO.snoc HO3.out HW3.out HL1.out HGL.out HLB.out ((Below.refl _ _).alloc (Nat.le_refl _) (.cells #[.slice (some ⟨w3.heap.size, 0, none⟩) 3 3] 43)) HG4.out HO4.out HA4.out
    obtain ⟨a', cap', ev⟩ : ∃ a' cap', v' = .slice a' (ls ++ [[[98], [97], [98]]]).length cap' := by
      rcases HO4.out.2 with ⟨_, h1⟩ | ⟨g, cap', cur, hv, _⟩
      · omega
      · exact ⟨some ⟨g, 0, none⟩, cap', by rw [hv]; simp⟩
    subst ev
    have hx : ∀ l ∈ ls ++ [[[98], [97], [98]]], l.length ≤ 6 ∧ ∀ x ∈ l, x.length ≤ 10 := fun l hl => by
      rcases List.mem_append.1 hl with hl | hl
      · exact HX2.out l hl
      · rw [List.mem_singleton.1 hl]
        exact ⟨by decide, by decide⟩
    have hG := grown_below (grown_trans (grown_trans HG3.out HGL.out) (grown_alloc wl (.cells #[.slice (some ⟨w3.heap.size, 0, none⟩) 3 3] 43) c)) hB
    exact ⟨a', cap', _, rfl, sets_sm hsn (m := 6) (by simp; omega) (by omega) hx, by simp; omega, hx, HB1.out.grown hG HB1.out.size (fun k hk => by injection hk with hk; have := HC1.out.1; omega)⟩

end Go.Proofs.Ytggohfinkpppkaa

/-
  The argument of a named law: a slice of bytes that came in; laws.big. By an AI agent.
-/
namespace Go.Proofs.Ytggohfinkpppkaa
open Go.RowKit
set_option linter.unusedVariables false

/-- a slice of integers that came in: nil, or a row of 'cap' cells, the numbers 'zs', each fitting its kind -/
def IsRow (k : IntKind) (w : World) (a : Option Addr) (len cap : Nat) (zs : List Int) : Prop :=
  (a = none ∧ len = 0 ∧ cap = 0 ∧ zs = []) ∨
  ∃ x, a = some x ∧ len ≤ cap ∧ cap ≤ maxLen ∧ zs.length = cap ∧ (∀ i, i < zs.length → w.cell? (x.add i) = some (.int k (zs.getD i 0))) ∧ ∀ n ∈ zs, (Lit.int k n).wf = true

theorem codeAt_of {w : World} {a : Option Addr} {len cap : Nat} {zs : List Int} (h : IsRow .u8 w a len cap zs) (hl : len ≤ 1048576) : CodeAt w w.heap.size a len := by
  refine ⟨hl, fun h0 => ?_⟩
  rcases h with ⟨rfl, rfl, rfl, rfl⟩ | ⟨x, rfl, hlc, hm, hz, hc, hwf⟩
  · omega
  · obtain ⟨b, off, spot⟩ := x
    have hc0 := hc 0 (by omega)
    have hspot : spot = none := by simpa [Addr.add] using World.cell?_spot hc0
    subst hspot
    have hlt : b < w.heap.size := by
      have := World.block_lt_of_cell? w _ hc0
      simpa [Addr.add] using this
    refine ⟨b, off, rfl, hlt, fun j hj => ⟨zs.getD j 0, ?_, ?_, ?_⟩⟩
    · have hw := hwf (zs.getD j 0) (by rw [List.getD_eq_getElem?_getD, List.getElem?_eq_getElem (by omega)]; simp)
      simp [Lit.wf, IntKind.min, IntKind.max, IntKind.signed, IntKind.bits] at hw ⊢
      omega
    · have hw := hwf (zs.getD j 0) (by rw [List.getD_eq_getElem?_getD, List.getElem?_eq_getElem (by omega)]; simp)
      simp [Lit.wf, IntKind.min, IntKind.max, IntKind.signed, IntKind.bits] at hw ⊢
      omega
    · have e : (⟨b, off, none⟩ : Addr).add j = ⟨b, off + j, none⟩ := by unfold Addr.add; split <;> simp_all
      rw [← e]
      exact hc j (by omega)

theorem big_no (A : Option Addr) (len cap : Nat) (w : World) (h : (len : Int) ≤ 1048576) : Calls Try.prog 39 #[.slice A len cap] w fun e w' => e = .returned (.bool false) ∧ w = w' := by
  have hd : decide (1048576 < (len : Int)) = false := by simp; omega
  go_enter Try.func39, Try.ntmps39
  go_wp2
  go_ret
  exact ⟨rfl, rfl⟩

theorem big_yes (A : Option Addr) (len cap : Nat) (w : World) (h : 1048576 < (len : Int)) : Calls Try.prog 39 #[.slice A len cap] w fun e w' => e = .returned (.bool true) ∧ w = w' := by
  have hd : decide (1048576 < (len : Int)) = true := by simp; omega
  go_enter Try.func39, Try.ntmps39
  go_wp2
  go_ret
  exact ⟨rfl, rfl⟩

end Go.Proofs.Ytggohfinkpppkaa

