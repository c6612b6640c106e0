/-
  What the laws' own markTokenCountS and heldTokenCountS do. By an AI agent.
-/
import Derived.Test.YthjbekgognfiiaaTcT
import Derived.Test.YthjbekgognfiiaaMarks
namespace Go.Proofs.Ythjbekgognfiiaa
open Go.RowKit
set_option linter.unusedVariables false

def tmarks (k0 n : Nat) : List TC := (List.range n).map fun j => (markL (k0 + 2 * j), ((k0 + 2 * j + 1 : Nat) : Int))
theorem tmarks_len (k0 n : Nat) : (tmarks k0 n).length = n := by simp [tmarks]
theorem tmarks_succ (k0 n : Nat) : tmarks k0 (n + 1) = tmarks k0 n ++ [(markL (k0 + 2 * n), ((k0 + 2 * n + 1 : Nat) : Int))] := by simp [tmarks, List.range_succ]
theorem tmarks_at {k0 n j : Nat} (h : j < n) : (tmarks k0 n)[j]? = some (markL (k0 + 2 * j), ((k0 + 2 * j + 1 : Nat) : Int)) := by simp [tmarks, h]

theorem gap_at {p : List TC} {k : Nat} {y0 y1 : Value} {r : List Value} (hp : p.length = k) : (flatT p ++ y0 :: y1 :: r)[k * 2]? = some y0 ∧ (flatT p ++ y0 :: y1 :: r)[k * 2 + 1]? = some y1 := by
  have h : (flatT p).length = k * 2 := by rw [flat_len, hp]
  constructor
  · rw [List.getElem?_append_right (by omega), h, Nat.sub_self]; rfl
  · rw [List.getElem?_append_right (by omega), h, show k * 2 + 1 - k * 2 = 1 by omega]; rfl
theorem gap_set0 {p : List TC} {k : Nat} {y0 y1 u : Value} {r : List Value} (hp : p.length = k) : (flatT p ++ y0 :: y1 :: r).set (k * 2) u = flatT p ++ u :: y1 :: r := by
  have h : (flatT p).length = k * 2 := by rw [flat_len, hp]
  rw [List.set_append_right _ _ (by omega), h, Nat.sub_self]; rfl
theorem gap_set1 {p : List TC} {k : Nat} {y0 y1 u : Value} {r : List Value} (hp : p.length = k) : (flatT p ++ y0 :: y1 :: r).set (k * 2 + 1) u = flatT p ++ y0 :: u :: r := by
  have h : (flatT p).length = k * 2 := by rw [flat_len, hp]
  rw [List.set_append_right _ _ (by omega), h, show k * 2 + 1 - k * 2 = 1 by omega]; rfl
theorem flat_drop {l : List TC} {k : Nat} {x : TC} (h : l[k]? = some x) : flatT (l.drop k) = encStr x.1 :: .int .i64 x.2 :: flatT (l.drop (k + 1)) := by
  obtain ⟨hlt, he⟩ := List.getElem?_eq_some_iff.1 h
  rw [List.drop_eq_getElem_cons hlt, he]
  simp [flatT, encT]

def MarkedT (w : World) (base : Nat) (a : Option Addr) (n cap k0 : Nat) (e : Ending) (w' : World) : Prop :=
  e = .returned (.int .i64 ((k0 + 2 * n : Nat) : Int)) ∧ OwnT w' base (.slice a n cap) (tmarks k0 n) ∧ w.grownBy w' (Value.slice a n cap).ownBlock

set_option maxRecDepth 100000 in
theorem tmark_any (base : Nat) (a : Option Addr) (cap : Nat) (l : List TC) (k0 : Nat) (w : World) (hl : l.length ≤ 4000000) (hk0 : 0 < k0) (hk1 : k0 ≤ 4000000) (hown : OwnT w base (.slice a l.length cap) l) :
    Calls Try.prog 35 #[.slice a l.length cap, .int .i64 k0] w (MarkedT w base a l.length cap k0) := by
  have HOWN := Lib.hid hown
  clear hown
  go_enter Try.func35, Try.ntmps35
  go_wp2
  go_loopw [1, 5] (fun kk i wr => ∃ k : Nat, k ≤ l.length ∧ i = .int .i64 k ∧ kk = .int .i64 ((k0 + 2 * k : Nat) : Int) ∧ wr.ownsRow base 71 2 (.slice a l.length cap) l.length (flatT (tmarks k0 k) ++ flatT (l.drop k)) ∧ w.grownBy wr (Value.slice a l.length cap).ownBlock) (fun _ i _ => l.length - (intOf i).toNat)
  case atStart => exact ⟨0, Nat.zero_le _, rfl, by go_num, HOWN.out, World.grownBy.refl _ _⟩
  case round =>
    obtain ⟨k, hk, rfl, rfl, hrow, hg⟩ := hrel
    have HROW := Lib.hid hrow
    have HG := Lib.hid hg
    clear hrow hg
    by_cases hlt : k < l.length
    · obtain ⟨g, rfl, hbg, hgl⟩ := ownT_at HROW.out (by omega)
      have HGL := Lib.hid hgl
      clear hgl hbg
      go_wp2_with (go_at_call 37; (refine (mark_text (k0 + 2 * k) _ (by omega) (by omega)).mono ?_); rintro e w1 ⟨rfl, hb1⟩; refine Hid.out ?_)
      refine Lib.hid ?_
      have HB1 := Lib.hid hb1
      have hrow1 := World.ownsRow.kept HROW.out (row := none) (grown_of_below hb1 none) (.inr (by simp [Value.ownBlock]))
      have hx := List.getElem?_eq_getElem hlt
      rw [flat_drop hx] at hrow1
      have q0 := hrow1.cellAt (k * 2) (by omega)
      have q1 := hrow1.cellAt (k * 2 + 1) (by omega)
      rw [(gap_at (tmarks_len k0 k)).1] at q0
      rw [(gap_at (tmarks_len k0 k)).2] at q1
      have f0 := hrow1.frozenAt (k * 2)
      have f1 := hrow1.frozenAt (k * 2 + 1)
      have HN := Lib.hid (hrow1.stored (k * 2) (encStr (markL (k0 + 2 * k))))
      have HN2 := Lib.hid (HN.out.1.stored (k * 2 + 1) (.int .i64 ((k0 + 2 * k + 1 : Nat) : Int)))
      clear hb1 hrow1 hx
      go_wp2
      go_roundw
      case rel =>
        refine ⟨k + 1, by omega, by go_num, by go_num, ?_, ?_⟩
        · have h := HN2.out.1
          rw [gap_set0 (tmarks_len k0 k), gap_set1 (tmarks_len k0 k)] at h
          rw [tmarks_succ, flat_snoc, List.append_assoc]
          exact h
        · exact grown_trans' (grown_trans' (grown_trans' HG.out (grown_of_below HB1.out _)) HN.out.2) HN2.out.2
      case measure => simp [intOf]; omega
    · obtain rfl : k = l.length := by omega
      go_wp2
      go_ret
      refine ⟨rfl, ?_, HG.out⟩
      have h := HROW.out
      rw [List.drop_length, flat_nil, List.append_nil] at h
      unfold OwnT
      rw [tmarks_len]
      exact h

set_option maxRecDepth 100000 in
theorem theld_any (a : Option Addr) (cap n k0 : Nat) (w : World) (hl : n ≤ 4000000) (hk0 : 0 < k0) (hk1 : k0 ≤ 4000000) (hin : InT w a (tmarks k0 n)) :
    Calls Try.prog 38 #[.slice a n cap, .int .i64 k0] w fun e w' => e = .returned (.int .i64 ((k0 + 2 * n : Nat) : Int)) ∧ Below w.heap.size w w' := by
  have HIN := Lib.hid hin
  clear hin
  go_enter Try.func38, Try.ntmps38
  go_wp2
  go_loopw [1, 5] (fun kk i wr => ∃ k : Nat, k ≤ n ∧ i = .int .i64 k ∧ kk = .int .i64 ((k0 + 2 * k : Nat) : Int) ∧ Below w.heap.size w wr) (fun _ i _ => n - (intOf i).toNat)
  case atStart => exact ⟨0, Nat.zero_le _, rfl, by go_num, Below.refl _ _⟩
  case round =>
    obtain ⟨k, hk, rfl, rfl, hb⟩ := hrel
    have HB := Lib.hid hb
    clear hb
    by_cases hlt : k < n
    · obtain ⟨b, off, rfl, hbw, hc⟩ := HIN.out (by rw [tmarks_len]; omega)
      have hbr : b < wr.heap.size := Nat.lt_of_lt_of_le hbw HB.out.size
      have HBR := Lib.hid hbr
      obtain ⟨s, hs⟩ : ∃ s : ByteArray, encStr (markL (k0 + 2 * k)) = .string s := ⟨_, rfl⟩
      obtain ⟨p0, p1⟩ := hc k _ (tmarks_at hlt)
      have g0 : wr.cell? ⟨b, off + k * 2, none⟩ = some (.string s) := by rw [HB.out.cell (p := ⟨b, off + k * 2, none⟩) hbw, ← hs]; exact p0
      have g1 : wr.cell? ⟨b, off + k * 2 + 1, none⟩ = some (.int .i64 ((k0 + 2 * k + 1 : Nat) : Int)) := by rw [HB.out.cell (p := ⟨b, off + k * 2 + 1, none⟩) hbw]; exact p1
      have G1 := Lib.hid g1
      have HM := Lib.hid (fun (W : World) => (mark_text (k0 + 2 * k) W (by omega) (by omega)).mono (fun e w' h => (show e = .returned (.string s) ∧ Below W.heap.size W w' from ⟨by rw [← hs]; exact h.1, h.2⟩)))
      clear hc hs hbr hbw p0 p1 g1
      go_wp2
      go_region_with (go_at_call 37; refine (HM.out _).mono ?_; rintro e w1 ⟨rfl, hb1⟩; have HB1 := Lib.hid hb1; have g2 := (hb1.cell (p := ⟨b, off + k * 2, none⟩) HBR.out).trans g0; have g3 := (hb1.cell (p := ⟨b, off + k * 2 + 1, none⟩) HBR.out).trans G1.out; clear hb1)
      all_goals go_wp2
      all_goals go_roundw
      all_goals first
        | (case rel => exact ⟨k + 1, by omega, by go_num, by go_num, (HB.out.drew).trans (HB1.out.mono HB.out.size)⟩)
        | skip
      all_goals (simp [intOf]; omega)
    · obtain rfl : k = n := by omega
      go_wp2
      go_ret
      exact ⟨rfl, HB.out⟩

end Go.Proofs.Ythjbekgognfiiaa
