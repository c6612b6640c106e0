/-
  Diagrams of the call's own: marks, what is held. By an AI agent.
-/
import Derived.Test.YtookcggmapldeaaDnT
import Derived.Test.YtookcggmapldeaaRuU
namespace Go.Proofs.Ytookcggmapldeaa
open Go.RowKit
set_option linter.unusedVariables false
set_option linter.unusedSimpArgs false
set_option linter.unnecessarySimpa false

def mkD (m : Nat) : DN := (((m : Int), (m : Int) + 1), ((m : Int) + 1 + 1, (m : Int) + 1 + 1 + 1))
def mkDn (k0 n : Nat) : List DN := (List.range n).map fun j => mkD (k0 + 4 * j)
theorem mkDn_len (k0 n : Nat) : (mkDn k0 n).length = n := by simp [mkDn]
theorem mkDn_succ (k0 n : Nat) : mkDn k0 (n + 1) = mkDn k0 n ++ [mkD (k0 + 4 * n)] := by simp [mkDn, List.range_succ]
theorem mkDn_at {k0 n j : Nat} (h : j < n) : (mkDn k0 n)[j]? = some (mkD (k0 + 4 * j)) := by simp [mkDn, h]
theorem flatDn_drop {l : List DN} {k : Nat} {x : DN} (h : l[k]? = some x) : flatDn (l.drop k) = .int .i64 x.1.1 :: .int .i64 x.1.2 :: .int .i64 x.2.1 :: .int .i64 x.2.2 :: flatDn (l.drop (k + 1)) := by
  obtain ⟨hlt, he⟩ := List.getElem?_eq_some_iff.1 h
  rw [List.drop_eq_getElem_cons hlt, he, flatDn_cons]

set_option maxRecDepth 100000 in
set_option maxHeartbeats 1600000 in
theorem dnmark_any (base : Nat) (a : Option Addr) (cap : Nat) (l : List DN) (k0 : Nat) (w : World) (hl : l.length ≤ 4000000) (hk1 : k0 ≤ 90000000) (hown : OwnDn w base (.slice a l.length cap) l) :
    Calls Try.prog 51 #[.slice a l.length cap, .int .i64 k0] w fun e w' => e = .returned (.int .i64 ((k0 + 4 * l.length : Nat) : Int)) ∧ OwnDn w' base (.slice a l.length cap) (mkDn k0 l.length) ∧ w.grownBy w' (Value.slice a l.length cap).ownBlock := by
  have HOWN := Lib.hid hown
  clear hown
  go_enter Try.func51, Try.ntmps51
  go_wp2
  go_loopw [1, 5] (fun kk i wr => ∃ k : Nat, k ≤ l.length ∧ i = .int .i64 k ∧ kk = .int .i64 ((k0 + 4 * k : Nat) : Int) ∧ wr.ownsRow base 86 4 (.slice a l.length cap) l.length (flatDn (mkDn k0 k) ++ flatDn (l.drop k)) ∧ w.grownBy wr (Value.slice a l.length cap).ownBlock) (fun _ i _ => l.length - (intOf i).toNat)
  case atStart => exact ⟨0, Nat.zero_le _, rfl, by go_num, HOWN.out, World.grownBy.refl _ _⟩
  case round =>
    obtain ⟨k, hk, rfl, rfl, hrow, hg⟩ := hrel
    have HROW := Lib.hid hrow
    have HG := Lib.hid hg
    clear hrow hg
    by_cases hlt : k < l.length
    · obtain ⟨g, rfl, -, -, -⟩ := rowX_at HROW.out (by omega)
      have hrow1 := HROW.out
      have hx := List.getElem?_eq_getElem hlt
      rw [flatDn_drop hx] at hrow1
      have hfl : (flatDn (mkDn k0 k)).length = k * 4 := by rw [flatDn_len, mkDn_len]
      have q0 := hrow1.cellAt (k * 4) (by omega)
      have q1 := hrow1.cellAt (k * 4 + 1) (by omega)
      have q2 := hrow1.cellAt (k * 4 + 2) (by omega)
      have q3 := hrow1.cellAt (k * 4 + 3) (by omega)
      rw [(gap4_at hfl).1] at q0
      rw [(gap4_at hfl).2.1] at q1
      rw [(gap4_at hfl).2.2.1] at q2
      rw [(gap4_at hfl).2.2.2] at q3
      have f0 := hrow1.frozenAt (k * 4)
      have f1 := hrow1.frozenAt (k * 4 + 1)
      have f2 := hrow1.frozenAt (k * 4 + 2)
      have f3 := hrow1.frozenAt (k * 4 + 3)
      obtain ⟨m, hm⟩ : ∃ m, k0 + 4 * k = m := ⟨_, rfl⟩
      have hm9 : m ≤ 190000000 := by omega
      have HN := Lib.hid (hrow1.stored (k * 4) (.int .i64 (m : Int)))
      have HN2 := Lib.hid (HN.out.1.stored (k * 4 + 1) (.int .i64 ((m : Int) + 1)))
      have HN3 := Lib.hid (HN2.out.1.stored (k * 4 + 2) (.int .i64 ((m : Int) + 1 + 1)))
      have HN4 := Lib.hid (HN3.out.1.stored (k * 4 + 3) (.int .i64 ((m : Int) + 1 + 1 + 1)))
      have HM := Lib.hid hm
      have HFL := Lib.hid hfl
      rw [hm]
      clear hrow1 hx hfl hm
      go_wp2
      go_roundw
      case rel =>
        refine ⟨k + 1, by omega, by go_num, by rw [← HM.out]; congr 1, ?_, ?_⟩
        · have h := HN4.out.1
          rw [gap4_set HFL.out] at h
          rw [mkDn_succ, flatDn_snoc, HM.out]
          exact h
        · exact grown3u (grown3u (grown3u (grown3u HG.out HN.out.2) HN2.out.2) HN3.out.2) HN4.out.2
      case measure => simp [intOf]; omega
    · obtain rfl : k = l.length := by omega
      go_wp2
      go_ret
      refine ⟨rfl, ?_, HG.out⟩
      have h := HROW.out
      rw [List.drop_length, flatDn_nil, List.append_nil] at h
      unfold OwnDn
      rw [mkDn_len]
      exact h

set_option maxRecDepth 100000 in
set_option maxHeartbeats 1600000 in
theorem dnheldv (a : Option Addr) (cap n k0 m : Nat) (w : World) (hl : n ≤ 4000000) (hk1 : k0 ≤ 90000000) (hm : k0 + 4 * n = m) (hin : InDn w a (mkDn k0 n)) :
    Calls Try.prog 52 #[.slice a n cap, .int .i64 k0] w fun e w' => e = .returned (.int .i64 (m : Int)) ∧ Below w.heap.size w w' := by
  have HIN := Lib.hid hin
  have HMM := Lib.hid hm
  clear hin hm
  go_enter Try.func52, Try.ntmps52
  go_wp2
  go_loopw [1, 5] (fun kk i wr => ∃ k m' : Nat, k ≤ n ∧ i = .int .i64 k ∧ kk = .int .i64 (m' : Int) ∧ k0 + 4 * k = m' ∧ Below w.heap.size w wr) (fun _ i _ => n - (intOf i).toNat)
  case atStart => exact ⟨0, k0, Nat.zero_le _, rfl, rfl, by omega, Below.refl _ _⟩
  case round =>
    obtain ⟨k, m', hk, rfl, rfl, hkm, hb⟩ := hrel
    have HB := Lib.hid hb
    have HKM := Lib.hid hkm
    have hm9 : m' ≤ 190000000 := by omega
    clear hb
    by_cases hlt : k < n
    · obtain ⟨b, off, rfl, hbw, hc⟩ := HIN.out (by rw [mkDn_len]; omega)
      obtain ⟨p0, p1, p2, p3⟩ := hc k _ (mkDn_at hlt)
      rw [HKM.out] at p0 p1 p2 p3
      have g0 : wr.cell? ⟨b, off + k * 4, none⟩ = some (.int .i64 (m' : Int)) := (HB.out.cell (p := ⟨b, off + k * 4, none⟩) hbw).trans p0
      have g1 : wr.cell? ⟨b, off + k * 4 + 1, none⟩ = some (.int .i64 ((m' : Int) + 1)) := (HB.out.cell (p := ⟨b, off + k * 4 + 1, none⟩) hbw).trans p1
      have g2 : wr.cell? ⟨b, off + k * 4 + 2, none⟩ = some (.int .i64 ((m' : Int) + 1 + 1)) := (HB.out.cell (p := ⟨b, off + k * 4 + 2, none⟩) hbw).trans p2
      have g3 : wr.cell? ⟨b, off + k * 4 + 3, none⟩ = some (.int .i64 ((m' : Int) + 1 + 1 + 1)) := (HB.out.cell (p := ⟨b, off + k * 4 + 3, none⟩) hbw).trans p3
      clear hc hbw p0 p1 p2 p3 hkm
      go_wp2
      go_roundw
      case rel => exact ⟨k + 1, m' + 4, by omega, by go_num, by go_num, by have := HKM.out; omega, HB.out⟩
      case measure => simp [intOf]; omega
    · obtain rfl : k = n := by omega
      clear hkm
      go_wp2
      go_ret
      exact ⟨by rw [← HMM.out, HKM.out]; rfl, HB.out⟩

/-! ### diagrams -/
def OwnHDn (w : World) (lo hi : Nat) (v : Value) (l : List DN) : Prop := OwnDn w lo v l ∧ ∀ k, v.ownBlock = some k → k < hi
theorem OwnHDn.of {w : World} {lo : Nat} {v : Value} {l : List DN} (h : OwnDn w lo v l) : OwnHDn w lo w.heap.size v l := ⟨h, fun k hk => (World.ownsRow.lt h k hk).2⟩
theorem OwnHDn.below {w w' : World} {lo hi : Nat} {v : Value} {l : List DN} (h : OwnHDn w lo hi v l) (hb : Below w.heap.size w w') : OwnHDn w' lo hi v l := ⟨h.1.below hb, h.2⟩
theorem OwnHDn.chgU {w w' : World} {lo hi lo' hi' : Nat} {v : Value} {l : List DN} (h : OwnHDn w lo hi v l) (hc : Chg w w' lo' hi') (hd : hi ≤ lo' ∨ hi' ≤ lo) : OwnHDn w' lo hi v l :=
  ⟨row_chg h.1 hc fun k hk => by have := (World.ownsRow.lt h.1 k hk).1; have := h.2 k hk; omega, h.2⟩
theorem OwnHDn.inDn {w : World} {lo hi : Nat} {a : Option Addr} {n cap : Nat} {l : List DN} (h : OwnHDn w lo hi (.slice a n cap) l) : InDn w a l := h.1.inDn

set_option maxRecDepth 100000 in
set_option maxHeartbeats 1600000 in
theorem mark_dg (lo hi : Nat) (z : Int) (a : Option Addr) (cap : Nat) (l : List DN) (k0 m : Nat) (w : World) (hl : l.length ≤ 4000000) (hk1 : k0 ≤ 4000000) (hm : k0 + 4 * l.length = m) (hown : OwnHDn w lo hi (.slice a l.length cap) l) (hi9 : hi ≤ w.heap.size) :
    Calls Try.prog 21 #[.agg #[.int .i64 z, .slice a l.length cap], .int .i64 k0] w fun e w' => e = .returned (.int .i64 (m : Int)) ∧ OwnHDn w' lo hi (.slice a l.length cap) (mkDn k0 l.length) ∧ Chg w w' lo hi := by
  obtain ⟨w1, hw1⟩ : ∃ w1, w.alloc (.cells #[.int .i64 z, .slice a l.length cap] 39) = w1 := ⟨_, rfl⟩
  have hb1 : Below w.heap.size w w1 := by rw [← hw1]; exact (Below.refl _ _).alloc (Nat.le_refl _) _
  have hX1 : BlkV w1 w.heap.size 39 #[.int .i64 z, .slice a l.length cap] := by rw [← hw1]; exact BlkV.new _ _ _
  have q1 := hX1.two1
  have hc := dnmark_any lo a cap l k0 w1 hl (by omega) (hown.below hb1).1
  rw [hm] at hc
  have HC := Lib.hid hc
  have HO := Lib.hid hown
  have HB1 := Lib.hid hb1
  have HM := Lib.hid hm
  have hm9 : m ≤ 190000000 := by omega
  have HC1 := Lib.hid (show Chg w w1 lo hi from ⟨hb1.os, hb1.tape, hb1.output, hb1.size, fun k hk _ => hb1.block k hk⟩)
  clear hown hb1 hX1 hm hc
  go_enter Try.func21, Try.ntmps21
  go_wp2_with (go_at_call 51; ((refine HC.out.mono ?_); rintro e w2 ⟨rfl, ho, hg⟩; have HO2 := Lib.hid ho; have HG2 := Lib.hid hg; clear ho hg))
  go_ret
  refine ⟨rfl, ⟨HO2.out, HO.out.2⟩, ?_⟩
  exact HC1.out.grown HG2.out fun k hk => ⟨(World.ownsRow.lt HO.out.1 k hk).1, HO.out.2 k hk⟩
set_option maxRecDepth 100000 in
theorem held_dg (z : Int) (a : Option Addr) (cap n k0 m : Nat) (w : World) (hl : n ≤ 4000000) (hk1 : k0 ≤ 90000000) (hm : k0 + 4 * n = m) (hin : InDn w a (mkDn k0 n)) :
    Calls Try.prog 22 #[.agg #[.int .i64 z, .slice a n cap], .int .i64 k0] w fun e w' => e = .returned (.int .i64 (m : Int)) ∧ Below w.heap.size w w' := by
  obtain ⟨w1, hw1⟩ : ∃ w1, w.alloc (.cells #[.int .i64 z, .slice a n cap] 39) = w1 := ⟨_, rfl⟩
  have hb1 : Below w.heap.size w w1 := by rw [← hw1]; exact (Below.refl _ _).alloc (Nat.le_refl _) _
  have hX1 : BlkV w1 w.heap.size 39 #[.int .i64 z, .slice a n cap] := by rw [← hw1]; exact BlkV.new _ _ _
  have q1 := hX1.two1
  have HC := Lib.hid (dnheldv a cap n k0 m w1 hl hk1 hm (hin.below hb1))
  have HB1 := Lib.hid hb1
  have hm9 : m ≤ 190000000 := by omega
  clear hin hb1 hX1 hm
  go_enter Try.func22, Try.ntmps22
  go_wp2_with (go_at_call 52; ((refine HC.out.mono ?_); rintro e w2 ⟨rfl, hb⟩; have HB2 := Lib.hid (HB1.out.trans (hb.mono HB1.out.size)); clear hb))
  go_ret
  exact ⟨rfl, HB2.out⟩

end Go.Proofs.Ytookcggmapldeaa
