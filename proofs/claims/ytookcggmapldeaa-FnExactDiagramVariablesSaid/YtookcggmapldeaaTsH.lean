/-
  A slice of tests of the call's own in a span of blocks: marks, what is held. By an AI agent.
-/
import Derived.Test.YtookcggmapldeaaRuU
import Derived.Test.YtookcggmapldeaaRuT
namespace Go.Proofs.Ytookcggmapldeaa
open Go.RowKit
set_option linter.unusedVariables false
set_option linter.unusedSimpArgs false
set_option linter.unnecessarySimpa false

def OwnHTs (w : World) (lo hi : Nat) (v : Value) (l : List TS) : Prop := OwnTs w lo v l ∧ ∀ k, v.ownBlock = some k → k < hi
theorem OwnHTs.of {w : World} {lo : Nat} {v : Value} {l : List TS} (h : OwnTs w lo v l) : OwnHTs w lo w.heap.size v l := ⟨h, fun k hk => (World.ownsRow.lt h k hk).2⟩
theorem OwnHTs.below {w w' : World} {lo hi : Nat} {v : Value} {l : List TS} (h : OwnHTs w lo hi v l) (hb : Below w.heap.size w w') : OwnHTs w' lo hi v l := ⟨h.1.below hb, h.2⟩
theorem OwnHTs.chgU {w w' : World} {lo hi lo' hi' : Nat} {v : Value} {l : List TS} (h : OwnHTs w lo hi v l) (hc : Chg w w' lo' hi') (hd : hi ≤ lo' ∨ hi' ≤ lo) : OwnHTs w' lo hi v l :=
  ⟨row_chg h.1 hc fun k hk => by have := (World.ownsRow.lt h.1 k hk).1; have := h.2 k hk; omega, h.2⟩
theorem OwnHTs.inTs {w : World} {lo hi : Nat} {a : Option Addr} {n cap : Nat} {l : List TS} (h : OwnHTs w lo hi (.slice a n cap) l) : InTs w a l := h.1.inTs
theorem mark_tsm (lo hi : Nat) (a : Option Addr) (cap : Nat) (l : List TS) (k0 m : Nat) (w : World) (hl : l.length ≤ 4000000) (hk1 : k0 ≤ 4000000) (hm : k0 + 3 * l.length = m) (hown : OwnHTs w lo hi (.slice a l.length cap) l) :
    Calls Try.prog 16 #[.slice a l.length cap, .int .i64 k0] w fun e w' => e = .returned (.int .i64 (m : Int)) ∧ OwnHTs w' lo hi (.slice a l.length cap) (mkTs k0 l.length) ∧ Chg w w' lo hi := by
  subst hm
  refine (tsmark_any lo a cap l k0 w hl (by omega) hown.1).mono ?_
  rintro e w' ⟨rfl, ho, hg⟩
  exact ⟨rfl, ⟨ho, hown.2⟩, (Chg.refl _ _ _).grown hg fun k hk => ⟨(World.ownsRow.lt hown.1 k hk).1, hown.2 k hk⟩⟩

set_option maxRecDepth 100000 in
set_option maxHeartbeats 1600000 in
theorem tsheldv (a : Option Addr) (cap n k0 m : Nat) (w : World) (hl : n ≤ 4000000) (hk1 : k0 ≤ 90000000) (hm : k0 + 3 * n = m) (hin : InTs w a (mkTs k0 n)) :
    Calls Try.prog 17 #[.slice a n cap, .int .i64 k0] w fun e w' => e = .returned (.int .i64 (m : Int)) ∧ Below w.heap.size w w' := by
  have HIN := Lib.hid hin
  have HMM := Lib.hid hm
  clear hin hm
  go_enter Try.func17, Try.ntmps17
  go_wp2
  go_loopw [1, 5] (fun kk i wr => ∃ k m' : Nat, k ≤ n ∧ i = .int .i64 k ∧ kk = .int .i64 (m' : Int) ∧ k0 + 3 * k = m' ∧ Below w.heap.size w wr) (fun _ i _ => n - (intOf i).toNat)
  case atStart => exact ⟨0, k0, Nat.zero_le _, rfl, rfl, by omega, Below.refl _ _⟩
  case round =>
    obtain ⟨k, m', hk, rfl, rfl, hkm, hb⟩ := hrel
    have HB := Lib.hid hb
    have HKM := Lib.hid hkm
    have hm9 : m' ≤ 190000000 := by omega
    clear hb
    by_cases hlt : k < n
    · obtain ⟨b, off, rfl, hbw, hc⟩ := HIN.out (by rw [mkTs_len]; omega)
      obtain ⟨p0, p1, p2⟩ := hc k _ (mkTs_at hlt)
      rw [HKM.out] at p0 p1 p2
      have g0 : wr.cell? ⟨b, off + k * 3, none⟩ = some (.int .i64 (m' : Int)) := (HB.out.cell (p := ⟨b, off + k * 3, none⟩) hbw).trans p0
      have g1 : wr.cell? ⟨b, off + k * 3 + 1, none⟩ = some (.int .i64 ((m' : Int) + 1)) := (HB.out.cell (p := ⟨b, off + k * 3 + 1, none⟩) hbw).trans p1
      have g2 : wr.cell? ⟨b, off + k * 3 + 2, none⟩ = some (.bool (((m' : Int) + 1 + 1) % 3 == 0)) := (HB.out.cell (p := ⟨b, off + k * 3 + 2, none⟩) hbw).trans p2
      clear hc hbw p0 p1 p2 hkm
      go_wp2
      go_roundw
      case rel => exact ⟨k + 1, m' + 3, by omega, by go_num, by go_num, by have := HKM.out; omega, HB.out⟩
      case measure => simp [intOf]; omega
    · obtain rfl : k = n := by omega
      clear hkm
      go_wp2
      go_ret
      exact ⟨by rw [← HMM.out, HKM.out]; rfl, HB.out⟩


end Go.Proofs.Ytookcggmapldeaa
