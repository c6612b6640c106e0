/-
  spec.l12Find; what spec.RemoveSet hands back. By an AI agent.
-/
import Derived.Test.YthjbekgognfiiaaGreatIxA
import Derived.Test.YthjbekgognfiiaaGreatIxR
namespace Go.Proofs.YthjbekgognfiiaaGreat
open Go.RowKit
set_option linter.unusedVariables false

set_option maxRecDepth 100000 in
theorem find_spec (t : Int) (ta : Option Addr) (tn tc : Nat) (xa : Option Addr) (xc : Nat) (S : List IS) (id r : Int) (w : World) (hr : fiX S id = r) (hin : InX w xa S) (hl : S.length ≤ 4000000) :
    Calls Tryz.prog 48 #[.agg #[.int .i64 t, .slice ta tn tc, .slice xa S.length xc], .int .i64 id] w fun e w' => e = .returned (.int .i64 r) ∧ Below w.heap.size w w' := by
  have HR := Lib.hid hr
  have HIN := Lib.hid hin
  have HB0 := Lib.hid ((Below.refl w.heap.size w).alloc (Nat.le_refl _) (.cells #[.int .i64 t, .slice ta tn tc, .slice xa S.length xc] 27))
  have HX0 := Lib.hid (show BlkV (w.alloc (.cells #[.int .i64 t, .slice ta tn tc, .slice xa S.length xc] 27)) w.heap.size 27 #[.int .i64 t, .slice ta tn tc, .slice xa S.length xc] from BlkV.new _ _ _)
  clear hr hin
  go_enter Tryz.func48, Tryz.ntmps48
  go_wp2
  go_loopw [5] (fun i wr => ∃ k : Nat, k ≤ S.length ∧ i = .int .i64 k ∧ (∀ (j : Nat) (y : IS), j < k → S[j]? = some y → y.1 ≠ id) ∧ BlkV wr w.heap.size 27 #[.int .i64 t, .slice ta tn tc, .slice xa S.length xc] ∧ Below w.heap.size w wr) (fun i _ => S.length - (intOf i).toNat)
  case atStart => exact ⟨0, Nat.zero_le _, rfl, fun j y hj => absurd hj (Nat.not_lt_zero _), HX0.out, HB0.out⟩
  case round =>
    obtain ⟨k, hk, rfl, hno, hbx, hb⟩ := hrel
    have HNO := Lib.hid hno
    have HBX := Lib.hid hbx
    have HB := Lib.hid hb
    clear hno hbx hb
    have q2 := HBX.out.three2
    by_cases hlt : k < S.length
    · obtain ⟨b, off, rfl, hbl, hc⟩ := HIN.out (by omega)
      have hx := List.getElem?_eq_getElem hlt
      obtain ⟨a', c', p0, p1, _⟩ := hc k _ hx
      have HX1 := Lib.hid hx
      have c0 : wr.cell? ⟨b, off + k * 2, none⟩ = some (.int .i64 S[k].1) := by rw [HB.out.cell (p := ⟨b, off + k * 2, none⟩) hbl]; exact p0
      generalize S[k] = x at c0 HX1
      clear hx p0 p1 hc hbl
      by_cases he : x.1 = id
      · have HE := Lib.hid (show (k : Int) = r from by rw [← HR.out]; exact (fi_at HNO.out HX1.out he).symm)
        obtain ⟨z, hz⟩ : ∃ z, x.1 = z := ⟨_, rfl⟩
        rw [hz] at c0 he
        subst he
        clear hz
        go_wp2
        go_ret
        exact ⟨ret_int HE.out, HB.out⟩
      · have HE := Lib.hid he
        go_wp2
        go_roundw
        case rel =>
          refine ⟨k + 1, by omega, by go_num, fun j y hj hy => ?_, HBX.out, HB.out⟩
          by_cases e : j = k
          · subst e
            rw [HX1.out] at hy
            rw [← Option.some.inj hy]
            exact HE.out
          · exact HNO.out j y (by omega) hy
        case measure => simp [intOf]; omega
    · obtain rfl : k = S.length := by omega
      have HE := Lib.hid (show (-1 : Int) = r from by rw [← HR.out]; exact (fi_none fun j y hy => HNO.out j y (List.getElem?_eq_some_iff.1 hy).1 hy).symm)
      go_wp2
      go_ret
      exact ⟨ret_int HE.out, HB.out⟩

/-- the copy is laid into a new box -/
theorem ixst_alloc {w w1 w2 : World} {t : Int} {T : List TC} {S : List IS} {ta xa : Option Addr} {tc xc : Nat} {q : List XS} (hs : w1.heap.size = w.heap.size + 2) (hb1 : Below w.heap.size w w1)
    (hr : BlkV w1 (w.heap.size + 1) 27 #[.int .i64 0, .slice none 0 0, .slice none 0 0]) (ho : OwnIx w2 w1.heap.size w2.heap.size (.slice ta T.length tc) (.slice xa S.length xc) T q) (hb : Below w1.heap.size w1 w2) :
    IxSt w (w2.alloc (.cells #[.int .i64 t, .slice ta T.length tc, .slice xa S.length xc] 27)) w2.heap.size (w.heap.size + 1) t T ta tc xa S.length xc q := by
  have h1 : OwnT w2 (w.heap.size + 1 + 1) (.slice ta T.length tc) T := ho.tab.1.mono (by omega)
  have h2 : OwnX w2 (w.heap.size + 1 + 1) (.slice xa S.length xc) q := ho.sets.1.mono (by omega)
  have hsz := hb.size
  have hbb := hb1.trans (hb.mono hb1.size)
  have hba := (Below.refl w2.heap.size w2).alloc (Nat.le_refl _) (.cells #[.int .i64 t, .slice ta T.length tc, .slice xa S.length xc] 27)
  exact ⟨BlkV.new _ _ _, (hr.below hb).alloc _, h1.below hba, h2.below hba, ho.apart, (fun e => by have := (World.ownsRow.lt h1 _ e).2; omega), (fun e => by have := (World.ownsRow.lt h2.out _ e).2; omega), (fun p hp e => by have := (World.ownsRow.lt (h2.row p hp) _ e).2; omega), hbb.alloc hbb.size _, by omega, by omega, by omega⟩
theorem below_grownR {w w' : World} (h : Below w.heap.size w w') (r : Option Nat) : w.grownBy w' r := ⟨h.os, h.tape, h.output, h.size, fun k hk _ => h.block k hk⟩
/-- a fresh slice of the sets of q' is stored into the box -/
theorem IxSt.fresh {w W W' : World} {B g n n' : Nat} {t : Int} {T : List TC} {ta xa xa' : Option Addr} {tc xc xc' : Nat} {q q' : List XS} (h : IxSt w W B g t T ta tc xa n xc q) (hb : Below W.heap.size W W')
    (ho : W'.ownsRow W.heap.size 71 2 (.slice xa' n' xc') n' (flatX q')) (hl : q'.length = n') (hr : ∀ p ∈ q', OwnS W' (g + 1) p.2 p.1.2) (hlt : ∀ p ∈ q', ∀ k, p.2.ownBlock = some k → k < W.heap.size ∧ k ≠ B) (hd : q'.Pairwise fun p r => ∀ k, p.2.ownBlock = some k → r.2.ownBlock ≠ some k)
    (hT : ∀ k, (Value.slice ta T.length tc).ownBlock = some k → ∀ p ∈ q', p.2.ownBlock ≠ some k) : IxSt w (W'.setCell ⟨B, 2, none⟩ (.slice xa' n' xc')) B g t T ta tc xa' n' xc' q' := by
  have hn : ∀ k, (Value.slice xa' n' xc').ownBlock = some k → W.heap.size ≤ k := fun k hk => (World.ownsRow.lt ho k hk).1
  have hB := h.box.lt
  have hg := h.res.lt
  subst hl
  refine h.store (below_grownR hb _) ⟨row_mono ho (by omega), hr, (fun p hp k hk e => by have := hn k e; have := (hlt p hp k hk).1; omega), hd⟩ (fun k hk => ⟨fun e => by have := hn k e; have := (World.ownsRow.lt h.tab k hk).2; omega, hT k hk⟩) (fun e => by have := hn _ e; omega) (fun p hp e => (hlt p hp _ e).2 rfl)


end Go.Proofs.YthjbekgognfiiaaGreat
