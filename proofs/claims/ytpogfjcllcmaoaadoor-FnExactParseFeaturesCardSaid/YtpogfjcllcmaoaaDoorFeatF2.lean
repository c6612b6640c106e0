/-
  What impl.FormatFeatures answers. By an AI agent.
-/
import Derived.Test.YtpogfjcllcmaoaaDoorFeatF
import Derived.Test.YtpogfjcllcmaoaaDoorJoinS
namespace Go.Proofs.YtpogfjcllcmaoaaDoor
open Go.RowKit
set_option linter.unusedVariables false

theorem part_enc {k : Nat} {x : Int} {N t : ByteArray} (hN : fnR k = N) (ht : strOf (Lib.itoa x) = t) : encStr (fpart k x) = .string ((N ++ ⟨#[61]⟩) ++ t) := by
  rw [part_str hN ht]
  rfl

set_option maxRecDepth 100000 in
set_option maxHeartbeats 1600000 in
theorem ff_impl (a : Option Addr) (cap : Nat) (l : List Int) (r : ByteArray) (w : World) (hl : l.length ≤ 4000000) (hin : InI w a l) (hr : ffR l = r) (htab : TabAt w) :
    Calls Tryd.prog 7 #[.slice a l.length cap] w fun e w' => e = .returned (.string r) ∧ Below w.heap.size w w' := by
  have HR := Lib.hid hr
  have HIN := Lib.hid hin
  have HTAB := Lib.hid htab
  clear hr hin htab
  obtain ⟨b, hb⟩ : ∃ b, fvB l = b := ⟨_, rfl⟩
  have HV := Lib.hid hb
  clear hb
  cases b
  · obtain rfl : ⟨#[]⟩ = r := by rw [← HR.out, ff_no HV.out]
    go_enter Tryd.func7, Tryd.ntmps7
    go_wp2_with (go_at_call 16; ((with_reducible refine (fv_impl a cap l _ _ hl HIN.out HV.out).mono ?_); rintro e w' ⟨rfl, rfl⟩))
    go_ret
    exact ⟨rfl, Below.refl _ _⟩
  · obtain ⟨i0, hi, hz0, hz1, hz2⟩ := info_parts info_str
    have H6 := Lib.hid (fv_of HV.out).1
    go_enter Tryd.func7, Tryd.ntmps7
    go_wp2_with (first
      | (go_at_call 16; ((with_reducible refine (fv_impl a cap l _ _ hl HIN.out HV.out).mono ?_); rintro e w' ⟨rfl, rfl⟩))
      | (at_make; refine wpList_make_full _ rfl _ _ 32 rfl w.heap.size 9 i0 (.string ⟨#[]⟩) 1 Tryd.underlying32 hi hz0 hz1 .i64 .i64 _ _ 6 rfl rfl rfl rfl (by rw [hz2]; omega) (by unfold maxLen; omega) (Nat.le_refl _) ?_; intro w1 hrow hg))
    have HROW := Lib.hid hrow
    have HB1 := Lib.hid ((Below.refl w.heap.size w).grown hg (Nat.le_refl _) (fun k hk => by cases hk))
    clear hrow hg
    go_loopw [12] (fun i wr => ∃ k : Nat, k ≤ l.length ∧ i = .int .i64 k ∧ wr.ownsRow w.heap.size 9 1 (.slice (some ⟨w.heap.size, 0, none⟩) 6 6) 6 (fillV (fparts l) k) ∧ Below w.heap.size w wr) (fun i _ => l.length - (intOf i).toNat)
    case atStart =>
      refine ⟨0, Nat.zero_le _, rfl, ?_, HB1.out⟩
      have h := HROW.out
      rw [Nat.mul_one, show (Value.string ⟨#[]⟩).cells = #[.string ⟨#[]⟩] from rfl, toList_madeCells_one] at h
      rw [fill_zero, fparts_len, H6.out]
      exact h
    case round =>
      obtain ⟨k, hk, rfl, hrow, hb⟩ := hrel
      by_cases hlt : k < l.length
      · have hk6 : k < 6 := by have := H6.out; omega
        have hin := HIN.out.below hb
        obtain ⟨bl, off, rfl, hbl, hc⟩ := hin (by omega)
        obtain ⟨x, hx⟩ : ∃ x, l[k]? = some x := ⟨_, List.getElem?_eq_getElem hlt⟩
        have hcell : wr.cell? ⟨bl, off + k, none⟩ = some (.int .i64 x) := hc k x hx
        have hx0 := (fv_at HV.out hx).1
        have hx1 := (fv_at HV.out hx).2
        obtain ⟨N, hN⟩ : ∃ N, fnR k = N := ⟨_, rfl⟩
        obtain ⟨t, ht⟩ : ∃ t, strOf (Lib.itoa x) = t := ⟨_, rfl⟩
        have hNs : N.size ≤ 6 := by rw [← hN]; exact fn_size _
        have hts : t.size ≤ 21 := by rw [← ht, strOf_size]; exact Lib.itoa_length_le x (by omega) (by omega)
        have HNN := Lib.hid hN
        have HTT := Lib.hid ht
        have HP := Lib.hid (fparts_at hx)
        have HROWK := Lib.hid hrow
        have HB := Lib.hid hb
        have HSZ := Lib.hid (show w.heap.size < wr.heap.size by
          rcases hrow.2 with ⟨h, _⟩ | ⟨g, cap', cur, hv, hb2, hg, _⟩
          · cases h
          · simp only [Value.slice.injEq, Option.some.injEq, Addr.mk.injEq] at hv
            rw [hv.1.1]
            exact (Array.getElem?_eq_some_iff.1 hg).1)
        have z1 : ¬ 9223372036854775807 < N.size + 1 := by omega
        have z2 : ¬ 9223372036854775807 < N.size + 1 + t.size := by omega
        clear hc hx hN ht hin hb hrow
        go_wp2_with (first
          | (go_at_call 17; (with_reducible refine (fn_impl k N _ HNN.out).mono ?_); rintro e w2 ⟨rfl, rfl⟩)
          | (go_at_call 18; (with_reducible refine (impl_fi_at x t _ (by omega) (by omega) (HTAB.out.on HB.out) HTT.out).mono ?_); rintro e w3 ⟨rfl, hb⟩; refine Hid.out ?_))
        have hrow3 : w3.ownsRow w.heap.size 9 1 (.slice (some ⟨w.heap.size, 0, none⟩) 6 6) 6 (fillV (fparts l) k) :=
          World.ownsRow.kept HROWK.out (row := none) ⟨hb.os, hb.tape, hb.output, hb.size, fun i hi _ => hb.block i hi⟩ (.inr (by simp [Value.ownBlock]))
        have hold : w3.cell? ⟨w.heap.size, k, none⟩ = some (.string ⟨#[]⟩) := by rw [hrow3.cellAt k (by omega)]; exact fill_at (by rw [fparts_len]; exact hlt)
        have hfz : w3.frozen? ⟨w.heap.size, k, none⟩ = false := hrow3.frozenAt k
        have HNX := Lib.hid (hrow3.stored k (.string ((N ++ ⟨#[61]⟩) ++ t)))
        have HB3 := Lib.hid (HB.out.trans (hb.mono HB.out.size))
        clear hrow3 hb
        refine Lib.hid ?_
        go_wp2
        go_roundw
        case rel =>
          refine ⟨k + 1, by omega, by go_num, ?_, HB3.out.setCell (by simp) _⟩
          rw [← fill_set HP.out, part_enc HNN.out HTT.out]
          exact HNX.out.1
        case measure => simp [intOf]; omega
      · obtain rfl : k = l.length := by omega
        have HROWK := Lib.hid (show OwnS wr w.heap.size (.slice (some ⟨w.heap.size, 0, none⟩) (fparts l).length 6) (fparts l) by
          have h := hrow
          rw [show l.length = (fparts l).length from (fparts_len l).symm, fill_all, show 6 = (fparts l).length by rw [fparts_len, H6.out]] at h
          rw [show 6 = (fparts l).length by rw [fparts_len, H6.out]]
          exact h)
        have HB := Lib.hid hb
        have HJ := Lib.hid (show ∀ u : World, u = wr → Calls Tryd.prog 19 #[.slice (some ⟨w.heap.size, 0, none⟩) 6 6, .string ⟨#[32]⟩] u fun e w' => e = .returned (.string r) ∧ Below u.heap.size u w' by
          rintro u rfl
          have h := join_at 32 (some ⟨w.heap.size, 0, none⟩) 6 (fparts l) r u HROWK.out.inS (by rw [fparts_len]; exact hl) (by rw [fparts_len, H6.out]; exact Nat.le_refl _) (by rw [fparts_len, H6.out]; decide) (by rw [← HR.out, ff_yes HV.out]; rfl) (Nat.le_trans (ff_len HV.out) (by decide))
          rw [fparts_len, H6.out] at h
          exact h)
        clear hrow hb
        go_wp2_with (go_at_call 19; (with_reducible refine (HJ.out _ rfl).mono ?_); rintro e w3 ⟨rfl, hb⟩)
        go_ret
        exact ⟨rfl, HB.out.trans (hb.mono HB.out.size)⟩

end Go.Proofs.YtpogfjcllcmaoaaDoor
