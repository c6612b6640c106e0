/-
  The place of a set in an index: what impl.placeOfSet answers. By an AI agent.
-/
import Derived.Test.YthjbekgognfiiaaGreatIxN
import Derived.Test.YthjbekgognfiiaaGreatJ7
namespace Go.Proofs.YthjbekgognfiiaaGreat
open Go.RowKit
set_option linter.unusedVariables false

theorem cmpI_neg {x y : Int} (h : x < y) : cmpI x y < 0 := by unfold cmpI; rw [if_pos h]; omega
theorem cmpI_not {x y : Int} (h : ¬ x < y) : ¬ cmpI x y < 0 := by
  unfold cmpI
  rw [if_neg h]
  split <;> omega
theorem cmpI_zero {x y : Int} : cmpI x y = 0 ↔ x = y := by
  unfold cmpI
  split
  · exact ⟨fun e => by omega, fun e => by omega⟩
  · split
    · exact ⟨fun e => by omega, fun e => by omega⟩
    · exact ⟨fun e => by omega, fun e => rfl⟩

set_option maxRecDepth 100000 in
theorem cmp_id (id z r : Int) (a : Option Addr) (n c : Nat) (w : World) (h : cmpI id z = r) :
    Calls Tryz.prog 84 #[.agg #[.int .i64 id, .slice a n c], .int .i64 z] w fun e w' => e = .returned (.int .i64 r) ∧ Below w.heap.size w w' := by
  have HR := Lib.hid h
  clear h
  go_enter Tryz.func84, Tryz.ntmps84
  go_wp2_with (go_at_call 85; (refine (cmpI_is id z r _ HR.out).mono ?_); rintro e w' ⟨rfl, rfl⟩)
  go_ret
  exact ⟨rfl, (Below.refl _ _).alloc (Nat.le_refl _) _⟩

theorem hasid_at {S : List IS} {id : Int} {k : Nat} (ha : AscX S) (hlo : ∀ (j : Nat) (y : IS), j < k → S[j]? = some y → y.1 < id) (hx : ∀ x : IS, S[k]? = some x → id < x.1) : hasId S id = false := by
  refine hasid_no fun j y hj => ?_
  rcases Nat.lt_trichotomy j k with h | h | h
  · have := hlo j y h hj; omega
  · subst h; have := hx y hj; omega
  · have hk : S[k]? = some (S[k]'(by have := (List.getElem?_eq_some_iff.1 hj).1; omega)) := List.getElem?_eq_getElem _
    have h1 := hx _ hk
    have h2 := ascX_at ha hk hj h
    omega

set_option maxRecDepth 100000 in
set_option maxHeartbeats 1000000 in
theorem search_id (a : Option Addr) (cap : Nat) (S : List IS) (id : Int) (w : World) (hS : AscX S) (hin : InX w a S) (hl : S.length ≤ 4000000) :
    Calls Tryz.prog 83 #[.slice a S.length cap, .int .i64 id, .func (.func 84) #[] #[]] w fun e w' =>
      e = .returned (.tuple #[.int .i64 (plX S id : Nat), .bool (hasId S id)]) ∧ Below w.heap.size w w' := by
  have HT := Lib.hid hS
  have HIN := Lib.hid hin
  clear hS hin
  go_enter Tryz.func83, Tryz.ntmps83
  go_wp2
  go_loopw [9, 10] (fun s9 s10 wr => ∃ lo hi : Nat, s9 = .int .i64 lo ∧ s10 = .int .i64 hi ∧ lo ≤ hi ∧ hi ≤ S.length ∧ (∀ (j : Nat) (y : IS), j < lo → S[j]? = some y → y.1 < id) ∧ (∀ (j : Nat) (y : IS), hi ≤ j → S[j]? = some y → id ≤ y.1) ∧ Below w.heap.size w wr) (fun s9 s10 _ => (intOf s10).toNat - (intOf s9).toNat)
  case atStart => exact ⟨0, S.length, rfl, rfl, Nat.zero_le _, Nat.le_refl _, fun j y hj => absurd hj (Nat.not_lt_zero _), fun j y hj hy => absurd (List.getElem?_eq_some_iff.1 hy).1 (by omega), Below.refl _ _⟩
  case round =>
    obtain ⟨lo, hi, rfl, rfl, hlh, hin2, hlow, hhigh, hb⟩ := hrel
    have HLO := Lib.hid hlow
    have HHI := Lib.hid hhigh
    have HB := Lib.hid hb
    clear hlow hhigh hb
    by_cases hlt : lo < hi
    · obtain ⟨m, hm⟩ : ∃ m, (lo + hi) / 2 = m := ⟨_, rfl⟩
      have hml : m < S.length := by omega
      obtain ⟨b, off, rfl, hbw, hc⟩ := HIN.out (by omega)
      have hx := List.getElem?_eq_getElem hml
      obtain ⟨a', c', p0, p1, _⟩ := hc m _ hx
      have HX1 := Lib.hid hx
      have c0 : wr.cell? ⟨b, off + m * 2, none⟩ = some (.int .i64 S[m].1) := by rw [HB.out.cell (p := ⟨b, off + m * 2, none⟩) hbw]; exact p0
      have c1 : wr.cell? ⟨b, off + m * 2 + 1, none⟩ = some (.slice a' S[m].2.length c') := by rw [HB.out.cell (p := ⟨b, off + m * 2 + 1, none⟩) hbw]; exact p1
      generalize S[m] = x at c0 c1 HX1
      rw [← hm] at c0 c1
      obtain ⟨r, hr⟩ : ∃ r, cmpI x.1 id = r := ⟨_, rfl⟩
      have HR := Lib.hid hr
      have HM := Lib.hid hm
      by_cases hx : x.1 < id
      · have hneg : r < 0 := by rw [← hr]; exact cmpI_neg hx
        have HX := Lib.hid hx
        generalize x.2.length = xl at c1
        clear p0 p1 hc hr hbw hx hm
        go_wp2_with (go_at_call 84; (refine (cmp_id x.1 id r a' xl c' _ HR.out).mono ?_); rintro e w1 ⟨rfl, hb1⟩; have HB1 := Lib.hid hb1; clear hb1)
        go_roundw
        case rel =>
          have hm := HM.out
          refine ⟨m + 1, hi, by rw [show ((lo : Int) + (hi : Int)) / 2 + 1 = ((m + 1 : Nat) : Int) by omega], rfl, by omega, hin2, fun j y hj hy => ?_, HHI.out, HB.out.trans (HB1.out.mono HB.out.size)⟩
          by_cases e : j = m
          · subst e
            rw [HX1.out] at hy
            rw [← Option.some.inj hy]
            exact HX.out
          · exact Int.lt_trans (ascX_at HT.out hy HX1.out (by omega)) HX.out
        case measure => have hm := HM.out; simp [intOf]; omega
      · have hneg : ¬ r < 0 := by rw [← hr]; exact cmpI_not hx
        have HX := Lib.hid (show id ≤ x.1 by omega)
        generalize x.2.length = xl at c1
        clear p0 p1 hc hr hbw hx hm
        go_wp2_with (go_at_call 84; (refine (cmp_id x.1 id r a' xl c' _ HR.out).mono ?_); rintro e w1 ⟨rfl, hb1⟩; have HB1 := Lib.hid hb1; clear hb1)
        go_roundw
        case rel =>
          have hm := HM.out
          refine ⟨lo, m, rfl, by rw [show ((lo : Int) + (hi : Int)) / 2 = (m : Int) by omega], by omega, by omega, HLO.out, fun j y hj hy => ?_, HB.out.trans (HB1.out.mono HB.out.size)⟩
          by_cases e : j = m
          · subst e
            rw [HX1.out] at hy
            rw [← Option.some.inj hy]
            exact HX.out
          · have h1 := ascX_at HT.out HX1.out hy (by omega)
            have h2 := HX.out
            omega
        case measure => have hm := HM.out; simp [intOf]; omega
    · obtain rfl : hi = lo := by omega
      have HPL := Lib.hid (show plX S id = hi from pl_at HLO.out hin2 fun x hx => by have := HHI.out hi x (Nat.le_refl _) hx; omega)
      by_cases hn : hi < S.length
      · obtain ⟨b, off, rfl, hbw, hc⟩ := HIN.out (by omega)
        have hx := List.getElem?_eq_getElem hn
        obtain ⟨a', c', p0, p1, _⟩ := hc hi _ hx
        have HX1 := Lib.hid hx
        have c0 : wr.cell? ⟨b, off + hi * 2, none⟩ = some (.int .i64 S[hi].1) := by rw [HB.out.cell (p := ⟨b, off + hi * 2, none⟩) hbw]; exact p0
        have c1 : wr.cell? ⟨b, off + hi * 2 + 1, none⟩ = some (.slice a' S[hi].2.length c') := by rw [HB.out.cell (p := ⟨b, off + hi * 2 + 1, none⟩) hbw]; exact p1
        generalize S[hi] = x at c0 c1 HX1
        obtain ⟨r, hr⟩ : ∃ r, cmpI x.1 id = r := ⟨_, rfl⟩
        have HR := Lib.hid hr
        generalize x.2.length = xl at c1
        clear hx p0 p1 hc hr hbw
        by_cases hr0 : r = 0
        · have HR0 := Lib.hid hr0
          go_wp2_with (go_at_call 84; (refine (cmp_id x.1 id r a' xl c' _ HR.out).mono ?_); rintro e w1 ⟨rfl, hb1⟩; have HB1 := Lib.hid hb1; clear hb1)
          go_ret2
          have h := HR.out
          rw [HR0.out] at h
          rw [HPL.out, hasid_yes HX1.out (cmpI_zero.1 h)]
          exact ⟨by simp, HB.out.trans (HB1.out.mono HB.out.size)⟩
        · have HR0 := Lib.hid hr0
          go_wp2_with (go_at_call 84; (refine (cmp_id x.1 id r a' xl c' _ HR.out).mono ?_); rintro e w1 ⟨rfl, hb1⟩; have HB1 := Lib.hid hb1; clear hb1)
          go_ret2
          have h1 : hasId S id = false := hasid_at HT.out HLO.out fun y hy => by
            have h2 := HHI.out hi y (Nat.le_refl _) hy
            rw [HX1.out] at hy
            obtain rfl := Option.some.inj hy
            have h3 : x.1 ≠ id := fun e => HR0.out (by rw [← HR.out]; exact cmpI_zero.2 e)
            omega
          rw [HPL.out, h1]
          exact ⟨by simp [HR0.out], HB.out.trans (HB1.out.mono HB.out.size)⟩
      · go_wp2
        go_ret2
        have h1 : hasId S id = false := hasid_at HT.out HLO.out fun y hy => absurd (List.getElem?_eq_some_iff.1 hy).1 hn
        rw [HPL.out, h1]
        exact ⟨by simp, HB.out⟩

set_option maxRecDepth 100000 in
theorem place_any (t : Int) (ta : Option Addr) (tn tc : Nat) (xa : Option Addr) (xc : Nat) (S : List IS) (id : Int) (w : World) (hS : AscX S) (hin : InX w xa S) (hl : S.length ≤ 4000000) :
    Calls Tryz.prog 45 #[.agg #[.int .i64 t, .slice ta tn tc, .slice xa S.length xc], .int .i64 id] w fun e w' =>
      e = .returned (.tuple #[.int .i64 (plX S id : Nat), .bool (hasId S id)]) ∧ Below w.heap.size w w' := by
  have HB0 := Lib.hid ((Below.refl w.heap.size w).alloc (Nat.le_refl _) (.cells #[.int .i64 t, .slice ta tn tc, .slice xa S.length xc] 27))
  have HC := Lib.hid (fun (W : World) (hW : Below w.heap.size w W) => search_id xa xc S id W hS (hin.below hW) hl)
  clear hS hin
  go_enter Tryz.func45, Tryz.ntmps45
  go_wp2_with (go_at_call 83; (refine (HC.out _ HB0.out).mono ?_); rintro e w1 ⟨rfl, hb1⟩; have HB1 := Lib.hid hb1; clear hb1)
  go_ret2
  exact ⟨by simp, HB0.out.trans (HB1.out.mono HB0.out.size)⟩

end Go.Proofs.YthjbekgognfiiaaGreat
