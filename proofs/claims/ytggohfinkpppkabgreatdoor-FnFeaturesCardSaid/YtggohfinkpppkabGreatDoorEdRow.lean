/-
  What impl.beginExchanged answers and what impl.fillEditRow leaves. By an AI agent.
-/
import Derived.Test.YtggohfinkpppkabGreatDoorEdBlk
import Derived.Test.YtggohfinkpppkabGreatDoorApply
import Derived.StillTailTactics
import Derived.Deep.DeepCutAuto
import Derived.IntWalk
import Derived.BigQuiet
import Derived.Deep.QuietTactic
namespace Go.Proofs.YtggohfinkpppkabGreatDoor
open Go.RowKit
set_option linter.unusedVariables false

theorem min3_val (x1 x2 x3 : Nat) (h : x1 ≤ 1000) : IntKind.i64.wrap (1 + (if (x3 : Int) < (if x2 < x1 then (x2 : Int) else (x1 : Int)) then (x3 : Int) else (if x2 < x1 then (x2 : Int) else (x1 : Int)))) = ((1 + min (min x1 x2) x3 : Nat) : Int) := by
  by_cases c : x2 < x1
  · rw [if_pos c]
    by_cases d : x3 < x2
    · rw [if_pos (by omega), IntWalk.i64_in _ (by omega)]; omega
    · rw [if_neg (by omega), IntWalk.i64_in _ (by omega)]; omega
  · rw [if_neg c]
    by_cases d : x3 < x1
    · rw [if_pos (by omega), IntWalk.i64_in _ (by omega)]; omega
    · rw [if_neg (by omega), IntWalk.i64_in _ (by omega)]; omega
theorem min3i_val (x1 x2 x3 : Nat) : (if (x3 : Int) < (if x2 < x1 then (x2 : Int) else (x1 : Int)) then (x3 : Int) else (if x2 < x1 then (x2 : Int) else (x1 : Int))) = ((min (min x1 x2) x3 : Nat) : Int) := by
  by_cases c : x2 < x1
  · rw [if_pos c]
    by_cases d : x3 < x2
    · rw [if_pos (by omega)]; omega
    · rw [if_neg (by omega)]; omega
  · rw [if_neg c]
    by_cases d : x3 < x1
    · rw [if_pos (by omega)]; omega
    · rw [if_neg (by omega)]; omega
theorem min2_val (x y : Nat) : (if (y : Int) < (x : Int) then (y : Int) else (x : Int)) = ((min x y : Nat) : Int) := by
  by_cases c : y < x
  · rw [if_pos (by omega)]; omega
  · rw [if_neg (by omega)]; omega

theorem min2b_val (x y : Nat) : (if 1 + (y : Int) < (x : Int) then 1 + (y : Int) else (x : Int)) = ((min x (1 + y) : Nat) : Int) := by
  by_cases c : 1 + y < x
  · rw [if_pos (by omega)]; omega
  · rw [if_neg (by omega)]; omega

def XchL (A B : List UInt8) : Prop := ∃ x y A' B', A = x :: y :: A' ∧ B = y :: x :: B'
/-- the cost where the byte is kept or edited -/
def mvL (x y : UInt8) (x1 x2 x3 : Nat) : Nat := if x = y then x1 else 1 + min (min x1 x2) x3

theorem xchL_iff (x y : UInt8) (A B : List UInt8) : XchL (x :: A) (y :: B) ↔ A.head? = some y ∧ B.head? = some x := by
  constructor
  · rintro ⟨x', y', A', B', e1, e2⟩
    cases e1; cases e2
    exact ⟨rfl, rfl⟩
  · rintro ⟨h1, h2⟩
    exact ⟨x, y, A.tail, B.tail, by rw [← head_tail h1], by rw [← head_tail h2]⟩
theorem lev_no {sw : Bool} {x y : UInt8} {A B : List UInt8} (h : ¬ (sw = true ∧ XchL (x :: A) (y :: B))) : lev sw (x :: A) (y :: B) = mvL x y (lev sw A B) (lev sw A (y :: B)) (lev sw (x :: A) B) := by
  rw [lev_cons, if_neg (fun e => h ⟨e.1, (xchL_iff x y A B).2 e.2⟩)]
  rfl
theorem lev_yes {sw : Bool} {x y : UInt8} {A B : List UInt8} (h1 : sw = true) (h : XchL (x :: A) (y :: B)) : lev sw (x :: A) (y :: B) = min (mvL x y (lev sw A B) (lev sw A (y :: B)) (lev sw (x :: A) B)) (1 + lev sw A.tail B.tail) := by
  rw [lev_cons, if_pos ⟨h1, (xchL_iff x y A B).1 h⟩]
  rfl

/-- do the strings begin with two bytes exchanged -/
def Xch (a b : ByteArray) : Prop := ∃ (h1 : 1 < a.size) (h2 : 1 < b.size), a[0] = b[1] ∧ a[1] = b[0]

theorem u8_eq {x y : UInt8} (h : x.toNat = y.toNat) : x = y := UInt8.toNat_inj.1 h

theorem xch_iff (a b : ByteArray) : Xch a b ↔ XchL a.data.toList b.data.toList := by
  constructor
  · rintro ⟨h1, h2, e1, e2⟩
    refine ⟨a[0], a[1], a.data.toList.drop 2, b.data.toList.drop 2, ?_, ?_⟩
    · rw [← ba_at a 1 h1, ← ba_cons a (by omega)]
    · rw [e1, e2, ← ba_at b 1 h2, ← ba_cons b (by omega)]
  · rintro ⟨x, y, A', B', e1, e2⟩
    have h1 : 1 < a.size := by rw [← ba_len, e1]; simp
    have h2 : 1 < b.size := by rw [← ba_len, e2]; simp
    rw [ba_cons a (by omega), ba_at a 1 h1] at e1
    rw [ba_cons b (by omega), ba_at b 1 h2] at e2
    injection e1 with f1 f2
    injection f2 with f2 f3
    injection e2 with g1 g2
    injection g2 with g2 g3
    exact ⟨h1, h2, by rw [f1, g2], by rw [f2, g1]⟩

set_option maxRecDepth 100000 in
set_option maxHeartbeats 400000 in
theorem bx_any (a b : ByteArray) (w : World) (ha : a.size ≤ 1048576) (hb : b.size ≤ 1048576) (v : Bool) (hv : v = true ↔ XchL a.data.toList b.data.toList) :
    Calls Tryz.prog 158 #[.string a, .string b] w fun e w' => e = .returned (.bool v) ∧ ∃ n, w' = w.drewN n := by
  have HV := Lib.hid (hv.trans (xch_iff a b).symm)
  clear hv
  by_cases h1 : 1 < a.size
  · have d1 : decide (1 < (a.size : Int)) = true := by simp; omega
    have h10 : 0 < a.size := by omega
    have h11 : (1 : Int) < (a.size : Int) := by omega
    have h12 : (1 : Int).toNat < a.size := by omega
    have hx0 := a[0].toNat_lt
    have hx1 := a[1].toNat_lt
    by_cases h2 : 1 < b.size
    · have d2 : decide (1 < (b.size : Int)) = true := by simp; omega
      have h20 : 0 < b.size := by omega
      have h21 : (1 : Int) < (b.size : Int) := by omega
      have h22 : (1 : Int).toNat < b.size := by omega
      have hy0 := b[0].toNat_lt
      have hy1 := b[1].toNat_lt
      by_cases h3 : a[0].toNat = b[1].toNat
      · have d3 : ((a[0].toNat : Int) == (b[1].toNat : Int)) = true := by simp; omega
        by_cases h4 : a[1].toNat = b[0].toNat
        · have d4 : ((a[1].toNat : Int) == (b[0].toNat : Int)) = true := by simp; omega
          obtain rfl : true = v := (HV.out.2 ⟨h1, h2, u8_eq h3, u8_eq h4⟩).symm
          clear h3 h4
          go_enter Tryz.func158, Tryz.ntmps158
          go_wp2
          go_quiet (fail)
          go_wp2
          go_ret
          exact ⟨rfl, _, rfl⟩
        · have d4 : ((a[1].toNat : Int) == (b[0].toNat : Int)) = false := by simp; omega
          obtain rfl : false = v := by
            cases v with
            | false => rfl
            | true => obtain ⟨_, _, _, e⟩ := HV.out.1 rfl; exact absurd (by rw [e]) h4
          clear h3 h4
          go_enter Tryz.func158, Tryz.ntmps158
          go_wp2
          go_quiet (fail)
          go_wp2
          go_ret
          exact ⟨rfl, _, rfl⟩
      · have d3 : ((a[0].toNat : Int) == (b[1].toNat : Int)) = false := by simp; omega
        obtain rfl : false = v := by
          cases v with
          | false => rfl
          | true => obtain ⟨_, _, e, _⟩ := HV.out.1 rfl; exact absurd (by rw [e]) h3
        clear h3
        go_enter Tryz.func158, Tryz.ntmps158
        go_wp2
        go_quiet (fail)
        go_wp2
        go_ret
        exact ⟨rfl, _, rfl⟩
    · have d2 : decide (1 < (b.size : Int)) = false := by simp; omega
      obtain rfl : false = v := by
        cases v with
        | false => rfl
        | true => obtain ⟨_, e, _, _⟩ := HV.out.1 rfl; exact absurd e h2
      go_enter Tryz.func158, Tryz.ntmps158
      go_wp2
      go_quiet (fail)
      go_wp2
      go_ret
      exact ⟨rfl, _, rfl⟩
  · have d1 : decide (1 < (a.size : Int)) = false := by simp; omega
    obtain rfl : false = v := by
      cases v with
      | false => rfl
      | true => obtain ⟨e, _, _, _⟩ := HV.out.1 rfl; exact absurd e h1
    go_enter Tryz.func158, Tryz.ntmps158
    go_wp2
    go_quiet (fail)
    go_wp2
    go_ret
    exact ⟨rfl, _, rfl⟩

theorem addr_add (g o q : Nat) : (⟨g, o, none⟩ : Addr).add q = ⟨g, o + q, none⟩ := by unfold Addr.add; split <;> simp_all
theorem info_int : (Tryz.prog.info? 3).map (fun i => (i.zero, i.size, i.bytes)) = some (some (.int .i64 0), 1, 8) := by kernel_rfl
theorem size_int : (Tryz.prog.info? 3).map (·.size) = some 1 := by kernel_rfl

def FilledRow (sw : Bool) (A B : List UInt8) (cs0 : Array Value) (gc o : Nat) (w : World) (e : Ending) (w' : World) : Prop :=
  e = .returned (.tuple #[]) ∧ ∃ cs, BlkV w' gc 3 cs ∧ FillAt sw A B cs0 cs o 0 ∧ w.grownBy w' (some gc)

/-- the rows that fillEditRow is given -/
def RowsAt (w : World) (gr i gc o W n : Nat) : Prop :=
  w.cell? ⟨gr, i, none⟩ = some (.slice (some ⟨gc, o, none⟩) W W) ∧ w.cell? ⟨gr, i + 1, none⟩ = some (.slice (some ⟨gc, o + W, none⟩) W W) ∧
    (2 < n → w.cell? ⟨gr, i + 2, none⟩ = some (.slice (some ⟨gc, o + 2 * W, none⟩) W W))

theorem RowsAt.grown {w w' : World} {gr i gc o W n : Nat} (h : RowsAt w gr i gc o W n) (hg : w.grownBy w' (some gc)) (hne : gr ≠ gc) : RowsAt w' gr i gc o W n :=
  ⟨hg.cell h.1 (by simp [hne]), hg.cell h.2.1 (by simp [hne]), fun hn => hg.cell (h.2.2 hn) (by simp [hne])⟩

/-- where the loop of fillEditRow is -/
def RowRel (sw : Bool) (A B : List UInt8) (cs0 : Array Value) (gc o : Nat) (w : World) (k : Nat) (wr : World) : Prop :=
  ∃ cs, BlkV wr gc 3 cs ∧ FillAt sw A B cs0 cs o k ∧ w.grownBy wr (some gc)

set_option maxRecDepth 100000 in
set_option maxHeartbeats 1000000 in
theorem fill_row (sw : Bool) (a b : ByteArray) (gr i gc o W n c : Nat) (cs0 : Array Value) (w : World) (ha : 0 < a.size) (ha40 : a.size ≤ 40) (hb40 : b.size ≤ 40) (hn : n = a.size + 1) (hc : n ≤ c) (hi : i ≤ 100)
    (hW : W = b.size + 1) (hcs : cs0.size ≤ 100000) (hne : gr ≠ gc) (hR : RowsAt w gr i gc o W n) (hB : BlkV w gc 3 cs0) (hbel : BelowAt sw a.data.toList b.data.toList cs0 o) :
    Calls Tryz.prog 149 #[.slice (some ⟨gr, i, none⟩) n c, .string a, .string b, .bool sw] w (FilledRow sw a.data.toList b.data.toList cs0 gc o w) := by
  have HR := Lib.hid hR
  have HB := Lib.hid hB
  have HBEL := Lib.hid hbel
  have HNE := Lib.hid hne
  have HN := Lib.hid hn
  have HW := Lib.hid hW
  have hn2 : 2 ≤ n := by omega
  have hblen : b.data.toList.length = b.size := ba_len b
  have halen : a.data.toList.length = a.size := ba_len a
  have hsz : o + 2 * W ≤ cs0.size := by rw [hW, ← hblen]; exact hbel.1
  have HBL := Lib.hid hblen
  have HAL := Lib.hid halen
  have hW1 : b.size + 1 ≤ W := by omega
  have hW2 : W ≤ b.size + 1 := by omega
  obtain ⟨l, cs1, hl1, hl2, hl3, hl4, hl5, hl6⟩ := copied cs0 o W (by omega) hsz
  have c0 : w.cell? ⟨gr, i, none⟩ = some (.slice (some ⟨gc, o, none⟩) W W) := hR.1
  have c1 : w.cell? ⟨gr, i + 1, none⟩ = some (.slice (some ⟨gc, o + W, none⟩) W W) := hR.2.1
  have hF : FillAt sw a.data.toList b.data.toList cs0 (cs1.setIfInBounds (o + b.size) (intC a.size)) o b.size := by
    obtain ⟨b1, b2, b3⟩ := hbel
    rw [hblen] at b1 b2
    refine ⟨by simp [hl4], fun q hq hqB => ?_, fun q hq => ?_, fun p hp => ?_⟩
    · obtain rfl : b.size = q := by omega
      rw [set_at (by rw [hl4]; omega), List.drop_eq_nil_of_le (by omega), lev_nil', halen]
    · rw [set_ne (by omega), hl5 q (by omega), show o + W + (1 + q) = o + (b.size + 1) + (q + 1) by omega]
      exact b2 (q + 1) (by omega)
    · rw [set_ne (by omega), hl6 p (by omega)]
  have hsrc : ∀ q, q < W - 1 → ∃ m, l[q]? = some (intC m) ∧ cs0[o + W + (1 + q)]? = some (intC m) := fun q hq => by
    obtain ⟨b1, b2, b3⟩ := hbel
    rw [hblen] at b1 b2
    have h := b2 (q + 1) (by omega)
    rw [show o + (b.size + 1) + (q + 1) = o + W + (1 + q) by omega] at h
    exact ⟨_, by rw [hl2 q hq, h], h⟩
  have HL1 := Lib.hid hl1
  have HL3 := Lib.hid hl3
  have HSRC := Lib.hid hsrc
  have HF := Lib.hid hF
  have hs1 : cs1.size ≤ 100000 := by omega
  have hs2 : o + 2 * W ≤ cs1.size := by omega
  clear hl1 hl2 hl3 hl4 hl5 hl6 hR hB hbel hne hn hblen halen hsrc hF hW
  by_cases hb0 : 0 < b.size
  · go_enter Tryz.func149, Tryz.ntmps149
    go_wp2
    go_quiet (fail)
    obtain ⟨w2, hrun, hB2, hG2⟩ := run_copied (w.drewN nq) gc o W ⟨gc, o + W + 1, none⟩ cs0 l cs1 (HB.out.n _) HL1.out (by omega) hsz (fun q hq => by
      obtain ⟨m, e1, e2⟩ := HSRC.out q hq
      refine ⟨m, e1, ?_⟩
      rw [addr_add, (HB.out.n _).cell, ← e2]
      congr 1; omega) HL3.out
    have HB2 := Lib.hid hB2
    have HG2 := Lib.hid hG2
    have hcl : ∃ v, w2.cell? ⟨gc, o + b.size, none⟩ = some v := ⟨_, by rw [HB2.out.cell, Array.getElem?_eq_getElem (by omega)]⟩
    obtain ⟨vl, hvl⟩ := hcl
    have hfr : w2.frozen? ⟨gc, o + b.size, none⟩ = false := HB2.out.frozen _
    clear hB2 hG2
    go_wp2
    go_loopw [10] (fun j wr => ∃ k : Nat, k ≤ b.size ∧ j = .int .i64 ((k : Int) - 1) ∧ RowRel sw a.data.toList b.data.toList cs0 gc o w k wr) (fun j _ => (intOf j + 1).toNat)
    case atStart =>
      exact ⟨b.size, Nat.le_refl _, rfl, _, HB2.out.set_ _ _, HF.out, (egrown_n (World.grownBy.refl w _) nq).trans (HG2.out.trans (egrown_set _ _ _ _))⟩
    case round =>
      obtain ⟨k, hk, hj, cs, hbk, hfill, hg⟩ := hrel
      have HBK := Lib.hid hbk
      have HFI := Lib.hid hfill
      have HG := Lib.hid hg
      clear hbk hfill hg
      by_cases h0 : 0 < k
      · obtain ⟨m, rfl⟩ : ∃ m, k = m + 1 := ⟨k - 1, by omega⟩
        rw [show ((m + 1 : Nat) : Int) - 1 = m by omega] at hj
        subst hj
        have hm : m < b.size := by omega
        have hxa := a[0].toNat_lt
        have hyb := b[m].toNat_lt
        have HX := Lib.hid (ba_cons a ha)
        have HY := Lib.hid (ba_at b m hm)
        have HATL := Lib.hid (show a.data.toList.drop 1 = a.data.toList.tail by rw [← List.drop_one])
        have HOP := Lib.hid (HFI.out.opens (by rw [HBL.out]; omega) (by rw [HBL.out]; omega))
        obtain ⟨x1, hx1⟩ : ∃ x, lev sw a.data.toList.tail (b.data.toList.drop (m + 1)) = x := ⟨_, rfl⟩
        obtain ⟨x2, hx2⟩ : ∃ x, lev sw a.data.toList.tail (b.data.toList.drop m) = x := ⟨_, rfl⟩
        obtain ⟨x3, hx3⟩ : ∃ x, lev sw a.data.toList (b.data.toList.drop (m + 1)) = x := ⟨_, rfl⟩
        have hx1b : x1 ≤ 1000 := by
          rw [← hx1]
          refine Nat.le_trans (lev_most _ _ _) ?_
          have e1 := HAL.out
          have e2 := HBL.out
          rw [List.length_tail, List.length_drop, e1, e2]
          omega
        have HX1 := Lib.hid hx1
        have HX2 := Lib.hid hx2
        have HX3 := Lib.hid hx3
        clear hx1 hx2 hx3
        by_cases c : a[0].toNat = b[m].toNat
        · have d : ((a[0].toNat : Int) == (b[m].toNat : Int)) = true := by simp; omega
          have HMV := Lib.hid (show x1 = mvL a[0] b[m] x1 x2 x3 by unfold mvL; rw [if_pos (u8_eq c)])
          clear c
          go_wp2
          go_quiet (fail)
          have HB3 := Lib.hid (HBK.out.n nq)
          have HG3 := Lib.hid (egrown_n HG.out nq)
          have HO3 := Lib.hid (show FillOpen sw a.data.toList b.data.toList cs0 cs o m (mvL a[0] b[m] x1 x2 x3) by
            have h := HOP.out
            rw [HX1.out, HMV.out] at h
            exact h)
          obtain ⟨cs3, HB3, HO3⟩ : ∃ cs3, Hid (BlkV (wr.drewN nq) gc 3 cs3) ∧ Hid (FillOpen sw a.data.toList b.data.toList cs0 cs3 o m (mvL a[0] b[m] x1 x2 x3)) := ⟨cs, HB3, HO3⟩
          generalize wr.drewN nq = w3 at HB3 HG3 ⊢
          clear HMV
          go_upto_region 8 with (fail)
          cases sw
          · have HLV := Lib.hid (show mvL a[0] b[m] x1 x2 x3 = lev false a.data.toList (b.data.toList.drop m) by
              have h := lev_no (sw := false) (x := a[0]) (y := b[m]) (A := a.data.toList.drop 1) (B := b.data.toList.drop (m + 1)) (by simp)
              rw [← HX.out, ← HY.out, HATL.out, HX1.out, HX2.out, HX3.out] at h
              exact h.symm)
            go_wp2
            go_roundw
            case rel => exact ⟨m, by omega, rfl, cs3, HB3.out, HO3.out.shut (by have := HBL.out; omega) HLV.out, HG3.out⟩
            case measure => simp [intOf] <;> omega
          · obtain ⟨v, hv⟩ : ∃ v : Bool, v = true ↔ XchL a.data.toList (b.extract m b.size).data.toList := ⟨@decide (XchL a.data.toList (b.extract m b.size).data.toList) (Classical.propDecidable _), @decide_eq_true_iff _ (Classical.propDecidable _)⟩
            have HV := Lib.hid hv
            have HV2 := Lib.hid (show v = true ↔ XchL (a[0] :: a.data.toList.drop 1) (b[m] :: b.data.toList.drop (m + 1)) by
              rw [hv, ba_tail, ← HX.out, ← HY.out])
            clear hv
            have HES := Lib.hid (ba_esize b m)
            cases v
            · have HLV := Lib.hid (show mvL a[0] b[m] x1 x2 x3 = lev true a.data.toList (b.data.toList.drop m) by
                have h := lev_no (sw := true) (x := a[0]) (y := b[m]) (A := a.data.toList.drop 1) (B := b.data.toList.drop (m + 1)) (fun e => by have := HV2.out.2 e.2; simp at this)
                rw [← HX.out, ← HY.out, HATL.out, HX1.out, HX2.out, HX3.out] at h
                exact h.symm)
              go_wp2_with (go_at_call 158; ((with_reducible refine (bx_any _ _ _ ?_ ?_ _ HV.out).mono ?_); (omega); (have := HES.out; omega); rintro e w4 ⟨rfl, nz, hw4⟩; have HB4 := Lib.hid (show BlkV w4 gc 3 cs3 by rw [hw4]; exact HB3.out.n _); have HG4 := Lib.hid (show w.grownBy w4 (some gc) by rw [hw4]; exact egrown_n HG3.out _); clear hw4))
              go_roundw
              case rel => exact ⟨m, by omega, rfl, cs3, HB4.out, HO3.out.shut (by have := HBL.out; omega) HLV.out, HG4.out⟩
              case measure => simp [intOf] <;> omega
            · obtain ⟨q1, q2⟩ : 1 < a.size ∧ m + 1 < b.size := by
                obtain ⟨q1, q2, _, _⟩ := (xch_iff a (b.extract m b.size)).2 (HV.out.1 rfl)
                exact ⟨q1, by rw [ba_esize] at q2; omega⟩
              obtain ⟨x4, hx4⟩ : ∃ x, lev true a.data.toList.tail.tail (b.data.toList.drop (m + 2)) = x := ⟨_, rfl⟩
              have hx4b : x4 ≤ 1000 := by
                rw [← hx4]
                refine Nat.le_trans (lev_most _ _ _) ?_
                have e1 := HAL.out
                have e2 := HBL.out
                rw [List.length_tail, List.length_tail, List.length_drop, e1, e2]
                omega
              have HX4 := Lib.hid hx4
              clear hx4
              have HLV := Lib.hid (show min (mvL a[0] b[m] x1 x2 x3) (1 + x4) = lev true a.data.toList (b.data.toList.drop m) by
                have h := lev_yes (sw := true) (x := a[0]) (y := b[m]) (A := a.data.toList.drop 1) (B := b.data.toList.drop (m + 1)) rfl (HV2.out.1 rfl)
                rw [← HX.out, ← HY.out, HATL.out, HX1.out, HX2.out, HX3.out, List.tail_drop, HX4.out] at h
                exact h.symm)
              go_wp2_with (go_at_call 158; ((with_reducible refine (bx_any _ _ _ ?_ ?_ _ HV.out).mono ?_); (omega); (have := HES.out; omega); rintro e w4 ⟨rfl, nz, hw4⟩; have HB4 := Lib.hid (show BlkV w4 gc 3 cs3 by rw [hw4]; exact HB3.out.n _); have HG4 := Lib.hid (show w.grownBy w4 (some gc) by rw [hw4]; exact egrown_n HG3.out _); clear hw4))
              have k1 : w4.cell? ⟨gc, o + m, none⟩ = some (.int .i64 ((mvL a[0] b[m] x1 x2 x3 : Nat) : Int)) := by rw [HB4.out.cell]; exact HO3.out.2.2
              have k2 : w4.cell? ⟨gr, i + 2, none⟩ = some (.slice (some ⟨gc, o + 2 * W, none⟩) W W) := (HR.out.grown HG4.out HNE.out).2.2 (by have := HN.out; omega)
              have k3 : w4.cell? ⟨gc, o + 2 * W + (m + 2), none⟩ = some (.int .i64 x4) := by
                rw [HB4.out.cell, HO3.out.far (by have := HBL.out; omega) (by have := HBL.out; omega), ← HX4.out, HW.out]
                have h := (HBEL.out.2.2 (by have := HAL.out; omega)).2 (m + 2) (by have := HBL.out; omega)
                rw [HBL.out] at h
                exact h
              have hmW : m < W := by omega
              have hmW2 : m + 2 < W := by omega
              have hmI : (m : Int) < (W : Int) := by omega
              have hmI2 : (m : Int) + 2 < (W : Int) := by omega
              have hm0 : 0 ≤ (m : Int) + 2 := by omega
              have hn3 : 2 < n := by have := HN.out; omega
              have hn4 : (2 : Int) < (n : Int) := by omega
              have hmw : IntKind.i64.wrap ((m : Int) + 2) = (m : Int) + 2 := IntWalk.i64_in _ (by omega)
              have hmt : ((m : Int) + 2).toNat = m + 2 := by omega
              have hxw : IntKind.i64.wrap (1 + (x4 : Int)) = 1 + (x4 : Int) := IntWalk.i64_in _ (by omega)
              go_still_tail 16, (by kernel_rfl)
              rw [min2b_val]
              have HB5 := Lib.hid (show BlkV w4.drew gc 3 cs3 from HB4.out)
              have HG5 := Lib.hid (show w.grownBy w4.drew (some gc) from ⟨HG4.out.os, HG4.out.tape, HG4.out.output, HG4.out.size, HG4.out.block⟩)
              change wpList _ _ _ _ _ w4.drew
              generalize w4.drew = wb at HB5 HG5 ⊢
              clear k1 k2 k3 hmw hmt hxw
              have hwm : wb.cell? ⟨gc, o + m, none⟩ = some (intC (mvL a[0] b[m] x1 x2 x3)) := by rw [HB5.out.cell]; exact HO3.out.2.2
              have hfr2 : wb.frozen? ⟨gc, o + m, none⟩ = false := HB5.out.frozen _
              go_wp2
              go_roundw
              case rel =>
                exact ⟨m, by omega, rfl, _, HB5.out.set_ (o + m) _, (HO3.out.set (by have := HBL.out; omega) (u := .int .i64 ((min (mvL a[0] b[m] x1 x2 x3) (1 + x4) : Nat) : Int)) rfl).shut (by have := HBL.out; omega) HLV.out, HG5.out.trans (egrown_set wb gc (o + m) _)⟩
              case measure => simp [intOf] <;> omega
        · have d : ((a[0].toNat : Int) == (b[m].toNat : Int)) = false := by simp; omega
          have HMV := Lib.hid (show 1 + min (min x1 x2) x3 = mvL a[0] b[m] x1 x2 x3 by unfold mvL; rw [if_neg (fun e => c (by rw [e]))])
          clear c
          go_wp2
          go_quiet (fail)
          have HBA := Lib.hid (HBK.out.n nq)
          have HGA := Lib.hid (egrown_n HG.out nq)
          generalize wr.drewN nq = wa at HBA HGA ⊢
          have hw1 : wa.cell? ⟨gc, o + m, none⟩ = some (.int .i64 x1) := by rw [HBA.out.cell, ← HX1.out]; exact HFI.out.2.2.1 m (by omega)
          have hw2 : wa.cell? ⟨gc, o + W + m, none⟩ = some (.int .i64 x2) := by
            rw [HBA.out.cell, HW.out, ← HX2.out]
            have h := (HBEL.out.fill HFI.out).2.1 m (by rw [HBL.out]; omega)
            rw [HBL.out] at h
            exact h
          have hw3 : wa.cell? ⟨gc, o + (m + 1), none⟩ = some (.int .i64 x3) := by rw [HBA.out.cell, ← HX3.out]; exact HFI.out.2.1 (m + 1) (by omega) (by rw [HBL.out]; omega)
          go_wp2
          have hmW : m < W := by omega
          have hmW1 : m + 1 < W := by omega
          have hmI : (m : Int) < (W : Int) := by omega
          have hmI1 : (m : Int) + 1 < (W : Int) := by omega
          have hm0 : 0 ≤ (m : Int) + 1 := by omega
          have hmw : IntKind.i64.wrap ((m : Int) + 1) = (m : Int) + 1 := IntWalk.i64_in _ (by omega)
          have hmt : ((m : Int) + 1).toNat = m + 1 := by omega
          go_still_tail 18, (by kernel_rfl)
          rw [min3_val x1 x2 x3 hx1b, min3i_val x1 x2 x3, HMV.out]
          have HB2 := Lib.hid (show BlkV wa.drew gc 3 cs from HBA.out)
          have HG2 := Lib.hid (show w.grownBy wa.drew (some gc) from ⟨HGA.out.os, HGA.out.tape, HGA.out.output, HGA.out.size, HGA.out.block⟩)
          change wpList _ _ _ _ _ wa.drew
          generalize wa.drew = wb at HB2 HG2 ⊢
          clear hw1 hw2 hw3 hmw hmt
          have hwm : wb.cell? ⟨gc, o + m, none⟩ = some (intC x1) := by rw [HB2.out.cell, ← HX1.out]; exact HFI.out.2.2.1 m (by omega)
          have hfr2 : wb.frozen? ⟨gc, o + m, none⟩ = false := HB2.out.frozen _
          have HB3 := Lib.hid (HB2.out.set_ (o + m) (.int .i64 ((mvL a[0] b[m] x1 x2 x3 : Nat) : Int)))
          have HG3 := Lib.hid (HG2.out.trans (egrown_set wb gc (o + m) (.int .i64 ((mvL a[0] b[m] x1 x2 x3 : Nat) : Int))))
          have HO3 := Lib.hid (HOP.out.set (by have := HBL.out; omega) (u := .int .i64 ((mvL a[0] b[m] x1 x2 x3 : Nat) : Int)) rfl)
          go_upto_region 8 with (fail)
          obtain ⟨cs3, HB3, HO3⟩ : ∃ cs3, Hid (BlkV (wb.setCell ⟨gc, o + m, none⟩ (.int .i64 ((mvL a[0] b[m] x1 x2 x3 : Nat) : Int))) gc 3 cs3) ∧ Hid (FillOpen sw a.data.toList b.data.toList cs0 cs3 o m (mvL a[0] b[m] x1 x2 x3)) := ⟨_, HB3, HO3⟩
          generalize wb.setCell ⟨gc, o + m, none⟩ (.int .i64 ((mvL a[0] b[m] x1 x2 x3 : Nat) : Int)) = w3 at HB3 HG3 ⊢
          clear hwm hfr2
          cases sw
          · have HLV := Lib.hid (show mvL a[0] b[m] x1 x2 x3 = lev false a.data.toList (b.data.toList.drop m) by
              have h := lev_no (sw := false) (x := a[0]) (y := b[m]) (A := a.data.toList.drop 1) (B := b.data.toList.drop (m + 1)) (by simp)
              rw [← HX.out, ← HY.out, HATL.out, HX1.out, HX2.out, HX3.out] at h
              exact h.symm)
            go_wp2
            go_roundw
            case rel => exact ⟨m, by omega, rfl, cs3, HB3.out, HO3.out.shut (by have := HBL.out; omega) HLV.out, HG3.out⟩
            case measure => simp [intOf] <;> omega
          · obtain ⟨v, hv⟩ : ∃ v : Bool, v = true ↔ XchL a.data.toList (b.extract m b.size).data.toList := ⟨@decide (XchL a.data.toList (b.extract m b.size).data.toList) (Classical.propDecidable _), @decide_eq_true_iff _ (Classical.propDecidable _)⟩
            have HV := Lib.hid hv
            have HV2 := Lib.hid (show v = true ↔ XchL (a[0] :: a.data.toList.drop 1) (b[m] :: b.data.toList.drop (m + 1)) by
              rw [hv, ba_tail, ← HX.out, ← HY.out])
            clear hv
            have HES := Lib.hid (ba_esize b m)
            cases v
            · have HLV := Lib.hid (show mvL a[0] b[m] x1 x2 x3 = lev true a.data.toList (b.data.toList.drop m) by
                have h := lev_no (sw := true) (x := a[0]) (y := b[m]) (A := a.data.toList.drop 1) (B := b.data.toList.drop (m + 1)) (fun e => by have := HV2.out.2 e.2; simp at this)
                rw [← HX.out, ← HY.out, HATL.out, HX1.out, HX2.out, HX3.out] at h
                exact h.symm)
              go_wp2_with (go_at_call 158; ((with_reducible refine (bx_any _ _ _ ?_ ?_ _ HV.out).mono ?_); (omega); (have := HES.out; omega); rintro e w4 ⟨rfl, nz, hw4⟩; have HB4 := Lib.hid (show BlkV w4 gc 3 cs3 by rw [hw4]; exact HB3.out.n _); have HG4 := Lib.hid (show w.grownBy w4 (some gc) by rw [hw4]; exact egrown_n HG3.out _); clear hw4))
              go_roundw
              case rel => exact ⟨m, by omega, rfl, cs3, HB4.out, HO3.out.shut (by have := HBL.out; omega) HLV.out, HG4.out⟩
              case measure => simp [intOf] <;> omega
            · obtain ⟨q1, q2⟩ : 1 < a.size ∧ m + 1 < b.size := by
                obtain ⟨q1, q2, _, _⟩ := (xch_iff a (b.extract m b.size)).2 (HV.out.1 rfl)
                exact ⟨q1, by rw [ba_esize] at q2; omega⟩
              obtain ⟨x4, hx4⟩ : ∃ x, lev true a.data.toList.tail.tail (b.data.toList.drop (m + 2)) = x := ⟨_, rfl⟩
              have hx4b : x4 ≤ 1000 := by
                rw [← hx4]
                refine Nat.le_trans (lev_most _ _ _) ?_
                have e1 := HAL.out
                have e2 := HBL.out
                rw [List.length_tail, List.length_tail, List.length_drop, e1, e2]
                omega
              have HX4 := Lib.hid hx4
              clear hx4
              have HLV := Lib.hid (show min (mvL a[0] b[m] x1 x2 x3) (1 + x4) = lev true a.data.toList (b.data.toList.drop m) by
                have h := lev_yes (sw := true) (x := a[0]) (y := b[m]) (A := a.data.toList.drop 1) (B := b.data.toList.drop (m + 1)) rfl (HV2.out.1 rfl)
                rw [← HX.out, ← HY.out, HATL.out, HX1.out, HX2.out, HX3.out, List.tail_drop, HX4.out] at h
                exact h.symm)
              go_wp2_with (go_at_call 158; ((with_reducible refine (bx_any _ _ _ ?_ ?_ _ HV.out).mono ?_); (omega); (have := HES.out; omega); rintro e w4 ⟨rfl, nz, hw4⟩; have HB4 := Lib.hid (show BlkV w4 gc 3 cs3 by rw [hw4]; exact HB3.out.n _); have HG4 := Lib.hid (show w.grownBy w4 (some gc) by rw [hw4]; exact egrown_n HG3.out _); clear hw4))
              have k1 : w4.cell? ⟨gc, o + m, none⟩ = some (.int .i64 ((mvL a[0] b[m] x1 x2 x3 : Nat) : Int)) := by rw [HB4.out.cell]; exact HO3.out.2.2
              have k2 : w4.cell? ⟨gr, i + 2, none⟩ = some (.slice (some ⟨gc, o + 2 * W, none⟩) W W) := (HR.out.grown HG4.out HNE.out).2.2 (by have := HN.out; omega)
              have k3 : w4.cell? ⟨gc, o + 2 * W + (m + 2), none⟩ = some (.int .i64 x4) := by
                rw [HB4.out.cell, HO3.out.far (by have := HBL.out; omega) (by have := HBL.out; omega), ← HX4.out, HW.out]
                have h := (HBEL.out.2.2 (by have := HAL.out; omega)).2 (m + 2) (by have := HBL.out; omega)
                rw [HBL.out] at h
                exact h
              have hmW : m < W := by omega
              have hmW2 : m + 2 < W := by omega
              have hmI : (m : Int) < (W : Int) := by omega
              have hmI2 : (m : Int) + 2 < (W : Int) := by omega
              have hm0 : 0 ≤ (m : Int) + 2 := by omega
              have hn3 : 2 < n := by have := HN.out; omega
              have hn4 : (2 : Int) < (n : Int) := by omega
              have hmw : IntKind.i64.wrap ((m : Int) + 2) = (m : Int) + 2 := IntWalk.i64_in _ (by omega)
              have hmt : ((m : Int) + 2).toNat = m + 2 := by omega
              have hxw : IntKind.i64.wrap (1 + (x4 : Int)) = 1 + (x4 : Int) := IntWalk.i64_in _ (by omega)
              go_still_tail 16, (by kernel_rfl)
              rw [min2b_val]
              have HB5 := Lib.hid (show BlkV w4.drew gc 3 cs3 from HB4.out)
              have HG5 := Lib.hid (show w.grownBy w4.drew (some gc) from ⟨HG4.out.os, HG4.out.tape, HG4.out.output, HG4.out.size, HG4.out.block⟩)
              change wpList _ _ _ _ _ w4.drew
              generalize w4.drew = wb at HB5 HG5 ⊢
              clear k1 k2 k3 hmw hmt hxw
              have hwm : wb.cell? ⟨gc, o + m, none⟩ = some (intC (mvL a[0] b[m] x1 x2 x3)) := by rw [HB5.out.cell]; exact HO3.out.2.2
              have hfr2 : wb.frozen? ⟨gc, o + m, none⟩ = false := HB5.out.frozen _
              go_wp2
              go_roundw
              case rel =>
                exact ⟨m, by omega, rfl, _, HB5.out.set_ (o + m) _, (HO3.out.set (by have := HBL.out; omega) (u := .int .i64 ((min (mvL a[0] b[m] x1 x2 x3) (1 + x4) : Nat) : Int)) rfl).shut (by have := HBL.out; omega) HLV.out, HG5.out.trans (egrown_set wb gc (o + m) _)⟩
              case measure => simp [intOf] <;> omega
      · obtain rfl : k = 0 := by omega
        subst hj
        go_wp2
        go_end0
        exact ⟨rfl, cs, HBK.out, HFI.out, HG.out⟩
  · have hs0 : b.size = 0 := by omega
    obtain rfl : W = 1 := by omega
    have hw0 : l = [] := List.eq_nil_of_length_eq_zero HL1.out
    have hc1 : cs1 = cs0 := by rw [HL3.out, hw0]; simp
    subst hc1
    rw [hs0] at HF
    have HF0 := Lib.hid HF.out
    have hrun : ∀ k, (Builtin.copy_ #[29, 29] 3 #[.slice (some ⟨gc, o, none⟩) 1 1, .slice (some ⟨gc, o + 1, none⟩) 0 0]).run Tryz.prog (w.drewN k) = .ok (goInt 0) (w.drewN k) := fun k => by
      obtain ⟨w2, h1, h2, h3⟩ := run_copied (w.drewN k) gc o 1 ⟨gc, o + 1, none⟩ cs1 [] cs1 (HB.out.n _) rfl (by omega) hsz (fun q hq => by omega) (by simp)
      have h4 := run_copy_row Tryz.prog (w.drewN k) 29 29 3 3 gc o 1 1 ⟨gc, o + 1, none⟩ 0 0 cs1 3 [] Tryz.underlying29 (by kernel_rfl) (HB.out.n _) rfl (by simp) (by simp; omega) (by simp)
      simp only [List.append_nil, List.length_nil, Nat.add_zero, List.take_append_drop, Array.toArray_toList] at h4
      rw [setRow_self (w.drewN k) gc cs1 3 (0, 0) (HB.out.n _)] at h4
      exact h4
    clear HF hw0 HL1 HL3 HSRC HW HBEL
    go_enter Tryz.func149, Tryz.ntmps149
    go_wp2
    go_quiet (fail)
    have hrun1 := hrun nq
    have HB1 := Lib.hid (HB.out.n nq)
    have HG1 := Lib.hid (egrown_n (World.grownBy.refl w (some gc)) nq)
    generalize w.drewN nq = wa at hrun1 HB1 HG1 ⊢
    clear hrun
    obtain ⟨vl, hvl⟩ : ∃ v, wa.cell? ⟨gc, o, none⟩ = some v := ⟨_, by rw [HB1.out.cell, Array.getElem?_eq_getElem (by omega)]⟩
    have hfr : wa.frozen? ⟨gc, o, none⟩ = false := HB1.out.frozen _
    go_wp2
    refine wp_loop_rounds 1 ?_
    rw [rounds_succ]
    go_wp2
    go_end0
    refine ⟨rfl, _, HB1.out.set_ o (intC a.size), ?_, HG1.out.trans (egrown_set wa gc o _)⟩
    exact HF0.out

end Go.Proofs.YtggohfinkpppkabGreatDoor
