/-
  What impl.EditScript answers, for every two strings. By an AI agent.
-/
import Derived.Test.YtagceeeoophkpaaEdDist
import Derived.Test.YtagceeeoophkpaaNText
namespace Go.Proofs.Ytagceeeoophkpaa
open Go.RowKit
set_option linter.unusedVariables false

/-- the answer of EditScript -/
def scR (a b : ByteArray) : List UInt8 := if isTextB a.data.toList = true ∧ isTextB b.data.toList = true then scr a.data.toList b.data.toList else []
theorem scR_yes {a b : ByteArray} (h1 : isTextB a.data.toList = true) (h2 : isTextB b.data.toList = true) : scR a b = scr a.data.toList b.data.toList := by unfold scR; rw [if_pos ⟨h1, h2⟩]
theorem scR_no1 {a b : ByteArray} (h1 : isTextB a.data.toList = false) : [] = scR a b := by unfold scR; rw [if_neg (by rw [h1]; simp)]
theorem scR_no2 {a b : ByteArray} (h1 : isTextB b.data.toList = false) : [] = scR a b := by unfold scR; rw [if_neg (by rw [h1]; simp)]
theorem text_size {s : ByteArray} (h : isTextB s.data.toList = true) : s.size ≤ 40 := by
  unfold isTextB at h
  have := (of_decide_eq_true h).1
  rw [ba_len] at this
  exact this

/-- append of two bytes, which lie in a new block of two cells -/
theorem append_byte2 {ops : Array Oper} {rest : List Oper} {o : Oper} {a : Act} {Q : Exit → Act → World → Prop} {w0 : World} (hgd : o.guard = none) (s y : Operand)
    (ho : o.op = .call { callee := .builtin .append, args := #[s, y], argTypes := #[22, 22] })
    (base : Nat) (v : Value) (l : List UInt8) (x z : Int) (hown : OwnB w0 base v l) (hs : a.eval s = v)
    (hy : a.eval y = .slice (some ⟨w0.heap.size, 0, none⟩) 2 2) (h0 : 0 ≤ x) (h1 : x ≤ 255) (h2 : 0 ≤ z) (h3 : z ≤ 255) (hlen : l.length ≤ 70368744177664) (hbase : base ≤ w0.heap.size)
    (h : ∀ v' w', OwnB w' base v' (l ++ [UInt8.ofNat x.toNat, UInt8.ofNat z.toNat]) → Below base w0 w' → wpList Try.prog ops Q rest (a.put o.dst v') w') :
    wpList Try.prog ops Q (o :: rest) a (w0.alloc (.cells #[.int .u8 x, .int .u8 z] 5)) := by
  obtain ⟨i0, hi, hz0, hz1, hz2⟩ := info_parts info_u8
  refine wpList_append_own _ hgd s y 22 ho base 5 i0 (.int .u8 0) 1 1 Try.underlying22 hi hz0 hz1 hz2 rfl (by decide) v l.length (Lib.byteCells l) hs (World.ownsRow.alloc hown _)
    ⟨w0.heap.size, 0, none⟩ 2 2 [.int .u8 x, .int .u8 z] hy rfl ?_ ?_ (by unfold maxLen; omega) (by omega) (by simp; omega) ?_
  · intro j u hj
    match j, hj with
    | 0, hj => simp at hj; subst hj; simp [Addr.add, World.cell?_alloc_at _ _ _ _ rfl]
    | 1, hj => simp at hj; subst hj; simp [Addr.add, World.cell?_alloc_at _ _ _ _ rfl]
  · intro u hu
    simp at hu
    rcases hu with rfl | rfl
    · rfl
    · rfl
  · intro v' w' h2' h3' _
    refine h v' w' ?_ ?_
    · have e1 : (l ++ [UInt8.ofNat x.toNat, UInt8.ofNat z.toNat]).length = l.length + 2 := by simp
      have e2 : Lib.byteCells (l ++ [UInt8.ofNat x.toNat, UInt8.ofNat z.toNat]) = Lib.byteCells l ++ [.int .u8 x, .int .u8 z] := by
        simp only [Lib.byteCells, List.map_append, List.map_cons, List.map_nil, ofNat_toNat_int x h0 h1, ofNat_toNat_int z h2 h3]
      unfold OwnB
      rw [e1, e2]
      exact h2'
    · exact ((Below.refl base w0).alloc hbase _).grown h3' (by simp; omega) (fun k hk => (World.ownsRow.lt hown k hk).1)

/-- where a run of EditScript is: l is written, the rest makes B of A -/
def ScAt (R l A B : List UInt8) : Prop := R = l ++ scr A B

theorem ScAt.len {R l A B : List UInt8} (h : ScAt R l A B) : l.length ≤ R.length := by rw [h, List.length_append]; omega
theorem ScAt.keep {R l A B : List UInt8} {x y : UInt8} (h : ScAt R l (x :: A) (y :: B)) (e : x = y) : ScAt R (l ++ [61]) A B := by
  unfold ScAt at h ⊢
  rw [h, scr_keep e]; simp
theorem ScAt.rep {R l A B : List UInt8} {x y : UInt8} (h : ScAt R l (x :: A) (y :: B)) (e : x ≠ y) (e1 : lev false (x :: A) (y :: B) = 1 + lev false A B) : ScAt R (l ++ [126, y]) A B := by
  unfold ScAt at h ⊢
  rw [h, scr_rep e e1]; simp
theorem ScAt.drop {R l A B : List UInt8} {x y : UInt8} (h : ScAt R l (x :: A) (y :: B)) (e : x ≠ y) (e1 : ¬ lev false (x :: A) (y :: B) = 1 + lev false A B) (e2 : lev false (x :: A) (y :: B) = 1 + lev false A (y :: B)) : ScAt R (l ++ [45]) A (y :: B) := by
  unfold ScAt at h ⊢
  rw [h, scr_drop e e1 e2]; simp
theorem ScAt.put {R l A B : List UInt8} {x y : UInt8} (h : ScAt R l (x :: A) (y :: B)) (e : x ≠ y) (e1 : ¬ lev false (x :: A) (y :: B) = 1 + lev false A B) (e2 : ¬ lev false (x :: A) (y :: B) = 1 + lev false A (y :: B)) : ScAt R (l ++ [43, y]) (x :: A) B := by
  unfold ScAt at h ⊢
  rw [h, scr_put e e1 e2]; simp
theorem ScAt.dropEnd {R l A : List UInt8} {x : UInt8} (h : ScAt R l (x :: A) []) : ScAt R (l ++ [45]) A [] := by
  unfold ScAt at h ⊢
  rw [h, scr_del]; simp
theorem ScAt.putEnd {R l B : List UInt8} {y : UInt8} (h : ScAt R l [] (y :: B)) : ScAt R (l ++ [43, y]) [] B := by
  unfold ScAt at h ⊢
  rw [h, scr_ins]; simp
theorem ScAt.fin {R l : List UInt8} (h : ScAt R l [] []) : l = R := by
  unfold ScAt at h
  rw [h, scr_nil]; simp

/-- a cell of the table -/
theorem Tab.at {A B : List UInt8} {w : World} {gc : Nat} {cs : Array Value} (h : RowsFrom false A B cs 0) (hb : BlkV w gc 3 cs) {i j p n W : Nat} (hi : i ≤ A.length) (hj : j ≤ B.length) (hW : B.length + 1 = W) (hp : i * W = p) (hn : lev false (A.drop i) (B.drop j) = n) :
    w.cell? ⟨gc, p + j, none⟩ = some (.int .i64 n) := by
  rw [hb.cell, ← hp, ← hW, ← hn]
  exact h i j (Nat.zero_le _) hi hj

theorem TabV.below {w w' : World} {gr gc n W : Nat} {cs : Array Value} (h : TabV w gr gc n W cs) (hb : Below w.heap.size w w') : TabV w' gr gc n W cs := by
  obtain ⟨⟨rs, h1, h2, h3⟩, h4, h5, h6⟩ := h
  exact ⟨⟨rs, h1.below hb, h2, h3⟩, h4.below hb, h5, h6⟩
theorem TabV.n {w : World} {gr gc n W : Nat} {cs : Array Value} (h : TabV w gr gc n W cs) (k : Nat) : TabV (w.drewN k) gr gc n W cs := h
theorem lev_b40 (a b : ByteArray) (i j : Nat) (h1 : a.size ≤ 40) (h2 : b.size ≤ 40) : lev false (a.data.toList.drop i) (b.data.toList.drop j) ≤ 40 := by
  refine Nat.le_trans (lev_most _ _ _) ?_
  rw [List.length_drop, List.length_drop, ba_len, ba_len]
  omega

set_option maxRecDepth 100000 in
set_option maxHeartbeats 2000000 in
theorem impl_scr_yes (a b : ByteArray) (w : World) (ta : isTextB a.data.toList = true) (tb : isTextB b.data.toList = true) :
    Calls Try.prog 23 #[.string a, .string b] w fun e w' => e = .returned (.string (strOf (scr a.data.toList b.data.toList))) ∧ Below w.heap.size w w' := by
  have h1 := text_size ta
  have h2 := text_size tb
  have h1m : a.size ≤ 1048576 := by omega
  have h2m : b.size ≤ 1048576 := by omega
  have HTA := Lib.hid ta
  have HTB := Lib.hid tb
  clear ta tb
  have HAL := Lib.hid (ba_len a)
  have HBL := Lib.hid (ba_len b)
  obtain ⟨R, hR⟩ : ∃ R, scr a.data.toList b.data.toList = R := ⟨_, rfl⟩
  rw [hR]
  have HRL := Lib.hid (show R.length ≤ 160 by
    rw [← hR]
    refine Nat.le_trans (scr_length _ _) ?_
    rw [ba_len, ba_len]
    omega)
  have HR := Lib.hid hR
  clear hR
  obtain ⟨n, hn⟩ : ∃ n, a.size + 1 = n := ⟨_, rfl⟩
  obtain ⟨W, hW⟩ : ∃ W, b.size + 1 = W := ⟨_, rfl⟩
  have hn1 : a.size < n := by omega
  have hW1 : b.size < W := by omega
  have hn2 : n ≤ 41 := by omega
  have hW2 : W ≤ 41 := by omega
  have HN0 := Lib.hid hn
  have HW0 := Lib.hid hW
  have HWB := Lib.hid (show b.data.toList.length + 1 = W by rw [HBL.out, hW])
  clear hn hW
  go_enter Try.func23, Try.ntmps23
  go_wp2_with (first
    | (go_at_call 34; ((with_reducible refine (impl_it a _ h1m _ HTA.out).mono ?_); rintro e w2 ⟨rfl, hb2⟩; have HB2 := Lib.hid hb2; clear hb2))
    | (go_at_call 34; ((with_reducible refine (impl_it b _ h2m _ HTB.out).mono ?_); rintro e w3 ⟨rfl, hb3⟩; have HB3 := Lib.hid hb3; clear hb3))
    | (go_at_call 35; ((with_reducible refine (costs_any _ _ _ _ h1 h2).mono ?_); rintro e w1 ⟨gr, gc, rfl, hgr, hgc, ⟨cs, ht, hrf⟩, hbel⟩; have HT := Lib.hid ht; have HRF := Lib.hid hrf; have HB1 := Lib.hid hbel; clear ht hrf hgr hgc hbel; rw [HAL.out, HN0.out, HWB.out] at HT; rw [HN0.out])))
  go_loopw [6, 7, 8] (fun vo vi vj wr => ∃ (i j : Nat) (l : List UInt8), i ≤ a.size ∧ j ≤ b.size ∧ vi = .int .i64 i ∧ vj = .int .i64 j ∧ ScAt R l (a.data.toList.drop i) (b.data.toList.drop j) ∧ OwnB wr w1.heap.size vo l ∧ Below w1.heap.size w1 wr)
    (fun _ vi vj _ => (a.size - (intOf vi).toNat) + (b.size - (intOf vj).toNat))
  case atStart => exact ⟨0, 0, [], by omega, by omega, rfl, rfl, by unfold ScAt; rw [List.drop_zero, List.drop_zero, HR.out]; rfl, OwnB.nil _ _, Below.refl _ _⟩
  case round =>
    obtain ⟨i, j, l, hi, hj, rfl, rfl, hat, hown, hbl⟩ := hrel
    have HAT := Lib.hid hat
    have HOWN := Lib.hid hown
    have HB := Lib.hid hbl
    clear hat hown hbl
    have HLN := Lib.hid (show l.length ≤ 70368744177664 by have h3 := HAT.out.len; have h4 := HRL.out; omega)
    have HTW := Lib.hid (HT.out.below HB.out)
    obtain ⟨p, hp⟩ : ∃ p, i * W = p := ⟨_, rfl⟩
    obtain ⟨p1, hp1⟩ : ∃ p, (i + 1) * W = p := ⟨_, rfl⟩
    have hpb : p ≤ 1681 := by rw [← hp]; exact Nat.le_trans (Nat.mul_le_mul (show i ≤ 41 by omega) hW2) (by omega)
    have hp1b : p1 ≤ 1681 := by rw [← hp1]; exact Nat.le_trans (Nat.mul_le_mul (show i + 1 ≤ 41 by omega) hW2) (by omega)
    have HP := Lib.hid hp
    have HP1 := Lib.hid hp1
    clear hp hp1
    have hin : i < n := by omega
    have hjW : j < W := by omega
    have k0 : wr.cell? ⟨gr, i, none⟩ = some (.slice (some ⟨gc, p, none⟩) W W) := HTW.out.cellrow hin HP.out
    by_cases hia : i < a.size
    · have hin1 : i + 1 < n := by omega
      by_cases hjb : j < b.size
      · have hjW1 : j + 1 < W := by omega
        obtain ⟨x, hx⟩ : ∃ x, lev false (a.data.toList.drop i) (b.data.toList.drop j) = x := ⟨_, rfl⟩
        obtain ⟨x1, hx1⟩ : ∃ x, lev false (a.data.toList.drop (i + 1)) (b.data.toList.drop (j + 1)) = x := ⟨_, rfl⟩
        obtain ⟨x2, hx2⟩ : ∃ x, lev false (a.data.toList.drop (i + 1)) (b.data.toList.drop j) = x := ⟨_, rfl⟩
        have hxb : x ≤ 40 := by rw [← hx]; exact lev_b40 a b i j h1 h2
        have hx1b : x1 ≤ 40 := by rw [← hx1]; exact lev_b40 a b (i + 1) (j + 1) h1 h2
        have hx2b : x2 ≤ 40 := by rw [← hx2]; exact lev_b40 a b (i + 1) j h1 h2
        have HX := Lib.hid hx
        have HX1 := Lib.hid hx1
        have HX2 := Lib.hid hx2
        clear hx hx1 hx2
        have k00 : wr.cell? ⟨gc, p + j, none⟩ = some (.int .i64 x) := Tab.at HRF.out HTW.out.2.1 (by rw [HAL.out]; omega) (by rw [HBL.out]; omega) HWB.out HP.out HX.out
        have HHA := Lib.hid (ba_at a i hia)
        have HHB := Lib.hid (ba_at b j hjb)
        have hxa := a[i].toNat_lt
        have hyb := b[j].toNat_lt
        by_cases c : a[i].toNat = b[j].toNat
        · have d : ((a[i].toNat : Int) == (b[j].toNat : Int)) = true := by simp; omega
          have HN := Lib.hid (show ScAt R (l ++ [61]) (a.data.toList.drop (i + 1)) (b.data.toList.drop (j + 1)) by
            have h := HAT.out
            rw [HHA.out, HHB.out] at h
            exact h.keep (u8_eq c))
          clear c
          go_wp2
          go_quiet (fail)
          have HTW2 := Lib.hid (HTW.out.n nq)
          have HBW := Lib.hid (belowN HB.out nq)
          have HOWN2 := Lib.hid (show OwnB (wr.drewN nq) w1.heap.size _ l from HOWN.out)
          clear HOWN HTW k0 k00
          have HBS := Lib.hid HBW.out.size
          generalize wr.drewN nq = wd at HTW2 HBW HOWN2 HBS ⊢
          have HOWN := HOWN2
          clear HOWN2
          go_wp2_with (at_builtin; refine append_byte rfl _ _ rfl w1.heap.size _ l (61 : Int) HOWN.out rfl rfl (by omega) (by omega) HLN.out HBS.out ?_; intro v5 w5 hown5 hb5; have HO5 := Lib.hid hown5; have HB5 := Lib.hid hb5; clear hown5 hb5)
          go_roundw
          case rel =>
            have h := HO5.out
            exact ⟨i + 1, j + 1, l ++ [61], by omega, by omega, by go_num, by go_num, HN.out, h, HBW.out.trans HB5.out⟩
          case measure => simp [intOf] <;> omega
        · have d : ((a[i].toNat : Int) == (b[j].toNat : Int)) = false := by simp; omega
          have HNE := Lib.hid (show a[i] ≠ b[j] from fun e => c (by rw [e]))
          clear c
          by_cases e1 : x = 1 + x1
          · have d1 : ((x : Int) == 1 + (x1 : Int)) = true := by simp; omega
            have HN := Lib.hid (show ScAt R (l ++ [126, b[j]]) (a.data.toList.drop (i + 1)) (b.data.toList.drop (j + 1)) by
              have h := HAT.out
              have g0 := HX.out
              rw [HHA.out, HHB.out] at h g0
              exact h.rep HNE.out (by rw [g0, HX1.out]; exact e1))
            clear e1
            go_wp2
            go_quiet (fail)
            have HTW2 := Lib.hid (HTW.out.n nq)
            have HBW := Lib.hid (belowN HB.out nq)
            have HOWN2 := Lib.hid (show OwnB (wr.drewN nq) w1.heap.size _ l from HOWN.out)
            clear HOWN HTW k0 k00
            have HBS := Lib.hid HBW.out.size
            generalize wr.drewN nq = wd at HTW2 HBW HOWN2 HBS ⊢
            have HOWN := HOWN2
            clear HOWN2
            have k1 : wd.cell? ⟨gr, i + 1, none⟩ = some (.slice (some ⟨gc, p1, none⟩) W W) := HTW2.out.cellrow (by omega) HP1.out
            have k11 : wd.cell? ⟨gc, p1 + (j + 1), none⟩ = some (.int .i64 x1) := Tab.at HRF.out HTW2.out.2.1 (by rw [HAL.out]; omega) (by rw [HBL.out]; omega) HWB.out HP1.out HX1.out
            go_wp2_with (at_builtin; refine append_byte2 rfl _ _ rfl w1.heap.size _ l (126 : Int) (b[j].toNat : Int) HOWN.out rfl rfl (by omega) (by omega) (by omega) (by omega) HLN.out HBS.out ?_; intro v5 w5 hown5 hb5; have HO5 := Lib.hid hown5; have HB5 := Lib.hid hb5; clear hown5 hb5)
            go_roundw
            case rel =>
              have h := HO5.out
              rw [ba_of_nat] at h
              exact ⟨i + 1, j + 1, l ++ [126, b[j]], by omega, by omega, by go_num, by go_num, HN.out, h, HBW.out.trans HB5.out⟩
            case measure => simp [intOf] <;> omega
          · have d1 : ((x : Int) == 1 + (x1 : Int)) = false := by simp; omega
            by_cases e2 : x = 1 + x2
            · have d2 : ((x : Int) == 1 + (x2 : Int)) = true := by simp; omega
              have HN := Lib.hid (show ScAt R (l ++ [45]) (a.data.toList.drop (i + 1)) (b.data.toList.drop j) by
                have h := HAT.out
                have g0 := HX.out
                have g2 := HX2.out
                rw [HHA.out, HHB.out] at h g0
                rw [HHB.out] at g2 ⊢
                exact h.drop HNE.out (by rw [g0, HX1.out]; exact e1) (by rw [g0, g2]; exact e2))
              clear e1 e2
              go_wp2
              go_quiet (fail)
              have HTW2 := Lib.hid (HTW.out.n nq)
              have HBW := Lib.hid (belowN HB.out nq)
              have HOWN2 := Lib.hid (show OwnB (wr.drewN nq) w1.heap.size _ l from HOWN.out)
              clear HOWN HTW k0 k00
              have HBS := Lib.hid HBW.out.size
              generalize wr.drewN nq = wd at HTW2 HBW HOWN2 HBS ⊢
              have HOWN := HOWN2
              clear HOWN2
              have k1 : wd.cell? ⟨gr, i + 1, none⟩ = some (.slice (some ⟨gc, p1, none⟩) W W) := HTW2.out.cellrow (by omega) HP1.out
              have k11 : wd.cell? ⟨gc, p1 + (j + 1), none⟩ = some (.int .i64 x1) := Tab.at HRF.out HTW2.out.2.1 (by rw [HAL.out]; omega) (by rw [HBL.out]; omega) HWB.out HP1.out HX1.out
              have k2 : wd.cell? ⟨gc, p1 + j, none⟩ = some (.int .i64 x2) := Tab.at HRF.out HTW2.out.2.1 (by rw [HAL.out]; omega) (by rw [HBL.out]; omega) HWB.out HP1.out HX2.out
              go_wp2_with (at_builtin; refine append_byte rfl _ _ rfl w1.heap.size _ l (45 : Int) HOWN.out rfl rfl (by omega) (by omega) HLN.out HBS.out ?_; intro v5 w5 hown5 hb5; have HO5 := Lib.hid hown5; have HB5 := Lib.hid hb5; clear hown5 hb5)
              go_roundw
              case rel =>
                have h := HO5.out
                exact ⟨i + 1, j, l ++ [45], by omega, by omega, by go_num, rfl, HN.out, h, HBW.out.trans HB5.out⟩
              case measure => simp [intOf] <;> omega
            · have d2 : ((x : Int) == 1 + (x2 : Int)) = false := by simp; omega
              have HN := Lib.hid (show ScAt R (l ++ [43, b[j]]) (a.data.toList.drop i) (b.data.toList.drop (j + 1)) by
                have h := HAT.out
                have g0 := HX.out
                have g2 := HX2.out
                rw [HHA.out, HHB.out] at h g0
                rw [HHB.out] at g2
                rw [HHA.out]
                exact h.put HNE.out (by rw [g0, HX1.out]; exact e1) (by rw [g0, g2]; exact e2))
              clear e1 e2
              go_wp2
              go_quiet (fail)
              have HTW2 := Lib.hid (HTW.out.n nq)
              have HBW := Lib.hid (belowN HB.out nq)
              have HOWN2 := Lib.hid (show OwnB (wr.drewN nq) w1.heap.size _ l from HOWN.out)
              clear HOWN HTW k0 k00
              have HBS := Lib.hid HBW.out.size
              generalize wr.drewN nq = wd at HTW2 HBW HOWN2 HBS ⊢
              have HOWN := HOWN2
              clear HOWN2
              have k1 : wd.cell? ⟨gr, i + 1, none⟩ = some (.slice (some ⟨gc, p1, none⟩) W W) := HTW2.out.cellrow (by omega) HP1.out
              have k11 : wd.cell? ⟨gc, p1 + (j + 1), none⟩ = some (.int .i64 x1) := Tab.at HRF.out HTW2.out.2.1 (by rw [HAL.out]; omega) (by rw [HBL.out]; omega) HWB.out HP1.out HX1.out
              have k2 : wd.cell? ⟨gc, p1 + j, none⟩ = some (.int .i64 x2) := Tab.at HRF.out HTW2.out.2.1 (by rw [HAL.out]; omega) (by rw [HBL.out]; omega) HWB.out HP1.out HX2.out
              go_wp2_with (at_builtin; refine append_byte2 rfl _ _ rfl w1.heap.size _ l (43 : Int) (b[j].toNat : Int) HOWN.out rfl rfl (by omega) (by omega) (by omega) (by omega) HLN.out HBS.out ?_; intro v5 w5 hown5 hb5; have HO5 := Lib.hid hown5; have HB5 := Lib.hid hb5; clear hown5 hb5)
              go_roundw
              case rel =>
                have h := HO5.out
                rw [ba_of_nat] at h
                exact ⟨i, j + 1, l ++ [43, b[j]], by omega, by omega, rfl, by go_num, HN.out, h, HBW.out.trans HB5.out⟩
              case measure => simp [intOf] <;> omega
      · obtain ⟨x, hx⟩ : ∃ x, lev false (a.data.toList.drop i) (b.data.toList.drop j) = x := ⟨_, rfl⟩
        obtain ⟨x1, hx1⟩ : ∃ x, lev false (a.data.toList.drop (i + 1)) (b.data.toList.drop (j + 1)) = x := ⟨_, rfl⟩
        obtain ⟨x2, hx2⟩ : ∃ x, lev false (a.data.toList.drop (i + 1)) (b.data.toList.drop j) = x := ⟨_, rfl⟩
        have hxb : x ≤ 40 := by rw [← hx]; exact lev_b40 a b i j h1 h2
        have hx1b : x1 ≤ 40 := by rw [← hx1]; exact lev_b40 a b (i + 1) (j + 1) h1 h2
        have hx2b : x2 ≤ 40 := by rw [← hx2]; exact lev_b40 a b (i + 1) j h1 h2
        have HX := Lib.hid hx
        have HX1 := Lib.hid hx1
        have HX2 := Lib.hid hx2
        clear hx hx1 hx2
        have k00 : wr.cell? ⟨gc, p + j, none⟩ = some (.int .i64 x) := Tab.at HRF.out HTW.out.2.1 (by rw [HAL.out]; omega) (by rw [HBL.out]; omega) HWB.out HP.out HX.out
        have HHA := Lib.hid (ba_at a i hia)
        have HHB := Lib.hid (show b.data.toList.drop j = [] from List.drop_eq_nil_of_le (by rw [ba_len]; omega))
        have d2 : ((x : Int) == 1 + (x2 : Int)) = true := by
          have g0 := HX.out
          have g2 := HX2.out
          rw [HHB.out, lev_nil', List.length_drop, ba_len] at g0 g2
          simp
          omega
        have HN := Lib.hid (show ScAt R (l ++ [45]) (a.data.toList.drop (i + 1)) (b.data.toList.drop j) by
          have h := HAT.out
          rw [HHA.out, HHB.out] at h
          rw [HHB.out]
          exact h.dropEnd)
        go_wp2
        go_quiet (fail)
        have HTW2 := Lib.hid (HTW.out.n nq)
        have HBW := Lib.hid (belowN HB.out nq)
        have HOWN2 := Lib.hid (show OwnB (wr.drewN nq) w1.heap.size _ l from HOWN.out)
        clear HOWN HTW k0 k00
        have HBS := Lib.hid HBW.out.size
        generalize wr.drewN nq = wd at HTW2 HBW HOWN2 HBS ⊢
        have HOWN := HOWN2
        clear HOWN2
        have k1 : wd.cell? ⟨gr, i + 1, none⟩ = some (.slice (some ⟨gc, p1, none⟩) W W) := HTW2.out.cellrow (by omega) HP1.out
        have k2 : wd.cell? ⟨gc, p1 + j, none⟩ = some (.int .i64 x2) := Tab.at HRF.out HTW2.out.2.1 (by rw [HAL.out]; omega) (by rw [HBL.out]; omega) HWB.out HP1.out HX2.out
        go_wp2_with (at_builtin; refine append_byte rfl _ _ rfl w1.heap.size _ l (45 : Int) HOWN.out rfl rfl (by omega) (by omega) HLN.out HBS.out ?_; intro v5 w5 hown5 hb5; have HO5 := Lib.hid hown5; have HB5 := Lib.hid hb5; clear hown5 hb5)
        go_roundw
        case rel =>
          have h := HO5.out
          exact ⟨i + 1, j, l ++ [45], by omega, by omega, by go_num, rfl, HN.out, h, HBW.out.trans HB5.out⟩
        case measure => simp [intOf] <;> omega
    · have hia2 : a.size ≤ i := by omega
      by_cases hjb : j < b.size
      · obtain ⟨x, hx⟩ : ∃ x, lev false (a.data.toList.drop i) (b.data.toList.drop j) = x := ⟨_, rfl⟩
        obtain ⟨x1, hx1⟩ : ∃ x, lev false (a.data.toList.drop (i + 1)) (b.data.toList.drop (j + 1)) = x := ⟨_, rfl⟩
        obtain ⟨x2, hx2⟩ : ∃ x, lev false (a.data.toList.drop (i + 1)) (b.data.toList.drop j) = x := ⟨_, rfl⟩
        have hxb : x ≤ 40 := by rw [← hx]; exact lev_b40 a b i j h1 h2
        have hx1b : x1 ≤ 40 := by rw [← hx1]; exact lev_b40 a b (i + 1) (j + 1) h1 h2
        have hx2b : x2 ≤ 40 := by rw [← hx2]; exact lev_b40 a b (i + 1) j h1 h2
        have HX := Lib.hid hx
        have HX1 := Lib.hid hx1
        have HX2 := Lib.hid hx2
        clear hx hx1 hx2
        have k00 : wr.cell? ⟨gc, p + j, none⟩ = some (.int .i64 x) := Tab.at HRF.out HTW.out.2.1 (by rw [HAL.out]; omega) (by rw [HBL.out]; omega) HWB.out HP.out HX.out
        have HHA := Lib.hid (show a.data.toList.drop i = [] from List.drop_eq_nil_of_le (by rw [ba_len]; omega))
        have HHB := Lib.hid (ba_at b j hjb)
        have hyb := b[j].toNat_lt
        have HN := Lib.hid (show ScAt R (l ++ [43, b[j]]) (a.data.toList.drop i) (b.data.toList.drop (j + 1)) by
          have h := HAT.out
          rw [HHA.out, HHB.out] at h
          rw [HHA.out]
          exact h.putEnd)
        go_wp2
        go_quiet (fail)
        have HTW2 := Lib.hid (HTW.out.n nq)
        have HBW := Lib.hid (belowN HB.out nq)
        have HOWN2 := Lib.hid (show OwnB (wr.drewN nq) w1.heap.size _ l from HOWN.out)
        clear HOWN HTW k0 k00
        have HBS := Lib.hid HBW.out.size
        generalize wr.drewN nq = wd at HTW2 HBW HOWN2 HBS ⊢
        have HOWN := HOWN2
        clear HOWN2
        go_wp2_with (at_builtin; refine append_byte2 rfl _ _ rfl w1.heap.size _ l (43 : Int) (b[j].toNat : Int) HOWN.out rfl rfl (by omega) (by omega) (by omega) (by omega) HLN.out HBS.out ?_; intro v5 w5 hown5 hb5; have HO5 := Lib.hid hown5; have HB5 := Lib.hid hb5; clear hown5 hb5)
        go_roundw
        case rel =>
          have h := HO5.out
          rw [ba_of_nat] at h
          exact ⟨i, j + 1, l ++ [43, b[j]], by omega, by omega, rfl, by go_num, HN.out, h, HBW.out.trans HB5.out⟩
        case measure => simp [intOf] <;> omega
      · have hjb2 : b.size ≤ j := by omega
        obtain rfl : l = R := by
          have h := HAT.out
          rw [List.drop_eq_nil_of_le (by rw [ba_len]; omega), List.drop_eq_nil_of_le (by rw [ba_len]; omega)] at h
          exact h.fin
        have hcv := HOWN.out.convert
        have HFB := Lib.hid ((HB2.out.trans (HB3.out.mono HB2.out.size)).trans ((HB1.out.mono (Nat.le_trans HB2.out.size HB3.out.size)).trans (HB.out.mono (Nat.le_trans (Nat.le_trans HB2.out.size HB3.out.size) HB1.out.size))))
        clear hia2 hjb2
        go_wp2
        go_ret
        exact ⟨rfl, HFB.out⟩

end Go.Proofs.Ytagceeeoophkpaa
