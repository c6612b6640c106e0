/-
  Texts laid together: ValS, BuS, BdS. By an AI agent.
-/
import Derived.Test.YtookcggmapldeaaPlainBd
import Derived.Test.YtookcggmapldeaaRuS
import Derived.Test.YtookcggmapldeaaCompV
import Derived.Test.YtookcggmapldeaaRuI
import Derived.BigQuiet
import Derived.Deep.QuietTactic
import Derived.Test.YtookcggmapldeaaDnE
import Derived.Test.YtookcggmapldeaaBuF
import Derived.Test.YtookcggmapldeaaUndrew
import Derived.Test.YtookcggmapldeaaHeldE
import Derived.Deep.AppendLies
import Derived.Deep.RegionHeld3
import Derived.Test.YtookcggmapldeaaVarS
/-
  What spec.l15Value answers. By an AI agent.
-/
namespace Go.Proofs.Ytookcggmapldeaa
open Go.RowKit
set_option linter.unusedVariables false
set_option linter.unusedSimpArgs false
set_option linter.unnecessarySimpa false

theorem te_step {V : List IQ} {bs : List Bool} {t : TS} {v : Nat} {p : IQ} {b : Bool} (h1 : V[v]? = some p) (h2 : bs[v]? = some b) : ((V.zip bs).take (v + 1)).all (fun q => !(q.1 == t.1 && q.2 == t.2)) = (((V.zip bs).take v).all (fun q => !(q.1 == t.1 && q.2 == t.2)) && !(p == t.1 && b == t.2)) := by
  have h : (V.zip bs)[v]? = some (p, b) := by rw [List.getElem?_zip_eq_some]; exact ⟨h1, h2⟩
  rw [List.take_add_one, h, List.all_append]
  simp
theorem all_stepT {p : TS → Bool} {l : List TS} {k : Nat} {t : TS} (h : l[k]? = some t) : (l.take (k + 1)).all p = ((l.take k).all p && p t) := by
  rw [List.take_add_one, h, List.all_append]
  simp
theorem any_stepR {p : List TS → Bool} {R : List (List TS)} {k : Nat} {l : List TS} (h : R[k]? = some l) : (R.take (k + 1)).any p = ((R.take k).any p || p l) := by
  rw [List.take_add_one, h, List.any_append]
  simp

theorem bit_and (M : Nat) (h : M < 512) : (bits BinOp.and IntKind.i64 (M : Int) 1 == 1) = (M % 2 == 1) := by
  have h1 : ∀ M : Fin 512, (bits BinOp.and IntKind.i64 ((M.val : Nat) : Int) 1 == 1) = (M.val % 2 == 1) := by decide +kernel
  exact h1 ⟨M, h⟩
theorem bit_fact {N q : Nat} {b : Bool} (h : N / 2 ^ q % 2 = if b then 1 else 0) (hN : N < 512) : (bits BinOp.and IntKind.i64 ((N : Int) / 2 ^ q) 1 == 1) = b := by
  have e : (N : Int) / 2 ^ q = ((N / 2 ^ q : Nat) : Int) := by simp
  rw [e, bit_and _ (Nat.lt_of_le_of_lt (Nat.div_le_self _ _) hN), h]
  cases b <;> rfl
theorem vquiet_f2 (b : Nat) (w : World) (n : Nat) : Below b w (w.drewN n) := ⟨rfl, rfl, rfl, Nat.le_refl _, fun _ _ => rfl⟩
set_option maxRecDepth 100000 in
set_option maxHeartbeats 8000000 in
theorem val_spec (aR : Option Addr) (cR : Nat) (R : List (List TS)) (aV : Option Addr) (cV n : Nat) (V : List IQ) (bs : List Bool) (N : Nat) (r : Bool) (w : World) (hN : natOf bs = N) (hr : vaR R V bs = r) (hn : V.length = n) (hbs : bs.length = n) (h9 : n ≤ 9) (hR : SmRu w aR R cR) (hV : SmTs w aV (V.map tsV) cV) :
    Calls Try.prog 72 #[.agg #[.slice aR R.length cR], .slice aV n cV, .int .i64 (N : Int)] w fun e w' => e = .returned (.bool r) ∧ Below w.heap.size w w' := by
  have hRl := hR.len
  obtain ⟨w1, hw1⟩ : ∃ w1, w.alloc (.cells #[.slice aR R.length cR] 30) = w1 := ⟨_, rfl⟩
  have HB1 := Lib.hid (show Below w.heap.size w w1 by rw [← hw1]; exact (Below.refl w.heap.size w).alloc (Nat.le_refl _) _)
  have HX1 := Lib.hid (show BlkV w1 w.heap.size 30 #[.slice aR R.length cR] by rw [← hw1]; exact BlkV.new _ _ _)
  have HS := Lib.hid (hR.below HB1.out)
  have HV := Lib.hid ((hV.below HB1.out).inTs)
  have HR := Lib.hid hr
  have HNN := Lib.hid hN
  have HN := Lib.hid hn
  have HBS := Lib.hid hbs
  have HN5 := Lib.hid (show N < 512 by
    have h1 := natOf_lt bs
    rw [hbs, hN] at h1
    have h2 : 2 ^ n ≤ 2 ^ 9 := Nat.pow_le_pow_right (by decide) h9
    omega)
  have hN5 := HN5.out
  clear hR hV hr hN hn hbs
  go_enter Try.func72, Try.ntmps72
  go_wp2
  go_loopw [7] (fun i wr => ∃ k : Nat, k ≤ R.length ∧ i = .int .i64 k ∧ (R.take k).any (fun l => l.all (teB V bs)) = false ∧ Below w1.heap.size w1 wr) (fun i _ => R.length - (intOf i).toNat)
  case atStart => exact ⟨0, Nat.zero_le _, rfl, rfl, Below.refl _ _⟩
  case round =>
    obtain ⟨i, hi, rfl, hany, hb⟩ := hrel
    have HANY := Lib.hid hany
    obtain ⟨wo, rfl⟩ : ∃ wo, wo = wr := ⟨_, rfl⟩
    have HBO := Lib.hid hb
    have q0 := (HX1.out.below hb).one0
    clear hany hb
    by_cases hlt : i < R.length
    · obtain ⟨b, off, l, a', c', rfl, hbw, hx, c0, hsm⟩ := (HS.out.below HBO.out).at_ hlt
      have HX := Lib.hid hx
      have HSM := Lib.hid hsm
      have hll := hsm.len
      obtain ⟨m, hm⟩ : ∃ m, l.length = m := ⟨_, rfl⟩
      have HM := Lib.hid hm
      rw [hm] at c0 hll
      have hii : (i : Int) < (R.length : Int) := by omega
      clear hx hsm hm
      go_wp2
      go_loopw [8, 9] (fun v k wr => ∃ j : Nat, j ≤ m ∧ k = .int .i64 j ∧ v = .bool ((l.take j).all (teB V bs)) ∧ Below wo.heap.size wo wr) (fun _ k _ => m - (intOf k).toNat)
      case atStart => exact ⟨0, Nat.zero_le _, rfl, rfl, Below.refl _ _⟩
      case round =>
        obtain ⟨j, hj, rfl, rfl, hb⟩ := hrel
        obtain ⟨wp, rfl⟩ : ∃ wp, wp = wr := ⟨_, rfl⟩
        have HBP := Lib.hid hb
        have y0 := (HX1.out.below (HBO.out.trans (hb.mono HBO.out.size))).one0
        have d0 : wp.cell? ⟨b, off + i, none⟩ = some (.slice a' m c') := (hb.cell (p := ⟨b, off + i, none⟩) hbw).trans c0
        obtain ⟨AL, hAL⟩ : ∃ x, (l.take j).all (teB V bs) = x := ⟨_, rfl⟩
        have HAL := Lib.hid hAL
        rw [hAL]
        clear hb hAL q0
        by_cases hjt : j < m
        · obtain ⟨b1, o1, f, t, u, rfl, hbw1, hy, e0, e1, e2⟩ := (HSM.out.inTs.below HBP.out).at_ (show j < l.length by rw [HM.out]; exact hjt)
          have HY := Lib.hid hy
          obtain ⟨wq, hwq⟩ : ∃ x, wp.alloc (.cells #[.int .i64 f, .int .i64 t, .bool u] 62) = x := ⟨_, rfl⟩
          have HQB := Lib.hid (show Below wp.heap.size wp wq by rw [← hwq]; exact (Below.refl _ _).alloc (Nat.le_refl _) _)
          have HQX := Lib.hid (show BlkV wq wp.heap.size 62 #[.int .i64 f, .int .i64 t, .bool u] by rw [← hwq]; exact BlkV.new _ _ _)
          have hji : (j : Int) < (m : Int) := by omega
          clear hy hbw1
          go_wp2
          go_loopw [8, 11] (fun x v wr => ∃ q : Nat, q ≤ n ∧ v = .int .i64 q ∧ x = .bool (AL && ((V.zip bs).take q).all (fun q => !(q.1 == (f, t) && q.2 == u))) ∧ Below wq.heap.size wq wr) (fun _ v _ => n - (intOf v).toNat)
          case atStart => exact ⟨0, Nat.zero_le _, rfl, by simp, Below.refl _ _⟩
          case round =>
            obtain ⟨q, hq, rfl, rfl, hb⟩ := hrel
            have HBR := Lib.hid hb
            obtain ⟨BL, hBL⟩ : ∃ x, (AL && ((V.zip bs).take q).all (fun q => !(q.1 == (f, t) && q.2 == u))) = x := ⟨_, rfl⟩
            have HBL := Lib.hid hBL
            rw [hBL]
            have z0 := (HQX.out.below hb).three0
            have z1 := (HQX.out.below hb).three1
            have z2 := (HQX.out.below hb).three2
            clear hb hBL
            by_cases hqt : q < n
            · obtain ⟨⟨f', t'⟩, hp⟩ : ∃ p, V[q]? = some p := ⟨_, List.getElem?_eq_getElem (by rw [HN.out]; exact hqt)⟩
              obtain ⟨bb, hbb⟩ : ∃ p, bs[q]? = some p := ⟨_, List.getElem?_eq_getElem (by rw [HBS.out]; exact hqt)⟩
              have hVat : (V.map tsV)[q]? = some ((f', t'), false) := by rw [List.getElem?_map, hp]; rfl
              obtain ⟨b2, o2, rfl, hbw2, hcV⟩ := (HV.out.below (HBO.out.trans ((HBP.out.trans ((HQB.out.trans (HBR.out.mono HQB.out.size)).mono HBP.out.size)).mono HBO.out.size))) (by rw [List.length_map, HN.out]; omega)
              obtain ⟨g0, g1, g2⟩ := hcV q _ hVat
              have HP := Lib.hid hp
              have HBB := Lib.hid hbb
              have HST := Lib.hid (te_step (t := ((f, t), u)) hp hbb)
              have hbit := natOf_bit hbb
              rw [HNN.out] at hbit
              have HBIT := Lib.hid hbit
              have hqi : (q : Int) < (n : Int) := by omega
              have hq9 : q < 9 := by omega
              clear hp hbb hVat hcV hbw2 hbit
              have hst := HST.out
              have hbl := HBL.out
              by_cases hf : f' = f
              · subst hf
                by_cases ht : t' = t
                · subst ht
                  have hff : (f' == f') = true := by simp
                  have htt : (t' == t') = true := by simp
                  have hbv := bit_fact HBIT.out HN5.out
                  cases bb
                  all_goals cases u
                  all_goals
                    go_wp2_with (fail)
                    go_quiet (fail)
                    go_wp2
                    go_roundw
                    case rel => exact ⟨q + 1, by omega, by go_num, by rw [hst, ← Bool.and_assoc, hbl]; simp, HBR.out.trans (vquiet_f2 _ _ _)⟩
                    case measure => simp [intOf]; omega
                · have htt : (t' == t) = false := by simp [ht]
                  have hff : (f' == f') = true := by simp
                  go_wp2_with (fail)
                  go_quiet (fail)
                  go_wp2
                  go_roundw
                  case rel => exact ⟨q + 1, by omega, by go_num, by rw [hst, ← Bool.and_assoc, hbl]; simp [ht], HBR.out.trans (vquiet_f2 _ _ _)⟩
                  case measure => simp [intOf]; omega
              · have hff : (f' == f) = false := by simp [hf]
                go_wp2_with (fail)
                go_quiet (fail)
                go_wp2
                go_roundw
                case rel => exact ⟨q + 1, by omega, by go_num, by rw [hst, ← Bool.and_assoc, hbl]; simp [hf], HBR.out.trans (vquiet_f2 _ _ _)⟩
                case measure => simp [intOf]; omega
            · obtain rfl : q = n := by omega
              have HEND := Lib.hid (show (l.take (j + 1)).all (teB V bs) = BL by
                rw [all_stepT HY.out, HAL.out, ← HBL.out]
                congr 1
                unfold teB
                rw [List.take_of_length_le (by rw [List.length_zip, HN.out, HBS.out]; omega)])
              clear z0 z1 z2
              go_wp2
              go_roundw
              case rel => exact ⟨j + 1, by omega, by go_num, by rw [HEND.out], HBP.out.trans ((HQB.out.trans (HBR.out.mono HQB.out.size)).mono HBP.out.size)⟩
              case measure => simp [intOf]; omega
        · obtain rfl : j = m := by omega
          have HLA := Lib.hid (show l.all (teB V bs) = AL by have h := HAL.out; rwa [← HM.out, List.take_length] at h)
          cases AL
          · go_wp2
            go_roundw
            case rel => exact ⟨i + 1, by omega, by go_num, by rw [any_stepR HX.out, HANY.out, HLA.out]; rfl, HBO.out.trans (HBP.out.mono HBO.out.size)⟩
            case measure => simp [intOf]; omega
          · obtain rfl : true = r := by
              rw [← HR.out]
              unfold vaR
              exact (List.any_eq_true.2 ⟨l, List.mem_of_getElem? HX.out, HLA.out⟩).symm
            go_wp2
            go_ret
            exact ⟨rfl, HB1.out.trans ((HBO.out.trans (HBP.out.mono HBO.out.size)).mono HB1.out.size)⟩
    · obtain rfl : i = R.length := by omega
      obtain rfl : false = r := by
        rw [← HR.out]
        have h := HANY.out
        rw [List.take_length] at h
        unfold vaR
        exact h.symm
      go_wp2
      go_ret
      exact ⟨rfl, HB1.out.trans (HBO.out.mono HB1.out.size)⟩

end Go.Proofs.Ytookcggmapldeaa

/-
  What spec.l15Build answers and appends. By an AI agent.
-/
namespace Go.Proofs.Ytookcggmapldeaa
open Go.RowKit
set_option linter.unusedVariables false
set_option linter.unusedSimpArgs false
set_option linter.unnecessarySimpa false

set_option maxRecDepth 100000 in
set_option maxHeartbeats 16000000 in
theorem bld_spec (P : World → Prop) (lo : Nat) (aR : Option Addr) (cR : Nat) (R : List (List TS)) (aV : Option Addr) (cV nV : Nat) (V : List IQ) (g : Nat) (rt : Int) (hP1 : ∀ W, P W → SmRu W aR R cR ∧ SmTs W aV (V.map tsV) cV) (hP2 : ∀ W W' v v', P W → Fr W W' g v v' → (∀ k, v.ownBlock = some k → lo ≤ k) → P W') (hRl : R.length ≤ 4000000) (hn : V.length = nV) (h9 : nV ≤ 9) (hgl : g < lo) :
    ∀ (n : Nat) (bs : List Bool) (i N : Nat) (D : List DN) (a : Option Addr) (c m : Nat) (x : Int) (D' : List DN) (W : World), bs.length = i → i + n = nV → natOf bs = N → D.length = m → m + cst n ≤ 1000000 → bldD R V n bs D = (x, D') →
      BlkV W g 39 #[.int .i64 rt, .slice a m c] → OwnDn W lo (.slice a m c) D → P W → lo ≤ W.heap.size →
      Calls Try.prog 48 #[.agg #[.slice aR R.length cR], .slice aV nV cV, .int .i64 (i : Int), .int .i64 (N : Int), .pointer (some ⟨g, 0, none⟩)] W fun e W' =>
        ∃ a' c', e = .returned (.int .i64 x) ∧ BlkV W' g 39 #[.int .i64 rt, .slice a' D'.length c'] ∧ OwnDn W' lo (.slice a' D'.length c') D' ∧ Fr W W' g (.slice a m c) (.slice a' D'.length c') := by
  have HP1 := Lib.hid hP1
  have HP2 := Lib.hid hP2
  have HPB := Lib.hid (fun (W W' : World) (h : P W) (hb : Below W.heap.size W W') => hP2 W W' (.slice none 0 0) (.slice none 0 0) h ((Fr.refl _ _ _).below hb) (fun k hk => by simp [Value.ownBlock] at hk))
  have HN := Lib.hid hn
  clear hP1 hP2 hn
  intro n
  induction n with
  | zero =>
    intro bs i N D a c m x D' W hi hin hN hm hmc hb hbk hown hbl hlo
    obtain ⟨hx, rfl⟩ := bld_zero hb
    obtain rfl : i = nV := by omega
    obtain ⟨r, hr⟩ : ∃ r, vaR R V bs = r := ⟨_, rfl⟩
    rw [hr] at hx
    have HX := Lib.hid hx
    have HM := Lib.hid hm
    have HBK := Lib.hid hbk
    have HOWN := Lib.hid hown
    have HW1 := Lib.hid ((Below.refl W.heap.size W).alloc (Nat.le_refl _) (.cells #[.slice aR R.length cR] 30))
    have HVS := Lib.hid (val_spec aR cR R aV cV i V bs N r (W.alloc (.cells #[.slice aR R.length cR] 30)) hN hr HN.out hi h9 (HP1.out _ (HPB.out _ _ hbl HW1.out)).1 (HP1.out _ (HPB.out _ _ hbl HW1.out)).2)
    have hii : ((i : Int) == (i : Int)) = true := by simp
    clear hi hin hN hm hmc hb hbk hown hbl hlo hr hx
    cases r
    · obtain rfl : (0 : Int) = x := HX.out
      go_enter Try.func48, Try.ntmps48
      go_wp2_with (go_at_call 72; ((refine HVS.out.mono ?_); rintro e w2 ⟨rfl, hb⟩; have HB := Lib.hid (HW1.out.trans (hb.mono HW1.out.size)); clear hb))
      go_ret
      obtain rfl := HM.out
      exact ⟨a, c, rfl, HBK.out.below HB.out, HOWN.out.below HB.out, (Fr.refl _ _ _).below HB.out⟩
    · obtain rfl : (1 : Int) = x := HX.out
      go_enter Try.func48, Try.ntmps48
      go_wp2_with (go_at_call 72; ((refine HVS.out.mono ?_); rintro e w2 ⟨rfl, hb⟩; have HB := Lib.hid (HW1.out.trans (hb.mono HW1.out.size)); clear hb))
      go_ret
      obtain rfl := HM.out
      exact ⟨a, c, rfl, HBK.out.below HB.out, HOWN.out.below HB.out, (Fr.refl _ _ _).below HB.out⟩
  | succ n ih =>
    intro bs i N D a c m x D' W hi hin hN hm hmc hb hbk hown hbl hlo
    have HLO := Lib.hid hlo
    have IH := Lib.hid ih
    clear ih
    obtain ⟨⟨x1, D1⟩, hb1⟩ : ∃ p, bldD R V n (bs ++ [false]) D = p := ⟨_, rfl⟩
    obtain ⟨⟨x2, D2⟩, hb2⟩ : ∃ p, bldD R V n (bs ++ [true]) D1 = p := ⟨_, rfl⟩
    have hst := bld_step hb1 hb2
    rw [hb] at hst
    have hl1 := bld_len R V n (bs ++ [false]) D
    have hl2 := bld_len R V n (bs ++ [true]) D1
    rw [hb1] at hl1
    rw [hb2] at hl2
    simp only at hl1 hl2
    rw [cst] at hmc
    have hrg1 := bld_range R V n (bs ++ [false]) D
    have hrg2 := bld_range R V n (bs ++ [true]) D1
    rw [hb1] at hrg1
    rw [hb2] at hrg2
    simp only at hrg1 hrg2
    obtain ⟨⟨f, t⟩, hvi⟩ : ∃ p, V[i]? = some p := ⟨_, List.getElem?_eq_getElem (by rw [HN.out]; omega)⟩
    have hgd : V.getD bs.length (0, 0) = (f, t) := by rw [hi, List.getD_eq_getElem?_getD, hvi]; rfl
    rw [hgd] at hst
    obtain ⟨w1, hw1⟩ : ∃ w1, W.alloc (.cells #[.slice aR R.length cR] 30) = w1 := ⟨_, rfl⟩
    have hB1 : Below W.heap.size W w1 := by rw [← hw1]; exact (Below.refl _ _).alloc (Nat.le_refl _) _
    have HBX := Lib.hid (show BlkV w1 W.heap.size 30 #[.slice aR R.length cR] by rw [← hw1]; exact BlkV.new _ _ _)
    have hN2 : natOf (bs ++ [false]) = N := by rw [natOf_snoc, hN]; simp
    have hNlt := natOf_lt bs
    rw [hN, hi] at hNlt
    have hN3 : natOf (bs ++ [true]) = N + 2 ^ i := by rw [natOf_snoc, hN, hi]; simp
    have HOR := Lib.hid (bit_or N i hNlt (by omega))
    have HWI := Lib.hid (show IntKind.i64.wrap ((i : Int) + 1) = (i : Int) + 1 from IntWalk.i64_in _ (by omega))
    have hgW := hbk.lt
    have HOWN := Lib.hid hown
    have hlow : ∀ k, (Value.slice a m c).ownBlock = some k → lo ≤ k ∧ k < W.heap.size := fun k hk => World.ownsRow.lt hown k hk
    have HLOW0 := Lib.hid hlow
    have HC1 := Lib.hid (IH.out (bs ++ [false]) (i + 1) N D a c m x1 D1 w1 (by simp [hi]) (by omega) hN2 hm (by omega) hb1 (hbk.below hB1) (hown.below hB1) (HPB.out _ _ hbl hB1) (Nat.le_trans hlo hB1.size))
    have HF1 := Lib.hid (show Fr W w1 g (.slice a m c) (.slice a m c) from (Fr.refl _ _ _).below hB1)
    have HBL := Lib.hid hbl
    have HST := Lib.hid hst
    have HL := Lib.hid (show D2.length ≤ 1000000 ∧ D1.length + cst n ≤ 1000000 by omega)
    have HRG := Lib.hid (And.intro hrg1 hrg2)
    have HVI := Lib.hid hvi
    have HI2 := Lib.hid (show (bs ++ [true]).length = i + 1 by simp [hi])
    have HN3 := Lib.hid hN3
    have HB2 := Lib.hid hb2
    have HGW := Lib.hid hgW
    have hib : ((i : Int) == (nV : Int)) = false := by
      have : ¬ (i : Int) = (nV : Int) := by omega
      simp [this]
    have hini : (i : Int) < (nV : Int) := by omega
    have HIN := Lib.hid hin
    clear hb hb1 hb2 hst hl1 hl2 hmc hrg1 hrg2 hvi hgd hB1 hN2 hN3 hbk hown hbl hlo hi hm hlow hgW hNlt hN hin
    have q0 := HBX.out.one0
    go_enter Try.func48, Try.ntmps48
    go_wp2_with (go_at_call 48; ((refine HC1.out.mono ?_); rintro e w2 ⟨a1, c1, rfl, hbk1, hown1, hfr1⟩; refine Hid.out ?_))
    have HF2 := Lib.hid (HF1.out.trans hfr1)
    have HBX2 := Lib.hid (hfr1.blk HBX.out (by have := HGW.out; omega) (fun e => by have := (HLOW0.out _ e).2; omega))
    have HBL2 := Lib.hid (HP2.out W w2 _ _ HBL.out HF2.out (fun k hk => (HLOW0.out k hk).1))
    have HNB1 := Lib.hid (hfr1.apart (b := W.heap.size) (fun e => by have := (HLOW0.out _ e).2; omega) HBX.out.lt)
    have HOWN1 := Lib.hid hown1
    have HBK1 := Lib.hid hbk1
    have HC2 := Lib.hid (fun (W' : World) (hW : Below w2.heap.size w2 W') => IH.out (bs ++ [true]) (i + 1) (N + 2 ^ i) D1 a1 c1 D1.length x2 D2 W' HI2.out (by have := HIN.out; omega) HN3.out rfl HL.out.2 HB2.out (HBK1.out.below hW) (HOWN1.out.below hW) (HPB.out _ _ HBL2.out hW) (Nat.le_trans HLO.out (Nat.le_trans HF2.out.size hW.size)))
    clear hbk1 hown1 hfr1 q0 hw1
    have q0 := HBX2.out.one0
    have hor := HOR.out
    obtain ⟨N2, hN2⟩ : ∃ N2 : Nat, N + 2 ^ i = N2 := ⟨_, rfl⟩
    rw [hN2] at hor HC2
    clear hN2
    have hwi := HWI.out
    refine Lib.hid ?_
    go_wp2_with (fail)
    go_region_held3 (fun w' => w'.cell? ⟨W.heap.size, 0, none⟩ = some (.slice aR R.length cR))
      (first | exact e0 | exact q0)
      (first
        | (go_at_call 48; ((refine Calls.mono (HC2.out _ (dquiet_f _ _ 1)) ?_); rintro e w3 ⟨a2, c2, rfl, hbk2, hown2, hfr2⟩; have HBK2 := Lib.hid hbk2; have HOWN2 := Lib.hid hown2; have HFQ := Lib.hid (show Fr w2 w3 g (.slice a1 D1.length c1) (.slice a2 D2.length c2) from ⟨hfr2.os, hfr2.tape, hfr2.output, hfr2.size, hfr2.block, hfr2.own⟩); have HBX3 := Lib.hid (HFQ.out.blk HBX2.out (by have := HGW.out; omega) HNB1.out); have e0 := HBX3.out.one0; clear hbk2 hown2 hfr2)))
    have HF3 := Lib.hid (HF2.out.trans HFQ.out)
    have HBL3 := Lib.hid (HP2.out W w3 _ _ HBL.out HF3.out (fun k hk => (HLOW0.out k hk).1))
    clear q0 e0 hor hwi
    have hst := HST.out
    by_cases hx : x1 = x2
    · subst hx
      have hxx : (x1 == x1) = true := by simp
      have hrs := ref_same (x := ((f, t), (x1, x1))) (D := D2) rfl
      rw [hrs] at hst
      obtain ⟨h1, h2⟩ := Prod.mk.inj hst
      have HX1 := Lib.hid (show x = x1 from h1)
      have HD2 := Lib.hid (show D' = D2 from h2)
      clear hst hrs h1 h2
      go_wp2
      go_ret
      have e1 := HX1.out
      have e2 := HD2.out
      subst e1 e2
      exact ⟨a2, c2, rfl, HBK2.out, HOWN2.out, HF3.out⟩
    · have hxx : (x1 == x2) = false := by simp [hx]
      have HXX := Lib.hid hx
      have hvat : (V.map tsV)[i]? = some ((f, t), false) := by rw [List.getElem?_map, HVI.out]; rfl
      obtain ⟨b2, o2, rfl, hb2, hcV⟩ := (HP1.out _ HBL3.out).2.inTs (by rw [List.length_map, HN.out]; omega)
      obtain ⟨p0, p1, -⟩ := hcV i _ hvat
      have hq3 : Below w3.heap.size w3 w3.drew := ⟨rfl, rfl, rfl, Nat.le_refl _, fun _ _ => rfl⟩
      have hqz : Below w3.heap.size w3 (w3.drew.alloc (.cells #[.int .i64 0, .int .i64 0, .int .i64 0, .int .i64 0] 86)) := hq3.alloc hq3.size _
      have k0 := (hqz.cell (p := ⟨b2, o2 + i * 3, none⟩) hb2).trans p0
      have k1 := (hqz.cell (p := ⟨b2, o2 + i * 3 + 1, none⟩) hb2).trans p1
      clear hq3 hqz hcV hvat
      go_wp2_with (fail)
      refine wp_region_noPanic ?_
      refine wp_region_E (S := fun w' => w'.cell? ⟨b2, o2 + i * 3, none⟩ = some (.int .i64 f) ∧ w'.cell? ⟨b2, o2 + i * 3 + 1, none⟩ = some (.int .i64 t)) 14 (by kernel_rfl) (⟨p0, p1⟩) (fun hHeld => ?_)
      refine anyE_take (i := 0) (v := ?vz1) rfl (by kernel_rfl) (by kernel_rfl) (by kernel_rfl) (by kernel_rfl) (by kernel_rfl) (fun _ _ _ h => h) (Or.inl ⟨by kernel_rfl, ?yz1⟩) (by assumption) ?rz1
      case yz1 => (intro w' hSw; (try dsimp only at hSw); go_simp; (try with_reducible rfl))
      (try simp only [Act.put, List.getElem_toArray, List.getElem_cons_succ, List.getElem_cons_zero, List.setIfInBounds_toArray, List.set_cons_zero, List.set_cons_succ])
      refine anyE_take (i := 1) (v := ?vz2) rfl (by kernel_rfl) (by kernel_rfl) (by kernel_rfl) (by kernel_rfl) (by kernel_rfl) (fun _ _ _ h => h) (Or.inl ⟨by kernel_rfl, ?yz2⟩) (by assumption) ?rz2
      case yz2 => (intro w' hSw; (try dsimp only at hSw); go_simp; (try with_reducible rfl))
      (try simp only [Act.put, List.getElem_toArray, List.getElem_cons_succ, List.getElem_cons_zero, List.setIfInBounds_toArray, List.set_cons_zero, List.set_cons_succ])
      refine anyE_take (i := 2) (v := ?vz3) rfl (by kernel_rfl) (by kernel_rfl) (by kernel_rfl) (by kernel_rfl) (by kernel_rfl) (fun _ _ _ h => h) (Or.inl ⟨by kernel_rfl, ?yz3⟩) (by assumption) ?rz3
      case yz3 => (intro w' hSw; (try dsimp only at hSw); go_simp; (try with_reducible rfl))
      (try simp only [Act.put, List.getElem_toArray, List.getElem_cons_succ, List.getElem_cons_zero, List.setIfInBounds_toArray, List.set_cons_zero, List.set_cons_succ])
      refine anyE_take (i := 3) (v := ?vz4) rfl (by kernel_rfl) (by kernel_rfl) (by kernel_rfl) (by kernel_rfl) (by kernel_rfl) (fun _ _ _ h => h) (Or.inl ⟨by kernel_rfl, ?yz4⟩) (by assumption) ?rz4
      case yz4 => (intro w' hSw; (try dsimp only at hSw); go_simp; (try with_reducible rfl))
      (try simp only [Act.put, List.getElem_toArray, List.getElem_cons_succ, List.getElem_cons_zero, List.setIfInBounds_toArray, List.set_cons_zero, List.set_cons_succ])
      refine anyE_take (i := 4) (v := ?vz5) rfl (by kernel_rfl) (by kernel_rfl) (by kernel_rfl) (by kernel_rfl) (by kernel_rfl) (fun _ _ _ h => h) (Or.inl ⟨by kernel_rfl, ?yz5⟩) (by assumption) ?rz5
      case yz5 => (intro w' hSw; (try dsimp only at hSw); go_simp; (try with_reducible rfl))
      (try simp only [Act.put, List.getElem_toArray, List.getElem_cons_succ, List.getElem_cons_zero, List.setIfInBounds_toArray, List.set_cons_zero, List.set_cons_succ])
      refine anyE_take (i := 5) (v := ?vz6) rfl (by kernel_rfl) (by kernel_rfl) (by kernel_rfl) (by kernel_rfl) (by kernel_rfl) (fun _ _ _ h => h) (Or.inl ⟨by kernel_rfl, ?yz6⟩) (by assumption) ?rz6
      case yz6 => (intro w' hSw; (try dsimp only at hSw); go_simp; (try with_reducible rfl))
      (try simp only [Act.put, List.getElem_toArray, List.getElem_cons_succ, List.getElem_cons_zero, List.setIfInBounds_toArray, List.set_cons_zero, List.set_cons_succ])
      refine anyE_take (i := 6) (v := ?vz7) rfl (by kernel_rfl) (by kernel_rfl) (by kernel_rfl) (by kernel_rfl) (by kernel_rfl) (fun _ _ _ h => h) (Or.inl ⟨by kernel_rfl, ?yz7⟩) (by assumption) ?rz7
      case yz7 => (intro w' hSw; (try dsimp only at hSw); go_simp; (try with_reducible rfl))
      (try simp only [Act.put, List.getElem_toArray, List.getElem_cons_succ, List.getElem_cons_zero, List.setIfInBounds_toArray, List.set_cons_zero, List.set_cons_succ])
      refine anyE_take (i := 7) (v := ?vz8) rfl (by kernel_rfl) (by kernel_rfl) (by kernel_rfl) (by kernel_rfl) (by kernel_rfl) (fun _ _ _ h => h) (Or.inl ⟨by kernel_rfl, ?yz8⟩) (by assumption) ?rz8
      case yz8 => (intro w' hSw; (try dsimp only at hSw); go_simp; (try with_reducible rfl))
      (try simp only [Act.put, List.getElem_toArray, List.getElem_cons_succ, List.getElem_cons_zero, List.setIfInBounds_toArray, List.set_cons_zero, List.set_cons_succ])
      refine anyE_take (i := 8) (v := ?vz9) rfl (by kernel_rfl) (by kernel_rfl) (by kernel_rfl) (by kernel_rfl) (by kernel_rfl) (fun _ _ _ h => h) (Or.inl ⟨by kernel_rfl, ?yz9⟩) (by assumption) ?rz9
      case yz9 => (intro w' hSw; (try dsimp only at hSw); go_simp; (try with_reducible rfl))
      (try simp only [Act.put, List.getElem_toArray, List.getElem_cons_succ, List.getElem_cons_zero, List.setIfInBounds_toArray, List.set_cons_zero, List.set_cons_succ])
      refine anyE_take (i := 9) (v := ?vz10) rfl (by kernel_rfl) (by kernel_rfl) (by kernel_rfl) (by kernel_rfl) (by kernel_rfl) (fun _ _ _ h => h) (Or.inl ⟨by kernel_rfl, ?yz10⟩) (by assumption) ?rz10
      case yz10 => (intro w' hSw; (try dsimp only at hSw); go_simp; (try with_reducible rfl))
      (try simp only [Act.put, List.getElem_toArray, List.getElem_cons_succ, List.getElem_cons_zero, List.setIfInBounds_toArray, List.set_cons_zero, List.set_cons_succ])
      refine anyE_take (i := 10) (v := ?vz11) rfl (by kernel_rfl) (by kernel_rfl) (by kernel_rfl) (by kernel_rfl) (by kernel_rfl) (fun _ _ _ h => h) (Or.inl ⟨by kernel_rfl, ?yz11⟩) (by assumption) ?rz11
      case yz11 => (intro w' hSw; (try dsimp only at hSw); go_simp; (try with_reducible rfl))
      (try simp only [Act.put, List.getElem_toArray, List.getElem_cons_succ, List.getElem_cons_zero, List.setIfInBounds_toArray, List.set_cons_zero, List.set_cons_succ])
      refine anyE_take (i := 11) (v := ?vz12) rfl (by kernel_rfl) (by kernel_rfl) (by kernel_rfl) (by kernel_rfl) (by kernel_rfl) (fun _ _ _ h => h) (Or.inl ⟨by kernel_rfl, ?yz12⟩) (by assumption) ?rz12
      case yz12 => (intro w' hSw; (try dsimp only at hSw); go_simp; (try with_reducible rfl))
      (try simp only [Act.put, List.getElem_toArray, List.getElem_cons_succ, List.getElem_cons_zero, List.setIfInBounds_toArray, List.set_cons_zero, List.set_cons_succ])
      refine anyE_take (i := 12) (v := ?vz13) rfl (by kernel_rfl) (by kernel_rfl) (by kernel_rfl) (by kernel_rfl) (by kernel_rfl) (fun _ _ _ h => h) (Or.inl ⟨by kernel_rfl, ?yz13⟩) (by assumption) ?rz13
      case yz13 => (intro w' hSw; (try dsimp only at hSw); go_simp; (try with_reducible rfl))
      (try simp only [Act.put, List.getElem_toArray, List.getElem_cons_succ, List.getElem_cons_zero, List.setIfInBounds_toArray, List.set_cons_zero, List.set_cons_succ])
      refine anyE_one (i := 13) (by kernel_rfl) (anyE_step rfl (fun K hK => ?_))
      go_simp
      refine hK.out _ _ (fun _ => ⟨k0, k1⟩) (fun hH => ?_)
      have hHeld := hH (by decide)
      clear hH
      clear hK K
      (try simp only [Act.put, List.getElem_toArray, List.getElem_cons_succ, List.getElem_cons_zero, List.setIfInBounds_toArray, List.set_cons_zero, List.set_cons_succ])
      refine anyE_one (i := 14) (by kernel_rfl) (anyE_step rfl (fun K hK => ?_))
      go_simp
      refine hK.out _ _ (fun h => absurd rfl h) (fun _ => ?_)
      clear hK K
      (try simp only [Act.put, List.getElem_toArray, List.getElem_cons_succ, List.getElem_cons_zero, List.setIfInBounds_toArray, List.set_cons_zero, List.set_cons_succ])
      refine anyE_done (by kernel_rfl) ?_ _
      refine NoPanic.normal ?_
      have hxb : Below w3.heap.size w3 (w3.alloc (.cells #[.int .i64 f, .int .i64 t, .int .i64 x1, .int .i64 x2] 86)).drew := ((Below.refl w3.heap.size w3).alloc (Nat.le_refl _) _).drew
      have hxr : BlkV (w3.alloc (.cells #[.int .i64 f, .int .i64 t, .int .i64 x1, .int .i64 x2] 86)).drew w3.heap.size 86 #[.int .i64 f, .int .i64 t, .int .i64 x1, .int .i64 x2] := BlkV.new w3 _ _
      generalize (w3.alloc (.cells #[.int .i64 f, .int .i64 t, .int .i64 x1, .int .i64 x2] 86)).drew = wx at hxb hxr ⊢
      have HXB := Lib.hid hxb
      have HXR0 := Lib.hid hxr
      have HOWNX := Lib.hid (HOWN2.out.below hxb)
      have HBKX := Lib.hid (HBK2.out.below hxb)
      obtain ⟨bX, hbX⟩ : ∃ b, w3.heap.size = b := ⟨_, rfl⟩
      have HBXS := Lib.hid hbX
      rw [hbX] at HXR0 ⊢
      obtain ⟨m2, hm2⟩ : ∃ m, D2.length = m := ⟨_, rfl⟩
      have HM2 := Lib.hid hm2
      rw [hm2] at HOWNX HBKX
      have hm2b : m2 ≤ 1000000 := by rw [← hm2]; exact HL.out.1
      have HNX := Lib.hid (show (Value.slice a2 m2 c2).ownBlock ≠ some bX from fun e => by
        have h1 := (World.ownsRow.lt HOWN2.out bX (by rw [hm2]; exact e)).2
        omega)
      have HGL := Lib.hid HBK2.out.lt
      clear hxb hxr k0 k1 p0 p1 hbX hm2 hb2
      have q0 := HBKX.out.two1
      go_wp2
      clear q0
      go_loopw [14] (fun j wr => ∃ k : Nat, k ≤ m2 ∧ j = .int .i64 k ∧ (D2.take k).contains ((f, t), (x1, x2)) = false ∧ Below wx.heap.size wx wr) (fun j _ => m2 - (intOf j).toNat)
      case atStart => exact ⟨0, Nat.zero_le _, rfl, rfl, Below.refl _ _⟩
      case round =>
        obtain ⟨k, hk, rfl, hno, hb⟩ := hrel
        have HNO := Lib.hid hno
        have HB := Lib.hid hb
        have HBR := Lib.hid (HBKX.out.below hb)
        have HXR := Lib.hid (HXR0.out.below hb)
        have HOWNR := Lib.hid (HOWNX.out.below hb)
        have z0 := HBR.out.two1
        have z1 := HXR.out.four0'
        have z2 := HXR.out.four1'
        have z3 := HXR.out.four2'
        have z4 := HXR.out.four3'
        clear hno hb
        by_cases hlt : k < m2
        · obtain ⟨b4, o4, f', t', u', z', rfl, hb4, hy, c0, c1, c3, c4⟩ := HOWNR.out.inDn.at_ (show k < D2.length by rw [HM2.out]; exact hlt)
          obtain ⟨b, hbd⟩ : ∃ b, decide ((((f', t'), (u', z')) : DN) = ((f, t), (x1, x2))) = b := ⟨_, rfl⟩
          have HBD := Lib.hid hbd
          have he := fun W => eql_dn f' t' u' z' f t x1 x2 b hbd W
          have hgd := fun x y xs ys W => geql_dn x y xs ys W
          have HY := Lib.hid hy
          have hki : (k : Int) < (m2 : Int) := by omega
          clear hy hbd hb4
          cases b
          · go_wp2_with (fail)
            go_quiet (fail)
            go_wp2
            go_roundw
            case rel =>
              refine ⟨k + 1, by omega, by go_num, ?_, HB.out.trans (dquiet_f _ _ _)⟩
              rw [List.take_add_one, HY.out]
              have h1 := HNO.out
              have h2 := of_decide_eq_false HBD.out
              simp only [List.contains_eq_mem, List.mem_append, decide_eq_false_iff_not] at h1 ⊢
              rintro (h | h)
              · exact h1 h
              · simp at h; exact h2 (by simp [h])
            case measure => simp [intOf]; omega
          · have hyx : D2[k]? = some ((f, t), (x1, x2)) := by rw [HY.out, of_decide_eq_true HBD.out]
            have hro := ref_old (x := ((f, t), (x1, x2))) (D := D2) HXX.out hyx HNO.out
            have hst := HST.out
            rw [hro] at hst
            obtain ⟨h1, h2⟩ := Prod.mk.inj hst
            have HX1 := Lib.hid (show x = (k : Int) + 2 from h1)
            have HD2 := Lib.hid (show D' = D2 from h2)
            clear hst hro hyx h1 h2
            go_wp2_with (fail)
            go_quiet (fail)
            go_wp2
            go_ret
            have e1 := HX1.out
            subst e1
            have e2 := HD2.out
            subst e2
            have e3 := HM2.out
            subst e3
            have hbq := HB.out.trans (dquiet_f wx.heap.size wr nq)
            exact ⟨_, c2, rfl, HBKX.out.below hbq, HOWNX.out.below hbq, (HF3.out.below HXB.out).below hbq⟩
        · obtain rfl : k = m2 := by omega
          have hnn : D2.contains ((f, t), (x1, x2)) = false := by have h := HNO.out; rwa [← HM2.out, List.take_length] at h
          have hrn := ref_new (x := ((f, t), (x1, x2))) (D := D2) HXX.out hnn
          have hst := HST.out
          rw [hrn] at hst
          obtain ⟨h1, h2⟩ := Prod.mk.inj hst
          have HX1 := Lib.hid (show x = (D2.length : Int) + 2 from h1)
          have HF := Lib.hid (show D2 ++ [((f, t), (x1, x2))] = D' from h2.symm)
          obtain ⟨m3, hm3⟩ : ∃ m, k + 1 = m := ⟨_, rfl⟩
          have HM3 := Lib.hid hm3
          have HWR := Lib.hid (show wx.heap.size ≤ wr.heap.size from HB.out.size)
          have HNAW := Lib.hid (show Below wr.heap.size wr (wr.alloc (.cells #[.int .i64 f, .int .i64 t, .int .i64 x1, .int .i64 x2] 86)).drew from ((Below.refl wr.heap.size wr).alloc (Nat.le_refl _) _).drew)
          have HAA := HNAW
          have HNA := Lib.hid (show BlkV (wr.alloc (.cells #[.int .i64 f, .int .i64 t, .int .i64 x1, .int .i64 x2] 86)).drew wr.heap.size 86 #[.int .i64 f, .int .i64 t, .int .i64 x1, .int .i64 x2] from BlkV.new wr _ _)
          have HOA := Lib.hid (HOWNR.out.below HAA.out)
          have HLOW := Lib.hid (fun q (hq : (Value.slice a2 k c2).ownBlock = some q) => show lo ≤ q ∧ q < wr.heap.size from World.ownsRow.lt HOWNR.out q hq)
          have HNE := Lib.hid (show (Value.slice a2 k c2).ownBlock ≠ some bX from HNX.out)
          have HSZA := Lib.hid (show lo ≤ (wr.alloc (.cells #[.int .i64 f, .int .i64 t, .int .i64 x1, .int .i64 x2] 86)).drew.heap.size from Nat.le_trans HLO.out (Nat.le_trans HF3.out.size (Nat.le_trans HXB.out.size (Nat.le_trans HB.out.size HAA.out.size))))
          have v0 := (HBR.out.below HAA.out).two1
          have v1 := (HXR.out.below HAA.out).four0'
          have v2 := (HXR.out.below HAA.out).four1'
          have v3 := (HXR.out.below HAA.out).four2'
          have v4 := (HXR.out.below HAA.out).four3'
          clear hst hrn hnn h1 h2 hm3
          go_wp2_with (fail)
          refine wp_region_noPanic ?_
          refine wp_region_E (S := fun w' => w'.cell? ⟨g, 1, none⟩ = some (.slice a2 k c2) ∧ w'.cell? ⟨bX, 0, none⟩ = some (.int .i64 f) ∧ w'.cell? ⟨bX, 1, none⟩ = some (.int .i64 t) ∧ w'.cell? ⟨bX, 2, none⟩ = some (.int .i64 x1) ∧ w'.cell? ⟨bX, 3, none⟩ = some (.int .i64 x2)) 10 (by kernel_rfl) (⟨z0, z1, z2, z3, z4⟩) (fun hHeld => ?_)
          refine anyE_take (i := 0) (v := ?vz14) rfl (by kernel_rfl) (by kernel_rfl) (by kernel_rfl) (by kernel_rfl) (by kernel_rfl) (fun _ _ _ h => h) (Or.inl ⟨by kernel_rfl, ?yz14⟩) (by assumption) ?rz14
          case yz14 => (intro w' hSw; (try dsimp only at hSw); go_simp; (try with_reducible rfl))
          (try simp only [Act.put, List.getElem_toArray, List.getElem_cons_succ, List.getElem_cons_zero, List.setIfInBounds_toArray, List.set_cons_zero, List.set_cons_succ])
          refine anyE_take (i := 1) (v := ?vz15) rfl (by kernel_rfl) (by kernel_rfl) (by kernel_rfl) (by kernel_rfl) (by kernel_rfl) (fun _ _ _ h => h) (Or.inl ⟨by kernel_rfl, ?yz15⟩) (by assumption) ?rz15
          case yz15 => (intro w' hSw; (try dsimp only at hSw); go_simp; (try with_reducible rfl))
          (try simp only [Act.put, List.getElem_toArray, List.getElem_cons_succ, List.getElem_cons_zero, List.setIfInBounds_toArray, List.set_cons_zero, List.set_cons_succ])
          refine anyE_take (i := 2) (v := ?vz16) rfl (by kernel_rfl) (by kernel_rfl) (by kernel_rfl) (by kernel_rfl) (by kernel_rfl) (fun _ _ _ h => h) (Or.inl ⟨by kernel_rfl, ?yz16⟩) (by assumption) ?rz16
          case yz16 => (intro w' hSw; (try dsimp only at hSw); go_simp; (try with_reducible rfl))
          (try simp only [Act.put, List.getElem_toArray, List.getElem_cons_succ, List.getElem_cons_zero, List.setIfInBounds_toArray, List.set_cons_zero, List.set_cons_succ])
          refine anyE_take (i := 3) (v := ?vz17) rfl (by kernel_rfl) (by kernel_rfl) (by kernel_rfl) (by kernel_rfl) (by kernel_rfl) (fun _ _ _ h => h) (Or.inl ⟨by kernel_rfl, ?yz17⟩) (by assumption) ?rz17
          case yz17 => (intro w' hSw; (try dsimp only at hSw); go_simp; (try with_reducible rfl))
          (try simp only [Act.put, List.getElem_toArray, List.getElem_cons_succ, List.getElem_cons_zero, List.setIfInBounds_toArray, List.set_cons_zero, List.set_cons_succ])
          refine anyE_take (i := 4) (v := ?vz18) rfl (by kernel_rfl) (by kernel_rfl) (by kernel_rfl) (by kernel_rfl) (by kernel_rfl) (fun _ _ _ h => h) (Or.inl ⟨by kernel_rfl, ?yz18⟩) (by assumption) ?rz18
          case yz18 => (intro w' hSw; (try dsimp only at hSw); go_simp; (try with_reducible rfl))
          (try simp only [Act.put, List.getElem_toArray, List.getElem_cons_succ, List.getElem_cons_zero, List.setIfInBounds_toArray, List.set_cons_zero, List.set_cons_succ])
          refine anyE_take (i := 5) (v := ?vz19) rfl (by kernel_rfl) (by kernel_rfl) (by kernel_rfl) (by kernel_rfl) (by kernel_rfl) (fun _ _ _ h => h) (Or.inl ⟨by kernel_rfl, ?yz19⟩) (by assumption) ?rz19
          case yz19 => (intro w' hSw; (try dsimp only at hSw); go_simp; (try with_reducible rfl))
          (try simp only [Act.put, List.getElem_toArray, List.getElem_cons_succ, List.getElem_cons_zero, List.setIfInBounds_toArray, List.set_cons_zero, List.set_cons_succ])
          refine anyE_one (i := 6) (by kernel_rfl) (anyE_step rfl (fun K hK => ?_))
          go_simp
          refine hK.out _ _ (fun _ => ⟨v0, v1, v2, v3, v4⟩) (fun hH => ?_)
          have hHeld := hH (by decide)
          clear hH
          clear hK K
          (try simp only [Act.put, List.getElem_toArray, List.getElem_cons_succ, List.getElem_cons_zero, List.setIfInBounds_toArray, List.set_cons_zero, List.set_cons_succ])
          refine anyE_one (i := 7) (by kernel_rfl) (anyE_step rfl (fun K hK => ?_))
          refine step_nodeP rfl (.tmp 81) (.tmp 83) rfl lo (.slice a2 k c2) D2 D' k m3 ((f, t), (x1, x2)) HOA.out rfl HF.out HM2.out HM3.out wr.heap.size rfl HNA.out (by omega) (by have := HSZA.out; omega) ?_
          intro g5 c5 w5 ho hg hat
          have HO5 := Lib.hid ho
          have HG5 := Lib.hid hg
          have HAT5 := Lib.hid hat
          have hB5 : BlkV w5 g 39 #[.int .i64 rt, .slice a2 k c2] := (hg.block g (Nat.lt_of_lt_of_le HBR.out.lt HAA.out.size) (fun e => by have := HLOW.out g e.symm; omega)).trans (HBR.out.below HAA.out)
          have hX5 : BlkV w5 bX 86 #[.int .i64 f, .int .i64 t, .int .i64 x1, .int .i64 x2] := (hg.block bX (Nat.lt_of_lt_of_le HXR.out.lt HAA.out.size) (fun e => HNE.out e.symm)).trans (HXR.out.below HAA.out)
          have y0 := hB5.two1
          have y1 := hX5.four0'
          have y2 := hX5.four1'
          have y3 := hX5.four2'
          have y4 := hX5.four3'
          have fg := hB5.frozen 1
          have HB5 := Lib.hid hB5
          clear ho hg hat hB5 hX5
          refine hK.out _ _ (fun _ => ⟨y0, y1, y2, y3, y4⟩) (fun hH => ?_)
          have hHeld := hH (by decide)
          clear hH
          clear hK K
          (try simp only [Act.put, List.getElem_toArray, List.getElem_cons_succ, List.getElem_cons_zero, List.setIfInBounds_toArray, List.set_cons_zero, List.set_cons_succ])
          refine anyE_take (i := 8) (v := ?vz20) rfl (by kernel_rfl) (by kernel_rfl) (by kernel_rfl) (by kernel_rfl) (by kernel_rfl) (fun _ _ _ h => h) (Or.inl ⟨by kernel_rfl, ?yz20⟩) (by assumption) ?rz20
          case yz20 => (intro w' hSw; (try dsimp only at hSw); go_simp; (try with_reducible rfl))
          (try simp only [Act.put, List.getElem_toArray, List.getElem_cons_succ, List.getElem_cons_zero, List.setIfInBounds_toArray, List.set_cons_zero, List.set_cons_succ])
          refine anyE_take (i := 9) (v := ?vz21) rfl (by kernel_rfl) (by kernel_rfl) (by kernel_rfl) (by kernel_rfl) (by kernel_rfl) (fun _ _ _ h => h) (Or.inl ⟨by kernel_rfl, ?yz21⟩) (by assumption) ?rz21
          case yz21 => (intro w' hSw; (try dsimp only at hSw); go_simp; (try with_reducible rfl))
          (try simp only [Act.put, List.getElem_toArray, List.getElem_cons_succ, List.getElem_cons_zero, List.setIfInBounds_toArray, List.set_cons_zero, List.set_cons_succ])
          refine anyE_one (i := 10) (by kernel_rfl) (anyE_step rfl (fun K hK => ?_))
          go_simp
          refine hK.out _ _ (fun h => absurd rfl h) (fun _ => ?_)
          clear hK K
          (try simp only [Act.put, List.getElem_toArray, List.getElem_cons_succ, List.getElem_cons_zero, List.setIfInBounds_toArray, List.set_cons_zero, List.set_cons_succ])
          refine anyE_done (by kernel_rfl) ?_ _
          refine NoPanic.normal ?_
          have hD3 : D'.length = m3 := by rw [← HF.out, ← HM3.out, ← HM2.out]; simp
          have hB6 : BlkV (w5.setCell ⟨g, 1, none⟩ (.slice (some ⟨g5, 0, none⟩) m3 c5)) g 39 #[.int .i64 rt, .slice (some ⟨g5, 0, none⟩) m3 c5] := HB5.out.set_ 1 (.slice (some ⟨g5, 0, none⟩) m3 c5)
          have hO6 := HO5.out.setCell ⟨g, 1, none⟩ (.slice (some ⟨g5, 0, none⟩) m3 c5) hgl
          have hF6 := (((((HF3.out.below HXB.out).below HB.out).below HAA.out).trans (show Fr _ _ g (.slice a2 D2.length c2) (.slice a2 k c2) from by rw [HM2.out]; exact Fr.refl _ _ _)).grown (v2 := .slice (some ⟨g5, 0, none⟩) m3 c5) HG5.out rfl HAT5.out).setg 1 (.slice (some ⟨g5, 0, none⟩) m3 c5)
          have HB6 := Lib.hid hB6
          have HO6 := Lib.hid hO6
          have HF6 := Lib.hid hF6
          have HD3 := Lib.hid hD3
          have HXE := Lib.hid (show (m3 : Int) + 1 = x by rw [HX1.out, HM2.out, ← HM3.out]; simp; omega)
          have hm3b : m3 ≤ 1000001 := by have := HM3.out; omega
          have q9 := hB6.two1
          clear hD3 hB6 hO6 hF6 y0 y1 y2 y3 y4 v0 v1 v2 v3 v4 z0 z1 z2 z3 z4 fg
          go_wp2
          go_ret
          refine ⟨some ⟨g5, 0, none⟩, c5, iret_int (by rw [← HXE.out]), ?_, ?_, ?_⟩
          · rw [HD3.out]; exact HB6.out
          · rw [HD3.out]; exact HO6.out
          · rw [HD3.out]; exact HF6.out

end Go.Proofs.Ytookcggmapldeaa


/-
  What spec.BuildDiagram answers. By an AI agent.
-/
namespace Go.Proofs.Ytookcggmapldeaa
open Go.RowKit
set_option linter.unusedVariables false
set_option linter.unusedSimpArgs false
set_option linter.unnecessarySimpa false

/-- a diagram and whether there is one are handed back -/
def GivesBd (w : World) (y : Int) (D : List DN) (b : Bool) (e : Ending) (w' : World) : Prop :=
  ∃ a c, e = .returned (.tuple #[.agg #[.int .i64 y, .slice a D.length c], .bool b]) ∧ OwnDn w' w.heap.size (.slice a D.length c) D ∧ Below w.heap.size w w'

set_option maxRecDepth 100000 in
set_option maxHeartbeats 8000000 in
theorem bd_spec (a : Option Addr) (c : Nat) (R : List (List TS)) (y : Int) (D : List DN) (b : Bool) (w : World) (hr : bdR R = ((y, D), b)) (h : SmRu w a R c) :
    Calls Try.prog 18 #[.agg #[.slice a R.length c]] w (GivesBd w y D b) := by
  have hRl := h.len
  obtain ⟨w1, hw1⟩ : ∃ w1, (w.alloc (.cells #[.slice a R.length c] 30)).alloc (.cells #[.int .i64 0, .slice none 0 0] 39) = w1 := ⟨_, rfl⟩
  have HB1 := Lib.hid (show Below w.heap.size w w1 by rw [← hw1]; exact ((Below.refl w.heap.size w).alloc (Nat.le_refl _) _).alloc (by simp) _)
  have HX1 := Lib.hid (show BlkV w1 w.heap.size 30 #[.slice a R.length c] by rw [← hw1]; exact (BlkV.new _ _ _).alloc _)
  have HY1 := Lib.hid (show BlkV w1 (w.heap.size + 1) 39 #[.int .i64 0, .slice none 0 0] by rw [← hw1]; exact BlkV.new_ _ _ _ _ (by simp))
  have HS0 := Lib.hid h
  have HR := Lib.hid hr
  obtain ⟨vb, hvb⟩ : ∃ vb, vsB R = vb := ⟨_, rfl⟩
  have HVB := Lib.hid hvb
  have q0 := HX1.out.one0
  have q1 := HY1.out.two0
  have q2 := HY1.out.two1
  clear h hr hvb
  cases vb
  · have hz : ((0, []), false) = ((y, D), b) := by rw [← HR.out]; unfold bdR; rw [HVB.out]; rfl
    obtain ⟨h1, rfl⟩ := Prod.mk.inj hz
    obtain ⟨rfl, rfl⟩ := Prod.mk.inj h1
    go_enter Try.func18, Try.ntmps18
    go_wp2_with (go_at_call 36; ((with_reducible refine (vs_spec a c R _ _ HVB.out (HS0.out.below HB1.out)).mono ?_); rintro e w2 ⟨rfl, hb⟩; refine Hid.out ?_))
    have HB2 := Lib.hid (HB1.out.trans (hb.mono HB1.out.size))
    have HY2 := Lib.hid (HY1.out.below hb)
    have r0 := HY2.out.two0
    have r1 := HY2.out.two1
    have f0 := HY2.out.frozen 0
    have f1 := HY2.out.frozen 1
    clear hb q0 q1 q2
    refine Lib.hid ?_
    go_wp2
    generalize hwz : (w2.setCell ⟨w.heap.size + 1, 0, none⟩ (.int .i64 0)).setCell ⟨w.heap.size + 1, 1, none⟩ (.slice none 0 0) = wz
    have hbz : BlkV wz (w.heap.size + 1) 39 #[.int .i64 0, .slice none 0 0] := by rw [← hwz]; exact (HY2.out.set_ 0 (.int .i64 0)).set_ 1 (.slice none 0 0)
    have e0 := hbz.two0
    have e1 := hbz.two1
    have hB : Below w.heap.size w wz := by rw [← hwz]; exact (HB2.out.setCell (by simp) _).setCell (by simp) _
    refine bodyPost_ret (v := .tuple #[.agg #[.int .i64 0, .slice none 0 0], .bool false]) (by simp [results, Try.results18, go_sem, e0, e1]) rfl ⟨none, 0, rfl, OwnDn.nil _ _, hB⟩
  · have hz : (bldD R (varsL R) (varsL R).length [] [], true) = ((y, D), b) := by rw [← HR.out]; unfold bdR; rw [HVB.out]; rfl
    obtain ⟨hbd, rfl⟩ := Prod.mk.inj hz
    obtain ⟨V, hV⟩ : ∃ V, varsL R = V := ⟨_, rfl⟩
    rw [hV] at hbd
    have HV := Lib.hid (show varsR R = V by unfold varsR; rw [HVB.out, ← hV]; rfl)
    have HV9 := Lib.hid (show V.length ≤ 9 by rw [← hV]; exact vars_len9 HVB.out)
    have HBD := Lib.hid hbd
    clear hbd hV hz
    go_enter Try.func18, Try.ntmps18
    go_wp2_with (go_at_call 36; ((with_reducible refine (vs_spec a c R _ _ HVB.out (HS0.out.below HB1.out)).mono ?_); rintro e w2 ⟨rfl, hb⟩; refine Hid.out ?_))
    have HB2 := Lib.hid (HB1.out.trans (hb.mono HB1.out.size))
    obtain ⟨w3, hw3⟩ : ∃ w3, w2.alloc (.cells #[.int .i64 0, .slice none 0 0] 39) = w3 := ⟨_, rfl⟩
    have hb3 : Below w2.heap.size w2 w3 := by rw [← hw3]; exact (Below.refl _ _).alloc (Nat.le_refl _) _
    have HX3 := Lib.hid ((HX1.out.below hb).below hb3)
    have HY3 := Lib.hid ((HY1.out.below hb).below hb3)
    have HG3 := Lib.hid (show BlkV w3 w2.heap.size 39 #[.int .i64 0, .slice none 0 0] by rw [← hw3]; exact BlkV.new _ _ _)
    have HSZ2 := Lib.hid (show w.heap.size + 2 ≤ w2.heap.size by have := (HY1.out.below hb).lt; omega)
    have HSZ3 := Lib.hid (show w2.heap.size + 1 ≤ w3.heap.size by rw [← hw3]; simp)
    have HB3 := Lib.hid (HB2.out.trans (hb3.mono HB2.out.size))
    have HS3 := Lib.hid (show SmRu w3.drew a R c from HS0.out.below (show Below w.heap.size w w3.drew from HB3.out.drew))
    have HW3 := Lib.hid hw3
    clear hb hb3 q0 q1 q2 hw1 hw3
    have x3 := HX3.out.one0
    refine Lib.hid ?_
    go_wp2_with (fail)
    rw [HW3.out]
    refine wp_region_noPanic ?_
    refine wp_region_E (S := fun w' => w'.cell? ⟨w.heap.size, 0, none⟩ = some (.slice a R.length c)) 5 (by kernel_rfl) (x3) (fun hHeld => ?_)
    refine anyE_take (i := 0) (v := ?vz1) rfl (by kernel_rfl) (by kernel_rfl) (by kernel_rfl) (by kernel_rfl) (by kernel_rfl) (fun _ _ _ h => h) (Or.inl ⟨by kernel_rfl, ?yz1⟩) (by assumption) ?rz1
    case yz1 => (intro w' hSw; (try dsimp only at hSw); go_simp; (try with_reducible rfl))
    (try simp only [Act.put, List.getElem_toArray, List.getElem_cons_succ, List.getElem_cons_zero, List.setIfInBounds_toArray, List.set_cons_zero, List.set_cons_succ])
    refine anyE_take (i := 1) (v := ?vz2) rfl (by kernel_rfl) (by kernel_rfl) (by kernel_rfl) (by kernel_rfl) (by kernel_rfl) (fun _ _ _ h => h) (Or.inl ⟨by kernel_rfl, ?yz2⟩) (by assumption) ?rz2
    case yz2 => (intro w' hSw; (try dsimp only at hSw); go_simp; (try with_reducible rfl))
    (try simp only [Act.put, List.getElem_toArray, List.getElem_cons_succ, List.getElem_cons_zero, List.setIfInBounds_toArray, List.set_cons_zero, List.set_cons_succ])
    refine anyE_one (i := 2) (by kernel_rfl) (anyE_step rfl (fun K hK => ?_))
    go_simp
    go_wp2_with (go_at_call 10; ((refine (vars_spec a c R V _ HV.out HS3.out).mono ?_); rintro e w4 ⟨aV, cV, rfl, hoV, hb4⟩))
    have hb := undrew hb4
    have HX4 := Lib.hid (HX3.out.below hb)
    have HY4 := Lib.hid (HY3.out.below hb)
    have HG4 := Lib.hid (HG3.out.below hb)
    have HOV := Lib.hid hoV
    have HB4 := Lib.hid (HB3.out.trans (hb.mono HB3.out.size))
    have HW34 := Lib.hid hb.size
    have x4 := HX4.out.one0
    clear hb4 hoV hb
    refine hK.out _ _ (fun _ => x4) (fun hH => ?_)
    have hHeld := hH (by decide)
    clear hH
    clear hK K
    (try simp only [Act.put, List.getElem_toArray, List.getElem_cons_succ, List.getElem_cons_zero, List.setIfInBounds_toArray, List.set_cons_zero, List.set_cons_succ])
    refine anyE_one (i := 3) (by kernel_rfl) (anyE_step rfl (fun K hK => ?_))
    go_simp
    obtain ⟨nV, hnV⟩ : ∃ n, V.length = n := ⟨_, rfl⟩
    have HNV := Lib.hid hnV
    have h9 : nV ≤ 9 := by rw [← hnV]; exact HV9.out
    have HBLD := Lib.hid (bld_spec (fun W => w4.grownBy W (some w2.heap.size)) w4.heap.size a c R aV cV nV V w2.heap.size 0 (fun W hW => by
        have hbw : Below w.heap.size w W := ⟨hW.os.trans HB4.out.os, hW.tape.trans HB4.out.tape, hW.output.trans HB4.out.output, Nat.le_trans HB4.out.size hW.size, fun k hk => (hW.block k (Nat.lt_of_lt_of_le hk HB4.out.size) (fun e => by injection e with e; have := HSZ2.out; omega)).trans (HB4.out.block k hk)⟩
        refine ⟨HS0.out.below hbw, ?_⟩
        have hrow : W.ownsRow w3.drew.heap.size 62 3 (.slice aV nV cV) nV (flatV V) := by
          have h1 := HOV.out
          unfold OwnV at h1
          rw [hnV] at h1
          exact row_keptO h1 hW (fun k hk e => by
            injection hk with hk
            subst hk
            have h2 := (World.ownsRow.lt h1 _ e).1
            have := HSZ3.out
            have e3 : w3.drew.heap.size = w3.heap.size := rfl
            omega)
        have ho : OwnV W w3.drew.heap.size (.slice aV nV cV) V := by
          unfold OwnV
          rw [hnV]
          exact hrow
        have h3 : (V.map tsV).length = nV := by rw [List.length_map, hnV]
        exact ⟨ho.ts.inTs, rowX_none hrow, by rw [h3]; exact rowX_cap hrow, by rw [h3]; omega⟩) (fun W W' v v' hW hF hv => ⟨hF.os.trans hW.os, hF.tape.trans hW.tape, hF.output.trans hW.output, Nat.le_trans hW.size hF.size, fun k hk hne => (hF.block k (Nat.lt_of_lt_of_le hk hW.size) (fun e => hne (by rw [e])) (fun e => by have := hv k e; omega)).trans (hW.block k hk hne)⟩) hRl hnV h9 (by have := HSZ3.out; have := HW34.out; omega) nV [] 0 0 [] none 0 0 y D w4 rfl (by omega) rfl rfl (by have := cst_le h9; omega) (by rw [← hnV]; exact HBD.out) HG4.out (OwnDn.nil _ _) (World.grownBy.refl _ _) (Nat.le_refl _))
    rw [hnV]
    clear hnV
    go_wp2_with (go_at_call 48; ((refine HBLD.out.mono ?_); rintro e w5 ⟨a5, c5, rfl, hbk, hown, hfr⟩))
    have HX5 := Lib.hid (hfr.blk HX4.out (by have := HSZ2.out; omega) (by simp [Value.ownBlock]))
    have HY5 := Lib.hid (hfr.blk HY4.out (by have := HSZ2.out; omega) (by simp [Value.ownBlock]))
    have HG5 := Lib.hid hbk
    have HO5 := Lib.hid hown
    have HF5 := Lib.hid hfr
    have x5 := HX5.out.one0
    have gf := hbk.frozen 0
    have gc := hbk.two0
    clear hbk hown hfr
    refine hK.out _ _ (fun _ => x5) (fun hH => ?_)
    have hHeld := hH (by decide)
    clear hH
    clear hK K
    (try simp only [Act.put, List.getElem_toArray, List.getElem_cons_succ, List.getElem_cons_zero, List.setIfInBounds_toArray, List.set_cons_zero, List.set_cons_succ])
    refine anyE_take (i := 4) (v := ?vz3) rfl (by kernel_rfl) (by kernel_rfl) (by kernel_rfl) (by kernel_rfl) (by kernel_rfl) (fun _ _ _ h => h) (Or.inl ⟨by kernel_rfl, ?yz3⟩) (by assumption) ?rz3
    case yz3 => (intro w' hSw; (try dsimp only at hSw); go_simp; (try with_reducible rfl))
    (try simp only [Act.put, List.getElem_toArray, List.getElem_cons_succ, List.getElem_cons_zero, List.setIfInBounds_toArray, List.set_cons_zero, List.set_cons_succ])
    refine anyE_one (i := 5) (by kernel_rfl) (anyE_step rfl (fun K hK => ?_))
    go_simp
    refine hK.out _ _ (fun h => absurd rfl h) (fun _ => ?_)
    clear hK K
    (try simp only [Act.put, List.getElem_toArray, List.getElem_cons_succ, List.getElem_cons_zero, List.setIfInBounds_toArray, List.set_cons_zero, List.set_cons_succ])
    refine anyE_done (by kernel_rfl) ?_ _
    refine NoPanic.normal ?_
    have hG6 : BlkV (w5.setCell ⟨w2.heap.size, 0, none⟩ (.int .i64 y)) w2.heap.size 39 #[.int .i64 y, .slice a5 D.length c5] := HG5.out.set_ 0 (.int .i64 y)
    have hY6 : BlkV (w5.setCell ⟨w2.heap.size, 0, none⟩ (.int .i64 y)) (w.heap.size + 1) 39 #[.int .i64 0, .slice none 0 0] := HY5.out.other _ _ (by have := HSZ2.out; show w.heap.size + 1 ≠ w2.heap.size; omega)
    have s0 := hG6.two0
    have s1 := hG6.two1
    have t0 := hY6.two0
    have t1 := hY6.two1
    have f0 := hY6.frozen 0
    have f1 := hY6.frozen 1
    have HY6 := Lib.hid hY6
    clear hG6 hY6 x3 x4 x5 gf gc
    go_wp2
    generalize hwz : ((w5.setCell ⟨w2.heap.size, 0, none⟩ (.int .i64 y)).setCell ⟨w.heap.size + 1, 0, none⟩ (.int .i64 y)).setCell ⟨w.heap.size + 1, 1, none⟩ (.slice a5 D.length c5) = wz
    have hbz : BlkV wz (w.heap.size + 1) 39 #[.int .i64 y, .slice a5 D.length c5] := by rw [← hwz]; exact (HY6.out.set_ 0 (.int .i64 y)).set_ 1 (.slice a5 D.length c5)
    have e0 := hbz.two0
    have e1 := hbz.two1
    have hB5 : Below w.heap.size w w5 := HF5.out.low HB4.out (by have := HSZ2.out; omega) (fun k hk => by simp [Value.ownBlock] at hk)
    have hB : Below w.heap.size w wz := by rw [← hwz]; exact ((hB5.setCell (by have := HSZ2.out; show w.heap.size ≤ w2.heap.size; omega) _).setCell (by simp) _).setCell (by simp) _
    have hO : OwnDn wz w.heap.size (.slice a5 D.length c5) D := by
      rw [← hwz]
      have h0 : w2.heap.size < w4.heap.size := by have := HSZ3.out; have := HW34.out; omega
      have h1 : w.heap.size + 1 < w4.heap.size := by have := HSZ2.out; omega
      exact (((HO5.out.setCell ⟨w2.heap.size, 0, none⟩ _ h0).setCell ⟨w.heap.size + 1, 0, none⟩ _ h1).setCell ⟨w.heap.size + 1, 1, none⟩ _ h1).mono (by omega)
    refine bodyPost_ret (v := .tuple #[.agg #[.int .i64 y, .slice a5 D.length c5], .bool true]) (by simp [results, Try.results18, go_sem, e0, e1]) rfl ⟨a5, c5, rfl, hO, hB⟩

end Go.Proofs.Ytookcggmapldeaa

