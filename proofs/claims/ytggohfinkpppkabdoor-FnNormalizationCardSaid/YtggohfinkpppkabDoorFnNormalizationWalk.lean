/-
  The walk of laws.FnNormalization: it answers true for every slice of bytes, a nil one too. By an AI agent.
-/
import Derived.Test.YtggohfinkpppkabDoorNormCon
namespace Go.Proofs.YtggohfinkpppkabDoor
open Go.RowKit
set_option linter.unusedVariables false

/-- a slice of integers that came in: nil, or a row of 'cap' cells, the numbers 'zs', each fitting its kind -/
def IsRow (k : IntKind) (w : World) (a : Option Addr) (len cap : Nat) (zs : List Int) : Prop :=
  (a = none ∧ len = 0 ∧ cap = 0 ∧ zs = []) ∨
  ∃ x, a = some x ∧ len ≤ cap ∧ cap ≤ maxLen ∧ zs.length = cap ∧ (∀ i, i < zs.length → w.cell? (x.add i) = some (.int k (zs.getD i 0))) ∧ ∀ n ∈ zs, (Lit.int k n).wf = true

theorem codeAt_of {w : World} {a : Option Addr} {len cap : Nat} {zs : List Int} (h : IsRow .u8 w a len cap zs) (hl : len ≤ 1048576) : CodeAt w w.heap.size a len := by
  refine ⟨hl, fun h0 => ?_⟩
  rcases h with ⟨rfl, rfl, rfl, rfl⟩ | ⟨x, rfl, hlc, hm, hz, hc, hwf⟩
  · omega
  · obtain ⟨b, off, spot⟩ := x
    have hc0 := hc 0 (by omega)
    have hspot : spot = none := by simpa [Addr.add] using World.cell?_spot hc0
    subst hspot
    have hlt : b < w.heap.size := by
      have := World.block_lt_of_cell? w _ hc0
      simpa [Addr.add] using this
    refine ⟨b, off, rfl, hlt, fun j hj => ⟨zs.getD j 0, ?_, ?_, ?_⟩⟩
    · have hw := hwf (zs.getD j 0) (by rw [List.getD_eq_getElem?_getD, List.getElem?_eq_getElem (by omega)]; simp)
      simp [Lit.wf, IntKind.min, IntKind.max, IntKind.signed, IntKind.bits] at hw ⊢
      omega
    · have hw := hwf (zs.getD j 0) (by rw [List.getD_eq_getElem?_getD, List.getElem?_eq_getElem (by omega)]; simp)
      simp [Lit.wf, IntKind.min, IntKind.max, IntKind.signed, IntKind.bits] at hw ⊢
      omega
    · have e : (⟨b, off, none⟩ : Addr).add j = ⟨b, off + j, none⟩ := by unfold Addr.add; split <;> simp_all
      rw [← e]
      exact hc j (by omega)

theorem big_no (A : Option Addr) (len cap : Nat) (w : World) (h : (len : Int) ≤ 1048576) : Calls Tryd.prog 12 #[.slice A len cap] w fun e w' => e = .returned (.bool false) ∧ w = w' := by
  have hd : decide (1048576 < (len : Int)) = false := by simp; omega
  go_enter Tryd.func12, Tryd.ntmps12
  go_wp2
  go_ret
  exact ⟨rfl, rfl⟩

theorem big_yes (A : Option Addr) (len cap : Nat) (w : World) (h : 1048576 < (len : Int)) : Calls Tryd.prog 12 #[.slice A len cap] w fun e w' => e = .returned (.bool true) ∧ w = w' := by
  have hd : decide (1048576 < (len : Int)) = true := by simp; omega
  go_enter Tryd.func12, Tryd.ntmps12
  go_wp2
  go_ret
  exact ⟨rfl, rfl⟩

set_option maxRecDepth 100000 in
set_option maxHeartbeats 4000000 in
theorem FnNormalization_core (A : Option Addr) (len cap : Nat) (w : World) (hcode : CodeAt w w.heap.size A len) (hT : SpT w) :
    Calls Tryd.prog 4 #[.slice A len cap] w fun e w' => e = .returned (.bool true) ∧ Below w.heap.size w w' := by
  have HCODE := Lib.hid hcode
  have HSP := Lib.hid hT
  have hlen : (len : Int) ≤ 1048576 := by have := hcode.1; omega
  clear hcode hT
  go_enter Tryd.func4, Tryd.ntmps4
  go_wp2_with (go_at_call 12; (refine (big_no A len cap _ hlen).mono ?_); rintro e w0 ⟨rfl, rfl⟩; refine Hid.out ?_)
  refine Lib.hid ?_
  clear hlen
  have B0 := Lib.hid (Below.refl w.heap.size w)
  go_wp2_with (go_at_call 13; (refine (drawNormalize_any A len cap _ (HCODE.out.later B0.out)).mono ?_); rintro e w1 ⟨s, rfl, hsz, hb⟩; refine Hid.out ?_)
  refine Lib.hid ?_
  have B1 := Lib.hid (B0.out.trans (hb.mono B0.out.size))
  clear hb
  have HS := Lib.hid hsz
  clear hsz
  obtain ⟨n, hn⟩ : ∃ n, n = nstr (normL s.data.toList) := ⟨_, rfl⟩
  have Hn := Lib.hid hn
  clear hn
  obtain ⟨f, hf⟩ : ∃ f, f = nstr (foldL s.data.toList) := ⟨_, rfl⟩
  have Hf := Lib.hid hf
  clear hf
  obtain ⟨p, hp⟩ : ∃ p, p = nstr (stripL s.data.toList) := ⟨_, rfl⟩
  have Hp := Lib.hid hp
  clear hp
  obtain ⟨q, hq⟩ : ∃ q, q = nstr (collL s.data.toList) := ⟨_, rfl⟩
  have Hq := Lib.hid hq
  clear hq
  obtain ⟨ini, hini⟩ : ∃ ini, ini = nstr (headsL (wordsL (normL s.data.toList))) := ⟨_, rfl⟩
  have Hini := Lib.hid hini
  clear hini
  obtain ⟨T, hT⟩ : ∃ T, T = toksL s.data.toList := ⟨_, rfl⟩
  have HT := Lib.hid hT
  clear hT
  obtain ⟨b1, hb1⟩ : ∃ b, isTextB s.data.toList = b := ⟨_, rfl⟩
  have Hb1 := Lib.hid hb1
  clear hb1
  obtain ⟨b2, hb2⟩ : ∃ b, isNormalB s.data.toList = b := ⟨_, rfl⟩
  have Hb2 := Lib.hid hb2
  clear hb2
  go_wp2_with (go_at_call 14; (refine (kNi HS.out Hn.out _).mono ?_); rintro e w2 ⟨rfl, hb⟩; refine Hid.out ?_)
  refine Lib.hid ?_
  have B2 := Lib.hid (B1.out.trans (hb.mono B1.out.size))
  clear hb
  go_wp2_with (go_at_call 15; (refine (kNs HS.out Hn.out _).mono ?_); rintro e w3 ⟨rfl, hb⟩; refine Hid.out ?_)
  refine Lib.hid ?_
  have B3 := Lib.hid (B2.out.trans (hb.mono B2.out.size))
  clear hb
  go_wp2_with (go_at_call 14; (refine (kNi2 HS.out Hn.out _).mono ?_); rintro e w4 ⟨rfl, hb⟩; refine Hid.out ?_)
  refine Lib.hid ?_
  have B4 := Lib.hid (B3.out.trans (hb.mono B3.out.size))
  clear hb
  go_wp2_with (go_at_call 16; (refine (kIi HS.out Hb1.out _).mono ?_); rintro e w5 ⟨rfl, hb⟩; refine Hid.out ?_)
  refine Lib.hid ?_
  have B5 := Lib.hid (B4.out.trans (hb.mono B4.out.size))
  clear hb
  go_wp2_with (go_at_call 17; (refine (kIs HS.out Hb1.out _).mono ?_); rintro e w6 ⟨rfl, hb⟩; refine Hid.out ?_)
  refine Lib.hid ?_
  have B6 := Lib.hid (B5.out.trans (hb.mono B5.out.size))
  clear hb
  go_wp2_with (go_at_call 18; (refine (kMi HS.out Hb2.out _).mono ?_); rintro e w7 ⟨rfl, hb⟩; refine Hid.out ?_)
  refine Lib.hid ?_
  have B7 := Lib.hid (B6.out.trans (hb.mono B6.out.size))
  clear hb
  go_wp2_with (go_at_call 19; (refine (kMs HS.out Hb2.out _).mono ?_); rintro e w8 ⟨rfl, hb⟩; refine Hid.out ?_)
  refine Lib.hid ?_
  have B8 := Lib.hid (B7.out.trans (hb.mono B7.out.size))
  clear hb
  go_wp2_with (go_at_call 20; (refine (kAi HS.out Hini.out _ (HSP.out.below B8.out)).mono ?_); rintro e w9 ⟨rfl, hb⟩; refine Hid.out ?_)
  refine Lib.hid ?_
  have B9 := Lib.hid (B8.out.trans (hb.mono B8.out.size))
  clear hb
  go_wp2_with (go_at_call 21; (refine (kAs HS.out Hini.out _).mono ?_); rintro e w10 ⟨rfl, hb⟩; refine Hid.out ?_)
  refine Lib.hid ?_
  have B10 := Lib.hid (B9.out.trans (hb.mono B9.out.size))
  clear hb
  go_wp2_with (go_at_call 22; (refine (kFi HS.out Hf.out _).mono ?_); rintro e w11 ⟨rfl, hb⟩; refine Hid.out ?_)
  refine Lib.hid ?_
  have B11 := Lib.hid (B10.out.trans (hb.mono B10.out.size))
  clear hb
  go_wp2_with (go_at_call 23; (refine (kFs HS.out Hf.out _).mono ?_); rintro e w12 ⟨rfl, hb⟩; refine Hid.out ?_)
  refine Lib.hid ?_
  have B12 := Lib.hid (B11.out.trans (hb.mono B11.out.size))
  clear hb
  go_wp2_with (go_at_call 24; (refine (kSi HS.out Hp.out _).mono ?_); rintro e w13 ⟨rfl, hb⟩; refine Hid.out ?_)
  refine Lib.hid ?_
  have B13 := Lib.hid (B12.out.trans (hb.mono B12.out.size))
  clear hb
  go_wp2_with (go_at_call 25; (refine (kSs HS.out Hp.out _).mono ?_); rintro e w14 ⟨rfl, hb⟩; refine Hid.out ?_)
  refine Lib.hid ?_
  have B14 := Lib.hid (B13.out.trans (hb.mono B13.out.size))
  clear hb
  go_wp2_with (go_at_call 26; (refine (kCi HS.out Hq.out _).mono ?_); rintro e w15 ⟨rfl, hb⟩; refine Hid.out ?_)
  refine Lib.hid ?_
  have B15 := Lib.hid (B14.out.trans (hb.mono B14.out.size))
  clear hb
  go_wp2_with (go_at_call 27; (refine (kCs HS.out Hq.out _).mono ?_); rintro e w16 ⟨rfl, hb⟩; refine Hid.out ?_)
  refine Lib.hid ?_
  have B16 := Lib.hid (B15.out.trans (hb.mono B15.out.size))
  clear hb
  go_wp2_with (go_at_call 22; (refine (kFi HS.out Hf.out _).mono ?_); rintro e w17 ⟨rfl, hb⟩; refine Hid.out ?_)
  refine Lib.hid ?_
  have B17 := Lib.hid (B16.out.trans (hb.mono B16.out.size))
  clear hb
  go_wp2_with (go_at_call 22; (refine (kFi2 HS.out Hf.out _).mono ?_); rintro e w18 ⟨rfl, hb⟩; refine Hid.out ?_)
  refine Lib.hid ?_
  have B18 := Lib.hid (B17.out.trans (hb.mono B17.out.size))
  clear hb
  go_wp2_with (go_at_call 22; (refine (kFi HS.out Hf.out _).mono ?_); rintro e w19 ⟨rfl, hb⟩; refine Hid.out ?_)
  refine Lib.hid ?_
  have B19 := Lib.hid (B18.out.trans (hb.mono B18.out.size))
  clear hb
  go_wp2_with (go_at_call 24; (refine (kSi HS.out Hp.out _).mono ?_); rintro e w20 ⟨rfl, hb⟩; refine Hid.out ?_)
  refine Lib.hid ?_
  have B20 := Lib.hid (B19.out.trans (hb.mono B19.out.size))
  clear hb
  go_wp2_with (go_at_call 24; (refine (kSi2 HS.out Hp.out _).mono ?_); rintro e w21 ⟨rfl, hb⟩; refine Hid.out ?_)
  refine Lib.hid ?_
  have B21 := Lib.hid (B20.out.trans (hb.mono B20.out.size))
  clear hb
  go_wp2_with (go_at_call 24; (refine (kSi HS.out Hp.out _).mono ?_); rintro e w22 ⟨rfl, hb⟩; refine Hid.out ?_)
  refine Lib.hid ?_
  have B22 := Lib.hid (B21.out.trans (hb.mono B21.out.size))
  clear hb
  go_wp2_with (go_at_call 26; (refine (kCi HS.out Hq.out _).mono ?_); rintro e w23 ⟨rfl, hb⟩; refine Hid.out ?_)
  refine Lib.hid ?_
  have B23 := Lib.hid (B22.out.trans (hb.mono B22.out.size))
  clear hb
  go_wp2_with (go_at_call 26; (refine (kCi2 HS.out Hq.out _).mono ?_); rintro e w24 ⟨rfl, hb⟩; refine Hid.out ?_)
  refine Lib.hid ?_
  have B24 := Lib.hid (B23.out.trans (hb.mono B23.out.size))
  clear hb
  go_wp2_with (go_at_call 26; (refine (kCi HS.out Hq.out _).mono ?_); rintro e w25 ⟨rfl, hb⟩; refine Hid.out ?_)
  refine Lib.hid ?_
  have B25 := Lib.hid (B24.out.trans (hb.mono B24.out.size))
  clear hb
  go_wp2_with (go_at_call 8; (refine (kTi HS.out HT.out _ (HSP.out.below B25.out)).mono ?_); rintro e w26 ⟨al, cl, rfl, hsl, hb⟩; refine Hid.out ?_)
  refine Lib.hid ?_
  have B26 := Lib.hid (B25.out.trans (hb.mono B25.out.size))
  have Sl_26 := Lib.hid hsl
  clear hb hsl
  have HTL := Lib.hid (toks_few HS.out HT.out)
  have htl : T.length ≤ 201 := HTL.out.1
  go_wp2
  go_loop [6, 7] (fun t i => ∃ u : ByteArray, t = .string u ∧ ((i = .int .i64 (-1) ∧ u.data.toList = joinL T.reverse) ∨ ∃ j : Nat, j < T.length ∧ i = .int .i64 j ∧ u.data.toList = joinL ((T.drop (j + 1)).reverse))) (fun _ i => (intOf i + 1).toNat)
  case atStart =>
    refine ⟨⟨#[]⟩, rfl, ?_⟩
    by_cases h0 : T.length = 0
    · refine .inl ⟨by rw [h0]; rfl, ?_⟩
      rw [List.eq_nil_of_length_eq_zero h0]; rfl
    · refine .inr ⟨T.length - 1, by omega, ?_, ?_⟩
      · have e : ((T.length : Int) - 1) = ((T.length - 1 : Nat) : Int) := by omega
        first | rw [e] | (rw [← e]; go_num) | go_num
      · rw [List.drop_of_length_le (by omega)]; rfl
  case round =>
    obtain ⟨u, rfl, hway⟩ := hrel
    rcases hway with ⟨rfl, hu⟩ | ⟨j, hj, rfl, hu⟩
    case inr =>
      have husz : u.size ≤ 40401 := join_size HS.out HT.out hu
      obtain ⟨bb, off, hal, hbw, hc⟩ := Sl_26.out.1 (by omega)
      subst hal
      obtain ⟨x, t, hx1, hx2, hx3, hx4⟩ := str_at hj
      have hcell : w26.cell? ⟨bb, off + j, none⟩ = some (.string t) := by rw [← hx3]; exact hc j x hx1
      have htsz : t.size ≤ 200 := by rw [hx4]; exact HTL.out.2 x (List.mem_of_getElem? hx1)
      have HU := Lib.hid hu
      have HX1 := Lib.hid hx1
      have HX2 := Lib.hid hx2
      clear hc hx1 hx2 hx3 hx4 hbw hu
      go_wp2
      have hnew : (u ++ ⟨#[32]⟩ ++ t).data.toList = joinL ((T.drop j).reverse) := by
        obtain ⟨hlt, he⟩ := List.getElem?_eq_some_iff.1 HX1.out
        rw [List.drop_eq_getElem_cons hlt, List.reverse_cons, joinL_snoc, ← HU.out, he, ← HX2.out]
        simp
      have HNEW := Lib.hid hnew
      clear hnew
      go_round
      case rel =>
        refine ⟨_, rfl, ?_⟩
        cases j with
        | zero => exact .inl ⟨by first | rfl | go_num, by have h := HNEW.out; rwa [List.drop_zero] at h⟩
        | succ j => exact .inr ⟨j, by omega, by first | go_num | (have e : (((j + 1 : Nat) : Int) - 1) = (j : Int) := by omega
                                                                  rw [e]), HNEW.out⟩
      case measure => simp [intOf] <;> omega
    case inl =>
      have HU := Lib.hid hu
      clear hu
      go_wp2_with (go_at_call 7; (refine (kTs HS.out HT.out _).mono ?_); rintro e w27 ⟨am, cm, rfl, hsm, hb⟩; refine Hid.out ?_)
      refine Lib.hid ?_
      have B27 := Lib.hid (B26.out.trans (hb.mono B26.out.size))
      have Sl_27 := Lib.hid (Sl_26.out.below hb)
      have Sm_27 := Lib.hid hsm
      clear hb hsm
      go_wp2_with (go_at_call 28; (refine (kE al am cl cm _ Sl_27.out Sm_27.out).mono ?_); rintro e w28 ⟨rfl, hb⟩; refine Hid.out ?_)
      refine Lib.hid ?_
      have B28 := Lib.hid (B27.out.trans (hb.mono B27.out.size))
      have Sl_28 := Lib.hid (Sl_27.out.below hb)
      have Sm_28 := Lib.hid (Sm_27.out.below hb)
      clear hb
      go_wp2_with (go_at_call 8; (refine (kTu HS.out HT.out HU.out _ (HSP.out.below B28.out)).mono ?_); rintro e w29 ⟨am2, cm2, rfl, hsm2, hb⟩; refine Hid.out ?_)
      refine Lib.hid ?_
      have B29 := Lib.hid (B28.out.trans (hb.mono B28.out.size))
      have Sl_29 := Lib.hid (Sl_28.out.below hb)
      have Sm2_29 := Lib.hid hsm2
      clear hb hsm2
      go_wp2_with (go_at_call 28; (refine (kE am2 al cm2 cl _ Sm2_29.out Sl_29.out).mono ?_); rintro e w30 ⟨rfl, hb⟩; refine Hid.out ?_)
      refine Lib.hid ?_
      have B30 := Lib.hid (B29.out.trans (hb.mono B29.out.size))
      have Sl_30 := Lib.hid (Sl_29.out.below hb)
      have Sm2_30 := Lib.hid (Sm2_29.out.below hb)
      clear hb
      go_wp2_with (go_at_call 8; (refine (kTn HS.out Hn.out HT.out _ (HSP.out.below B30.out)).mono ?_); rintro e w31 ⟨am3, cm3, rfl, hsm3, hb⟩; refine Hid.out ?_)
      refine Lib.hid ?_
      have B31 := Lib.hid (B30.out.trans (hb.mono B30.out.size))
      have Sl_31 := Lib.hid (Sl_30.out.below hb)
      have Sm3_31 := Lib.hid hsm3
      clear hb hsm3
      go_wp2_with (go_at_call 28; (refine (kE am3 al cm3 cl _ Sm3_31.out Sl_31.out).mono ?_); rintro e w32 ⟨rfl, hb⟩; refine Hid.out ?_)
      refine Lib.hid ?_
      have B32 := Lib.hid (B31.out.trans (hb.mono B31.out.size))
      have Sl_32 := Lib.hid (Sl_31.out.below hb)
      have Sm3_32 := Lib.hid (Sm3_31.out.below hb)
      clear hb
      go_wp2_with (go_at_call 29; (refine (kZ HT.out al cl _ Sl_32.out).mono ?_); rintro e w33 ⟨rfl, hb⟩; refine Hid.out ?_)
      refine Lib.hid ?_
      have B33 := Lib.hid (B32.out.trans (hb.mono B32.out.size))
      have Sl_33 := Lib.hid (Sl_32.out.below hb)
      clear hb
      go_wp2_with (go_at_call 30; (refine (drawQGrams_any A len cap _ (HCODE.out.later B33.out)).mono ?_); rintro e w34 ⟨v, r, rfl, hv, hr0, hr1, hb⟩; refine Hid.out ?_)
      refine Lib.hid ?_
      have B34 := Lib.hid (B33.out.trans (hb.mono B33.out.size))
      clear hb
      have HV := Lib.hid hv
      have HR0 := Lib.hid hr0
      have HR1 := Lib.hid hr1
      clear hv hr0 hr1
      obtain ⟨G, hG⟩ : ∃ G, G = qgR v.data.toList r := ⟨_, rfl⟩
      have HG := Lib.hid hG
      clear hG
      go_wp2_with (go_at_call 31; (refine (kQi HV.out HR0.out HR1.out HG.out _).mono ?_); rintro e w35 ⟨ag, cg, rfl, hsg, hb⟩; refine Hid.out ?_)
      refine Lib.hid ?_
      have B35 := Lib.hid (B34.out.trans (hb.mono B34.out.size))
      have Sg_35 := Lib.hid hsg
      clear hb hsg
      go_wp2_with (go_at_call 32; (refine (drawCommonGrams_any A len cap _ (HCODE.out.later B35.out)).mono ?_); rintro e w36 ⟨ax, ay, cx, cy, X, Y, rfl, hsx, hsy, hb⟩; refine Hid.out ?_)
      refine Lib.hid ?_
      have B36 := Lib.hid (B35.out.trans (hb.mono B35.out.size))
      have Sg_36 := Lib.hid (Sg_35.out.below hb)
      have Sx_36 := Lib.hid hsx
      have Sy_36 := Lib.hid hsy
      clear hb hsx hsy
      obtain ⟨N, hN⟩ : ∃ N, N = cgL X Y := ⟨_, rfl⟩
      have HN := Lib.hid hN
      clear hN
      go_wp2_with (go_at_call 33; (refine (kQs HV.out HR0.out HR1.out HG.out _).mono ?_); rintro e w37 ⟨ah, ch, rfl, hsh, hb⟩; refine Hid.out ?_)
      refine Lib.hid ?_
      have B37 := Lib.hid (B36.out.trans (hb.mono B36.out.size))
      have Sg_37 := Lib.hid (Sg_36.out.below hb)
      have Sx_37 := Lib.hid (Sx_36.out.below hb)
      have Sy_37 := Lib.hid (Sy_36.out.below hb)
      have Sh_37 := Lib.hid hsh
      clear hb hsh
      go_wp2_with (go_at_call 28; (refine (kE ag ah cg ch _ Sg_37.out Sh_37.out).mono ?_); rintro e w38 ⟨rfl, hb⟩; refine Hid.out ?_)
      refine Lib.hid ?_
      have B38 := Lib.hid (B37.out.trans (hb.mono B37.out.size))
      have Sg_38 := Lib.hid (Sg_37.out.below hb)
      have Sx_38 := Lib.hid (Sx_37.out.below hb)
      have Sy_38 := Lib.hid (Sy_37.out.below hb)
      have Sh_38 := Lib.hid (Sh_37.out.below hb)
      clear hb
      go_wp2_with (go_at_call 34; (refine (kGi HN.out ax ay cx cy _ Sx_38.out Sy_38.out).mono ?_); rintro e w39 ⟨rfl, hb⟩; refine Hid.out ?_)
      refine Lib.hid ?_
      have B39 := Lib.hid (B38.out.trans (hb.mono B38.out.size))
      have Sg_39 := Lib.hid (Sg_38.out.below hb)
      have Sx_39 := Lib.hid (Sx_38.out.below hb)
      have Sy_39 := Lib.hid (Sy_38.out.below hb)
      clear hb
      go_wp2_with (go_at_call 35; (refine (kGs HN.out ax ay cx cy _ Sx_39.out Sy_39.out).mono ?_); rintro e w40 ⟨rfl, hb⟩; refine Hid.out ?_)
      refine Lib.hid ?_
      have B40 := Lib.hid (B39.out.trans (hb.mono B39.out.size))
      have Sg_40 := Lib.hid (Sg_39.out.below hb)
      have Sx_40 := Lib.hid (Sx_39.out.below hb)
      have Sy_40 := Lib.hid (Sy_39.out.below hb)
      clear hb
      go_wp2_with (go_at_call 34; (refine (kGi HN.out ax ay cx cy _ Sx_40.out Sy_40.out).mono ?_); rintro e w41 ⟨rfl, hb⟩; refine Hid.out ?_)
      refine Lib.hid ?_
      have B41 := Lib.hid (B40.out.trans (hb.mono B40.out.size))
      have Sg_41 := Lib.hid (Sg_40.out.below hb)
      have Sx_41 := Lib.hid (Sx_40.out.below hb)
      have Sy_41 := Lib.hid (Sy_40.out.below hb)
      clear hb
      go_wp2_with (go_at_call 34; (refine (kGr HN.out ay ax cy cx _ Sy_41.out Sx_41.out).mono ?_); rintro e w42 ⟨rfl, hb⟩; refine Hid.out ?_)
      refine Lib.hid ?_
      have B42 := Lib.hid (B41.out.trans (hb.mono B41.out.size))
      have Sg_42 := Lib.hid (Sg_41.out.below hb)
      have Sx_42 := Lib.hid (Sx_41.out.below hb)
      have Sy_42 := Lib.hid (Sy_41.out.below hb)
      clear hb
      by_cases h0 : G.length = 0
      · have hz : ((G.length : Int) == 0) = true := beq_iff_eq.2 (by omega)
        clear h0
        go_wp2
        go_ret
        exact ⟨rfl, B42.out⟩
      · have hz : ((G.length : Int) == 0) = false := beq_eq_false_iff_ne.2 (by omega)
        obtain ⟨hq1, hq3, hcount⟩ := grams_count HG.out h0
        have hbe : ((G.length : Int) == (v.size : Int) - r + 1) = true := beq_iff_eq.2 hcount
        have hvs : v.size ≤ 200 := HV.out
        clear h0 hcount
        go_wp2_with (go_at_call 34; (refine (kGg ag ag cg cg _ Sg_42.out Sg_42.out).mono ?_); rintro e w43 ⟨rfl, hb⟩; refine Hid.out ?_)
        refine Lib.hid ?_
        have B43 := Lib.hid (B42.out.trans (hb.mono B42.out.size))
        have Sg_43 := Lib.hid (Sg_42.out.below hb)
        clear hb
        go_wp2
        go_ret
        exact ⟨rfl, B43.out⟩

set_option maxRecDepth 100000 in
set_option maxHeartbeats 1000000 in
theorem FnNormalization_walk (a0 : Option Addr) (len0 cap0 : Nat) (z0 : List Int) (w : World) (w0 : IsRow .u8 w a0 len0 cap0 z0) (hT : SpT w) :
    Calls Tryd.prog 4 #[.slice a0 len0 cap0] w fun e w' => e = .returned (.bool true) ∧ Below w.heap.size w w' := by
  by_cases hbig : 1048576 < (len0 : Int)
  · have HBIG := Lib.hid hbig
    clear hbig w0 hT
    go_enter Tryd.func4, Tryd.ntmps4
    go_wp2_with (go_at_call 12; (refine (big_yes a0 len0 cap0 _ HBIG.out).mono ?_); rintro e w' ⟨rfl, rfl⟩)
    go_ret
    exact ⟨rfl, Below.refl _ _⟩
  · exact FnNormalization_core a0 len0 cap0 w (codeAt_of w0 (by omega)) hT

end Go.Proofs.YtggohfinkpppkabDoor
