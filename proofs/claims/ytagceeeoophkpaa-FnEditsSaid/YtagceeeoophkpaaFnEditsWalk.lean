/-
  The walk of laws.FnEdits: it answers true for every slice of bytes, a nil one too. By an AI agent.
-/
import Derived.Test.YtagceeeoophkpaaEdScr2
import Derived.Test.YtagceeeoophkpaaEdDraw
namespace Go.Proofs.Ytagceeeoophkpaa
open Go.RowKit
set_option linter.unusedVariables false

theorem edD_symm (sw : Bool) (a b : ByteArray) : edD sw b a = edD sw a b := by
  by_cases h : a.size ≤ 40 ∧ b.size ≤ 40
  · rw [edD_yes h.1 h.2, edD_yes h.2 h.1, lev_symm]
  · rw [edD_no h, edD_no (fun e => h ⟨e.2, e.1⟩)]
theorem edD_swap (a b : ByteArray) : edD true a b ≤ edD false a b := by
  by_cases h : a.size ≤ 40 ∧ b.size ≤ 40
  · rw [edD_yes h.1 h.2, edD_yes h.1 h.2]
    have := lev_swap_le a.data.toList b.data.toList
    omega
  · rw [edD_no h, edD_no h]
    exact Int.le_refl _
theorem ba_ext {a b : ByteArray} (h : a.data.toList = b.data.toList) : a = b := ByteArray.ext (Array.toList_inj.1 h)
theorem edD_pos {sw : Bool} {a b : ByteArray} (h : 0 ≤ edD sw a b) : a.size ≤ 40 ∧ b.size ≤ 40 := by
  by_cases h2 : a.size ≤ 40 ∧ b.size ≤ 40
  · exact h2
  · rw [edD_no h2] at h
    omega
theorem edD_zero {a b : ByteArray} (h : 0 ≤ edD false a b) : edD false a b = 0 ↔ a = b := by
  have h2 := edD_pos h
  rw [edD_yes h2.1 h2.2]
  have := lev_zero (sw := false) (a := a.data.toList) (b := b.data.toList)
  constructor
  · intro e
    exact ba_ext (this.1 (by omega))
  · intro e
    have := this.2 (by rw [e])
    omega
theorem edD_lens {a b : ByteArray} (h : 0 ≤ edD false a b) : (a.size : Int) ≤ b.size + edD false a b ∧ (b.size : Int) ≤ a.size + edD false a b := by
  have h2 := edD_pos h
  rw [edD_yes h2.1 h2.2]
  have := lev_lens false a.data.toList b.data.toList
  rw [ba_len, ba_len] at this
  omega
theorem edD_tri {a b c : ByteArray} (h : 0 ≤ edD false a b) (hc : c.size ≤ 40) : edD false a b ≤ edD false a c + edD false c b := by
  have h2 := edD_pos h
  rw [edD_yes h2.1 h2.2, edD_yes h2.1 hc, edD_yes hc h2.2]
  have := lev_triangle a.data.toList c.data.toList b.data.toList
  omega
theorem strOf_data (l : List UInt8) : (strOf l).data.toList = l := by simp [strOf]
theorem strOf_self (v : ByteArray) : strOf v.data.toList = v := ba_ext (strOf_data _)
theorem same_list {a b : ByteArray} : (a.toList == b.toList) = decide (a = b) := by
  by_cases h : a = b
  · subst h; simp
  · rw [decide_eq_false h, ByteArray.toList_eq, ByteArray.toList_eq]
    simp
    exact fun e => h (ba_ext (by simpa using e))

/-- where the count of a script's cost is -/
def CoAt (T : List UInt8) (i k : Nat) : Prop := k + costS (T.drop i) = costS T
theorem CoAt.one {t : ByteArray} {T : List UInt8} {i k : Nat} (ht : t.data.toList = T) (h : CoAt T i k) (hi : i < t.size) (hb : t[i].toNat = 126 ∨ t[i].toNat = 43) : CoAt T (i + 2) (k + 1) := by
  subst ht
  unfold CoAt at h ⊢
  rw [ba_at t i hi, costS, if_pos (by rcases hb with hb | hb; exact .inl (ba_byte (n := 126) hb (by omega)); exact .inr (ba_byte (n := 43) hb (by omega))), List.tail_drop] at h
  show k + 1 + costS (List.drop (i + 1 + 1) t.data.toList) = costS t.data.toList
  omega
theorem CoAt.del {t : ByteArray} {T : List UInt8} {i k : Nat} (ht : t.data.toList = T) (h : CoAt T i k) (hi : i < t.size) (hb : t[i].toNat = 45) : CoAt T (i + 1) (k + 1) := by
  subst ht
  unfold CoAt at h ⊢
  rw [ba_at t i hi, ba_byte hb (by omega), show UInt8.ofNat 45 = 45 from rfl, costS_del] at h
  omega
theorem CoAt.skip {t : ByteArray} {T : List UInt8} {i k : Nat} (ht : t.data.toList = T) (h : CoAt T i k) (hi : i < t.size) (h1 : t[i].toNat ≠ 126) (h2 : t[i].toNat ≠ 43) (h3 : t[i].toNat ≠ 45) : CoAt T (i + 1) k := by
  subst ht
  unfold CoAt at h ⊢
  rw [ba_at t i hi, costS, if_neg (fun e => by rcases e with e | e; exact ba_not (n := 126) h1 (by omega) e; exact ba_not (n := 43) h2 (by omega) e), if_neg (show ¬ t[i] = 45 from ba_not (n := 45) h3 (by omega))] at h
  exact h
theorem CoAt.fin {T : List UInt8} {i k : Nat} (h : CoAt T i k) (hi : T.length ≤ i) : k = costS T := by
  unfold CoAt at h
  rw [List.drop_eq_nil_of_le hi, costS_nil] at h
  omega

/-- a slice of integers that came in: nil, or a row of 'cap' cells, the numbers 'zs', each fitting its kind -/
def IsRow (k : IntKind) (w : World) (a : Option Addr) (len cap : Nat) (zs : List Int) : Prop :=
  (a = none ∧ len = 0 ∧ cap = 0 ∧ zs = []) ∨
  ∃ x, a = some x ∧ len ≤ cap ∧ cap ≤ maxLen ∧ zs.length = cap ∧ (∀ i, i < zs.length → w.cell? (x.add i) = some (.int k (zs.getD i 0))) ∧ ∀ n ∈ zs, (Lit.int k n).wf = true

theorem codeAt_of {w : World} {a : Option Addr} {len cap : Nat} {zs : List Int} (h : IsRow .u8 w a len cap zs) (hl : len ≤ 1048576) : CodeAt w w.heap.size a len := by
  refine ⟨hl, fun h0 => ?_⟩
  rcases h with ⟨rfl, rfl, rfl, rfl⟩ | ⟨x, rfl, hlc, hm, hz, hc, hwf⟩
  · omega
  · obtain ⟨b, off, spot⟩ := x
    have hc0 := hc 0 (by omega)
    have hspot : spot = none := by simpa [Addr.add] using World.cell?_spot hc0
    subst hspot
    have hlt : b < w.heap.size := by
      have := World.block_lt_of_cell? w _ hc0
      simpa [Addr.add] using this
    refine ⟨b, off, rfl, hlt, fun j hj => ⟨zs.getD j 0, ?_, ?_, ?_⟩⟩
    · have hw := hwf (zs.getD j 0) (by rw [List.getD_eq_getElem?_getD, List.getElem?_eq_getElem (by omega)]; simp)
      simp [Lit.wf, IntKind.min, IntKind.max, IntKind.signed, IntKind.bits] at hw ⊢
      omega
    · have hw := hwf (zs.getD j 0) (by rw [List.getD_eq_getElem?_getD, List.getElem?_eq_getElem (by omega)]; simp)
      simp [Lit.wf, IntKind.min, IntKind.max, IntKind.signed, IntKind.bits] at hw ⊢
      omega
    · have e : (⟨b, off, none⟩ : Addr).add j = ⟨b, off + j, none⟩ := by unfold Addr.add; split <;> simp_all
      rw [← e]
      exact hc j (by omega)

theorem big_no (A : Option Addr) (len cap : Nat) (w : World) (h : (len : Int) ≤ 1048576) : Calls Try.prog 10 #[.slice A len cap] w fun e w' => e = .returned (.bool false) ∧ w = w' := by
  have hd : decide (1048576 < (len : Int)) = false := by simp; omega
  go_enter Try.func10, Try.ntmps10
  go_wp2
  go_ret
  exact ⟨rfl, rfl⟩

theorem big_yes (A : Option Addr) (len cap : Nat) (w : World) (h : 1048576 < (len : Int)) : Calls Try.prog 10 #[.slice A len cap] w fun e w' => e = .returned (.bool true) ∧ w = w' := by
  have hd : decide (1048576 < (len : Int)) = true := by simp; omega
  go_enter Try.func10, Try.ntmps10
  go_wp2
  go_ret
  exact ⟨rfl, rfl⟩

set_option maxRecDepth 100000 in
set_option maxHeartbeats 4000000 in
theorem FnEdits_core (A : Option Addr) (len cap : Nat) (w : World) (hcode : CodeAt w w.heap.size A len) :
    Calls Try.prog 3 #[.slice A len cap] w fun e w' => e = .returned (.bool true) ∧ Below w.heap.size w w' := by
  have HCODE := Lib.hid hcode
  have hlen : (len : Int) ≤ 1048576 := by have := hcode.1; omega
  clear hcode
  go_enter Try.func3, Try.ntmps3
  go_wp2_with (go_at_call 10; (refine (big_no A len cap _ hlen).mono ?_); rintro e w0 ⟨rfl, rfl⟩; refine Hid.out ?_)
  refine Lib.hid ?_
  clear hlen
  have HBW := Lib.hid (Below.refl w.heap.size w)
  go_wp2_with (go_at_call 11; ((with_reducible refine (drawED_any A len cap _ HCODE.out).mono ?_); rintro e wn ⟨a, b, rfl, ha, hb4, hb⟩; refine Hid.out ?_))
  refine Lib.hid ?_
  have HBW2 := Lib.hid (HBW.out.trans (hb.mono HBW.out.size))
  clear hb HBW
  have HBW := HBW2
  clear HBW2
  have HA := Lib.hid (show a.size ≤ 1048576 by omega)
  have HB := Lib.hid (show b.size ≤ 1048576 by omega)
  obtain ⟨n, hn⟩ : ∃ n, edD false a b = n := ⟨_, rfl⟩
  obtain ⟨s, hs⟩ : ∃ s, edD true a b = s := ⟨_, rfl⟩
  obtain ⟨es, hes⟩ : ∃ es, esR (edD false a b) (max a.size b.size) = es := ⟨_, rfl⟩
  have hn1 : -1 ≤ n := by rw [← hn]; exact edD_ge _ _ _
  have hn2 : n ≤ 40 := by rw [← hn]; exact edD_le _ _ _
  have hs1 : -1 ≤ s := by rw [← hs]; exact edD_ge _ _ _
  have hs2 : s ≤ 40 := by rw [← hs]; exact edD_le _ _ _
  have hsn : s ≤ n := by rw [← hs, ← hn]; exact edD_swap _ _
  have dsn : decide (n < s) = false := by simp; omega
  have HN := Lib.hid hn
  have HN2 := Lib.hid (show edD false b a = n by rw [edD_symm]; exact hn)
  have HS := Lib.hid hs
  have HES := Lib.hid hes
  have hmx : n ≤ (max a.size b.size : Nat) := by rw [← hn]; exact edD_max _ _ _
  clear hn hs hes ha hb4
  obtain ⟨z, hz⟩ : ∃ z, decide (a = b) = z := ⟨_, rfl⟩
  have hab : (a.toList == b.toList) = z := by rw [same_list]; exact hz
  have hcase : n < 0 ∨ (0 ≤ n ∧ (a.size : Int) ≤ b.size + n ∧ (b.size : Int) ≤ a.size + n ∧ (n == 0) = z) := by
    by_cases h : n < 0
    · exact .inl h
    · have h0 : 0 ≤ edD false a b := by rw [HN.out]; omega
      have h1 := edD_lens h0
      have h2 := edD_zero h0
      rw [HN.out] at h1 h2
      refine .inr ⟨by omega, h1.1, h1.2, ?_⟩
      rw [← hz, Bool.eq_iff_iff, beq_iff_eq, decide_eq_true_iff]
      exact h2
  clear hz
  rcases hcase with hneg | ⟨hpos, hl1, hl2, hnz⟩
  · have dn : decide (0 ≤ n) = false := by simp; omega
    clear hmx
    go_wp2_with (first
      | (go_at_call 12; ((with_reducible refine (impl_ed a b _ HA.out HB.out _ HN.out).mono ?_); rintro e wn ⟨rfl, hb⟩; have HBW2 := Lib.hid (HBW.out.trans (hb.mono HBW.out.size)); clear hb HBW; have HBW := HBW2; clear HBW2))
      | (go_at_call 12; ((with_reducible refine (impl_ed b a _ HB.out HA.out _ HN2.out).mono ?_); rintro e wn ⟨rfl, hb⟩; have HBW2 := Lib.hid (HBW.out.trans (hb.mono HBW.out.size)); clear hb HBW; have HBW := HBW2; clear HBW2))
      | (go_at_call 13; ((with_reducible refine (impl_sd a b _ HA.out HB.out _ HS.out).mono ?_); rintro e wn ⟨rfl, hb⟩; have HBW2 := Lib.hid (HBW.out.trans (hb.mono HBW.out.size)); clear hb HBW; have HBW := HBW2; clear HBW2))
      | (go_at_call 14; ((with_reducible refine (spec_ed a b _ HA.out HB.out _ HN.out).mono ?_); rintro e wn ⟨rfl, hb⟩; have HBW2 := Lib.hid (HBW.out.trans (hb.mono HBW.out.size)); clear hb HBW; have HBW := HBW2; clear HBW2))
      | (go_at_call 15; ((with_reducible refine (spec_sd a b _ HA.out HB.out _ HS.out).mono ?_); rintro e wn ⟨rfl, hb⟩; have HBW2 := Lib.hid (HBW.out.trans (hb.mono HBW.out.size)); clear hb HBW; have HBW := HBW2; clear HBW2))
      | (go_at_call 16; ((with_reducible refine (impl_es a b _ HA.out HB.out).mono ?_); rintro e wn ⟨he, hb⟩; rw [HES.out] at he; obtain rfl := he; have HBW2 := Lib.hid (HBW.out.trans (hb.mono HBW.out.size)); clear hb HBW; have HBW := HBW2; clear HBW2))
      | (go_at_call 17; ((with_reducible refine (spec_es a b _ HA.out HB.out).mono ?_); rintro e wn ⟨he, hb⟩; rw [HES.out] at he; obtain rfl := he; have HBW2 := Lib.hid (HBW.out.trans (hb.mono HBW.out.size)); clear hb HBW; have HBW := HBW2; clear HBW2))
      | (go_at_call 18; ((with_reducible refine (fresh_any A len cap _ (codeAt_later HCODE.out HBW.out)).mono ?_); rintro e wn ⟨A5, n5, c5, rfl, hc5, hb⟩; have HC5 := Lib.hid hc5; have HBW2 := Lib.hid (HBW.out.trans (hb.mono HBW.out.size)); clear hb HBW hc5; have HBW := HBW2; clear HBW2)))
    go_wp2_with (go_at_call 11; ((with_reducible refine (drawED_any A5 n5 c5 _ HC5.out).mono ?_); rintro e wn ⟨c, dd, rfl, hc4, hd4, hb⟩; refine Hid.out ?_))
    refine Lib.hid ?_
    have HBW2 := Lib.hid (HBW.out.trans (hb.mono HBW.out.size))
    clear hb HBW
    have HBW := HBW2
    clear HBW2
    have HC := Lib.hid (show c.size ≤ 1048576 by omega)
    obtain ⟨p, hp⟩ : ∃ p, edD false a c = p := ⟨_, rfl⟩
    obtain ⟨q, hq⟩ : ∃ q, edD false c b = q := ⟨_, rfl⟩
    have hp1 : -1 ≤ p := by rw [← hp]; exact edD_ge _ _ _
    have hp2 : p ≤ 40 := by rw [← hp]; exact edD_le _ _ _
    have hq1 : -1 ≤ q := by rw [← hq]; exact edD_ge _ _ _
    have hq2 : q ≤ 40 := by rw [← hq]; exact edD_le _ _ _
    have HP := Lib.hid hp
    have HQ := Lib.hid hq
    clear hp hq hc4 hd4
    by_cases hc40 : c.size ≤ 40
    all_goals
      first
        | (have dc : decide ((c.size : Int) ≤ 40) = true := by simp; omega)
        | (have dc : decide ((c.size : Int) ≤ 40) = false := by simp; omega)
      go_wp2_with (first
        | (go_at_call 12; ((with_reducible refine (impl_ed a c _ HA.out HC.out _ HP.out).mono ?_); rintro e wn ⟨rfl, hb⟩; have HBW2 := Lib.hid (HBW.out.trans (hb.mono HBW.out.size)); clear hb HBW; have HBW := HBW2; clear HBW2))
        | (go_at_call 12; ((with_reducible refine (impl_ed c b _ HC.out HB.out _ HQ.out).mono ?_); rintro e wn ⟨rfl, hb⟩; have HBW2 := Lib.hid (HBW.out.trans (hb.mono HBW.out.size)); clear hb HBW; have HBW := HBW2; clear HBW2))
        | (go_at_call 19; ((with_reducible refine (drawEW_any A len cap _ (codeAt_later HCODE.out HBW.out)).mono ?_); rintro e wn ⟨x, y, lim, rfl, hx4, hy4, hq3, hq4, hb⟩; refine Hid.out ?_)))
      refine Lib.hid ?_
      have HBW2 := Lib.hid (HBW.out.trans (hb.mono HBW.out.size))
      clear hb HBW
      have HBW := HBW2
      clear HBW2
      have HX := Lib.hid (show x.size ≤ 1048576 by omega)
      have HY := Lib.hid (show y.size ≤ 1048576 by omega)
      obtain ⟨ew, hew⟩ : ∃ r, ewR (edD false x y) lim = r := ⟨_, rfl⟩
      have HEW := Lib.hid hew
      clear hew hx4 hy4
      go_wp2_with (first
        | (go_at_call 20; ((with_reducible refine (impl_ew x y lim _ HX.out HY.out).mono ?_); rintro e wn ⟨he, hb⟩; rw [HEW.out] at he; obtain rfl := he; have HBW2 := Lib.hid (HBW.out.trans (hb.mono HBW.out.size)); clear hb HBW; have HBW := HBW2; clear HBW2))
        | (go_at_call 21; ((with_reducible refine (spec_ew x y lim _ HX.out HY.out).mono ?_); rintro e wn ⟨he, hb⟩; rw [HEW.out] at he; obtain rfl := he; have HBW2 := Lib.hid (HBW.out.trans (hb.mono HBW.out.size)); clear hb HBW; have HBW := HBW2; clear HBW2))
        | (go_at_call 22; ((with_reducible refine (drawES_any A len cap _ (codeAt_later HCODE.out HBW.out)).mono ?_); rintro e wn ⟨u, v, rfl, hu4, hv4, hb⟩; refine Hid.out ?_)))
      refine Lib.hid ?_
      have HBW2 := Lib.hid (HBW.out.trans (hb.mono HBW.out.size))
      clear hb HBW
      have HBW := HBW2
      clear HBW2
      have hus := text_size hu4
      have hvs := text_size hv4
      have HU := Lib.hid (show u.size ≤ 1048576 by omega)
      have HV := Lib.hid (show v.size ≤ 1048576 by omega)
      obtain ⟨T, hT⟩ : ∃ T, scr u.data.toList v.data.toList = T := ⟨_, rfl⟩
      obtain ⟨K, hK⟩ : ∃ K, lev false u.data.toList v.data.toList = K := ⟨_, rfl⟩
      obtain ⟨t, ht⟩ : ∃ t, strOf T = t := ⟨_, rfl⟩
      have HTT := Lib.hid (show t.data.toList = T by rw [← ht]; exact strOf_data T)
      have HTE := Lib.hid (show Ending.returned (.string (strOf (scR u v))) = .returned (.string t) by rw [scR_yes hu4 hv4, hT, ht])
      have htsz : t.size ≤ 160 := by
        rw [← ht, strOf_size, ← hT]
        refine Nat.le_trans (scr_length _ _) ?_
        rw [ba_len, ba_len]
        omega
      have HT1 := Lib.hid (show t.size ≤ 1048576 by omega)
      have HAPP := Lib.hid (show app u.data.toList t.data.toList = some v.data.toList by rw [HTT.out, ← hT]; exact scr_app _ _)
      have HAPR := Lib.hid (show apR (some v.data.toList) = .returned (.tuple #[.string v, .bool true]) by
        show Ending.returned (.tuple #[.string (strOf v.data.toList), .bool true]) = _
        rw [strOf_self])
      have HK := Lib.hid (show edD false u v = (K : Int) by rw [edD_yes hus hvs, hK])
      have HCO := Lib.hid (show costS T = K by rw [← hT, ← hK]; exact scr_cost _ _)
      have HTL := Lib.hid (show T.length = t.size by rw [← HTT.out, ba_len])
      clear hT hK ht hu4 hv4
      go_wp2_with (first
        | (go_at_call 23; ((with_reducible refine (impl_scr u v _ HU.out HV.out).mono ?_); rintro e wn ⟨he, hb⟩; rw [HTE.out] at he; obtain rfl := he; have HBW2 := Lib.hid (HBW.out.trans (hb.mono HBW.out.size)); clear hb HBW; have HBW := HBW2; clear HBW2))
        | (go_at_call 24; ((with_reducible refine (impl_ap u t _ HU.out HT1.out _ HAPP.out).mono ?_); rintro e wn ⟨he, hb⟩; rw [HAPR.out] at he; obtain rfl := he; have HBW2 := Lib.hid (HBW.out.trans (hb.mono HBW.out.size)); clear hb HBW; have HBW := HBW2; clear HBW2)))
      go_loop [17, 18] (fun vc vi => ∃ i k : Nat, i ≤ t.size + 1 ∧ k ≤ i ∧ vc = .int .i64 k ∧ vi = .int .i64 i ∧ CoAt T i k) (fun _ vi => t.size + 1 - (intOf vi).toNat)
      case atStart => exact ⟨0, 0, by omega, by omega, rfl, rfl, by unfold CoAt; rw [List.drop_zero]; omega⟩
      case round =>
        obtain ⟨i, k, hi, hki, rfl, rfl, hco⟩ := hrel
        have HCA := Lib.hid hco
        clear hco
        by_cases hlt : i < t.size
        · have hby := t[i].toNat_lt
          by_cases c1 : t[i].toNat = 126
          · have HN5 := Lib.hid (HCA.out.one HTT.out hlt (.inl c1))
            go_wp2
            go_round
            case rel => exact ⟨i + 2, k + 1, by omega, by omega, by go_num, by go_num, HN5.out⟩
            case measure => simp [intOf] <;> omega
          · by_cases c2 : t[i].toNat = 43
            · have HN5 := Lib.hid (HCA.out.one HTT.out hlt (.inr c2))
              go_wp2
              go_round
              case rel => exact ⟨i + 2, k + 1, by omega, by omega, by go_num, by go_num, HN5.out⟩
              case measure => simp [intOf] <;> omega
            · by_cases c3 : t[i].toNat = 45
              · have HN5 := Lib.hid (HCA.out.del HTT.out hlt c3)
                go_wp2
                go_round
                case rel => exact ⟨i + 1, k + 1, by omega, by omega, by go_num, by go_num, HN5.out⟩
                case measure => simp [intOf] <;> omega
              · have HN5 := Lib.hid (HCA.out.skip HTT.out hlt c1 c2 c3)
                have b1 : ((t[i].toNat : Int) == 126) = false := by simp; omega
                have b2 : ((t[i].toNat : Int) == 43) = false := by simp; omega
                have b3 : ((t[i].toNat : Int) == 45) = false := by simp; omega
                go_wp2
                go_round
                case rel => exact ⟨i + 1, k, by omega, by omega, rfl, by go_num, HN5.out⟩
                case measure => simp [intOf] <;> omega
        · obtain rfl : k = K := by rw [← HCO.out]; exact HCA.out.fin (by rw [HTL.out]; omega)
          go_wp2_with (first
            | (go_at_call 25; ((with_reducible refine (spec_scr u v _ HU.out HV.out).mono ?_); rintro e wn ⟨he, hb⟩; rw [HTE.out] at he; obtain rfl := he; have HBW2 := Lib.hid (HBW.out.trans (hb.mono HBW.out.size)); clear hb HBW; have HBW := HBW2; clear HBW2))
            | (go_at_call 14; ((with_reducible refine (spec_ed u v _ HU.out HV.out _ HK.out).mono ?_); rintro e wn ⟨rfl, hb⟩; have HBW2 := Lib.hid (HBW.out.trans (hb.mono HBW.out.size)); clear hb HBW; have HBW := HBW2; clear HBW2)))
          go_ret
          exact ⟨rfl, HBW.out⟩
  · have dn : decide (0 ≤ n) = true := by simp; omega
    obtain ⟨M, hM⟩ : ∃ M : Int, (if a.size < b.size then (b.size : Int) else (a.size : Int)) = M := ⟨_, rfl⟩
    obtain ⟨m, hm⟩ : ∃ m : Int, (if b.size < a.size then (b.size : Int) else (a.size : Int)) = m := ⟨_, rfl⟩
    have hM1 : n ≤ M := by rw [← hM]; split <;> omega
    have hM2 : M - m ≤ n := by rw [← hM, ← hm]; split <;> split <;> omega
    have hM3 : 0 ≤ m ∧ m ≤ M ∧ M ≤ 1000000000 := by have := HA.out; have := HB.out; rw [← hM, ← hm]; split <;> split <;> omega
    obtain ⟨hm0, hmM, hMb⟩ := hM3
    have dM : decide (M < n) = false := by simp; omega
    have dm : decide (n < M - m) = false := by simp; omega
    clear hmx
    go_wp2_with (first
      | (go_at_call 12; ((with_reducible refine (impl_ed a b _ HA.out HB.out _ HN.out).mono ?_); rintro e wn ⟨rfl, hb⟩; have HBW2 := Lib.hid (HBW.out.trans (hb.mono HBW.out.size)); clear hb HBW; have HBW := HBW2; clear HBW2))
      | (go_at_call 12; ((with_reducible refine (impl_ed b a _ HB.out HA.out _ HN2.out).mono ?_); rintro e wn ⟨rfl, hb⟩; have HBW2 := Lib.hid (HBW.out.trans (hb.mono HBW.out.size)); clear hb HBW; have HBW := HBW2; clear HBW2))
      | (go_at_call 13; ((with_reducible refine (impl_sd a b _ HA.out HB.out _ HS.out).mono ?_); rintro e wn ⟨rfl, hb⟩; have HBW2 := Lib.hid (HBW.out.trans (hb.mono HBW.out.size)); clear hb HBW; have HBW := HBW2; clear HBW2))
      | (go_at_call 14; ((with_reducible refine (spec_ed a b _ HA.out HB.out _ HN.out).mono ?_); rintro e wn ⟨rfl, hb⟩; have HBW2 := Lib.hid (HBW.out.trans (hb.mono HBW.out.size)); clear hb HBW; have HBW := HBW2; clear HBW2))
      | (go_at_call 15; ((with_reducible refine (spec_sd a b _ HA.out HB.out _ HS.out).mono ?_); rintro e wn ⟨rfl, hb⟩; have HBW2 := Lib.hid (HBW.out.trans (hb.mono HBW.out.size)); clear hb HBW; have HBW := HBW2; clear HBW2))
      | (go_at_call 16; ((with_reducible refine (impl_es a b _ HA.out HB.out).mono ?_); rintro e wn ⟨he, hb⟩; rw [HES.out] at he; obtain rfl := he; have HBW2 := Lib.hid (HBW.out.trans (hb.mono HBW.out.size)); clear hb HBW; have HBW := HBW2; clear HBW2))
      | (go_at_call 17; ((with_reducible refine (spec_es a b _ HA.out HB.out).mono ?_); rintro e wn ⟨he, hb⟩; rw [HES.out] at he; obtain rfl := he; have HBW2 := Lib.hid (HBW.out.trans (hb.mono HBW.out.size)); clear hb HBW; have HBW := HBW2; clear HBW2))
      | (go_at_call 18; ((with_reducible refine (fresh_any A len cap _ (codeAt_later HCODE.out HBW.out)).mono ?_); rintro e wn ⟨A5, n5, c5, rfl, hc5, hb⟩; have HC5 := Lib.hid hc5; have HBW2 := Lib.hid (HBW.out.trans (hb.mono HBW.out.size)); clear hb HBW hc5; have HBW := HBW2; clear HBW2)))
    go_wp2_with (go_at_call 11; ((with_reducible refine (drawED_any A5 n5 c5 _ HC5.out).mono ?_); rintro e wn ⟨c, dd, rfl, hc4, hd4, hb⟩; refine Hid.out ?_))
    refine Lib.hid ?_
    have HBW2 := Lib.hid (HBW.out.trans (hb.mono HBW.out.size))
    clear hb HBW
    have HBW := HBW2
    clear HBW2
    have HC := Lib.hid (show c.size ≤ 1048576 by omega)
    obtain ⟨p, hp⟩ : ∃ p, edD false a c = p := ⟨_, rfl⟩
    obtain ⟨q, hq⟩ : ∃ q, edD false c b = q := ⟨_, rfl⟩
    have hp1 : -1 ≤ p := by rw [← hp]; exact edD_ge _ _ _
    have hp2 : p ≤ 40 := by rw [← hp]; exact edD_le _ _ _
    have hq1 : -1 ≤ q := by rw [← hq]; exact edD_ge _ _ _
    have hq2 : q ≤ 40 := by rw [← hq]; exact edD_le _ _ _
    have HP := Lib.hid hp
    have HQ := Lib.hid hq
    clear hp hq hc4 hd4
    by_cases hc40 : c.size ≤ 40
    all_goals
      first
        | (have dc : decide ((c.size : Int) ≤ 40) = true := by simp; omega)
        | (have dc : decide ((c.size : Int) ≤ 40) = false := by simp; omega)
      have htri : c.size ≤ 40 → decide (p + q < n) = false := fun h => by
        have h0 : 0 ≤ edD false a b := by rw [HN.out]; exact hpos
        have h1 := edD_tri h0 h
        rw [HN.out, HP.out, HQ.out] at h1
        simp
        omega
      try (have htri2 := htri hc40)
      clear htri
      go_wp2_with (first
        | (go_at_call 12; ((with_reducible refine (impl_ed a c _ HA.out HC.out _ HP.out).mono ?_); rintro e wn ⟨rfl, hb⟩; have HBW2 := Lib.hid (HBW.out.trans (hb.mono HBW.out.size)); clear hb HBW; have HBW := HBW2; clear HBW2))
        | (go_at_call 12; ((with_reducible refine (impl_ed c b _ HC.out HB.out _ HQ.out).mono ?_); rintro e wn ⟨rfl, hb⟩; have HBW2 := Lib.hid (HBW.out.trans (hb.mono HBW.out.size)); clear hb HBW; have HBW := HBW2; clear HBW2))
        | (go_at_call 19; ((with_reducible refine (drawEW_any A len cap _ (codeAt_later HCODE.out HBW.out)).mono ?_); rintro e wn ⟨x, y, lim, rfl, hx4, hy4, hq3, hq4, hb⟩; refine Hid.out ?_)))
      refine Lib.hid ?_
      have HBW2 := Lib.hid (HBW.out.trans (hb.mono HBW.out.size))
      clear hb HBW
      have HBW := HBW2
      clear HBW2
      have HX := Lib.hid (show x.size ≤ 1048576 by omega)
      have HY := Lib.hid (show y.size ≤ 1048576 by omega)
      obtain ⟨ew, hew⟩ : ∃ r, ewR (edD false x y) lim = r := ⟨_, rfl⟩
      have HEW := Lib.hid hew
      clear hew hx4 hy4
      go_wp2_with (first
        | (go_at_call 20; ((with_reducible refine (impl_ew x y lim _ HX.out HY.out).mono ?_); rintro e wn ⟨he, hb⟩; rw [HEW.out] at he; obtain rfl := he; have HBW2 := Lib.hid (HBW.out.trans (hb.mono HBW.out.size)); clear hb HBW; have HBW := HBW2; clear HBW2))
        | (go_at_call 21; ((with_reducible refine (spec_ew x y lim _ HX.out HY.out).mono ?_); rintro e wn ⟨he, hb⟩; rw [HEW.out] at he; obtain rfl := he; have HBW2 := Lib.hid (HBW.out.trans (hb.mono HBW.out.size)); clear hb HBW; have HBW := HBW2; clear HBW2))
        | (go_at_call 22; ((with_reducible refine (drawES_any A len cap _ (codeAt_later HCODE.out HBW.out)).mono ?_); rintro e wn ⟨u, v, rfl, hu4, hv4, hb⟩; refine Hid.out ?_)))
      refine Lib.hid ?_
      have HBW2 := Lib.hid (HBW.out.trans (hb.mono HBW.out.size))
      clear hb HBW
      have HBW := HBW2
      clear HBW2
      have hus := text_size hu4
      have hvs := text_size hv4
      have HU := Lib.hid (show u.size ≤ 1048576 by omega)
      have HV := Lib.hid (show v.size ≤ 1048576 by omega)
      obtain ⟨T, hT⟩ : ∃ T, scr u.data.toList v.data.toList = T := ⟨_, rfl⟩
      obtain ⟨K, hK⟩ : ∃ K, lev false u.data.toList v.data.toList = K := ⟨_, rfl⟩
      obtain ⟨t, ht⟩ : ∃ t, strOf T = t := ⟨_, rfl⟩
      have HTT := Lib.hid (show t.data.toList = T by rw [← ht]; exact strOf_data T)
      have HTE := Lib.hid (show Ending.returned (.string (strOf (scR u v))) = .returned (.string t) by rw [scR_yes hu4 hv4, hT, ht])
      have htsz : t.size ≤ 160 := by
        rw [← ht, strOf_size, ← hT]
        refine Nat.le_trans (scr_length _ _) ?_
        rw [ba_len, ba_len]
        omega
      have HT1 := Lib.hid (show t.size ≤ 1048576 by omega)
      have HAPP := Lib.hid (show app u.data.toList t.data.toList = some v.data.toList by rw [HTT.out, ← hT]; exact scr_app _ _)
      have HAPR := Lib.hid (show apR (some v.data.toList) = .returned (.tuple #[.string v, .bool true]) by
        show Ending.returned (.tuple #[.string (strOf v.data.toList), .bool true]) = _
        rw [strOf_self])
      have HK := Lib.hid (show edD false u v = (K : Int) by rw [edD_yes hus hvs, hK])
      have HCO := Lib.hid (show costS T = K by rw [← hT, ← hK]; exact scr_cost _ _)
      have HTL := Lib.hid (show T.length = t.size by rw [← HTT.out, ba_len])
      clear hT hK ht hu4 hv4
      go_wp2_with (first
        | (go_at_call 23; ((with_reducible refine (impl_scr u v _ HU.out HV.out).mono ?_); rintro e wn ⟨he, hb⟩; rw [HTE.out] at he; obtain rfl := he; have HBW2 := Lib.hid (HBW.out.trans (hb.mono HBW.out.size)); clear hb HBW; have HBW := HBW2; clear HBW2))
        | (go_at_call 24; ((with_reducible refine (impl_ap u t _ HU.out HT1.out _ HAPP.out).mono ?_); rintro e wn ⟨he, hb⟩; rw [HAPR.out] at he; obtain rfl := he; have HBW2 := Lib.hid (HBW.out.trans (hb.mono HBW.out.size)); clear hb HBW; have HBW := HBW2; clear HBW2)))
      go_loop [17, 18] (fun vc vi => ∃ i k : Nat, i ≤ t.size + 1 ∧ k ≤ i ∧ vc = .int .i64 k ∧ vi = .int .i64 i ∧ CoAt T i k) (fun _ vi => t.size + 1 - (intOf vi).toNat)
      case atStart => exact ⟨0, 0, by omega, by omega, rfl, rfl, by unfold CoAt; rw [List.drop_zero]; omega⟩
      case round =>
        obtain ⟨i, k, hi, hki, rfl, rfl, hco⟩ := hrel
        have HCA := Lib.hid hco
        clear hco
        by_cases hlt : i < t.size
        · have hby := t[i].toNat_lt
          by_cases c1 : t[i].toNat = 126
          · have HN5 := Lib.hid (HCA.out.one HTT.out hlt (.inl c1))
            go_wp2
            go_round
            case rel => exact ⟨i + 2, k + 1, by omega, by omega, by go_num, by go_num, HN5.out⟩
            case measure => simp [intOf] <;> omega
          · by_cases c2 : t[i].toNat = 43
            · have HN5 := Lib.hid (HCA.out.one HTT.out hlt (.inr c2))
              go_wp2
              go_round
              case rel => exact ⟨i + 2, k + 1, by omega, by omega, by go_num, by go_num, HN5.out⟩
              case measure => simp [intOf] <;> omega
            · by_cases c3 : t[i].toNat = 45
              · have HN5 := Lib.hid (HCA.out.del HTT.out hlt c3)
                go_wp2
                go_round
                case rel => exact ⟨i + 1, k + 1, by omega, by omega, by go_num, by go_num, HN5.out⟩
                case measure => simp [intOf] <;> omega
              · have HN5 := Lib.hid (HCA.out.skip HTT.out hlt c1 c2 c3)
                have b1 : ((t[i].toNat : Int) == 126) = false := by simp; omega
                have b2 : ((t[i].toNat : Int) == 43) = false := by simp; omega
                have b3 : ((t[i].toNat : Int) == 45) = false := by simp; omega
                go_wp2
                go_round
                case rel => exact ⟨i + 1, k, by omega, by omega, rfl, by go_num, HN5.out⟩
                case measure => simp [intOf] <;> omega
        · obtain rfl : k = K := by rw [← HCO.out]; exact HCA.out.fin (by rw [HTL.out]; omega)
          go_wp2_with (first
            | (go_at_call 25; ((with_reducible refine (spec_scr u v _ HU.out HV.out).mono ?_); rintro e wn ⟨he, hb⟩; rw [HTE.out] at he; obtain rfl := he; have HBW2 := Lib.hid (HBW.out.trans (hb.mono HBW.out.size)); clear hb HBW; have HBW := HBW2; clear HBW2))
            | (go_at_call 14; ((with_reducible refine (spec_ed u v _ HU.out HV.out _ HK.out).mono ?_); rintro e wn ⟨rfl, hb⟩; have HBW2 := Lib.hid (HBW.out.trans (hb.mono HBW.out.size)); clear hb HBW; have HBW := HBW2; clear HBW2)))
          go_ret
          exact ⟨rfl, HBW.out⟩

set_option maxRecDepth 100000 in
theorem FnEdits_walk (A : Option Addr) (len cap : Nat) (zs : List Int) (w : World) (h : IsRow .u8 w A len cap zs) :
    Calls Try.prog 3 #[.slice A len cap] w fun e w' => e = .returned (.bool true) ∧ Below w.heap.size w w' := by
  by_cases hl : 1048576 < (len : Int)
  · go_enter Try.func3, Try.ntmps3
    go_wp2_with (go_at_call 10; (refine (big_yes A len cap _ hl).mono ?_); rintro e w0 ⟨rfl, rfl⟩)
    go_ret
    exact ⟨rfl, Below.refl _ _⟩
  · exact FnEdits_core A len cap w (codeAt_of h (by omega))

end Go.Proofs.Ytagceeeoophkpaa
