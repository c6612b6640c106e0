/-
  What SimilarStrings answers, on both sides. By an AI agent.
-/
import Derived.Test.YtkeimdobcfoplaaGramF
import Derived.Test.YtkeimdobcfoplaaEdDist
import Derived.Test.YtkeimdobcfoplaaIntM
namespace Go.Proofs.Ytkeimdobcfoplaa
open Go.RowKit
set_option linter.unusedVariables false

/-- whether x lies within the limit of y -/
def hitP (y : Str) (l : Int) (x : Str) : Bool := decide (x.length ≤ 40 ∧ y.length ≤ 40 ∧ ((lev false x y : Nat) : Int) ≤ l)
/-- the places among the first k at which P holds -/
def simT (P : Str → Bool) (l : List Str) : Nat → List Int
  | 0 => []
  | k + 1 => simT P l k ++ (if (l[k]?.map P).getD false then [((k : Nat) : Int)] else [])
def simR (l : List Str) (y : Str) (limit : Int) : List Int := simT (hitP y limit) l l.length
theorem simT_yes {P : Str → Bool} {l : List Str} {k : Nat} {x : Str} (h : l[k]? = some x) (hp : P x = true) : simT P l (k + 1) = simT P l k ++ [((k : Nat) : Int)] := by
  rw [simT, h]
  simp [hp]
theorem simT_no {P : Str → Bool} {l : List Str} {k : Nat} {x : Str} (h : l[k]? = some x) (hp : P x = false) : simT P l (k + 1) = simT P l k := by
  rw [simT, h]
  simp [hp]
theorem simT_len (P : Str → Bool) (l : List Str) (k : Nat) : (simT P l k).length ≤ k := by
  induction k with
  | zero => simp [simT]
  | succ k ih =>
    rw [simT, List.length_append]
    split <;> simp <;> omega
theorem simT_none {P : Str → Bool} (h : ∀ x, P x = false) (l : List Str) (k : Nat) : simT P l k = [] := by
  induction k with
  | zero => rfl
  | succ k ih =>
    rw [simT, ih]
    cases e : l[k]? with
    | none => simp
    | some x => simp [h x]
theorem simT_congr {P Q : Str → Bool} (h : ∀ x, P x = Q x) (l : List Str) (k : Nat) : simT P l k = simT Q l k := by
  rw [show P = Q from funext h]
theorem simR_len (l : List Str) (y : Str) (limit : Int) : (simR l y limit).length ≤ l.length := simT_len _ _ _
theorem hit_neg (y : Str) {l : Int} (h : l < 0) (x : Str) : hitP y l x = false := by
  unfold hitP
  apply decide_eq_false
  omega
theorem hit_min (y : Str) (l : Int) (h : 40 < l) (x : Str) : hitP y 40 x = hitP y l x := by
  have := lev_most false x y
  unfold hitP
  congr 1
  apply propext
  constructor <;> intro _ <;> omega

theorem ew_yes {a b : ByteArray} {x y : Str} {l : Int} (ha : a.data.toList = x) (hb : b.data.toList = y) (h : hitP y l x = true) : ∃ n : Nat, ewR (edD false a b) l = (n : Int) := by
  subst ha hb
  have h2 : a.data.toList.length = a.size := Array.length_toList
  have h3 : b.data.toList.length = b.size := Array.length_toList
  have h1 := of_decide_eq_true h
  rw [h2, h3] at h1
  refine ⟨lev false a.data.toList b.data.toList, ?_⟩
  rw [edD_yes h1.1 h1.2.1, ewR, if_neg (by omega)]
theorem ew_no {a b : ByteArray} {x y : Str} {l : Int} (ha : a.data.toList = x) (hb : b.data.toList = y) (h : hitP y l x = false) : ewR (edD false a b) l = -1 := by
  subst ha hb
  have h2 : a.data.toList.length = a.size := Array.length_toList
  have h3 : b.data.toList.length = b.size := Array.length_toList
  have h1 := of_decide_eq_false h
  rw [h2, h3] at h1
  by_cases hs : a.size ≤ 40 ∧ b.size ≤ 40
  · rw [edD_yes hs.1 hs.2, ewR, if_pos (.inr (by omega))]
  · rw [edD_no hs, ewR, if_pos (.inl (by omega))]
theorem pf_no {a b : ByteArray} {x y : Str} {l : Int} (ha : a.data.toList = x) (hb : b.data.toList = y) (hl : l ≤ 40) (h : pfR a b l = false) : hitP y l x = false := by
  subst ha hb
  have h2 : a.data.toList.length = a.size := Array.length_toList
  have h3 : b.data.toList.length = b.size := Array.length_toList
  cases e : hitP b.data.toList l a.data.toList
  · rfl
  · have h1 := of_decide_eq_true e
    rw [h2, h3] at h1
    rw [lev_pfR h1.1 h1.2.1 hl h1.2.2] at h
    cases h

/-- a slice of integers of the call's own is handed back -/
def GivesO (w : World) (L : List Int) (e : Ending) (w' : World) : Prop := ∃ a cap, e = .returned (.slice a L.length cap) ∧ OwnI w' w.heap.size (.slice a L.length cap) L ∧ Below w.heap.size w w'

set_option maxRecDepth 100000 in
set_option maxHeartbeats 800000 in
theorem sim_spec (a0 : Option Addr) (c0 : Nat) (l0 : List Str) (s : ByteArray) (limit : Int) (r : List Int) (w : World) (hs : s.size ≤ 1048576) (hr : simR l0 s.data.toList limit = r) (h0 : Sm w a0 l0 c0) :
    Calls Try.prog 20 #[.slice a0 l0.length c0, .string s, .int .i64 limit] w (GivesO w r) := by
  obtain ⟨hin0, -, hcap, hl0, hx0⟩ := h0
  have H0 := Lib.hid hin0
  have X0 := Lib.hid hx0
  have HR := Lib.hid hr
  obtain ⟨y, hy⟩ : ∃ y, s.data.toList = y := ⟨_, rfl⟩
  rw [hy] at HR
  have HY := Lib.hid hy
  have HS := Lib.hid hs
  clear hin0 hx0 hr hy hs
  go_enter Try.func20, Try.ntmps20
  go_wp2
  go_loopw [7, 8] (fun v i wr => ∃ (k : Nat) (a : Option Addr) (c : Nat) (l : List Int), k ≤ l0.length ∧ i = .int .i64 k ∧ v = .slice a l.length c ∧ l.length ≤ k ∧ l = simT (hitP y limit) l0 k ∧ OwnI wr w.heap.size (.slice a l.length c) l ∧ Below w.heap.size w wr) (fun _ i _ => l0.length - (intOf i).toNat)
  case atStart => exact ⟨0, some ⟨w.heap.size, 0, none⟩, 0, [], Nat.zero_le _, rfl, rfl, Nat.le_refl _, rfl, OwnI.made w _ _ 0 (Nat.le_refl _) (by unfold maxLen; omega) rfl, (Below.refl _ _).alloc (Nat.le_refl _) _⟩
  case round =>
    obtain ⟨k, a, c, l, hk, rfl, rfl, hlk, hl, hown, hb⟩ := hrel
    have HL := Lib.hid hl
    have HO := Lib.hid hown
    have HB := Lib.hid hb
    clear hl hown hb
    by_cases hlt : k < l0.length
    · by_cases hneg : 0 ≤ limit
      · obtain ⟨b, off, rfl, hbw, hc⟩ := H0.out (by omega)
        obtain ⟨x, t, hx1, hx2, hx3, hx4⟩ := str_at hlt
        have hcell : wr.cell? ⟨b, off + k, none⟩ = some (.string t) := by
          rw [HB.out.cell (p := ⟨b, off + k, none⟩) hbw, ← hx3]
          exact hc k x hx1
        have HSZ := Lib.hid (show t.size ≤ 1048576 by rw [hx4]; exact X0.out x (List.mem_of_getElem? hx1))
        cases hh : hitP y limit x
        · have HE := Lib.hid (ew_no hx2 HY.out hh)
          have HN := Lib.hid (show l = simT (hitP y limit) l0 (k + 1) by rw [simT_no hx1 hh]; exact HL.out)
          clear hc hx1 hx2 hx3 hx4 hbw hh
          go_wp2_with (go_at_call 44; ((with_reducible refine (spec_ew t s limit _ HSZ.out HS.out).mono ?_); rintro e w1 ⟨he, hb1⟩; rw [HE.out] at he; obtain rfl := he; have HB1 := Lib.hid hb1; clear hb1))
          go_roundw
          case rel => exact ⟨k + 1, a, c, l, by omega, by go_num, rfl, by omega, HN.out, HO.out.below HB1.out, HB.out.trans (HB1.out.mono HB.out.size)⟩
          case measure => simp [intOf]; omega
        · obtain ⟨n, hn⟩ := ew_yes hx2 HY.out hh
          have HE := Lib.hid hn
          have HN := Lib.hid (show l ++ [((k : Nat) : Int)] = simT (hitP y limit) l0 (k + 1) by rw [simT_yes hx1 hh, ← HL.out])
          clear hc hx1 hx2 hx3 hx4 hbw hh hn
          go_wp2_with (first
            | (go_at_call 44; ((with_reducible refine (spec_ew t s limit _ HSZ.out HS.out).mono ?_); rintro e w1 ⟨he, hb1⟩; rw [HE.out] at he; obtain rfl := he; have HO1 := Lib.hid (HO.out.below hb1); have HB1 := Lib.hid (HB.out.trans (hb1.mono HB.out.size)); clear hb1))
            | (at_builtin; refine append_i rfl _ _ rfl w.heap.size (.slice a l.length c) l k HO1.out rfl rfl (by omega) HB1.out.size ?_; intro v5 w5 ho hg hat; obtain ⟨a5, c5, rfl⟩ := ho.shape; have HO5 := Lib.hid ho; have HB5 := Lib.hid (HB1.out.grown hg HB1.out.size (fun q hq => (World.ownsRow.lt HO1.out q hq).1)); clear ho hg hat))
          go_roundw
          case rel => exact ⟨k + 1, a5, c5, l ++ [((k : Nat) : Int)], by omega, by go_num, by simp, by rw [List.length_append]; simp; omega, HN.out, HO5.out, HB5.out⟩
          case measure => simp [intOf]; omega
      · have HE := Lib.hid (show l = r by rw [← HR.out, HL.out, simR, simT_none (hit_neg y (by omega)), simT_none (hit_neg y (by omega))])
        have dn : decide (0 ≤ limit) = false := by simp; omega
        go_wp2
        go_ret
        rw [← HE.out]
        exact ⟨a, c, rfl, HO.out, HB.out⟩
    · obtain rfl : k = l0.length := by omega
      have HE := Lib.hid (show l = r by rw [← HR.out, HL.out, simR])
      go_wp2
      go_ret
      rw [← HE.out]
      exact ⟨a, c, rfl, HO.out, HB.out⟩

set_option maxRecDepth 100000 in
set_option maxHeartbeats 800000 in
theorem sim_impl_in (a0 : Option Addr) (c0 : Nat) (l0 : List Str) (s : ByteArray) (limit : Int) (hm : limit ≤ 40) (r : List Int) (w : World) (hs : s.size ≤ 1048576) (hr : simR l0 s.data.toList limit = r) (h0 : Sm w a0 l0 c0) :
    Calls Try.prog 19 #[.slice a0 l0.length c0, .string s, .int .i64 limit] w (GivesO w r) := by
  obtain ⟨hin0, -, hcap, hl0, hx0⟩ := h0
  have H0 := Lib.hid hin0
  have X0 := Lib.hid hx0
  obtain ⟨y, hy⟩ : ∃ y, s.data.toList = y := ⟨_, rfl⟩
  rw [hy] at hr
  have HR := Lib.hid (show simT (hitP y limit) l0 l0.length = r by rw [← hr, simR])
  have HY := Lib.hid hy
  have HS := Lib.hid hs
  clear hin0 hx0 hr hy hs
  go_enter Try.func19, Try.ntmps19
  go_wp2
  go_loopw [7, 14] (fun v i wr => ∃ (k : Nat) (a : Option Addr) (c : Nat) (l : List Int), k ≤ l0.length ∧ i = .int .i64 k ∧ v = .slice a l.length c ∧ l.length ≤ k ∧ l = simT (hitP y limit) l0 k ∧ OwnI wr w.heap.size (.slice a l.length c) l ∧ Below w.heap.size w wr) (fun _ i _ => l0.length - (intOf i).toNat)
  case atStart => exact ⟨0, none, 0, [], Nat.zero_le _, rfl, rfl, Nat.le_refl _, rfl, OwnI.nil _ _, Below.refl _ _⟩
  case round =>
    obtain ⟨k, a, c, l, hk, rfl, rfl, hlk, hl, hown, hb⟩ := hrel
    have HL := Lib.hid hl
    have HO := Lib.hid hown
    have HB := Lib.hid hb
    clear hl hown hb
    by_cases hlt : k < l0.length
    · obtain ⟨b, off, rfl, hbw, hc⟩ := H0.out (by omega)
      obtain ⟨x, t, hx1, hx2, hx3, hx4⟩ := str_at hlt
      have hcell : wr.cell? ⟨b, off + k, none⟩ = some (.string t) := by
        rw [HB.out.cell (p := ⟨b, off + k, none⟩) hbw, ← hx3]
        exact hc k x hx1
      have HSZ := Lib.hid (show t.size ≤ 1048576 by rw [hx4]; exact X0.out x (List.mem_of_getElem? hx1))
      cases hp : pfR t s limit
      · have hh := pf_no hx2 HY.out (by omega) hp
        have HP := Lib.hid hp
        have HN := Lib.hid (show l = simT (hitP y limit) l0 (k + 1) by rw [simT_no hx1 hh]; exact HL.out)
        clear hc hx1 hx2 hx3 hx4 hbw hh hp
        go_wp2_with (go_at_call 12; ((with_reducible refine (pf_impl t s limit _ _ HSZ.out HS.out HP.out).mono ?_); rintro e w1 ⟨rfl, hb1⟩; have HB1 := Lib.hid hb1; clear hb1))
        go_roundw
        case rel => exact ⟨k + 1, a, c, l, by omega, by go_num, rfl, by omega, HN.out, HO.out.below HB1.out, HB.out.trans (HB1.out.mono HB.out.size)⟩
        case measure => simp [intOf]; omega
      · have HP := Lib.hid hp
        clear hp
        cases hh : hitP y limit x
        · have HE := Lib.hid (ew_no hx2 HY.out hh)
          have HN := Lib.hid (show l = simT (hitP y limit) l0 (k + 1) by rw [simT_no hx1 hh]; exact HL.out)
          clear hc hx1 hx2 hx3 hx4 hbw hh
          go_wp2_with (first
            | (go_at_call 12; ((with_reducible refine (pf_impl t s limit _ _ HSZ.out HS.out HP.out).mono ?_); rintro e w1 ⟨rfl, hb1⟩; have HO1 := Lib.hid (HO.out.below hb1); have HB1 := Lib.hid (HB.out.trans (hb1.mono HB.out.size)); clear hb1))
            | (go_at_call 43; ((with_reducible refine (impl_ew t s limit _ HSZ.out HS.out).mono ?_); rintro e w2 ⟨he, hb2⟩; rw [HE.out] at he; obtain rfl := he; have HO2 := Lib.hid (HO1.out.below hb2); have HB2 := Lib.hid (HB1.out.trans (hb2.mono HB1.out.size)); clear hb2)))
          go_roundw
          case rel => exact ⟨k + 1, a, c, l, by omega, by go_num, rfl, by omega, HN.out, HO2.out, HB2.out⟩
          case measure => simp [intOf]; omega
        · obtain ⟨n, hn⟩ := ew_yes hx2 HY.out hh
          have HE := Lib.hid hn
          have HN := Lib.hid (show l ++ [((k : Nat) : Int)] = simT (hitP y limit) l0 (k + 1) by rw [simT_yes hx1 hh, ← HL.out])
          clear hc hx1 hx2 hx3 hx4 hbw hh hn
          go_wp2_with (first
            | (go_at_call 12; ((with_reducible refine (pf_impl t s limit _ _ HSZ.out HS.out HP.out).mono ?_); rintro e w1 ⟨rfl, hb1⟩; have HO1 := Lib.hid (HO.out.below hb1); have HB1 := Lib.hid (HB.out.trans (hb1.mono HB.out.size)); clear hb1))
            | (go_at_call 43; ((with_reducible refine (impl_ew t s limit _ HSZ.out HS.out).mono ?_); rintro e w2 ⟨he, hb2⟩; rw [HE.out] at he; obtain rfl := he; have HO2 := Lib.hid (HO1.out.below hb2); have HB2 := Lib.hid (HB1.out.trans (hb2.mono HB1.out.size)); clear hb2))
            | (at_builtin; refine append_i rfl _ _ rfl w.heap.size (.slice a l.length c) l k HO2.out rfl rfl (by omega) HB2.out.size ?_; intro v5 w5 ho hg hat; obtain ⟨a5, c5, rfl⟩ := ho.shape; have HO5 := Lib.hid ho; have HB5 := Lib.hid (HB2.out.grown hg HB2.out.size (fun q hq => (World.ownsRow.lt HO2.out q hq).1)); clear ho hg hat))
          go_roundw
          case rel => exact ⟨k + 1, a5, c5, l ++ [((k : Nat) : Int)], by omega, by go_num, by simp, by rw [List.length_append]; simp; omega, HN.out, HO5.out, HB5.out⟩
          case measure => simp [intOf]; omega
    · obtain rfl : k = l0.length := by omega
      have HE := Lib.hid (show l = r by rw [← HR.out, HL.out])
      go_wp2
      go_ret
      rw [← HE.out]
      exact ⟨a, c, rfl, HO.out, HB.out⟩

set_option maxRecDepth 100000 in
set_option maxHeartbeats 800000 in
theorem sim_impl_over (a0 : Option Addr) (c0 : Nat) (l0 : List Str) (s : ByteArray) (limit : Int) (hm : 40 < limit) (r : List Int) (w : World) (hs : s.size ≤ 1048576) (hr : simR l0 s.data.toList limit = r) (h0 : Sm w a0 l0 c0) :
    Calls Try.prog 19 #[.slice a0 l0.length c0, .string s, .int .i64 limit] w (GivesO w r) := by
  obtain ⟨hin0, -, hcap, hl0, hx0⟩ := h0
  have H0 := Lib.hid hin0
  have X0 := Lib.hid hx0
  obtain ⟨y, hy⟩ : ∃ y, s.data.toList = y := ⟨_, rfl⟩
  rw [hy] at hr
  have HR := Lib.hid (show simT (hitP y 40) l0 l0.length = r by rw [← hr, simR, simT_congr (hit_min y limit hm)])
  have HY := Lib.hid hy
  have HS := Lib.hid hs
  clear hin0 hx0 hr hy hs
  go_enter Try.func19, Try.ntmps19
  go_wp2
  go_loopw [7, 14] (fun v i wr => ∃ (k : Nat) (a : Option Addr) (c : Nat) (l : List Int), k ≤ l0.length ∧ i = .int .i64 k ∧ v = .slice a l.length c ∧ l.length ≤ k ∧ l = simT (hitP y 40) l0 k ∧ OwnI wr w.heap.size (.slice a l.length c) l ∧ Below w.heap.size w wr) (fun _ i _ => l0.length - (intOf i).toNat)
  case atStart => exact ⟨0, none, 0, [], Nat.zero_le _, rfl, rfl, Nat.le_refl _, rfl, OwnI.nil _ _, Below.refl _ _⟩
  case round =>
    obtain ⟨k, a, c, l, hk, rfl, rfl, hlk, hl, hown, hb⟩ := hrel
    have HL := Lib.hid hl
    have HO := Lib.hid hown
    have HB := Lib.hid hb
    clear hl hown hb
    by_cases hlt : k < l0.length
    · obtain ⟨b, off, rfl, hbw, hc⟩ := H0.out (by omega)
      obtain ⟨x, t, hx1, hx2, hx3, hx4⟩ := str_at hlt
      have hcell : wr.cell? ⟨b, off + k, none⟩ = some (.string t) := by
        rw [HB.out.cell (p := ⟨b, off + k, none⟩) hbw, ← hx3]
        exact hc k x hx1
      have HSZ := Lib.hid (show t.size ≤ 1048576 by rw [hx4]; exact X0.out x (List.mem_of_getElem? hx1))
      cases hp : pfR t s 40
      · have hh := pf_no hx2 HY.out (by omega) hp
        have HP := Lib.hid hp
        have HN := Lib.hid (show l = simT (hitP y 40) l0 (k + 1) by rw [simT_no hx1 hh]; exact HL.out)
        clear hc hx1 hx2 hx3 hx4 hbw hh hp
        go_wp2_with (go_at_call 12; ((with_reducible refine (pf_impl t s 40 _ _ HSZ.out HS.out HP.out).mono ?_); rintro e w1 ⟨rfl, hb1⟩; have HB1 := Lib.hid hb1; clear hb1))
        go_roundw
        case rel => exact ⟨k + 1, a, c, l, by omega, by go_num, rfl, by omega, HN.out, HO.out.below HB1.out, HB.out.trans (HB1.out.mono HB.out.size)⟩
        case measure => simp [intOf]; omega
      · have HP := Lib.hid hp
        clear hp
        cases hh : hitP y 40 x
        · have HE := Lib.hid (ew_no hx2 HY.out hh)
          have HN := Lib.hid (show l = simT (hitP y 40) l0 (k + 1) by rw [simT_no hx1 hh]; exact HL.out)
          clear hc hx1 hx2 hx3 hx4 hbw hh
          go_wp2_with (first
            | (go_at_call 12; ((with_reducible refine (pf_impl t s 40 _ _ HSZ.out HS.out HP.out).mono ?_); rintro e w1 ⟨rfl, hb1⟩; have HO1 := Lib.hid (HO.out.below hb1); have HB1 := Lib.hid (HB.out.trans (hb1.mono HB.out.size)); clear hb1))
            | (go_at_call 43; ((with_reducible refine (impl_ew t s 40 _ HSZ.out HS.out).mono ?_); rintro e w2 ⟨he, hb2⟩; rw [HE.out] at he; obtain rfl := he; have HO2 := Lib.hid (HO1.out.below hb2); have HB2 := Lib.hid (HB1.out.trans (hb2.mono HB1.out.size)); clear hb2)))
          go_roundw
          case rel => exact ⟨k + 1, a, c, l, by omega, by go_num, rfl, by omega, HN.out, HO2.out, HB2.out⟩
          case measure => simp [intOf]; omega
        · obtain ⟨n, hn⟩ := ew_yes hx2 HY.out hh
          have HE := Lib.hid hn
          have HN := Lib.hid (show l ++ [((k : Nat) : Int)] = simT (hitP y 40) l0 (k + 1) by rw [simT_yes hx1 hh, ← HL.out])
          clear hc hx1 hx2 hx3 hx4 hbw hh hn
          go_wp2_with (first
            | (go_at_call 12; ((with_reducible refine (pf_impl t s 40 _ _ HSZ.out HS.out HP.out).mono ?_); rintro e w1 ⟨rfl, hb1⟩; have HO1 := Lib.hid (HO.out.below hb1); have HB1 := Lib.hid (HB.out.trans (hb1.mono HB.out.size)); clear hb1))
            | (go_at_call 43; ((with_reducible refine (impl_ew t s 40 _ HSZ.out HS.out).mono ?_); rintro e w2 ⟨he, hb2⟩; rw [HE.out] at he; obtain rfl := he; have HO2 := Lib.hid (HO1.out.below hb2); have HB2 := Lib.hid (HB1.out.trans (hb2.mono HB1.out.size)); clear hb2))
            | (at_builtin; refine append_i rfl _ _ rfl w.heap.size (.slice a l.length c) l k HO2.out rfl rfl (by omega) HB2.out.size ?_; intro v5 w5 ho hg hat; obtain ⟨a5, c5, rfl⟩ := ho.shape; have HO5 := Lib.hid ho; have HB5 := Lib.hid (HB2.out.grown hg HB2.out.size (fun q hq => (World.ownsRow.lt HO2.out q hq).1)); clear ho hg hat))
          go_roundw
          case rel => exact ⟨k + 1, a5, c5, l ++ [((k : Nat) : Int)], by omega, by go_num, by simp, by rw [List.length_append]; simp; omega, HN.out, HO5.out, HB5.out⟩
          case measure => simp [intOf]; omega
    · obtain rfl : k = l0.length := by omega
      have HE := Lib.hid (show l = r by rw [← HR.out, HL.out])
      go_wp2
      go_ret
      rw [← HE.out]
      exact ⟨a, c, rfl, HO.out, HB.out⟩

theorem sim_impl (a0 : Option Addr) (c0 : Nat) (l0 : List Str) (s : ByteArray) (limit : Int) (r : List Int) (w : World) (hs : s.size ≤ 1048576) (hr : simR l0 s.data.toList limit = r) (h0 : Sm w a0 l0 c0) :
    Calls Try.prog 19 #[.slice a0 l0.length c0, .string s, .int .i64 limit] w (GivesO w r) := by
  by_cases h : limit ≤ 40
  · exact sim_impl_in a0 c0 l0 s limit h r w hs hr h0
  · exact sim_impl_over a0 c0 l0 s limit (by omega) r w hs hr h0

end Go.Proofs.Ytkeimdobcfoplaa
