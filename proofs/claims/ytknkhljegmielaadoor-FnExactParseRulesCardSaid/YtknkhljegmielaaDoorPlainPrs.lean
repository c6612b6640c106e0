/-
  Reading decision rules, in plain lists. By an AI agent.
-/
import Derived.Test.YtknkhljegmielaaDoorPlainFmtR
import Derived.Test.YtknkhljegmielaaDoorFeatP
import Derived.Test.YtknkhljegmielaaDoorPiR
namespace Go.Proofs.YtknkhljegmielaaDoor
open Go.RowKit
set_option linter.unusedVariables false
set_option linter.unnecessarySimpa false
set_option linter.unusedSimpArgs false

/-! ### splitting at any separator -/
theorem gx_split (sep : Str) : ∀ s : Str, Lib.index s sep = -1 ∨ ∃ x y, s = x ++ (sep ++ y) ∧ Lib.index s sep = ((x.length : Nat) : Int)
  | [] => by
    cases sep with
    | nil => exact .inr ⟨[], [], rfl, rfl⟩
    | cons a t => exact .inl rfl
  | b :: l => by
    cases h : sep.isPrefixOf (b :: l) with
    | true =>
      obtain ⟨t, ht⟩ := List.isPrefixOf_iff_prefix.1 h
      refine .inr ⟨[], t, by rw [List.nil_append]; exact ht.symm, ?_⟩
      rw [Lib.index, h]
      rfl
    | false =>
      rcases gx_split sep l with h1 | ⟨x, y, h1, h2⟩
      · left
        rw [Lib.index, h, h1]
        rfl
      · right
        refine ⟨b :: x, y, by rw [List.cons_append, ← h1], ?_⟩
        have h4 : ¬ ((x.length : Nat) : Int) = -1 := by omega
        rw [Lib.index, h, h2]
        simp [h4]
theorem gx_at (c : UInt8) (t y : Str) : ∀ {x : Str}, c ∉ x → Lib.index (x ++ (c :: t ++ y)) (c :: t) = ((x.length : Nat) : Int)
  | [], _ => by
    have h3 : (c :: t).isPrefixOf (c :: (t ++ y)) = true := List.isPrefixOf_iff_prefix.2 ⟨y, rfl⟩
    rw [List.nil_append, List.cons_append, Lib.index, h3]
    rfl
  | b :: x, h => by
    have h1 := gx_at c t y (x := x) (fun e => h (List.mem_cons_of_mem _ e))
    have h2 : c ≠ b := fun e => h (by rw [e]; exact List.mem_cons_self ..)
    have h3 : (c :: t).isPrefixOf (b :: (x ++ (c :: t ++ y))) = false := by simp [List.isPrefixOf, h2]
    rw [List.cons_append, Lib.index, h3, h1]
    have h4 : ¬ ((x.length : Nat) : Int) = -1 := by omega
    simp [h4]
theorem gx_none (c : UInt8) (t : Str) : ∀ {s : Str}, c ∉ s → Lib.index s (c :: t) = -1
  | [], _ => rfl
  | b :: s, h => by
    have h1 := gx_none c t (s := s) (fun e => h (List.mem_cons_of_mem _ e))
    have h2 : c ≠ b := fun e => h (by rw [e]; exact List.mem_cons_self ..)
    have h3 : (c :: t).isPrefixOf (b :: s) = false := by simp [List.isPrefixOf, h2]
    rw [Lib.index, h3, h1]
    rfl
theorem gs_back (sep : Str) : ∀ (k : Nat) (s : Str), ∃ x L, Lib.splitK sep 0 k s = x :: L ∧ s = x ++ Lib.joinTail sep L ∧ L.length ≤ k
  | 0, s => ⟨s, [], rfl, by simp [Lib.joinTail], Nat.zero_le _⟩
  | k + 1, s => by
    rcases gx_split sep s with h | ⟨x, y, h, hi⟩
    · refine ⟨s, [], ?_, by simp [Lib.joinTail], Nat.zero_le _⟩
      rw [Lib.splitK, h]
      rfl
    · obtain ⟨z, L, h1, h2, h3⟩ := gs_back sep k y
      refine ⟨x, z :: L, ?_, by rw [tailG_cons, ← h2]; exact h, by simp; omega⟩
      have h4 : ¬ ((x.length : Nat) : Int) = -1 := by omega
      rw [Lib.splitK, hi, ← h1]
      simp [h4, h]
theorem gs_fwd (c : UInt8) (t : Str) : ∀ (L : List Str) (k : Nat) (x : Str), L.length ≤ k → c ∉ x → (∀ y ∈ L, c ∉ y) → Lib.splitK (c :: t) 0 k (x ++ Lib.joinTail (c :: t) L) = x :: L
  | [], k, x, _, hx, _ => by
    rw [show Lib.joinTail (c :: t) [] = [] from rfl, List.append_nil]
    cases k with
    | zero => rfl
    | succ k => rw [Lib.splitK, gx_none c t hx]; rfl
  | y :: L, k, x, hk, hx, hL => by
    obtain ⟨k, rfl⟩ : ∃ k', k = k' + 1 := ⟨k - 1, by simp at hk; omega⟩
    have h1 := gs_fwd c t L k y (by simp at hk; omega) (hL y (List.mem_cons_self ..)) (fun z hz => hL z (List.mem_cons_of_mem _ hz))
    have h4 : ¬ ((x.length : Nat) : Int) = -1 := by omega
    rw [tailG_cons, Lib.splitK, gx_at c t _ hx, ← h1]
    simp [h4]
theorem gc_at (c : UInt8) (t y : Str) {x : Str} (h : c ∉ x) : Lib.cut (x ++ (c :: t ++ y)) (c :: t) = (x, y, true) := by
  have h4 : (0 : Int) ≤ ((x.length : Nat) : Int) := by omega
  unfold Lib.cut
  rw [gx_at c t y h, if_pos h4]
  simp
theorem gc_cases (sep s : Str) : (∃ x y, s = x ++ (sep ++ y) ∧ Lib.cut s sep = (x, y, true)) ∨ Lib.cut s sep = (s, [], false) := by
  rcases gx_split sep s with h | ⟨x, y, h, hi⟩
  · right
    unfold Lib.cut
    rw [h, if_neg (by omega)]
  · left
    refine ⟨x, y, h, ?_⟩
    have h4 : (0 : Int) ≤ ((x.length : Nat) : Int) := by omega
    unfold Lib.cut
    rw [hi, if_pos h4]
    simp [h]
theorem gc_none (c : UInt8) (t : Str) {s : Str} (h : c ∉ s) : Lib.cut s (c :: t) = (s, [], false) := by
  unfold Lib.cut
  rw [gx_none c t h, if_neg (by omega)]

/-! ### the specification's reading -/
noncomputable def tryT (y : Str) (n : Nat) : Option TS :=
  if (fnL n).length < y.length ∧ y.take (fnL n).length = fnL n then
    if (y.drop (fnL n).length).head? = some 60 then some ((n, piR ((y.drop (fnL n).length).drop 1)), true)
    else if 2 < (y.drop (fnL n).length).length ∧ (y.drop (fnL n).length).take 2 = [62, 61] then some ((n, piR ((y.drop (fnL n).length).drop 2)), false)
    else none
  else none
noncomputable def sptT (y : Str) : TS := ((List.range 6).findSome? (tryT y)).getD ((0, 0), false)
noncomputable def spuT (p : Str) : List TS := ((cutL 44 p).take 4).map sptT
def evens {α : Type} : List α → List α
  | [] => []
  | [x] => [x]
  | x :: _ :: l => x :: evens l
noncomputable def spR (s : Str) : List (List TS) := (evens ((cutL 32 s).take 7)).map spuT

theorem first_some {β : Type} {g : Nat → Option β} {y : β} : ∀ {N n : Nat}, n < N → (∀ m, m < n → g m = none) → g n = some y → (List.range N).findSome? g = some y
  | 0, n, hn, _, _ => by omega
  | N + 1, n, hn, h0, h1 => by
    rw [List.range_succ, List.findSome?_append]
    rcases Nat.lt_or_ge n N with h | h
    · rw [first_some h h0 h1]; rfl
    · obtain rfl : n = N := by omega
      have h2 : (List.range n).findSome? g = none := by
        rw [List.findSome?_eq_none_iff]
        exact fun m hm => h0 m (List.mem_range.1 hm)
      rw [h2]
      simp [h1]
theorem fn_heads : ∀ n, n < 6 → ∀ m, m < 6 → m ≠ n → (fnL (n : Nat)).head? ≠ (fnL (m : Nat)).head? ∧ (fnL (m : Nat)) ≠ [] ∧ (fnL (n : Nat)) ≠ [] := by decide
theorem tsl_form {t : TS} (h : vtB t = true) : ∃ n : Nat, n < 6 ∧ t.1.1 = (n : Int) ∧ tsL t = fnL (n : Nat) ++ (marL t.2 ++ Lib.itoa t.1.2) := by
  have h1 := (vt_of h).1
  refine ⟨t.1.1.toNat, by omega, by omega, ?_⟩
  unfold tsL
  rw [List.append_assoc, show ((t.1.1.toNat : Nat) : Int) = t.1.1 by omega]
theorem spt_back {t : TS} (h : vtB t = true) : sptT (tsL t) = t := by
  obtain ⟨⟨f, x⟩, u⟩ := t
  obtain ⟨n, hn, hf, e⟩ := tsl_form h
  have hx := (vt_of h).2
  simp only at hf hx e
  subst hf
  have hne : Lib.itoa x ≠ [] := itoa_ne (by omega)
  have hl : 0 < (Lib.itoa x).length := List.length_pos_iff.2 hne
  unfold sptT
  rw [e]
  have hp : piR (Lib.itoa x) = x := piR_itoa (by omega) hx.2
  have h1 : tryT (fnL (n : Nat) ++ (marL u ++ Lib.itoa x)) n = some ((((n : Int), x), u) : TS) := by
    unfold tryT
    rw [if_pos ⟨by rw [List.length_append, List.length_append]; omega, List.take_left⟩, List.drop_left]
    cases u
    · rw [if_neg (by simp [marL]), if_pos ⟨by simp [marL]; omega, rfl⟩]
      show some ((((n : Int), piR (Lib.itoa x)), false) : TS) = _
      rw [hp]
    · rw [if_pos (show List.head? (marL true ++ Lib.itoa x) = some 60 from rfl)]
      show some ((((n : Int), piR (Lib.itoa x)), true) : TS) = _
      rw [hp]
  rw [first_some (n := n) (y := ((((n : Int), x), u) : TS)) hn (fun m hm => ?_) h1]
  · rfl
  · obtain ⟨g1, g2, g3⟩ := fn_heads n hn m (by omega) (by omega)
    unfold tryT
    rw [if_neg]
    rintro ⟨_, h3⟩
    apply g1
    have h4 := congrArg List.head? h3
    rw [List.head?_take, if_neg (by rw [List.length_eq_zero_iff]; exact g2)] at h4
    rw [← h4, List.head?_append]
    cases hh : fnL (n : Nat) with
    | nil => exact absurd hh g3
    | cons b l => rfl
theorem tsl_off {t : TS} (h : vtB t = true) {c : UInt8} (hc : c = 32 ∨ c = 44) : c ∉ tsL t := by
  have hx := (vt_of h).2
  unfold tsL
  intro hm
  rcases List.mem_append.1 hm with h1 | h1
  · rcases List.mem_append.1 h1 with h2 | h2
    · have := fn_off _ h2
      rcases hc with rfl | rfl <;> simp at this
    · unfold marL at h2
      rcases hc with rfl | rfl <;> split at h2 <;> simp at h2
  · have := itoa_digits0 (by omega) h1
    rcases hc with rfl | rfl <;> simp at this
theorem join_form {sep : Str} {L : List Str} {x : Str} {M : List Str} (h : L = x :: M) : Lib.join L sep = x ++ Lib.joinTail sep M := by rw [h, Lib.join_cons]
theorem vr_cons {l : List TS} (h : vrB l = true) : ∃ t r, l = t :: r ∧ r.length ≤ 2 := by
  have h1 := vr_len h
  cases l with
  | nil => simp at h1
  | cons t r => exact ⟨t, r, rfl, by simp at h1; omega⟩
theorem spu_back {l : List TS} (h : vrB l = true) : spuT (ruL l) = l := by
  obtain ⟨t, r, e, hr⟩ := vr_cons h
  have h1 : cutL 44 (ruL l) = l.map tsL := by
    unfold ruL
    rw [e, List.map_cons, Lib.join_cons]
    refine cutL_fwd 44 _ _ (tsl_off (vr_test h (by rw [e]; exact List.mem_cons_self ..)) (.inr rfl)) fun y hy => ?_
    obtain ⟨z, hz, rfl⟩ := List.mem_map.1 hy
    exact tsl_off (vr_test h (by rw [e]; exact List.mem_cons_of_mem _ hz)) (.inr rfl)
  unfold spuT
  rw [h1, List.take_of_length_le (by rw [List.length_map]; have := (vr_len h).2; omega), List.map_map]
  exact (List.map_congr_left fun y hy => spt_back (vr_test h hy)).trans (List.map_id _)
theorem tail_off {sep : Str} {c : UInt8} (hs : c ∉ sep) : ∀ {L : List Str}, (∀ y ∈ L, c ∉ y) → c ∉ Lib.joinTail sep L
  | [], _ => by simp [Lib.joinTail]
  | y :: L, h => by
    rw [tailG_cons]
    intro hm
    rcases List.mem_append.1 hm with h1 | h1
    · exact hs h1
    · rcases List.mem_append.1 h1 with h2 | h2
      · exact h y (List.mem_cons_self ..) h2
      · exact tail_off hs (fun z hz => h z (List.mem_cons_of_mem _ hz)) h2
theorem rul_off {l : List TS} (h : vrB l = true) : (32 : UInt8) ∉ ruL l := by
  obtain ⟨t, r, e, hr⟩ := vr_cons h
  unfold ruL
  rw [e, List.map_cons, Lib.join_cons]
  intro hm
  rcases List.mem_append.1 hm with h1 | h1
  · exact tsl_off (vr_test h (by rw [e]; exact List.mem_cons_self ..)) (.inl rfl) h1
  · refine tail_off (by decide) (fun y hy => ?_) h1
    obtain ⟨z, hz, rfl⟩ := List.mem_map.1 hy
    exact tsl_off (vr_test h (by rw [e]; exact List.mem_cons_of_mem _ hz)) (.inl rfl)
theorem vs_size {R : List (List TS)} (h : vsB R = true) : 1 ≤ R.length ∧ R.length ≤ 3 := by
  unfold vsB at h
  simp only [Bool.and_eq_true, decide_eq_true_eq] at h
  exact h.1
theorem spr_back {R : List (List TS)} (h : vsB R = true) : spR (rsL R) = R := by
  have h1 := vs_size h
  have ho : (32 : UInt8) ∉ ([111, 114] : Str) := by decide
  unfold spR rsL
  match R, h1, h with
  | [a], _, h =>
    have ha := vs_rule h (List.mem_cons_self ..)
    have e : Lib.join ([a].map ruL) orS = ruL a ++ Lib.joinTail [32] [] := by simp [Lib.joinTail, Lib.join_one]
    rw [e, cutL_fwd 32 _ _ (rul_off ha) (fun y hy => by cases hy)]
    simp [evens, spu_back ha]
  | [a, b], _, h =>
    have ha := vs_rule h (List.mem_cons_self ..)
    have hb := vs_rule h (List.mem_cons_of_mem _ (List.mem_cons_self ..))
    have e : Lib.join ([a, b].map ruL) orS = ruL a ++ Lib.joinTail [32] [[111, 114], ruL b] := by simp [Lib.joinTail, Lib.join_cons]
    rw [e, cutL_fwd 32 _ _ (rul_off ha) (fun y hy => by
      rcases List.mem_cons.1 hy with rfl | hy
      · exact ho
      · rcases List.mem_cons.1 hy with rfl | hy
        · exact rul_off hb
        · cases hy)]
    simp [evens, spu_back ha, spu_back hb]
  | [a, b, d], _, h =>
    have ha := vs_rule h (List.mem_cons_self ..)
    have hb := vs_rule h (List.mem_cons_of_mem _ (List.mem_cons_self ..))
    have hd := vs_rule h (List.mem_cons_of_mem _ (List.mem_cons_of_mem _ (List.mem_cons_self ..)))
    have e : Lib.join ([a, b, d].map ruL) orS = ruL a ++ Lib.joinTail [32] [[111, 114], ruL b, [111, 114], ruL d] := by simp [Lib.joinTail, Lib.join_cons]
    rw [e, cutL_fwd 32 _ _ (rul_off ha) (fun y hy => by
      rcases List.mem_cons.1 hy with rfl | hy
      · exact ho
      · rcases List.mem_cons.1 hy with rfl | hy
        · exact rul_off hb
        · rcases List.mem_cons.1 hy with rfl | hy
          · exact ho
          · rcases List.mem_cons.1 hy with rfl | hy
            · exact rul_off hd
            · cases hy)]
    simp [evens, spu_back ha, spu_back hb, spu_back hd]

/-! ### the program's reading -/
def featN (h : Str) : Int := if (List.range 6).findIdx (fun n => fnL (n : Nat) == h) < 6 then ((List.range 6).findIdx (fun n => fnL (n : Nat) == h) : Nat) else -1
noncomputable def imtT (y : Str) : TS :=
  if (Lib.cut y [62, 61]).2.2 = true then ((featN (Lib.cut y [62, 61]).1, piR (Lib.cut y [62, 61]).2.1), false)
  else ((featN (Lib.cut y [60]).1, piR (Lib.cut y [60]).2.1), true)
noncomputable def imuT (p : Str) : List TS := (Lib.splitN p [44] 4).map imtT
noncomputable def imR (s : Str) : List (List TS) := (Lib.splitN s orS 4).map imuT
theorem feat_n : ∀ n, n < 6 → featN (fnL (n : Nat)) = ((n : Nat) : Int) := by decide
theorem feat_ok {h : Str} (h1 : 0 ≤ featN h) (h2 : featN h ≤ 5) : fnL (featN h) = h := by
  unfold featN at h1 h2 ⊢
  split at h1
  · rename_i hlt
    rw [if_pos hlt]
    have h3 := List.findIdx_getElem (xs := List.range 6) (p := fun n => fnL (n : Nat) == h) (w := by simpa using hlt)
    simp at h3
    exact h3
  · omega
theorem fnl_mark (n : Int) {c : UInt8} (hc : c = 60 ∨ c = 62) : c ∉ fnL n := fun h => by
  have := fn_off _ h
  rcases hc with rfl | rfl <;> simp at this
theorem itoa_mark {x : Int} (h : 0 ≤ x) {c : UInt8} (hc : c = 60 ∨ c = 62) : c ∉ Lib.itoa x := fun hm => by
  have := itoa_digits0 h hm
  rcases hc with rfl | rfl <;> simp at this
theorem imt_back {t : TS} (h : vtB t = true) : imtT (tsL t) = t := by
  obtain ⟨⟨f, x⟩, u⟩ := t
  obtain ⟨n, hn, hf, e⟩ := tsl_form h
  have hx := (vt_of h).2
  simp only at hf hx e
  subst hf
  have hp : piR (Lib.itoa x) = x := piR_itoa (by omega) hx.2
  unfold imtT
  rw [e]
  cases u
  · have h1 : Lib.cut (fnL (n : Nat) ++ (marL false ++ Lib.itoa x)) [62, 61] = (fnL (n : Nat), Lib.itoa x, true) := gc_at 62 [61] (Lib.itoa x) (fnl_mark _ (.inr rfl))
    rw [h1, if_pos rfl, feat_n n hn, hp]
  · have h1 : Lib.cut (fnL (n : Nat) ++ (marL true ++ Lib.itoa x)) [62, 61] = (fnL (n : Nat) ++ (marL true ++ Lib.itoa x), [], false) := gc_none 62 [61] (fun hm => by
      rcases List.mem_append.1 hm with h1 | h1
      · exact fnl_mark _ (.inr rfl) h1
      · rcases List.mem_append.1 h1 with h2 | h2
        · simp [marL] at h2
        · exact itoa_mark (by omega) (.inr rfl) h2)
    have h2 : Lib.cut (fnL (n : Nat) ++ (marL true ++ Lib.itoa x)) [60] = (fnL (n : Nat), Lib.itoa x, true) := gc_at 60 [] (Lib.itoa x) (fnl_mark _ (.inl rfl))
    rw [h1, if_neg (by simp), h2, feat_n n hn, hp]
theorem piR_pos {l : Str} (h : 1 ≤ piR l) : Lib.itoa (piR l) = l := by
  unfold piR at h ⊢
  split
  · rename_i h1
    rw [dif_pos h1] at h
    obtain ⟨ok, h2⟩ := h1.choose_spec
    rcases h2 with h3 | h3
    · exact h3.2.1
    · omega
  · rename_i h1
    rw [dif_neg h1] at h
    omega
theorem piR_ok (l : Str) : ∃ ok, PiOk l (piR l) ok ∨ piR l = 0 := by
  unfold piR
  split
  · rename_i h1
    obtain ⟨ok, h2⟩ := h1.choose_spec
    exact ⟨ok, .inl h2⟩
  · exact ⟨false, .inr rfl⟩
theorem imt_fwd {y : Str} (h : vtB (imtT y) = true) : tsL (imtT y) = y := by
  have h1 := vt_of h
  unfold imtT at h1 ⊢
  rcases gc_cases [62, 61] y with ⟨a, b, e, hc⟩ | hc
  · rw [hc] at h1 ⊢
    simp only [if_pos] at h1 ⊢
    unfold tsL
    simp only
    rw [feat_ok h1.1.1 h1.1.2, piR_pos h1.2.1, e]
    simp [marL]
  · rw [hc] at h1 ⊢
    rw [if_neg (by simp)] at h1 ⊢
    rcases gc_cases [60] y with ⟨a, b, e, hd⟩ | hd
    · rw [hd] at h1 ⊢
      unfold tsL
      simp only at h1 ⊢
      rw [feat_ok h1.1.1 h1.1.2, piR_pos h1.2.1, e]
      simp [marL]
    · rw [hd] at h1
      simp only at h1
      have h2 := piR_pos h1.2.1
      exact absurd h2 (itoa_ne h1.2.1)
theorem sn_back (sep s : Str) (n : Nat) : ∃ x L, Lib.splitN s sep n = x :: L ∧ Lib.join (x :: L) sep = s := by
  obtain ⟨x, L, h1, h2, _⟩ := gs_back sep (min n (s.length + 1) - 1) s
  exact ⟨x, L, h1, by rw [Lib.join_cons, ← h2]⟩
theorem imu_fwd {p : Str} (h : vrB (imuT p) = true) : ruL (imuT p) = p := by
  obtain ⟨x, L, h1, h2⟩ := sn_back [44] p 4
  have e : imuT p = (x :: L).map imtT := by unfold imuT; rw [h1]
  rw [e] at h ⊢
  unfold ruL
  rw [List.map_map]
  have h3 : (x :: L).map (tsL ∘ imtT) = x :: L := (List.map_congr_left fun y hy => imt_fwd (vr_test h (List.mem_map_of_mem hy))).trans (List.map_id _)
  rw [h3, h2]
theorem imr_fwd {s : Str} (h : vsB (imR s) = true) : rsL (imR s) = s := by
  obtain ⟨x, L, h1, h2⟩ := sn_back orS s 4
  have e : imR s = (x :: L).map imuT := by unfold imR; rw [h1]
  rw [e] at h ⊢
  unfold rsL
  rw [List.map_map]
  have h3 : (x :: L).map (ruL ∘ imuT) = x :: L := (List.map_congr_left fun y hy => imu_fwd (vs_rule h (List.mem_map_of_mem hy))).trans (List.map_id _)
  rw [h3, h2]
theorem join_long {sep x : Str} : ∀ {L : List Str}, 0 < sep.length → L.length ≤ (x ++ Lib.joinTail sep L).length
  | [], _ => Nat.zero_le _
  | y :: L, h => by
    have h1 := join_long (x := y) (L := L) h
    rw [tailG_cons]
    simp only [List.length_append, List.length_cons] at h1 ⊢
    omega
theorem imu_back {l : List TS} (h : vrB l = true) : imuT (ruL l) = l := by
  obtain ⟨t, r, e, hr⟩ := vr_cons h
  have hj : ruL l = tsL t ++ Lib.joinTail [44] (r.map tsL) := by unfold ruL; rw [e, List.map_cons, Lib.join_cons]
  have hlong := join_long (sep := [44]) (x := tsL t) (L := r.map tsL) (by decide)
  have h1 : Lib.splitN (ruL l) [44] 4 = l.map tsL := by
    unfold Lib.splitN
    rw [hj, e, List.map_cons]
    refine gs_fwd 44 [] _ _ _ ?_ (tsl_off (vr_test h (by rw [e]; exact List.mem_cons_self ..)) (.inr rfl)) fun y hy => ?_
    · rw [List.length_map] at hlong ⊢; omega
    · obtain ⟨z, hz, rfl⟩ := List.mem_map.1 hy
      exact tsl_off (vr_test h (by rw [e]; exact List.mem_cons_of_mem _ hz)) (.inr rfl)
  unfold imuT
  rw [h1, List.map_map]
  exact (List.map_congr_left fun y hy => imt_back (vr_test h hy)).trans (List.map_id _)
theorem imr_back {R : List (List TS)} (h : vsB R = true) : imR (rsL R) = R := by
  have h1 := vs_size h
  obtain ⟨t, r, e⟩ : ∃ t r, R = t :: r := by
    cases R with
    | nil => simp at h1
    | cons t r => exact ⟨t, r, rfl⟩
  have hj : rsL R = ruL t ++ Lib.joinTail orS (r.map ruL) := by unfold rsL; rw [e, List.map_cons, Lib.join_cons]
  have hlong := join_long (sep := orS) (x := ruL t) (L := r.map ruL) (by decide)
  have hr : r.length ≤ 2 := by rw [e] at h1; simp at h1; omega
  have h2 : Lib.splitN (rsL R) orS 4 = R.map ruL := by
    unfold Lib.splitN
    rw [hj, e, List.map_cons]
    refine gs_fwd 32 [111, 114, 32] _ _ _ ?_ (rul_off (vs_rule h (by rw [e]; exact List.mem_cons_self ..))) fun y hy => ?_
    · rw [List.length_map] at hlong ⊢; omega
    · obtain ⟨z, hz, rfl⟩ := List.mem_map.1 hy
      exact rul_off (vs_rule h (by rw [e]; exact List.mem_cons_of_mem _ hz))
  unfold imR
  rw [h2, List.map_map]
  exact (List.map_congr_left fun y hy => imu_back (vs_rule h hy)).trans (List.map_id _)

/-! ### the answer -/
def PRout (s : Str) (R : List (List TS)) (b : Bool) : Prop := (b = true ∧ vsB R = true ∧ rsL R = s) ∨ (b = false ∧ R = [] ∧ ∀ l, vsB l = true → rsL l ≠ s)
theorem pr_some (s : Str) : ∃ R b, PRout s R b := by
  by_cases h : ∃ l, vsB l = true ∧ rsL l = s
  · obtain ⟨l, h1, h2⟩ := h
    exact ⟨l, true, .inl ⟨rfl, h1, h2⟩⟩
  · exact ⟨[], false, .inr ⟨rfl, rfl, fun l h1 h2 => h ⟨l, h1, h2⟩⟩⟩
theorem pr_yes {s : Str} {R F : List (List TS)} {b : Bool} (h : PRout s R b) (h1 : vsB F = true) (h2 : rsL F = s) : R = F ∧ b = true := by
  rcases h with ⟨hb, h3, h4⟩ | ⟨_, _, h3⟩
  · have h5 := imr_back h3
    have h6 := imr_back h1
    rw [h4, ← h2, h6] at h5
    exact ⟨h5.symm, hb⟩
  · exact absurd h2 (h3 F h1)
theorem pr_spec_no {s : Str} {R : List (List TS)} {b : Bool} (h : PRout s R b) (hn : ¬ (vsB (spR s) = true ∧ rsL (spR s) = s)) : R = [] ∧ b = false := by
  rcases h with ⟨hb, h3, h4⟩ | ⟨h1, h2, _⟩
  · have h5 := spr_back h3
    rw [h4] at h5
    exact absurd (by rw [h5]; exact ⟨h3, h4⟩) hn
  · exact ⟨h2, h1⟩
theorem pr_impl_no {s : Str} {R : List (List TS)} {b : Bool} (h : PRout s R b) (hn : vsB (imR s) = false) : R = [] ∧ b = false := by
  rcases h with ⟨hb, h3, h4⟩ | ⟨h1, h2, _⟩
  · have h5 := imr_back h3
    rw [h4] at h5
    rw [h5, h3] at hn
    cases hn
  · exact ⟨h2, h1⟩
theorem pr_impl_yes {s : Str} {R : List (List TS)} {b : Bool} (h : PRout s R b) (hv : vsB (imR s) = true) : R = imR s ∧ b = true := pr_yes h hv (imr_fwd hv)
theorem pr_small {s : Str} {R : List (List TS)} {b : Bool} (h : PRout s R b) : R.length ≤ 3 ∧ ∀ l ∈ R, l.length ≤ 3 := by
  rcases h with ⟨_, h3, _⟩ | ⟨_, rfl, _⟩
  · exact ⟨(vs_size h3).2, fun l hl => (vr_len (vs_rule h3 hl)).2⟩
  · simp
theorem rs_same {F : List (List TS)} {s : ByteArray} (h : rsR F = s) (h0 : s.data.toList ≠ []) : vsB F = true ∧ rsL F = s.data.toList := by
  cases hv : vsB F with
  | false =>
    rw [rsR_no hv] at h
    subst h
    exact absurd rfl h0
  | true =>
    rw [rsR_yes hv] at h
    refine ⟨rfl, ?_⟩
    rw [← h]
    simp [strOf]
theorem rs_other {F : List (List TS)} {s : ByteArray} (h : rsR F ≠ s) : ¬ (vsB F = true ∧ rsL F = s.data.toList) := by
  rintro ⟨h1, h2⟩
  apply h
  rw [rsR_yes h1, h2]
  simp [strOf]
theorem rsl_ne {F : List (List TS)} (h : vsB F = true) : rsL F ≠ [] := by
  obtain ⟨t, r, e⟩ : ∃ t r, F = t :: r := by
    have h1 := vs_size h
    cases F with
    | nil => simp at h1
    | cons t r => exact ⟨t, r, rfl⟩
  have hv := vs_rule h (show t ∈ F by rw [e]; exact List.mem_cons_self ..)
  obtain ⟨x, l, e2, _⟩ := vr_cons hv
  have hx := (vt_of (vr_test hv (show x ∈ t by rw [e2]; exact List.mem_cons_self ..))).2.1
  unfold rsL
  rw [e, List.map_cons, Lib.join_cons]
  unfold ruL
  rw [e2, List.map_cons, Lib.join_cons]
  unfold tsL
  simp [itoa_ne hx]

end Go.Proofs.YtknkhljegmielaaDoor
