/-
  What spec.l2Cut, spec.Tokens and impl.Tokens answer. By an AI agent.
-/
import Derived.Test.YtebddnjccmaimaaGreatDoorGSet
import Derived.Test.YtebddnjccmaimaaGreatDoorGMem
import Derived.Test.YtebddnjccmaimaaGreatDoorGNorm
import Derived.Test.YtebddnjccmaimaaGreatDoorGPlain
import Derived.Lib.AppendZeros
import Derived.Lib.LaidTab
import Derived.Lib.SmallJoins
namespace Go.Proofs.YtebddnjccmaimaaGreatDoor
open Go.RowKit Go.Maps
set_option linter.unusedVariables false

theorem ext_mid (s : ByteArray) (f k : Nat) : (s.extract f k).data.toList = (s.data.toList.drop f).take (k - f) := by rw [Lib.extract_data]
theorem mid_succ (s : ByteArray) (f k : Nat) (h : f ≤ k) (hk : k < s.size) : (s.data.toList.drop f).take (k + 1 - f) = (s.data.toList.drop f).take (k - f) ++ [s[k]] := by
  have hl : s.data.toList.length = s.size := Array.length_toList
  rw [show k + 1 - f = (k - f) + 1 by omega, List.take_succ_eq_append_getElem (by rw [List.length_drop]; omega), List.getElem_drop]
  congr 2
  have e : f + (k - f) = k := by omega
  simp only [e]
  rfl

/-- the place in the text: what has been cut off, and where the part under way began -/
def CutAt (s : ByteArray) (sep : UInt8) (f k : Nat) (r : List Str) : Prop := f ≤ k ∧ r = (kS sep (s.data.toList.take k)).1 ∧ (s.data.toList.drop f).take (k - f) = (kS sep (s.data.toList.take k)).2
theorem cut_start (s : ByteArray) (sep : UInt8) : CutAt s sep 0 0 [] := ⟨Nat.le_refl _, by simp [kS], by simp [kS]⟩
theorem CutAt.at_sep {s : ByteArray} {sep : UInt8} {f k : Nat} {r : List Str} (h : CutAt s sep f k r) (hk : k < s.size) (hc : s[k] = sep) : CutAt s sep (k + 1) (k + 1) (r ++ [(s.extract f k).data.toList]) := by
  obtain ⟨h1, h2, h3⟩ := h
  refine ⟨Nat.le_refl _, ?_, ?_⟩
  · rw [ftake_snoc s k hk, kS_at _ _ _ hc, ext_mid, h3, h2]
  · rw [ftake_snoc s k hk, kS_at _ _ _ hc]
    simp
theorem CutAt.at_other {s : ByteArray} {sep : UInt8} {f k : Nat} {r : List Str} (h : CutAt s sep f k r) (hk : k < s.size) (hc : s[k] ≠ sep) : CutAt s sep f (k + 1) r := by
  obtain ⟨h1, h2, h3⟩ := h
  refine ⟨by omega, ?_, ?_⟩
  · rw [ftake_snoc s k hk, kS_off _ _ _ hc, h2]
  · rw [ftake_snoc s k hk, kS_off _ _ _ hc, mid_succ s f k h1 hk, h3]
theorem CutAt.fin {s : ByteArray} {sep : UInt8} {f : Nat} {r : List Str} (h : CutAt s sep f s.size r) : r ++ [(s.extract f s.size).data.toList] = cutL sep s.data.toList := by
  obtain ⟨h1, h2, h3⟩ := h
  have e : s.data.toList.take s.size = s.data.toList := ftake_all s
  rw [e] at h2 h3
  unfold cutL
  rw [ext_mid, h3, h2]
theorem CutAt.len {s : ByteArray} {sep : UInt8} {f k : Nat} {r : List Str} (h : CutAt s sep f k r) : r.length ≤ k := by
  rw [h.2.1]
  have h1 := kS_len sep (s.data.toList.take k)
  have h2 : (s.data.toList.take k).length ≤ k := List.length_take_le _ _
  omega

set_option maxRecDepth 100000 in
set_option maxHeartbeats 1000000 in
theorem cut_any (s : ByteArray) (sep : UInt8) (w : World) (hs : s.size ≤ 4000000) :
    Calls Tryz.prog 99 #[.string s, .int .u8 (sep.toNat : Int)] w (GivesS w (cutL sep s.data.toList)) := by
  go_enter Tryz.func99, Tryz.ntmps99
  go_wp2
  go_loopw [5, 6, 7] (fun v fr i wr => ∃ (k f : Nat) (a : Option Addr) (c : Nat) (r : List Str), k ≤ s.size ∧ f ≤ k ∧ i = .int .i64 k ∧ fr = .int .i64 f ∧ v = .slice a r.length c ∧ CutAt s sep f k r ∧ OwnS wr w.heap.size (.slice a r.length c) r ∧ Below w.heap.size w wr) (fun _ _ i _ => s.size - (intOf i).toNat)
  case atStart => exact ⟨0, 0, _, _, [], Nat.zero_le _, Nat.le_refl _, rfl, rfl, rfl, cut_start s sep, own_new w w.heap.size w.heap.size rfl (Nat.le_refl _), (Below.refl _ _).alloc (Nat.le_refl _) _⟩
  case round =>
    obtain ⟨k, f, a, c, r, hk, hf, rfl, rfl, rfl, hcut, hown, hb⟩ := hrel
    have hrl := hcut.len
    have HCUT := Lib.hid hcut
    have HOWN := Lib.hid hown
    have HB := Lib.hid hb
    clear hcut hown hb
    by_cases hlt : k < s.size
    · have hby := s[k].toNat_lt
      by_cases hc : s[k].toNat = sep.toNat
      · have hq : ((s[k].toNat : Int) == (sep.toNat : Int)) = true := by simp; omega
        have HC := Lib.hid (show s[k] = sep from UInt8.toNat_inj.1 hc)
        obtain ⟨v', w2, hrun, ho, hgr⟩ := run_app 31 w.heap.size (.slice a r.length c) r (wr.alloc (.cells #[.string (s.extract f k)] 9)) (HOWN.out.alloc _) (some ⟨wr.heap.size, 0, none⟩) 1 [(s.extract f k).data.toList]
          (in_one wr wr.heap.size (s.extract f k) _ rfl rfl) nofun (by simp; omega) (by have := HB.out.size; simp; omega)
        obtain ⟨a', c', rfl⟩ := ho.shape
        have HRUN := Lib.hid hrun
        have HO := Lib.hid ho
        have HG := Lib.hid ((HB.out.alloc HB.out.size _).grown hgr (by have := HB.out.size; simp; omega) (fun k hk => (World.ownsRow.lt HOWN.out k hk).1))
        clear hrun ho hgr hc
        go_wp2_with (at_builtin; refine Lib.wpList_append_run _ rfl _ _ _ _ rfl _ _ rfl rfl _ _ HRUN.out ?_)
        go_roundw
        case rel => exact ⟨k + 1, k + 1, a', c', _, by omega, Nat.le_refl _, by go_num, by go_num, by simp, HCUT.out.at_sep hlt HC.out, HO.out, HG.out⟩
        case measure => simp [intOf]; omega
      · have hq : ((s[k].toNat : Int) == (sep.toNat : Int)) = false := by simp; omega
        have HC := Lib.hid (show s[k] ≠ sep from fun e => hc (by rw [e]))
        clear hc
        go_wp2
        go_roundw
        case rel => exact ⟨k + 1, f, a, c, r, by omega, by omega, by go_num, rfl, rfl, HCUT.out.at_other hlt HC.out, HOWN.out, HB.out⟩
        case measure => simp [intOf]; omega
    · obtain rfl : k = s.size := by omega
      obtain ⟨v', w2, hrun, ho, hgr⟩ := run_app 31 w.heap.size (.slice a r.length c) r (wr.alloc (.cells #[.string (s.extract f s.size)] 9)) (HOWN.out.alloc _) (some ⟨wr.heap.size, 0, none⟩) 1 [(s.extract f s.size).data.toList]
        (in_one wr wr.heap.size (s.extract f s.size) _ rfl rfl) nofun (by simp; omega) (by have := HB.out.size; simp; omega)
      have HRUN := Lib.hid hrun
      have HO := Lib.hid ho
      have HG := Lib.hid ((HB.out.alloc HB.out.size _).grown hgr (by have := HB.out.size; simp; omega) (fun k hk => (World.ownsRow.lt HOWN.out k hk).1))
      clear hrun ho hgr
      go_wp2_with (at_builtin; refine Lib.wpList_append_run _ rfl _ _ _ _ rfl _ _ rfl rfl _ _ HRUN.out ?_)
      go_ret
      refine GivesS.mk ?_ HG.out
      rw [← HCUT.out.fin]
      exact HO.out

theorem cutL_len (sep : UInt8) (l : Str) : (cutL sep l).length ≤ l.length + 1 := by
  have := kS_len sep l
  unfold cutL
  rw [List.length_append]
  simp
  omega

theorem empty_is {s : ByteArray} {x : Str} (hs : s.data.toList = x) (h : x = []) : (s.toList == ([] : List UInt8)) = true ∧ s.toList.isEmpty = true := by
  rw [ByteArray.toList_eq, hs, h]; exact ⟨rfl, rfl⟩
theorem full_is {s : ByteArray} {x : Str} (hs : s.data.toList = x) (h : x ≠ []) : (s.toList == ([] : List UInt8)) = false ∧ s.toList.isEmpty = false := by
  rw [ByteArray.toList_eq, hs]
  cases x with
  | nil => exact absurd rfl h
  | cons a r => exact ⟨rfl, rfl⟩

abbrev tokensR (s : Str) : List Str := toksL s
theorem toks_len2 (a0 : ByteArray) (h : a0.size ≤ 1048576) : (toksL a0.data.toList).length ≤ 4000000 := by
  have h1 := setL_length (wordsL (normL a0.data.toList))
  have h2 := words_len (normL a0.data.toList)
  have h3 := norm_len a0.data.toList
  have h4 : a0.data.toList.length = a0.size := Array.length_toList
  unfold toksL
  omega
theorem tokens_len (a0 : ByteArray) (h : a0.size ≤ 1048576) : (tokensR a0.data.toList).length ≤ 4000000 := toks_len2 a0 h

set_option maxRecDepth 100000 in
set_option maxHeartbeats 1000000 in
theorem tokens_spec0 (s : ByteArray) (w : World) (hs : s.size ≤ 1048576) :
    Calls Tryz.prog 68 #[.string s] w (GivesS w (tokensR s.data.toList)) := by
  have HS := Lib.hid hs
  obtain ⟨t, htd⟩ : ∃ t, t = nstr (normL s.data.toList) := ⟨_, rfl⟩
  have htl : t.data.toList = normL s.data.toList := by rw [htd, nstr_list]
  have hts : t.size ≤ 2097152 := by
    rw [htd, nstr_size]
    have h1 := norm_len s.data.toList
    have h2 : s.data.toList.length = s.size := Array.length_toList
    omega
  have HTD := Lib.hid htd
  obtain ⟨L, hL⟩ : ∃ L, L = cutL 32 t.data.toList := ⟨_, rfl⟩
  have hLl : L.length ≤ 2097153 := by
    rw [hL]
    have h1 := cutL_len 32 t.data.toList
    have h2 : t.data.toList.length = t.size := Array.length_toList
    omega
  have HRES := Lib.hid (show tokensR s.data.toList = setL (L.filter ne0) by
    rw [hL, htl, cut_words]; rfl)
  have HL := Lib.hid hL
  clear htd htl hL hs
  rw [HRES.out]
  go_enter Tryz.func68, Tryz.ntmps68
  go_wp2_with (first
    | (go_at_call 100; (refine (spec_no _ _ HS.out).mono ?_); rintro e w1 ⟨he, hb1⟩; rw [← HTD.out] at he; subst he; have HB1 := Lib.hid (((Below.refl w.heap.size w).alloc (Nat.le_refl _) (.cells #[] 9)).trans (hb1.mono (by simp))); have HO1 := Lib.hid ((own_new w w.heap.size w.heap.size rfl (Nat.le_refl _)).below hb1); clear hb1)
    | (go_at_call 99; (refine (cut_any t 32 _ (by omega)).mono ?_); rintro e w2 hg; rw [← HL.out] at hg; obtain ⟨ac, cc, rfl, ho2, hb2⟩ := hg; have HB2 := Lib.hid (HB1.out.trans (hb2.mono HB1.out.size)); have HO2 := Lib.hid (HO1.out.below hb2); have HC2 := Lib.hid ho2.inS; clear ho2 hb2))
  go_loopw [3, 5] (fun v i wr => ∃ (k : Nat) (a : Option Addr) (c : Nat) (r : List Str), k ≤ L.length ∧ i = .int .i64 k ∧ v = .slice a r.length c ∧ r = setL ((L.take k).filter ne0) ∧ OwnS wr w.heap.size (.slice a r.length c) r ∧ InS wr ac L ∧ Below w.heap.size w wr) (fun _ i _ => L.length - (intOf i).toNat)
  case atStart => exact ⟨0, _, _, [], Nat.zero_le _, rfl, rfl, rfl, HO2.out, HC2.out, HB2.out⟩
  case round =>
    obtain ⟨k, a, c, r, hk, rfl, rfl, hr, hown, hin, hb⟩ := hrel
    have hrl : r.length ≤ k := by
      rw [hr]
      have h2 := setL_length ((L.take k).filter ne0)
      have h3 := List.length_filter_le ne0 (L.take k)
      have h4 : (L.take k).length ≤ k := List.length_take_le _ _
      omega
    have HR := Lib.hid hr
    have HOWN := Lib.hid hown
    have HIN := Lib.hid hin
    have HB := Lib.hid hb
    clear hr hown hin hb
    by_cases hlt : k < L.length
    · obtain ⟨b, off, rfl, hbw, hc⟩ := HIN.out (by omega)
      obtain ⟨x, u, hx1, hx2, hx3, hx4⟩ := str_at hlt
      have hcell : wr.cell? ⟨b, off + k, none⟩ = some (.string u) := by rw [← hx3]; exact hc k x hx1
      have HX1 := Lib.hid hx1
      have HX2 := Lib.hid hx2
      by_cases hx0 : x = []
      · obtain ⟨he, he2⟩ := empty_is hx2 hx0
        have HX0 := Lib.hid hx0
        clear hc hx1 hx2 hx3 hx4 hbw hx0
        go_wp2
        go_roundw
        case rel =>
          refine ⟨k + 1, a, c, r, by omega, by go_num, rfl, ?_, HOWN.out, HIN.out, HB.out⟩
          rw [take_snoc' HX1.out, List.filter_append, HX0.out, HR.out]
          simp [ne0_nil]
        case measure => simp [intOf]; omega
      · obtain ⟨he, he2⟩ := full_is hx2 hx0
        have HX0 := Lib.hid hx0
        clear hc hx1 hx2 hx3 hx4 hbw hx0
        go_wp2_with (go_at_call 66; (refine (put_any false w.heap.size a c r u x _ (by omega) HOWN.out HB.out.size HX2.out).mono ?_); rintro e w2 ⟨a2, c2, rfl, ho2, hb2⟩; have HO2 := Lib.hid ho2; have HB2 := Lib.hid hb2; clear ho2 hb2)
        go_roundw
        case rel =>
          refine ⟨k + 1, a2, c2, putL false r x, by omega, by go_num, rfl, ?_, HO2.out, HIN.out.below HB2.out, HB.out.trans (HB2.out.mono HB.out.size)⟩
          rw [take_snoc' HX1.out, List.filter_append]
          have e : [x].filter ne0 = [x] := by simp [ne0_yes HX0.out]
          rw [e, setL_snoc, ← HR.out]
        case measure => simp [intOf]; omega
    · obtain rfl : k = L.length := by omega
      go_wp2
      go_ret
      have e : r = setL (L.filter ne0) := by
        have h := HR.out
        rw [List.take_length] at h
        exact h
      rw [← e]
      exact ⟨a, c, rfl, HOWN.out, HB.out⟩

/-- the library's fields of a text of letters, digits and spaces are its words -/
theorem isSp_word {c : UInt8} (h : isWordI c.toNat = true ∨ c = 32) : Lib.isSp c = decide (c = 32) := by
  by_cases e : c = 32
  · subst e; decide
  · have hw : isWordI c.toNat = true := h.resolve_right e
    have h2 := of_wordI hw
    have h3 : ∀ n : UInt8, n.toNat ≤ 13 → c ≠ n := fun n hn e2 => by subst e2; omega
    unfold Lib.isSp
    simp only [beq_eq_false_iff_ne.2 (h3 9 (by decide)), beq_eq_false_iff_ne.2 (h3 10 (by decide)), beq_eq_false_iff_ne.2 (h3 11 (by decide)), beq_eq_false_iff_ne.2 (h3 12 (by decide)), beq_eq_false_iff_ne.2 (h3 13 (by decide)), beq_eq_false_iff_ne.2 e, Bool.or_false]
    exact (decide_eq_false e).symm
def finW (p : List Str × Str) : List Str := if p.2 = [] then p.1 else p.1 ++ [p.2]
theorem fields_fold : ∀ (l : Str) (p : List Str × Str), AllWS l → p.1 ++ Lib.fieldsGo p.2 l = finW (l.foldl wStep p)
  | [], p, _ => by
    unfold finW Lib.fieldsGo
    cases hq : p.2 <;> simp [hq]
  | c :: l, p, h => by
    have hl : AllWS l := fun x hx => h x (by simp [hx])
    have hc := isSp_word (h c (by simp))
    rw [List.foldl_cons, ← fields_fold l (wStep p c) hl]
    have e0 : Lib.fieldsGo p.2 (c :: l) = if Lib.isSp c then (if p.2.isEmpty then Lib.fieldsGo [] l else p.2 :: Lib.fieldsGo [] l) else Lib.fieldsGo (p.2 ++ [c]) l := by rw [Lib.fieldsGo]
    rw [e0]
    unfold wStep
    rw [hc]
    by_cases e : c = 32
    · rw [decide_eq_true e, if_pos rfl, if_pos e]
      by_cases e2 : p.2 = []
      · simp [e2]
      · have e3 : p.2.isEmpty = false := by cases hq : p.2 <;> simp_all
        rw [e3, if_neg e2]
        simp
    · rw [decide_eq_false e, if_neg (by decide), if_neg e]
theorem fields_words (l : Str) (h : AllWS l) : Lib.fields l = wordsL l := by
  have h1 := fields_fold l ([], []) h
  rw [List.nil_append] at h1
  exact h1

def SpT (w : World) : Prop := Lib.TabIs Tryz.prog w "strings.asciiSpace" .u8 Lib.asciiSpaceTab
theorem gSpT : Tryz.prog.globalNamed "strings.asciiSpace" = some 0 := by kernel_rfl
theorem SpT.below {w w' : World} (h : SpT w) (hb : Below w.heap.size w w') : SpT w' := Go.Joins.tab_stays gSpT h hb (Nat.le_refl _)

theorem own_all (w : World) (l : List Str) (hl : l.length ≤ maxLen) : OwnS (w.alloc (.cells (l.map fun x => Value.string ⟨x.toArray⟩).toArray 9)) w.heap.size (.slice (some ⟨w.heap.size, 0, none⟩) l.length l.length) l := by
  have h := World.ownsRow_lit (base := w.heap.size) (e := 9) (size := 1) w (l.map fun x => Value.string ⟨x.toArray⟩).toArray l.length (Nat.le_refl _) hl (by simp)
  unfold OwnS
  simpa using h

set_option maxRecDepth 100000 in
set_option maxHeartbeats 1000000 in
theorem tokens_impl0 (s : ByteArray) (w : World) (hs : s.size ≤ 1048576) (hT : SpT w) :
    Calls Tryz.prog 94 #[.string s] w (GivesS w (tokensR s.data.toList)) := by
  have HS := Lib.hid hs
  have HT := Lib.hid hT
  obtain ⟨t, htd⟩ : ∃ t, t = nstr (normL s.data.toList) := ⟨_, rfl⟩
  have htl : t.data.toList = normL s.data.toList := by rw [htd, nstr_list]
  have hts : t.size ≤ 2097152 := by
    rw [htd, nstr_size]
    have h1 := norm_len s.data.toList
    have h2 : s.data.toList.length = s.size := Array.length_toList
    omega
  have htt : t.data.toList.length = t.size := Array.length_toList
  have HTD := Lib.hid htd
  obtain ⟨L, hL⟩ : ∃ L, L = Lib.fields t.data.toList := ⟨_, rfl⟩
  have hws : AllWS t.data.toList := by rw [htl]; exact norm_ws _
  have hLw : L = wordsL t.data.toList := by rw [hL, fields_words _ hws]
  have hLl : L.length ≤ 2097153 := by
    rw [hLw]
    have h1 := words_len t.data.toList
    omega
  have XX := Lib.hid (show ∀ x ∈ L, x.length ≤ 9000000 from fun x hx => by
    rw [hLw] at hx
    have h1 := words_short t.data.toList x hx
    omega)
  have HA := Lib.hid (show ∀ (j : Nat) b, t.data.toList[j]? = some b → b.toNat < 128 from fun j b hj => by
    rcases hws b (List.mem_of_getElem? hj) with h | h
    · have := of_wordI h; omega
    · subst h; decide)
  have HRES := Lib.hid (show tokensR s.data.toList = setL L by
    rw [hLw, htl]; rfl)
  have HL := Lib.hid hL
  clear htd htl hL hs hT hws hLw htt
  rw [HRES.out]
  go_enter Tryz.func94, Tryz.ntmps94
  go_wp2_with (first
    | (go_at_call 124; (refine (impl_no _ _ HS.out).mono ?_); rintro e w1 ⟨he, hb1⟩; rw [← HTD.out] at he; subst he; have HB1 := Lib.hid hb1; have HT1 := Lib.hid (HT.out.below hb1); clear hb1)
    | (go_at_call 123; (refine (Tryz.strings_Fields t _ (by omega) HA.out HT1.out).mono ?_); rw [← HL.out]; rintro e w2 ⟨rfl, hw2⟩; have HO2 := Lib.hid (show OwnS w2 w1.heap.size (.slice (some ⟨w1.heap.size, 0, none⟩) L.length L.length) L by rw [hw2]; exact own_all w1 L (by unfold maxLen; omega)); have HB2 := Lib.hid (show Below w.heap.size w w2 by rw [hw2]; exact HB1.out.alloc HB1.out.size _); clear hw2)
    | (go_at_call 59; (refine (set_of _ L.length L _ (by omega) XX.out HO2.out.inS).mono ?_); rintro e w3 ⟨bI, rfl, hs1, hlo, hb3⟩; have HS1 := Lib.hid hs1; have HB3 := Lib.hid (HB2.out.trans (hb3.mono HB2.out.size)); clear hs1 hb3 hlo)
    | (go_at_call 58; (refine (sorted_members bI L.length L _ (by omega) HS1.out).mono ?_); rintro e w4 ⟨a4, c4, rfl, ho4, hb4⟩; have HO4 := Lib.hid ho4; have HB4 := Lib.hid (HB3.out.trans (hb4.mono HB3.out.size)); clear ho4 hb4))
  go_ret
  exact ⟨a4, c4, rfl, HO4.out.mono HB3.out.size, HB4.out⟩

theorem spT_of {w : World} (hT : SpT w) : 0 < w.heap.size := World.block_lt_of_cell? w _ (Lib.TabIs.cell hT gSpT 32 (by rw [Lib.asciiSpaceTab_length]; decide))
theorem tokens_spec (s : ByteArray) (w : World) (hs : s.size ≤ 1048576) (hT : SpT w) :
    Calls Tryz.prog 68 #[.string s] w (GivesS w (tokensR s.data.toList)) := tokens_spec0 s w hs
theorem tokens_impl (s : ByteArray) (w : World) (hs : s.size ≤ 1048576) (hT : SpT w) :
    Calls Tryz.prog 94 #[.string s] w (GivesS w (tokensR s.data.toList)) := tokens_impl0 s w hs hT

end Go.Proofs.YtebddnjccmaimaaGreatDoor
