/-
  Texts laid together: Held, Common, Unite, NFold, NStrip, TokSet. By an AI agent.
-/
import Derived.Test.YthjbekgognfiiaaGreatJ2
import Derived.Test.YthjbekgognfiiaaGreatJ4
import Derived.Lib.AppendZeros
import Derived.Test.YthjbekgognfiiaaGreatJ1
import Derived.Test.YthjbekgognfiiaaGreatJ3
import Derived.Lib.Strings
import Derived.Lib.OthersKept
/-
  What the laws' own heldStringS does at a list of marks. By an AI agent.
-/
namespace Go.Proofs.YthjbekgognfiiaaGreat
open Go.RowKit
set_option linter.unusedVariables false

end Go.Proofs.YthjbekgognfiiaaGreat

/-
  What spec.l3Has, spec.CommonTokens and impl.CommonTokens answer. By an AI agent.
-/
namespace Go.Proofs.YthjbekgognfiiaaGreat
open Go.RowKit Go.Maps
set_option linter.unusedVariables false

set_option maxRecDepth 100000 in
theorem has_yes (a : Option Addr) (cap : Nat) (l : List Str) (t : ByteArray) (y : Str) (w : World) (hl : l.length ≤ 4000000) (hin : InS w a l) (ht : t.data.toList = y) (hy : y ∈ l) :
    Calls Tryz.prog 107 #[.slice a l.length cap, .string t] w fun e w' => e = .returned (.bool true) ∧ w' = w := by
  have HIN := Lib.hid hin
  have HT := Lib.hid ht
  have HY := Lib.hid hy
  clear hin ht hy
  go_enter Tryz.func107, Tryz.ntmps107
  go_wp2
  go_loop [5] (fun i => ∃ k : Nat, k ≤ l.length ∧ i = .int .i64 k ∧ y ∉ l.take k) (fun i => l.length - (intOf i).toNat)
  case atStart => exact ⟨0, Nat.zero_le _, rfl, by simp⟩
  case round =>
    obtain ⟨k, hk, rfl, hm⟩ := hrel
    have HM := Lib.hid hm
    clear hm
    by_cases hlt : k < l.length
    · obtain ⟨b, off, rfl, hbw, hc⟩ := HIN.out (by omega)
      obtain ⟨x, s, hx1, hx2, hx3, hx4⟩ := str_at hlt
      have hcell : w.cell? ⟨b, off + k, none⟩ = some (.string s) := by rw [← hx3]; exact hc k x hx1
      have H1 := Lib.hid hx1
      by_cases hxy : x = y
      · obtain rfl := str_eq3 hx2 HT.out hxy
        clear hc hx1 hx2 hx3 hx4 hbw hxy
        go_wp2
        go_ret
        exact ⟨rfl, rfl⟩
      · have HXY := Lib.hid hxy
        have hne := str_ne3 hx2 HT.out hxy
        clear hc hx1 hx2 hx3 hx4 hbw hxy
        go_wp2
        go_round
        case rel => exact ⟨k + 1, by omega, by go_num, by rw [take_snoc' H1.out, List.mem_append, List.mem_singleton]; exact fun h => h.elim HM.out (fun e => HXY.out e.symm)⟩
        case measure => simp [intOf]; omega
    · obtain rfl : k = l.length := by omega
      exact absurd HY.out (by have := HM.out; rwa [List.take_length] at this)

set_option maxRecDepth 100000 in
theorem has_no (a : Option Addr) (cap : Nat) (l : List Str) (t : ByteArray) (y : Str) (w : World) (hl : l.length ≤ 4000000) (hin : InS w a l) (ht : t.data.toList = y) (hy : y ∉ l) :
    Calls Tryz.prog 107 #[.slice a l.length cap, .string t] w fun e w' => e = .returned (.bool false) ∧ w' = w := by
  have HIN := Lib.hid hin
  have HT := Lib.hid ht
  have HY := Lib.hid hy
  clear hin ht hy
  go_enter Tryz.func107, Tryz.ntmps107
  go_wp2
  go_loop [5] (fun i => ∃ k : Nat, k ≤ l.length ∧ i = .int .i64 k) (fun i => l.length - (intOf i).toNat)
  case atStart => exact ⟨0, Nat.zero_le _, rfl⟩
  case round =>
    obtain ⟨k, hk, rfl⟩ := hrel
    by_cases hlt : k < l.length
    · obtain ⟨b, off, rfl, hbw, hc⟩ := HIN.out (by omega)
      obtain ⟨x, s, hx1, hx2, hx3, hx4⟩ := str_at hlt
      have hcell : w.cell? ⟨b, off + k, none⟩ = some (.string s) := by rw [← hx3]; exact hc k x hx1
      have hne := str_ne3 hx2 HT.out (fun e => HY.out (by rw [← e]; exact List.mem_of_getElem? hx1))
      clear hc hx1 hx2 hx3 hx4 hbw
      go_wp2
      go_round
      case rel => exact ⟨k + 1, by omega, by go_num⟩
      case measure => simp [intOf]; omega
    · obtain rfl : k = l.length := by omega
      go_wp2
      go_ret
      exact ⟨rfl, rfl⟩

/-- what both lists have -/
def bothL (l m : List Str) : List Str := l.filter fun x => decide (x ∈ m)
abbrev commonR (l m : List Str) : List Str := setL (bothL l m)
theorem both_yes {l m : List Str} {k : Nat} {x : Str} (h : l[k]? = some x) (hm : x ∈ m) : bothL (l.take (k + 1)) m = bothL (l.take k) m ++ [x] := by
  unfold bothL; rw [take_snoc' h, List.filter_append]; simp [hm]
theorem both_no {l m : List Str} {k : Nat} {x : Str} (h : l[k]? = some x) (hm : x ∉ m) : bothL (l.take (k + 1)) m = bothL (l.take k) m := by
  unfold bothL; rw [take_snoc' h, List.filter_append]; simp [hm]
theorem both_len (l m : List Str) : (bothL l m).length ≤ l.length := List.length_filter_le _ _
theorem common_len (l m : List Str) (h0 : szL l ≤ 1048576) (h1 : szL m ≤ 1048576) : (commonR l m).length ≤ 4000000 := by
  have h2 := setL_length (bothL l m)
  have h3 := both_len l m
  have h4 := szL_len l
  show (setL (bothL l m)).length ≤ 4000000
  omega

set_option maxRecDepth 100000 in
set_option maxHeartbeats 1000000 in
theorem common_spec (a0 a1 : Option Addr) (c0 c1 : Nat) (l0 l1 : List Str) (w : World) (h0 : Sm w a0 l0 c0) (h1 : Sm w a1 l1 c1) :
    Calls Tryz.prog 76 #[.slice a0 l0.length c0, .slice a1 l1.length c1] w (GivesS w (commonR l0 l1)) := by
  obtain ⟨hin0, -, -, hl0, -⟩ := h0
  obtain ⟨hin1, -, -, hl1, -⟩ := h1
  have H0 := Lib.hid hin0
  have H1 := Lib.hid hin1
  clear hin0 hin1
  go_enter Tryz.func76, Tryz.ntmps76
  go_wp2
  go_loopw [5, 6] (fun v i wr => ∃ (k : Nat) (a : Option Addr) (c : Nat) (r : List Str), k ≤ l0.length ∧ i = .int .i64 k ∧ v = .slice a r.length c ∧ r = setL (bothL (l0.take k) l1) ∧ OwnS wr w.heap.size (.slice a r.length c) r ∧ Below w.heap.size w wr) (fun _ i _ => l0.length - (intOf i).toNat)
  case atStart => exact ⟨0, _, _, [], Nat.zero_le _, rfl, rfl, rfl, own_new w w.heap.size w.heap.size rfl (Nat.le_refl _), (Below.refl _ _).alloc (Nat.le_refl _) _⟩
  case round =>
    obtain ⟨k, a, c, r, hk, rfl, rfl, hr, hown, hb⟩ := hrel
    have hrl : r.length ≤ k := by
      rw [hr]
      have h2 := setL_length (bothL (l0.take k) l1)
      have h3 := both_len (l0.take k) l1
      have h4 : (l0.take k).length ≤ k := List.length_take_le _ _
      omega
    have HR := Lib.hid hr
    have HOWN := Lib.hid hown
    have HB := Lib.hid hb
    clear hr hown hb
    by_cases hlt : k < l0.length
    · obtain ⟨b, off, rfl, hbw, hc⟩ := H0.out (by omega)
      obtain ⟨x, s, hx1, hx2, hx3, hx4⟩ := str_at hlt
      have hcell : wr.cell? ⟨b, off + k, none⟩ = some (.string s) := by
        rw [HB.out.cell (p := ⟨b, off + k, none⟩) hbw, ← hx3]
        exact hc k x hx1
      have HX1 := Lib.hid hx1
      have HX2 := Lib.hid hx2
      clear hc hx1 hx2 hx3 hx4 hbw
      by_cases hm : x ∈ l1
      · have HM := Lib.hid hm
        clear hm
        go_wp2_with (first
          | (go_at_call 107; (refine (has_yes a1 c1 l1 s x _ hl1 (H1.out.below HB.out) HX2.out HM.out).mono ?_); rintro e w' ⟨rfl, rfl⟩)
          | (go_at_call 100; (refine (put_any false w.heap.size a c r s x _ (by omega) HOWN.out HB.out.size HX2.out).mono ?_); rintro e w2 ⟨a2, c2, rfl, ho2, hb2⟩; have HO2 := Lib.hid ho2; have HB2 := Lib.hid hb2; clear ho2 hb2))
        go_roundw
        case rel =>
          refine ⟨k + 1, a2, c2, putL false r x, by omega, by go_num, rfl, ?_, HO2.out, HB.out.trans (HB2.out.mono HB.out.size)⟩
          rw [both_yes HX1.out HM.out, setL_snoc, ← HR.out]
        case measure => simp [intOf]; omega
      · have HM := Lib.hid hm
        clear hm
        go_wp2_with (go_at_call 107; (refine (has_no a1 c1 l1 s x _ hl1 (H1.out.below HB.out) HX2.out HM.out).mono ?_); rintro e w' ⟨rfl, rfl⟩)
        go_roundw
        case rel =>
          refine ⟨k + 1, a, c, r, by omega, by go_num, rfl, ?_, HOWN.out, HB.out⟩
          rw [both_no HX1.out HM.out]
          exact HR.out
        case measure => simp [intOf]; omega
    · obtain rfl : k = l0.length := by omega
      go_wp2
      go_ret
      have e : r = commonR l0 l1 := by
        have h := HR.out
        rw [List.take_length] at h
        exact h
      rw [← e]
      exact ⟨a, c, rfl, HOWN.out, HB.out⟩

end Go.Proofs.YthjbekgognfiiaaGreat

/-
  What slices.Grow and slices.Concat do at []string, spec.UniteTokens and impl.UniteTokens. By an AI agent.
-/
namespace Go.Proofs.YthjbekgognfiiaaGreat
open Go.RowKit Go.Maps
set_option linter.unusedVariables false

abbrev uniteR (l m : List Str) : List Str := setL (l ++ m)
theorem unite_len (l m : List Str) (h0 : szL l ≤ 1048576) (h1 : szL m ≤ 1048576) : (uniteR l m).length ≤ 4000000 := by
  have h2 := setL_length (l ++ m)
  have h3 := szL_len l
  have h4 := szL_len m
  rw [List.length_append] at h2
  show (setL (l ++ m)).length ≤ 4000000
  omega

set_option maxRecDepth 100000 in
set_option maxHeartbeats 1000000 in
theorem unite_spec (a0 a1 : Option Addr) (c0 c1 : Nat) (l0 l1 : List Str) (w : World) (h0 : Sm w a0 l0 c0) (h1 : Sm w a1 l1 c1) :
    Calls Tryz.prog 79 #[.slice a0 l0.length c0, .slice a1 l1.length c1] w (GivesS w (uniteR l0 l1)) := by
  obtain ⟨hin0, -, -, hl0, -⟩ := h0
  obtain ⟨hin1, -, -, hl1, -⟩ := h1
  have H0 := Lib.hid hin0
  have H1 := Lib.hid hin1
  clear hin0 hin1
  go_enter Tryz.func79, Tryz.ntmps79
  go_wp2
  go_loopw [5, 6] (fun v i wr => ∃ (k : Nat) (a : Option Addr) (c : Nat) (r : List Str), k ≤ l0.length ∧ i = .int .i64 k ∧ v = .slice a r.length c ∧ r = setL (l0.take k) ∧ OwnS wr w.heap.size (.slice a r.length c) r ∧ Below w.heap.size w wr) (fun _ i _ => l0.length - (intOf i).toNat)
  case atStart => exact ⟨0, _, _, [], Nat.zero_le _, rfl, rfl, rfl, own_new w w.heap.size w.heap.size rfl (Nat.le_refl _), (Below.refl _ _).alloc (Nat.le_refl _) _⟩
  case round =>
    obtain ⟨k, a, c, r, hk, rfl, rfl, hr, hown, hb⟩ := hrel
    have hrl : r.length ≤ k := by
      rw [hr]
      have h2 := setL_length (l0.take k)
      have h4 : (l0.take k).length ≤ k := List.length_take_le _ _
      omega
    have HR := Lib.hid hr
    have HOWN := Lib.hid hown
    have HB := Lib.hid hb
    clear hr hown hb
    by_cases hlt : k < l0.length
    · obtain ⟨b, off, rfl, hbw, hc⟩ := H0.out (by omega)
      obtain ⟨x, s, hx1, hx2, hx3, hx4⟩ := str_at hlt
      have hcell : wr.cell? ⟨b, off + k, none⟩ = some (.string s) := by
        rw [HB.out.cell (p := ⟨b, off + k, none⟩) hbw, ← hx3]
        exact hc k x hx1
      have HX1 := Lib.hid hx1
      have HX2 := Lib.hid hx2
      clear hc hx1 hx2 hx3 hx4 hbw
      go_wp2_with (go_at_call 100; (refine (put_any false w.heap.size a c r s x _ (by omega) HOWN.out HB.out.size HX2.out).mono ?_); rintro e w2 ⟨a2, c2, rfl, ho2, hb2⟩; have HO2 := Lib.hid ho2; have HB2 := Lib.hid hb2; clear ho2 hb2)
      go_roundw
      case rel =>
        refine ⟨k + 1, a2, c2, putL false r x, by omega, by go_num, rfl, ?_, HO2.out, HB.out.trans (HB2.out.mono HB.out.size)⟩
        rw [take_snoc' HX1.out, setL_snoc, ← HR.out]
      case measure => simp [intOf]; omega
    · obtain rfl : k = l0.length := by omega
      have HR0 := Lib.hid (show r = setL l0 by have h := HR.out; rwa [List.take_length] at h)
      go_wp2
      go_loopw [5, 7] (fun v i wr => ∃ (k : Nat) (a : Option Addr) (c : Nat) (r : List Str), k ≤ l1.length ∧ i = .int .i64 k ∧ v = .slice a r.length c ∧ r = setL (l0 ++ l1.take k) ∧ OwnS wr w.heap.size (.slice a r.length c) r ∧ Below w.heap.size w wr) (fun _ i _ => l1.length - (intOf i).toNat)
      case atStart => exact ⟨0, a, c, r, Nat.zero_le _, rfl, rfl, by rw [HR0.out]; simp, HOWN.out, HB.out⟩
      case round =>
        clear HR HOWN HB hrl HR0
        obtain ⟨k, a, c, r, hk, rfl, rfl, hr, hown, hb⟩ := hrel
        have hrl : r.length ≤ l0.length + k := by
          rw [hr]
          have h2 := setL_length (l0 ++ l1.take k)
          have h4 : (l1.take k).length ≤ k := List.length_take_le _ _
          rw [List.length_append] at h2
          omega
        have HR := Lib.hid hr
        have HOWN := Lib.hid hown
        have HB := Lib.hid hb
        clear hr hown hb
        by_cases hlt : k < l1.length
        · obtain ⟨b, off, rfl, hbw, hc⟩ := H1.out (by omega)
          obtain ⟨x, s, hx1, hx2, hx3, hx4⟩ := str_at hlt
          have hcell : wr.cell? ⟨b, off + k, none⟩ = some (.string s) := by
            rw [HB.out.cell (p := ⟨b, off + k, none⟩) hbw, ← hx3]
            exact hc k x hx1
          have HX1 := Lib.hid hx1
          have HX2 := Lib.hid hx2
          clear hc hx1 hx2 hx3 hx4 hbw
          go_wp2_with (go_at_call 100; (refine (put_any false w.heap.size a c r s x _ (by omega) HOWN.out HB.out.size HX2.out).mono ?_); rintro e w2 ⟨a2, c2, rfl, ho2, hb2⟩; have HO2 := Lib.hid ho2; have HB2 := Lib.hid hb2; clear ho2 hb2)
          go_roundw
          case rel =>
            refine ⟨k + 1, a2, c2, putL false r x, by omega, by go_num, rfl, ?_, HO2.out, HB.out.trans (HB2.out.mono HB.out.size)⟩
            rw [take_snoc' HX1.out, ← List.append_assoc, setL_snoc, ← HR.out]
          case measure => simp [intOf]; omega
        · obtain rfl : k = l1.length := by omega
          go_wp2
          go_ret
          have e : r = uniteR l0 l1 := by
            have h := HR.out
            rw [List.take_length] at h
            exact h
          rw [← e]
          exact ⟨a, c, rfl, HOWN.out, HB.out⟩

end Go.Proofs.YthjbekgognfiiaaGreat

/-
  What spec.FoldCase and impl.FoldCase answer, for every string of at most 2^20 bytes; the walk of laws.FnExactFoldCase. By an AI agent.
-/
namespace Go.Proofs.YthjbekgognfiiaaGreat
open Go.RowKit
set_option linter.unusedVariables false

def nstr (l : List UInt8) : ByteArray := ⟨l.toArray⟩
theorem nret_str {a b : ByteArray} (h : a = b) : Ending.returned (.string a) = .returned (.string b) := by rw [h]
theorem nret_bool {a b : Bool} (h : a = b) : Ending.returned (.bool a) = .returned (.bool b) := by rw [h]
theorem nstr_list (l : List UInt8) : (nstr l).data.toList = l := by simp [nstr]
theorem nstr_size (l : List UInt8) : (nstr l).size = l.length := by simp [nstr, ByteArray.size]
theorem nstr_data (s : ByteArray) : nstr s.data.toList = s := by cases s; simp [nstr]

theorem fbyte_at? (s : ByteArray) (k : Nat) (h : k < s.size) : s.data.toList[k]? = some s[k] := by
  rw [List.getElem?_eq_getElem (by simpa using h)]
  rfl

theorem ftake_snoc (s : ByteArray) (k : Nat) (h : k < s.size) : s.data.toList.take (k + 1) = s.data.toList.take k ++ [s[k]] := by
  rw [List.take_succ_eq_append_getElem (by simpa using h)]; rfl

theorem ftake_all (s : ByteArray) : s.data.toList.take s.size = s.data.toList := List.take_of_length_le (by simp)

theorem fold_take (s : ByteArray) (k : Nat) (h : k < s.size) : foldL (s.data.toList.take (k + 1)) = foldL (s.data.toList.take k) ++ [foldB s[k]] := by
  rw [ftake_snoc s k h, foldL_snoc]

theorem byte_of_nat (c : UInt8) : UInt8.ofNat ((c.toNat : Int)).toNat = c := by
  rw [Int.toNat_natCast]
  exact UInt8.ofNat_toNat

set_option maxRecDepth 100000 in
set_option maxHeartbeats 800000 in
theorem spec_fc (s : ByteArray) (w : World) (hs : s.size ≤ 1048576) :
    Calls Tryz.prog 74 #[.string s] w fun e w' => e = .returned (.string (nstr (foldL s.data.toList))) ∧ Below w.heap.size w w' := by
  have HS := Lib.hid hs
  go_enter Tryz.func74, Tryz.ntmps74
  go_wp2
  go_loopw [3, 4] (fun v i wr => ∃ k : Nat, k ≤ s.size ∧ i = .int .i64 k ∧ OwnB wr w.heap.size v (foldL (s.data.toList.take k)) ∧ Below w.heap.size w wr) (fun _ i _ => s.size - (intOf i).toNat)
  case atStart => exact ⟨0, Nat.zero_le _, rfl, OwnB.made w _ #[] 0 (Nat.le_refl _) (Nat.zero_le _) rfl, (Below.refl _ _).alloc (Nat.le_refl _) _⟩
  case round =>
    obtain ⟨k, hk, rfl, hown, hb⟩ := hrel
    have HOWN := Lib.hid hown
    have HB := Lib.hid hb
    clear hown hb
    by_cases hlt : k < s.size
    · have hby := s[k].toNat_lt
      have HLN := Lib.hid (show (foldL (s.data.toList.take k)).length ≤ 70368744177664 by
        rw [foldL_length]
        have h2 : (s.data.toList.take k).length ≤ k := List.length_take_le _ _
        have := HS.out
        omega)
      have HTK := Lib.hid (fold_take s k hlt)
      have hbs := Lib.hid HB.out.size
      by_cases hc : 65 ≤ s[k].toNat ∧ s[k].toNat ≤ 90
      · obtain ⟨h1, h2⟩ := hc
        have HF := Lib.hid (foldB_yes h1 h2)
        go_wp2_with (at_builtin; refine append_byte rfl _ _ rfl w.heap.size _ (foldL (s.data.toList.take k)) ((s[k].toNat : Int) + 32) HOWN.out rfl rfl (by omega) (by omega) HLN.out hbs.out ?_; intro v1 w1 hown1 hb1)
        go_roundw
        case rel =>
          refine ⟨k + 1, by omega, by go_num, ?_, HB.out.trans hb1⟩
          rw [HTK.out, HF.out]
          exact hown1
        case measure => simp [intOf]; omega
      · have HF := Lib.hid (foldB_no hc)
        go_wp2_with (at_builtin; refine append_byte rfl _ _ rfl w.heap.size _ (foldL (s.data.toList.take k)) (s[k].toNat : Int) HOWN.out rfl rfl (by omega) (by omega) HLN.out hbs.out ?_; intro v1 w1 hown1 hb1)
        all_goals
          go_roundw
          case rel =>
            refine ⟨k + 1, by omega, by go_num, ?_, HB.out.trans hb1⟩
            rw [HTK.out, HF.out]
            rw [byte_of_nat] at hown1
            exact hown1
          case measure => simp [intOf]; omega
    · obtain rfl : k = s.size := by omega
      have hcv := HOWN.out.convert
      go_wp2
      go_ret
      exact ⟨nret_str (by rw [ftake_all]; rfl), HB.out⟩

/-- block g holds the bytes l and behind them the cells z; the run-time's mark lies behind the last one -/
def BlkF (w : World) (g : Nat) (z : List Value) (l : List UInt8) : Prop := w.heap[g]? = some (.cells (Lib.byteCells l ++ z).toArray 5 (l.length + z.length, l.length + z.length + 1))

theorem BlkF.cell {w : World} {g : Nat} {z : List Value} {l : List UInt8} (h : BlkF w g z l) {i : Nat} (hi : i < l.length) : w.cell? ⟨g, i, none⟩ = some (.int .u8 (l[i].toNat : Int)) := by
  rw [cell_of_row w g i _ 5 _ h]
  rw [List.getElem?_toArray, List.getElem?_append_left (by simpa [Lib.byteCells] using hi)]
  simp [Lib.byteCells, hi]

theorem BlkF.frozen {w : World} {g : Nat} {z : List Value} {l : List UInt8} (h : BlkF w g z l) {i : Nat} (hi : i < l.length) : w.frozen? ⟨g, i, none⟩ = false := by
  unfold BlkF at h
  simp [World.frozen?, h]
  omega

theorem BlkF.set_ {w : World} {g : Nat} {z : List Value} {l : List UInt8} (h : BlkF w g z l) {i : Nat} (hi : i < l.length) (b : UInt8) (x : Int) (hx : x = b.toNat) : BlkF (w.setCell ⟨g, i, none⟩ (.int .u8 x)) g z (l.set i b) := by
  subst hx
  unfold BlkF at h ⊢
  have e : Lib.byteCells (l.set i b) = (Lib.byteCells l).set i (.int .u8 b.toNat) := by simp [Lib.byteCells, List.map_set]
  have hi2 : i < (Lib.byteCells l).length := by simpa [Lib.byteCells] using hi
  rw [e, List.length_set, ← List.set_append_left _ _ hi2]
  simp [World.setCell, Array.getElem?_modify, h]

theorem BlkF.convert {w : World} {g cap m : Nat} {z : List Value} {l : List UInt8} (h : BlkF w g z l) (hm : l.length = m) :
    (convert 22 9 (.slice (some ⟨g, 0, none⟩) m cap)).run Tryz.prog w = .ok (.string (nstr l)) w := by
  subst hm
  refine run_convert_bytes_back (P := Tryz.prog) w 22 9 5 ⟨g, 0, none⟩ cap l Tryz.underlying22 Tryz.underlying5 Tryz.underlying9 (fun j hj => ?_)
  have e : (⟨g, 0, none⟩ : Addr).add j = ⟨g, j, none⟩ := by unfold Addr.add; split <;> simp_all
  rw [e, h.cell hj]

/-- []byte(s) -/
theorem bytes_of_string (w : World) (s : ByteArray) : ∃ (cap : Nat) (z : List Value) (w' : World),
    (convert 9 22 (.string s)).run Tryz.prog w = .ok (.slice (some ⟨w.heap.size, 0, none⟩) s.size cap) w' ∧ BlkF w' w.heap.size z s.data.toList ∧ Below w.heap.size w w' := by
  refine ⟨_, List.replicate (grownCap w s.size 0 5 - s.size) (Value.int .u8 0), _, run_bytes_of_string w 9 22 5 s Tryz.underlying9 Tryz.underlying22 Tryz.underlying5, ?_, ?_⟩
  · have e : bytesRow s (grownCap w s.size 0 5) = (Lib.byteCells s.data.toList ++ List.replicate (grownCap w s.size 0 5 - s.size) (Value.int .u8 0)).toArray := by
      apply Array.toList_inj.1
      simp [bytesRow, Lib.byteCells]
    unfold BlkF
    rw [e]
    have e2 : ∀ o : Obj, (w.drew.alloc o).heap[w.heap.size]? = some o := fun o => heap_alloc_new w.drew o
    rw [e2]
    simp [Lib.byteCells]
  · exact ((Below.refl _ _).drew).alloc (by simp) _

theorem foldK_set (s : ByteArray) (k : Nat) (h : k < s.size) :
    foldL (s.data.toList.take (k + 1)) ++ s.data.toList.drop (k + 1) = (foldL (s.data.toList.take k) ++ s.data.toList.drop k).set k (foldB s[k]) := by
  have hl : k < s.data.toList.length := by simpa using h
  have e : (foldL (s.data.toList.take k)).length = k := by rw [foldL_length, List.length_take]; omega
  rw [fold_take s k h, List.drop_eq_getElem_cons hl, List.set_append_right _ _ (by omega), e, Nat.sub_self, List.set_cons_zero, List.append_assoc]
  rfl

theorem foldK_at (s : ByteArray) (k : Nat) (h : k < s.size) (h2 : k < (foldL (s.data.toList.take k) ++ s.data.toList.drop k).length) :
    (foldL (s.data.toList.take k) ++ s.data.toList.drop k)[k] = s[k] := by
  have hl : k < s.data.toList.length := by simpa using h
  have e : (foldL (s.data.toList.take k)).length = k := by rw [foldL_length, List.length_take]; omega
  rw [List.getElem_append_right (by omega)]
  simp only [e, Nat.sub_self, List.getElem_drop, Nat.add_zero]
  rfl

theorem foldK_length (s : ByteArray) (k : Nat) (h : k ≤ s.size) : (foldL (s.data.toList.take k) ++ s.data.toList.drop k).length = s.size := by
  rw [List.length_append, foldL_length, List.length_take, List.length_drop]
  simp
  omega

end Go.Proofs.YthjbekgognfiiaaGreat

/-
  What spec.StripMarks and impl.StripMarks answer, for every string of at most 2^20 bytes; the walk of laws.FnExactStripMarks. By an AI agent.
-/
namespace Go.Proofs.YthjbekgognfiiaaGreat
open Go.RowKit
set_option linter.unusedVariables false

/-- the five ways in which a byte is no letter and no digit, and the three in which it is one -/
theorem word_ways (x : Int) : (x < 48 ∧ isWordI x = false) ∨ (48 ≤ x ∧ x ≤ 57 ∧ isWordI x = true) ∨ (57 < x ∧ x < 65 ∧ isWordI x = false) ∨ (65 ≤ x ∧ x ≤ 90 ∧ isWordI x = true) ∨
    (90 < x ∧ x < 97 ∧ isWordI x = false) ∨ (97 ≤ x ∧ x ≤ 122 ∧ isWordI x = true) ∨ (122 < x ∧ isWordI x = false) := by
  by_cases h1 : x < 48
  · exact .inl ⟨h1, wordI_no (by omega)⟩
  · by_cases h2 : x ≤ 57
    · exact .inr (.inl ⟨by omega, h2, wordI_yes (by omega)⟩)
    · by_cases h3 : x < 65
      · exact .inr (.inr (.inl ⟨by omega, h3, wordI_no (by omega)⟩))
      · by_cases h4 : x ≤ 90
        · exact .inr (.inr (.inr (.inl ⟨by omega, h4, wordI_yes (by omega)⟩)))
        · by_cases h5 : x < 97
          · exact .inr (.inr (.inr (.inr (.inl ⟨by omega, h5, wordI_no (by omega)⟩))))
          · by_cases h6 : x ≤ 122
            · exact .inr (.inr (.inr (.inr (.inr (.inl ⟨by omega, h6, wordI_yes (by omega)⟩)))))
            · exact .inr (.inr (.inr (.inr (.inr (.inr ⟨by omega, wordI_no (by omega)⟩)))))

set_option maxRecDepth 100000 in
theorem l2Word_is (x : Int) (b : Bool) (w : World) (hb : isWordI x = b) :
    Calls Tryz.prog 73 #[.int .u8 x] w fun e w' => e = .returned (.bool b) ∧ w = w' := by
  rcases word_ways x with ⟨h1, h⟩ | ⟨h1, h2, h⟩ | ⟨h1, h2, h⟩ | ⟨h1, h2, h⟩ | ⟨h1, h2, h⟩ | ⟨h1, h2, h⟩ | ⟨h1, h⟩
  all_goals
    obtain rfl := h.symm.trans hb
    clear h hb
    go_enter Tryz.func73, Tryz.ntmps73
    go_wp2
    go_ret
    exact ⟨nret_bool (by first | rfl | (simp; omega)), rfl⟩

set_option maxRecDepth 100000 in
theorem isWordByte_is (x : Int) (b : Bool) (w : World) (hb : isWordI x = b) :
    Calls Tryz.prog 142 #[.int .u8 x] w fun e w' => e = .returned (.bool b) ∧ w = w' := by
  rcases word_ways x with ⟨h1, h⟩ | ⟨h1, h2, h⟩ | ⟨h1, h2, h⟩ | ⟨h1, h2, h⟩ | ⟨h1, h2, h⟩ | ⟨h1, h2, h⟩ | ⟨h1, h⟩
  all_goals
    obtain rfl := h.symm.trans hb
    clear h hb
    go_enter Tryz.func142, Tryz.ntmps142
    go_wp2
    go_ret
    exact ⟨nret_bool (by first | rfl | (simp; omega)), rfl⟩

theorem strip_take (s : ByteArray) (k : Nat) (h : k < s.size) : stripL (s.data.toList.take (k + 1)) = stripL (s.data.toList.take k) ++ stripB s[k] := by
  rw [ftake_snoc s k h, stripL_snoc]

theorem strip_len (s : ByteArray) (k : Nat) (hk : k ≤ s.size) (hs : s.size ≤ 1048576) : (stripL (s.data.toList.take k)).length ≤ 70368744177664 := by
  have h1 := stripL_length (s.data.toList.take k)
  have h2 : (s.data.toList.take k).length ≤ k := List.length_take_le _ _
  omega

/-- what becomes of the byte at k -/
inductive Way (c : UInt8) : Prop
  | word (h : isWordI c.toNat = true) (h1 : c.toNat ≠ 39) (e : stripB c = [c])
  | space (h : isWordI c.toNat = false) (h1 : c.toNat = 32) (e : stripB c = [c])
  | mark (h : isWordI c.toNat = false) (h1 : c.toNat = 39) (e : stripB c = [])
  | other (h : isWordI c.toNat = false) (h1 : c.toNat ≠ 39) (h2 : c.toNat ≠ 32) (e : stripB c = [32])

theorem way_of (c : UInt8) : Way c := by
  cases h : isWordI c.toNat
  · by_cases h1 : c.toNat = 39
    · exact .mark h h1 (stripB_mark h1)
    · by_cases h2 : c.toNat = 32
      · refine .space h h2 ?_
        rw [stripB_other h h1]
        rw [show c = 32 from UInt8.toNat_inj.1 h2]
      · exact .other h h1 h2 (stripB_other h h1)
  · exact .word h (fun e => by rw [e] at h; exact absurd h (by decide)) (stripB_word h)

end Go.Proofs.YthjbekgognfiiaaGreat

/-
  What spec.IsTokenSet and impl.IsTokenSet answer. By an AI agent.
-/
namespace Go.Proofs.YthjbekgognfiiaaGreat
open Go.RowKit
set_option linter.unusedVariables false

set_option maxRecDepth 100000 in
theorem tokByte_is (c : UInt8) (b : Bool) (w : World) (hb : lowB c = b) :
    Calls Tryz.prog 131 #[.int .u8 (c.toNat : Int)] w fun e w' => e = .returned (.bool b) ∧ w' = w := by
  by_cases hw : isWordI c.toNat = true
  · have HW := Lib.hid hw
    by_cases h1 : c.toNat < 65
    · obtain rfl : true = b := by rw [← hb]; unfold lowB; rw [hw]; simp; omega
      clear hw hb
      go_enter Tryz.func131, Tryz.ntmps131
      go_wp2_with (go_at_call 142; refine (isWordByte_is _ true _ HW.out).mono ?_; rintro e w' ⟨rfl, rfl⟩)
      go_ret
      exact ⟨nret_bool (by first | rfl | (simp; omega)), rfl⟩
    · by_cases h2 : 90 < c.toNat
      · obtain rfl : true = b := by rw [← hb]; unfold lowB; rw [hw]; simp; omega
        clear hw hb
        go_enter Tryz.func131, Tryz.ntmps131
        go_wp2_with (go_at_call 142; refine (isWordByte_is _ true _ HW.out).mono ?_; rintro e w' ⟨rfl, rfl⟩)
        go_ret
        exact ⟨nret_bool (by first | rfl | (simp; omega)), rfl⟩
      · obtain rfl : false = b := by rw [← hb]; unfold lowB; rw [hw]; simp; omega
        clear hw hb
        go_enter Tryz.func131, Tryz.ntmps131
        go_wp2_with (go_at_call 142; refine (isWordByte_is _ true _ HW.out).mono ?_; rintro e w' ⟨rfl, rfl⟩)
        go_ret
        exact ⟨nret_bool (by first | rfl | (simp; omega)), rfl⟩
  · have hw' : isWordI c.toNat = false := by simpa using hw
    have HW := Lib.hid hw'
    obtain rfl : false = b := by rw [← hb]; unfold lowB; rw [hw']; rfl
    clear hw hb hw'
    go_enter Tryz.func131, Tryz.ntmps131
    go_wp2_with (go_at_call 142; refine (isWordByte_is _ false _ HW.out).mono ?_; rintro e w' ⟨rfl, rfl⟩)
    go_ret
    exact ⟨nret_bool (by first | rfl | (simp; omega)), rfl⟩

theorem tokB_bad {s : ByteArray} {k : Nat} (h : k < s.size) (hb : lowB s[k] = false) : tokB s.data.toList = false := by
  unfold tokB
  have hm : s[k] ∈ s.data.toList := List.mem_of_getElem? (fbyte_at? s k h)
  rw [Bool.and_eq_false_iff]
  right
  rw [List.all_eq_false]
  exact ⟨_, hm, by rw [hb]; decide⟩
theorem tokB_all {s : ByteArray} (h0 : 0 < s.size) (h : ∀ k (hk : k < s.size), lowB s[k] = true) : tokB s.data.toList = true := by
  unfold tokB
  have hne : s.data.toList ≠ [] := fun e => by
    have h1 : s.data.toList.length = s.size := Array.length_toList
    rw [e] at h1
    simp at h1
    omega
  rw [ne0_yes hne, Bool.true_and, List.all_eq_true]
  intro c hc
  obtain ⟨k, hk⟩ := List.getElem?_of_mem hc
  have hlt : k < s.size := by have := (List.getElem?_eq_some_iff.1 hk).1; simpa using this
  rw [fbyte_at? s k hlt] at hk
  obtain rfl := Option.some.inj hk
  exact h k hlt
theorem tokB_nil {s : ByteArray} (h : s.size = 0) : tokB s.data.toList = false := by
  have h1 : s.data.toList.length = s.size := Array.length_toList
  have h2 : s.data.toList = [] := List.eq_nil_of_length_eq_zero (by omega)
  rw [h2]
  rfl

set_option maxRecDepth 100000 in
theorem isToken_is (s : ByteArray) (b : Bool) (w : World) (hs : s.size ≤ 1048576) (hb : tokB s.data.toList = b) :
    Calls Tryz.prog 110 #[.string s] w fun e w' => e = .returned (.bool b) ∧ w' = w := by
  have HBB := Lib.hid hb
  clear hb
  go_enter Tryz.func110, Tryz.ntmps110
  go_wp2
  go_loop [6] (fun i => ∃ k : Nat, k ≤ s.size ∧ i = .int .i64 k ∧ ∀ j (hj : j < s.size), j < k → lowB s[j] = true) (fun i => s.size - (intOf i).toNat)
  case atStart => exact ⟨0, Nat.zero_le _, rfl, fun j _ hj => absurd hj (Nat.not_lt_zero _)⟩
  case round =>
    obtain ⟨k, hk, rfl, hall⟩ := hrel
    have HALL := Lib.hid hall
    clear hall
    by_cases hlt : k < s.size
    · by_cases hl : lowB s[k] = true
      · have HL := Lib.hid hl
        clear hl
        go_wp2_with (go_at_call 131; refine (tokByte_is s[k] true _ HL.out).mono ?_; rintro e w' ⟨rfl, rfl⟩)
        go_round
        case rel =>
          refine ⟨k + 1, by omega, by go_num, fun j hj hlt2 => ?_⟩
          by_cases e : j = k
          · subst e; exact HL.out
          · exact HALL.out j hj (by omega)
        case measure => simp [intOf]; omega
      · have HL := Lib.hid (show lowB s[k] = false by simpa using hl)
        clear hl
        obtain rfl : false = b := by rw [← HBB.out, tokB_bad hlt HL.out]
        go_wp2_with (go_at_call 131; refine (tokByte_is s[k] false _ HL.out).mono ?_; rintro e w' ⟨rfl, rfl⟩)
        go_ret
        exact ⟨rfl, rfl⟩
    · obtain rfl : k = s.size := by omega
      by_cases h0 : s.size = 0
      · obtain rfl : false = b := by rw [← HBB.out, tokB_nil h0]
        have he : (s.toList == ([] : List UInt8)) = true := by
          rw [ByteArray.toList_eq]
          have h1 : s.data.toList.length = s.size := Array.length_toList
          rw [List.eq_nil_of_length_eq_zero (by omega : s.data.toList.length = 0)]
          rfl
        have he2 : s.toList.isEmpty = true := by simpa using he
        clear h0
        go_wp2
        go_ret
        refine ⟨nret_bool ?_, rfl⟩
        rfl
      · obtain rfl : true = b := by rw [← HBB.out, tokB_all (by omega) (fun j hj => HALL.out j hj hj)]
        have he2 : s.toList.isEmpty = false := by
          rw [ByteArray.toList_eq]
          have h1 : s.data.toList.length = s.size := Array.length_toList
          cases hq : s.data.toList with
          | nil => rw [hq] at h1; simp at h1; omega
          | cons a r => rfl
        have he : (s.toList == ([] : List UInt8)) = false := by simpa using he2
        clear h0
        go_wp2
        go_ret
        refine ⟨nret_bool ?_, rfl⟩
        rfl

theorem tok_take {l : List Str} {k : Nat} {x : Str} (h : TokSet (l.take k)) (hx : l[k]? = some x) (ht : tokB x = true) (hy : ∀ y, k ≠ 0 → l[k - 1]? = some y → y < x) : TokSet (l.take (k + 1)) := by
  rw [take_snoc' hx]
  refine tok_step h ht fun y hl => ?_
  have hlt := (List.getElem?_eq_some_iff.1 hx).1
  rw [List.getLast?_eq_getElem?, List.length_take, Nat.min_eq_left (by omega)] at hl
  have hk0 : k ≠ 0 := fun e => by subst e; simp at hl
  rw [List.getElem?_take_of_lt (by omega)] at hl
  exact hy y hk0 hl

noncomputable abbrev tsetR (l : List Str) : Bool := tsB l

set_option maxRecDepth 100000 in
set_option maxHeartbeats 1000000 in
theorem tset_impl (a0 : Option Addr) (c0 : Nat) (l0 : List Str) (w : World) (h0 : Sm w a0 l0 c0) :
    Calls Tryz.prog 82 #[.slice a0 l0.length c0] w fun e w' => e = .returned (.bool (tsetR l0)) ∧ Below w.heap.size w w' := by
  obtain ⟨hin0, -, -, hl0, hx0⟩ := h0
  have H0 := Lib.hid hin0
  have X0 := Lib.hid hx0
  clear hin0 hx0
  obtain ⟨b, hb⟩ : ∃ b, tsB l0 = b := ⟨_, rfl⟩
  have HBB := Lib.hid hb
  show Calls _ _ _ w fun e w' => e = .returned (.bool (tsB l0)) ∧ Below w.heap.size w w'
  rw [hb]
  clear hb
  go_enter Tryz.func82, Tryz.ntmps82
  go_wp2
  go_loop [7] (fun i => ∃ k : Nat, k ≤ l0.length ∧ i = .int .i64 k ∧ TokSet (l0.take k)) (fun i => l0.length - (intOf i).toNat)
  case atStart => exact ⟨0, Nat.zero_le _, rfl, ⟨fun x hx => by simp at hx, by simp [Asc]⟩⟩
  case round =>
    obtain ⟨k, hk, rfl, hts⟩ := hrel
    have HTS := Lib.hid hts
    clear hts
    by_cases hlt : k < l0.length
    · obtain ⟨bb, off, rfl, hbw, hc⟩ := H0.out (by omega)
      obtain ⟨x, s, hx1, hx2, hx3, hx4⟩ := str_at hlt
      have hcell : w.cell? ⟨bb, off + k, none⟩ = some (.string s) := by rw [← hx3]; exact hc k x hx1
      have HSZ := Lib.hid (show s.size ≤ 1048576 by rw [hx4]; exact X0.out x (List.mem_of_getElem? hx1))
      have HX1 := Lib.hid hx1
      have HX2 := Lib.hid hx2
      by_cases ht : tokB x = true
      · have HT := Lib.hid (show tokB s.data.toList = true by rw [hx2]; exact ht)
        by_cases h0 : k = 0
        · subst h0
          rw [Nat.add_zero] at hcell
          clear hc hx1 hx2 hx3 hx4 hbw ht
          go_wp2_with (go_at_call 110; (refine (isToken_is s true _ HSZ.out HT.out).mono ?_); rintro e w' ⟨rfl, rfl⟩)
          go_round
          case rel => exact ⟨0 + 1, by omega, by go_num, tok_take HTS.out HX1.out (by rw [← HX2.out]; exact HT.out) (fun y h => absurd rfl h)⟩
          case measure => simp [intOf]; omega
        · obtain ⟨j, rfl⟩ : ∃ j, k = j + 1 := ⟨k - 1, by omega⟩
          obtain ⟨y, t, hy1, hy2, hy3, hy4⟩ := str_at (show j < l0.length by omega)
          have hcell2 : w.cell? ⟨bb, off + j, none⟩ = some (.string t) := by rw [← hy3]; exact hc j y hy1
          have HY1 := Lib.hid hy1
          by_cases hyx : y < x
          · have hls := less_yes hy2 hx2 hyx
            have HYX := Lib.hid hyx
            clear hc hx1 hx2 hx3 hx4 hbw ht hy1 hy2 hy3 hy4 hyx h0
            go_wp2_with (go_at_call 110; (refine (isToken_is s true _ HSZ.out HT.out).mono ?_); rintro e w' ⟨rfl, rfl⟩)
            go_round
            case rel =>
              refine ⟨j + 1 + 1, by omega, by go_num, tok_take HTS.out HX1.out (by rw [← HX2.out]; exact HT.out) (fun z _ hz => ?_)⟩
              rw [show j + 1 - 1 = j from rfl, HY1.out] at hz
              obtain rfl := Option.some.inj hz
              exact HYX.out
            case measure => simp [intOf]; omega
          · have hls := less_no hy2 hx2 hyx
            obtain rfl : false = b := by rw [← HBB.out, tsB_no (tok_order hy1 hx1 hyx)]
            clear hc hx1 hx2 hx3 hx4 hbw ht hy1 hy2 hy3 hy4 hyx h0
            go_wp2_with (go_at_call 110; (refine (isToken_is s true _ HSZ.out HT.out).mono ?_); rintro e w' ⟨rfl, rfl⟩)
            go_ret
            exact ⟨rfl, Below.refl _ _⟩
      · have htf : tokB x = false := by simpa using ht
        have HT := Lib.hid (show tokB s.data.toList = false by rw [hx2]; exact htf)
        obtain rfl : false = b := by rw [← HBB.out, tsB_no (tok_bad (List.mem_of_getElem? hx1) htf)]
        clear hc hx1 hx2 hx3 hx4 hbw ht htf
        go_wp2_with (go_at_call 110; (refine (isToken_is s false _ HSZ.out HT.out).mono ?_); rintro e w' ⟨rfl, rfl⟩)
        go_ret
        exact ⟨rfl, Below.refl _ _⟩
    · obtain rfl : k = l0.length := by omega
      obtain rfl : true = b := by rw [← HBB.out, tsB_yes (by have h := HTS.out; rwa [List.take_length] at h)]
      go_wp2
      go_ret
      exact ⟨rfl, Below.refl _ _⟩

end Go.Proofs.YthjbekgognfiiaaGreat

