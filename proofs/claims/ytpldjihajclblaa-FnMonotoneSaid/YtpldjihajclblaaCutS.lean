/-
  What spec.l2Cut answers at any byte. By an AI agent.
-/
import Derived.Test.YtpldjihajclblaaGDraw
import Derived.Test.YtpldjihajclblaaGPlain
import Derived.Lib.AppendZeros
namespace Go.Proofs.Ytpldjihajclblaa
open Go.RowKit
set_option linter.unusedVariables false

theorem ext_mid (s : ByteArray) (f k : Nat) : (s.extract f k).data.toList = (s.data.toList.drop f).take (k - f) := by rw [Lib.extract_data]
theorem mid_succ (s : ByteArray) (f k : Nat) (h : f ≤ k) (hk : k < s.size) : (s.data.toList.drop f).take (k + 1 - f) = (s.data.toList.drop f).take (k - f) ++ [s[k]] := by
  have hl : s.data.toList.length = s.size := Array.length_toList
  rw [show k + 1 - f = (k - f) + 1 by omega, List.take_succ_eq_append_getElem (by rw [List.length_drop]; omega), List.getElem_drop]
  congr 2
  have e : f + (k - f) = k := by omega
  simp only [e]
  rfl

/-- the place in the text: what has been cut off, and where the part under way began -/
def CutAt (s : ByteArray) (sep : UInt8) (f k : Nat) (r : List Str) : Prop := f ≤ k ∧ r = (kS sep (s.data.toList.take k)).1 ∧ (s.data.toList.drop f).take (k - f) = (kS sep (s.data.toList.take k)).2
theorem cut_start (s : ByteArray) (sep : UInt8) : CutAt s sep 0 0 [] := ⟨Nat.le_refl _, by simp [kS], by simp [kS]⟩
theorem CutAt.at_sep {s : ByteArray} {sep : UInt8} {f k : Nat} {r : List Str} (h : CutAt s sep f k r) (hk : k < s.size) (hc : s[k] = sep) : CutAt s sep (k + 1) (k + 1) (r ++ [(s.extract f k).data.toList]) := by
  obtain ⟨h1, h2, h3⟩ := h
  refine ⟨Nat.le_refl _, ?_, ?_⟩
  · rw [ftake_snoc s k hk, kS_at _ _ _ hc, ext_mid, h3, h2]
  · rw [ftake_snoc s k hk, kS_at _ _ _ hc]
    simp
theorem CutAt.at_other {s : ByteArray} {sep : UInt8} {f k : Nat} {r : List Str} (h : CutAt s sep f k r) (hk : k < s.size) (hc : s[k] ≠ sep) : CutAt s sep f (k + 1) r := by
  obtain ⟨h1, h2, h3⟩ := h
  refine ⟨by omega, ?_, ?_⟩
  · rw [ftake_snoc s k hk, kS_off _ _ _ hc, h2]
  · rw [ftake_snoc s k hk, kS_off _ _ _ hc, mid_succ s f k h1 hk, h3]
theorem CutAt.fin {s : ByteArray} {sep : UInt8} {f : Nat} {r : List Str} (h : CutAt s sep f s.size r) : r ++ [(s.extract f s.size).data.toList] = cutL sep s.data.toList := by
  obtain ⟨h1, h2, h3⟩ := h
  have e : s.data.toList.take s.size = s.data.toList := ftake_all s
  rw [e] at h2 h3
  unfold cutL
  rw [ext_mid, h3, h2]
theorem CutAt.len {s : ByteArray} {sep : UInt8} {f k : Nat} {r : List Str} (h : CutAt s sep f k r) : r.length ≤ k := by
  rw [h.2.1]
  have h1 := kS_len sep (s.data.toList.take k)
  have h2 : (s.data.toList.take k).length ≤ k := List.length_take_le _ _
  omega

set_option maxRecDepth 100000 in
set_option maxHeartbeats 1000000 in
theorem cut_any (s : ByteArray) (sep : UInt8) (w : World) (hs : s.size ≤ 4000000) :
    Calls Try.prog 76 #[.string s, .int .u8 (sep.toNat : Int)] w (GivesS w (cutL sep s.data.toList)) := by
  go_enter Try.func76, Try.ntmps76
  go_wp2
  go_loopw [5, 6, 7] (fun v fr i wr => ∃ (k f : Nat) (a : Option Addr) (c : Nat) (r : List Str), k ≤ s.size ∧ f ≤ k ∧ i = .int .i64 k ∧ fr = .int .i64 f ∧ v = .slice a r.length c ∧ CutAt s sep f k r ∧ OwnS wr w.heap.size (.slice a r.length c) r ∧ Below w.heap.size w wr) (fun _ _ i _ => s.size - (intOf i).toNat)
  case atStart => exact ⟨0, 0, _, _, [], Nat.zero_le _, Nat.le_refl _, rfl, rfl, rfl, cut_start s sep, own_new w w.heap.size w.heap.size rfl (Nat.le_refl _), (Below.refl _ _).alloc (Nat.le_refl _) _⟩
  case round =>
    obtain ⟨k, f, a, c, r, hk, hf, rfl, rfl, rfl, hcut, hown, hb⟩ := hrel
    have hrl := hcut.len
    have HCUT := Lib.hid hcut
    have HOWN := Lib.hid hown
    have HB := Lib.hid hb
    clear hcut hown hb
    by_cases hlt : k < s.size
    · have hby := s[k].toNat_lt
      by_cases hc : s[k].toNat = sep.toNat
      · have hq : ((s[k].toNat : Int) == (sep.toNat : Int)) = true := by simp; omega
        have HC := Lib.hid (show s[k] = sep from UInt8.toNat_inj.1 hc)
        obtain ⟨v', w2, hrun, ho, hgr⟩ := run_app 88 w.heap.size (.slice a r.length c) r (wr.alloc (.cells #[.string (s.extract f k)] 9)) (HOWN.out.alloc _) (some ⟨wr.heap.size, 0, none⟩) 1 [(s.extract f k).data.toList]
          (in_one wr wr.heap.size (s.extract f k) _ rfl rfl) nofun (by simp; omega) (by have := HB.out.size; simp; omega)
        obtain ⟨a', c', rfl⟩ := ho.shape
        have HRUN := Lib.hid hrun
        have HO := Lib.hid ho
        have HG := Lib.hid ((HB.out.alloc HB.out.size _).grown hgr (by have := HB.out.size; simp; omega) (fun k hk => (World.ownsRow.lt HOWN.out k hk).1))
        clear hrun ho hgr hc
        go_wp2_with (at_builtin; refine Lib.wpList_append_run _ rfl _ _ _ _ rfl _ _ rfl rfl _ _ HRUN.out ?_)
        go_roundw
        case rel => exact ⟨k + 1, k + 1, a', c', _, by omega, Nat.le_refl _, by go_num, by go_num, by simp, HCUT.out.at_sep hlt HC.out, HO.out, HG.out⟩
        case measure => simp [intOf]; omega
      · have hq : ((s[k].toNat : Int) == (sep.toNat : Int)) = false := by simp; omega
        have HC := Lib.hid (show s[k] ≠ sep from fun e => hc (by rw [e]))
        clear hc
        go_wp2
        go_roundw
        case rel => exact ⟨k + 1, f, a, c, r, by omega, by omega, by go_num, rfl, rfl, HCUT.out.at_other hlt HC.out, HOWN.out, HB.out⟩
        case measure => simp [intOf]; omega
    · obtain rfl : k = s.size := by omega
      obtain ⟨v', w2, hrun, ho, hgr⟩ := run_app 88 w.heap.size (.slice a r.length c) r (wr.alloc (.cells #[.string (s.extract f s.size)] 9)) (HOWN.out.alloc _) (some ⟨wr.heap.size, 0, none⟩) 1 [(s.extract f s.size).data.toList]
        (in_one wr wr.heap.size (s.extract f s.size) _ rfl rfl) nofun (by simp; omega) (by have := HB.out.size; simp; omega)
      have HRUN := Lib.hid hrun
      have HO := Lib.hid ho
      have HG := Lib.hid ((HB.out.alloc HB.out.size _).grown hgr (by have := HB.out.size; simp; omega) (fun k hk => (World.ownsRow.lt HOWN.out k hk).1))
      clear hrun ho hgr
      go_wp2_with (at_builtin; refine Lib.wpList_append_run _ rfl _ _ _ _ rfl _ _ rfl rfl _ _ HRUN.out ?_)
      go_ret
      refine GivesS.mk ?_ HG.out
      rw [← HCUT.out.fin]
      exact HO.out

end Go.Proofs.Ytpldjihajclblaa
