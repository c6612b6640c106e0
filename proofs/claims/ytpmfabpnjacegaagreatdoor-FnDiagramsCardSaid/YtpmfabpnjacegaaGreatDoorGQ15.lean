/-
  Texts laid together: NFold, CutS. By an AI agent.
-/
import Derived.Test.YtpmfabpnjacegaaGreatDoorGQ2
import Derived.Test.YtpmfabpnjacegaaGreatDoorGQ12
import Derived.Lib.Strings
import Derived.Lib.OthersKept
import Derived.Test.YtpmfabpnjacegaaGreatDoorGQ14
import Derived.Lib.AppendZeros
/-
  What spec.FoldCase and impl.FoldCase answer, for every string of at most 2^20 bytes; the walk of laws.FnExactFoldCase. By an AI agent.
-/
namespace Go.Proofs.YtpmfabpnjacegaaGreatDoor
open Go.RowKit
set_option linter.unusedVariables false

def nstr (l : List UInt8) : ByteArray := ⟨l.toArray⟩
theorem nret_str {a b : ByteArray} (h : a = b) : Ending.returned (.string a) = .returned (.string b) := by rw [h]
theorem nret_bool {a b : Bool} (h : a = b) : Ending.returned (.bool a) = .returned (.bool b) := by rw [h]
theorem nstr_list (l : List UInt8) : (nstr l).data.toList = l := by simp [nstr]
theorem nstr_size (l : List UInt8) : (nstr l).size = l.length := by simp [nstr, ByteArray.size]
theorem nstr_data (s : ByteArray) : nstr s.data.toList = s := by cases s; simp [nstr]

theorem fbyte_at? (s : ByteArray) (k : Nat) (h : k < s.size) : s.data.toList[k]? = some s[k] := by
  rw [List.getElem?_eq_getElem (by simpa using h)]
  rfl

theorem ftake_snoc (s : ByteArray) (k : Nat) (h : k < s.size) : s.data.toList.take (k + 1) = s.data.toList.take k ++ [s[k]] := by
  rw [List.take_succ_eq_append_getElem (by simpa using h)]; rfl

theorem ftake_all (s : ByteArray) : s.data.toList.take s.size = s.data.toList := List.take_of_length_le (by simp)

theorem fold_take (s : ByteArray) (k : Nat) (h : k < s.size) : foldL (s.data.toList.take (k + 1)) = foldL (s.data.toList.take k) ++ [foldB s[k]] := by
  rw [ftake_snoc s k h, foldL_snoc]

theorem byte_of_nat (c : UInt8) : UInt8.ofNat ((c.toNat : Int)).toNat = c := by
  rw [Int.toNat_natCast]
  exact UInt8.ofNat_toNat

/-- block g holds the bytes l and behind them the cells z; the run-time's mark lies behind the last one -/
def BlkF (w : World) (g : Nat) (z : List Value) (l : List UInt8) : Prop := w.heap[g]? = some (.cells (Lib.byteCells l ++ z).toArray 5 (l.length + z.length, l.length + z.length + 1))

theorem BlkF.cell {w : World} {g : Nat} {z : List Value} {l : List UInt8} (h : BlkF w g z l) {i : Nat} (hi : i < l.length) : w.cell? ⟨g, i, none⟩ = some (.int .u8 (l[i].toNat : Int)) := by
  rw [cell_of_row w g i _ 5 _ h]
  rw [List.getElem?_toArray, List.getElem?_append_left (by simpa [Lib.byteCells] using hi)]
  simp [Lib.byteCells, hi]

theorem BlkF.frozen {w : World} {g : Nat} {z : List Value} {l : List UInt8} (h : BlkF w g z l) {i : Nat} (hi : i < l.length) : w.frozen? ⟨g, i, none⟩ = false := by
  unfold BlkF at h
  simp [World.frozen?, h]
  omega

theorem BlkF.set_ {w : World} {g : Nat} {z : List Value} {l : List UInt8} (h : BlkF w g z l) {i : Nat} (hi : i < l.length) (b : UInt8) (x : Int) (hx : x = b.toNat) : BlkF (w.setCell ⟨g, i, none⟩ (.int .u8 x)) g z (l.set i b) := by
  subst hx
  unfold BlkF at h ⊢
  have e : Lib.byteCells (l.set i b) = (Lib.byteCells l).set i (.int .u8 b.toNat) := by simp [Lib.byteCells, List.map_set]
  have hi2 : i < (Lib.byteCells l).length := by simpa [Lib.byteCells] using hi
  rw [e, List.length_set, ← List.set_append_left _ _ hi2]
  simp [World.setCell, Array.getElem?_modify, h]

theorem BlkF.convert {w : World} {g cap m : Nat} {z : List Value} {l : List UInt8} (h : BlkF w g z l) (hm : l.length = m) :
    (convert 22 9 (.slice (some ⟨g, 0, none⟩) m cap)).run Tryz.prog w = .ok (.string (nstr l)) w := by
  subst hm
  refine run_convert_bytes_back (P := Tryz.prog) w 22 9 5 ⟨g, 0, none⟩ cap l Tryz.underlying22 Tryz.underlying5 Tryz.underlying9 (fun j hj => ?_)
  have e : (⟨g, 0, none⟩ : Addr).add j = ⟨g, j, none⟩ := by unfold Addr.add; split <;> simp_all
  rw [e, h.cell hj]

/-- []byte(s) -/
theorem bytes_of_string (w : World) (s : ByteArray) : ∃ (cap : Nat) (z : List Value) (w' : World),
    (convert 9 22 (.string s)).run Tryz.prog w = .ok (.slice (some ⟨w.heap.size, 0, none⟩) s.size cap) w' ∧ BlkF w' w.heap.size z s.data.toList ∧ Below w.heap.size w w' := by
  refine ⟨_, List.replicate (grownCap w s.size 0 5 - s.size) (Value.int .u8 0), _, run_bytes_of_string w 9 22 5 s Tryz.underlying9 Tryz.underlying22 Tryz.underlying5, ?_, ?_⟩
  · have e : bytesRow s (grownCap w s.size 0 5) = (Lib.byteCells s.data.toList ++ List.replicate (grownCap w s.size 0 5 - s.size) (Value.int .u8 0)).toArray := by
      apply Array.toList_inj.1
      simp [bytesRow, Lib.byteCells]
    unfold BlkF
    rw [e]
    have e2 : ∀ o : Obj, (w.drew.alloc o).heap[w.heap.size]? = some o := fun o => heap_alloc_new w.drew o
    rw [e2]
    simp [Lib.byteCells]
  · exact ((Below.refl _ _).drew).alloc (by simp) _

theorem foldK_set (s : ByteArray) (k : Nat) (h : k < s.size) :
    foldL (s.data.toList.take (k + 1)) ++ s.data.toList.drop (k + 1) = (foldL (s.data.toList.take k) ++ s.data.toList.drop k).set k (foldB s[k]) := by
  have hl : k < s.data.toList.length := by simpa using h
  have e : (foldL (s.data.toList.take k)).length = k := by rw [foldL_length, List.length_take]; omega
  rw [fold_take s k h, List.drop_eq_getElem_cons hl, List.set_append_right _ _ (by omega), e, Nat.sub_self, List.set_cons_zero, List.append_assoc]
  rfl

theorem foldK_at (s : ByteArray) (k : Nat) (h : k < s.size) (h2 : k < (foldL (s.data.toList.take k) ++ s.data.toList.drop k).length) :
    (foldL (s.data.toList.take k) ++ s.data.toList.drop k)[k] = s[k] := by
  have hl : k < s.data.toList.length := by simpa using h
  have e : (foldL (s.data.toList.take k)).length = k := by rw [foldL_length, List.length_take]; omega
  rw [List.getElem_append_right (by omega)]
  simp only [e, Nat.sub_self, List.getElem_drop, Nat.add_zero]
  rfl

theorem foldK_length (s : ByteArray) (k : Nat) (h : k ≤ s.size) : (foldL (s.data.toList.take k) ++ s.data.toList.drop k).length = s.size := by
  rw [List.length_append, foldL_length, List.length_take, List.length_drop]
  simp
  omega

end Go.Proofs.YtpmfabpnjacegaaGreatDoor

/-
  What spec.l2Cut answers at any byte. By an AI agent.
-/
namespace Go.Proofs.YtpmfabpnjacegaaGreatDoor
open Go.RowKit
set_option linter.unusedVariables false

theorem ext_mid (s : ByteArray) (f k : Nat) : (s.extract f k).data.toList = (s.data.toList.drop f).take (k - f) := by rw [Lib.extract_data]
theorem mid_succ (s : ByteArray) (f k : Nat) (h : f ≤ k) (hk : k < s.size) : (s.data.toList.drop f).take (k + 1 - f) = (s.data.toList.drop f).take (k - f) ++ [s[k]] := by
  have hl : s.data.toList.length = s.size := Array.length_toList
  rw [show k + 1 - f = (k - f) + 1 by omega, List.take_succ_eq_append_getElem (by rw [List.length_drop]; omega), List.getElem_drop]
  congr 2
  have e : f + (k - f) = k := by omega
  simp only [e]
  rfl

/-- the place in the text: what has been cut off, and where the part under way began -/
def CutAt (s : ByteArray) (sep : UInt8) (f k : Nat) (r : List Str) : Prop := f ≤ k ∧ r = (kS sep (s.data.toList.take k)).1 ∧ (s.data.toList.drop f).take (k - f) = (kS sep (s.data.toList.take k)).2
theorem cut_start (s : ByteArray) (sep : UInt8) : CutAt s sep 0 0 [] := ⟨Nat.le_refl _, by simp [kS], by simp [kS]⟩
theorem CutAt.at_sep {s : ByteArray} {sep : UInt8} {f k : Nat} {r : List Str} (h : CutAt s sep f k r) (hk : k < s.size) (hc : s[k] = sep) : CutAt s sep (k + 1) (k + 1) (r ++ [(s.extract f k).data.toList]) := by
  obtain ⟨h1, h2, h3⟩ := h
  refine ⟨Nat.le_refl _, ?_, ?_⟩
  · rw [ftake_snoc s k hk, kS_at _ _ _ hc, ext_mid, h3, h2]
  · rw [ftake_snoc s k hk, kS_at _ _ _ hc]
    simp
theorem CutAt.at_other {s : ByteArray} {sep : UInt8} {f k : Nat} {r : List Str} (h : CutAt s sep f k r) (hk : k < s.size) (hc : s[k] ≠ sep) : CutAt s sep f (k + 1) r := by
  obtain ⟨h1, h2, h3⟩ := h
  refine ⟨by omega, ?_, ?_⟩
  · rw [ftake_snoc s k hk, kS_off _ _ _ hc, h2]
  · rw [ftake_snoc s k hk, kS_off _ _ _ hc, mid_succ s f k h1 hk, h3]
theorem CutAt.fin {s : ByteArray} {sep : UInt8} {f : Nat} {r : List Str} (h : CutAt s sep f s.size r) : r ++ [(s.extract f s.size).data.toList] = cutL sep s.data.toList := by
  obtain ⟨h1, h2, h3⟩ := h
  have e : s.data.toList.take s.size = s.data.toList := ftake_all s
  rw [e] at h2 h3
  unfold cutL
  rw [ext_mid, h3, h2]
theorem CutAt.len {s : ByteArray} {sep : UInt8} {f k : Nat} {r : List Str} (h : CutAt s sep f k r) : r.length ≤ k := by
  rw [h.2.1]
  have h1 := kS_len sep (s.data.toList.take k)
  have h2 : (s.data.toList.take k).length ≤ k := List.length_take_le _ _
  omega

set_option maxRecDepth 100000 in
set_option maxHeartbeats 1000000 in
theorem cut_any (s : ByteArray) (sep : UInt8) (w : World) (hs : s.size ≤ 4000000) :
    Calls Tryz.prog 118 #[.string s, .int .u8 (sep.toNat : Int)] w (GivesS w (cutL sep s.data.toList)) := by
  go_enter Tryz.func118, Tryz.ntmps118
  go_wp2
  go_loopw [5, 6, 7] (fun v fr i wr => ∃ (k f : Nat) (a : Option Addr) (c : Nat) (r : List Str), k ≤ s.size ∧ f ≤ k ∧ i = .int .i64 k ∧ fr = .int .i64 f ∧ v = .slice a r.length c ∧ CutAt s sep f k r ∧ OwnS wr w.heap.size (.slice a r.length c) r ∧ Below w.heap.size w wr) (fun _ _ i _ => s.size - (intOf i).toNat)
  case atStart => exact ⟨0, 0, _, _, [], Nat.zero_le _, Nat.le_refl _, rfl, rfl, rfl, cut_start s sep, own_new w w.heap.size w.heap.size rfl (Nat.le_refl _), (Below.refl _ _).alloc (Nat.le_refl _) _⟩
  case round =>
    obtain ⟨k, f, a, c, r, hk, hf, rfl, rfl, rfl, hcut, hown, hb⟩ := hrel
    have hrl := hcut.len
    have HCUT := Lib.hid hcut
    have HOWN := Lib.hid hown
    have HB := Lib.hid hb
    clear hcut hown hb
    by_cases hlt : k < s.size
    · have hby := s[k].toNat_lt
      by_cases hc : s[k].toNat = sep.toNat
      · have hq : ((s[k].toNat : Int) == (sep.toNat : Int)) = true := by simp; omega
        have HC := Lib.hid (show s[k] = sep from UInt8.toNat_inj.1 hc)
        obtain ⟨v', w2, hrun, ho, hgr⟩ := run_app 112 w.heap.size (.slice a r.length c) r (wr.alloc (.cells #[.string (s.extract f k)] 9)) (HOWN.out.alloc _) (some ⟨wr.heap.size, 0, none⟩) 1 [(s.extract f k).data.toList]
          (in_one wr wr.heap.size (s.extract f k) _ rfl rfl) nofun (by simp; omega) (by have := HB.out.size; simp; omega)
        obtain ⟨a', c', rfl⟩ := ho.shape
        have HRUN := Lib.hid hrun
        have HO := Lib.hid ho
        have HG := Lib.hid ((HB.out.alloc HB.out.size _).grown hgr (by have := HB.out.size; simp; omega) (fun k hk => (World.ownsRow.lt HOWN.out k hk).1))
        clear hrun ho hgr hc
        go_wp2_with (at_builtin; refine Lib.wpList_append_run _ rfl _ _ _ _ rfl _ _ rfl rfl _ _ HRUN.out ?_)
        go_roundw
        case rel => exact ⟨k + 1, k + 1, a', c', _, by omega, Nat.le_refl _, by go_num, by go_num, by simp, HCUT.out.at_sep hlt HC.out, HO.out, HG.out⟩
        case measure => simp [intOf]; omega
      · have hq : ((s[k].toNat : Int) == (sep.toNat : Int)) = false := by simp; omega
        have HC := Lib.hid (show s[k] ≠ sep from fun e => hc (by rw [e]))
        clear hc
        go_wp2
        go_roundw
        case rel => exact ⟨k + 1, f, a, c, r, by omega, by omega, by go_num, rfl, rfl, HCUT.out.at_other hlt HC.out, HOWN.out, HB.out⟩
        case measure => simp [intOf]; omega
    · obtain rfl : k = s.size := by omega
      obtain ⟨v', w2, hrun, ho, hgr⟩ := run_app 112 w.heap.size (.slice a r.length c) r (wr.alloc (.cells #[.string (s.extract f s.size)] 9)) (HOWN.out.alloc _) (some ⟨wr.heap.size, 0, none⟩) 1 [(s.extract f s.size).data.toList]
        (in_one wr wr.heap.size (s.extract f s.size) _ rfl rfl) nofun (by simp; omega) (by have := HB.out.size; simp; omega)
      have HRUN := Lib.hid hrun
      have HO := Lib.hid ho
      have HG := Lib.hid ((HB.out.alloc HB.out.size _).grown hgr (by have := HB.out.size; simp; omega) (fun k hk => (World.ownsRow.lt HOWN.out k hk).1))
      clear hrun ho hgr
      go_wp2_with (at_builtin; refine Lib.wpList_append_run _ rfl _ _ _ _ rfl _ _ rfl rfl _ _ HRUN.out ?_)
      go_ret
      refine GivesS.mk ?_ HG.out
      rw [← HCUT.out.fin]
      exact HO.out

end Go.Proofs.YtpmfabpnjacegaaGreatDoor

