/-
  What spec.FoldCase and impl.FoldCase answer, for every string of at most 2^20 bytes; the walk of laws.FnExactFoldCase. By an AI agent.
-/
import Derived.Test.YtknkhljegmielaaDoorGMem
import Derived.Test.YtknkhljegmielaaDoorGPlain
import Derived.Lib.Strings
import Derived.Lib.OthersKept
namespace Go.Proofs.YtknkhljegmielaaDoor
open Go.RowKit
set_option linter.unusedVariables false

def nstr (l : List UInt8) : ByteArray := ⟨l.toArray⟩
theorem nret_str {a b : ByteArray} (h : a = b) : Ending.returned (.string a) = .returned (.string b) := by rw [h]
theorem nret_bool {a b : Bool} (h : a = b) : Ending.returned (.bool a) = .returned (.bool b) := by rw [h]
theorem nstr_list (l : List UInt8) : (nstr l).data.toList = l := by simp [nstr]
theorem nstr_size (l : List UInt8) : (nstr l).size = l.length := by simp [nstr, ByteArray.size]
theorem nstr_data (s : ByteArray) : nstr s.data.toList = s := by cases s; simp [nstr]

theorem fbyte_at? (s : ByteArray) (k : Nat) (h : k < s.size) : s.data.toList[k]? = some s[k] := by
  rw [List.getElem?_eq_getElem (by simpa using h)]
  rfl

theorem ftake_snoc (s : ByteArray) (k : Nat) (h : k < s.size) : s.data.toList.take (k + 1) = s.data.toList.take k ++ [s[k]] := by
  rw [List.take_succ_eq_append_getElem (by simpa using h)]; rfl

theorem ftake_all (s : ByteArray) : s.data.toList.take s.size = s.data.toList := List.take_of_length_le (by simp)

theorem fold_take (s : ByteArray) (k : Nat) (h : k < s.size) : foldL (s.data.toList.take (k + 1)) = foldL (s.data.toList.take k) ++ [foldB s[k]] := by
  rw [ftake_snoc s k h, foldL_snoc]

theorem byte_of_nat (c : UInt8) : UInt8.ofNat ((c.toNat : Int)).toNat = c := by
  rw [Int.toNat_natCast]
  exact UInt8.ofNat_toNat

/-- block g holds the bytes l and behind them the cells z; the run-time's mark lies behind the last one -/
def BlkF (w : World) (g : Nat) (z : List Value) (l : List UInt8) : Prop := w.heap[g]? = some (.cells (Lib.byteCells l ++ z).toArray 5 (l.length + z.length, l.length + z.length + 1))

theorem BlkF.cell {w : World} {g : Nat} {z : List Value} {l : List UInt8} (h : BlkF w g z l) {i : Nat} (hi : i < l.length) : w.cell? ⟨g, i, none⟩ = some (.int .u8 (l[i].toNat : Int)) := by
  rw [cell_of_row w g i _ 5 _ h]
  rw [List.getElem?_toArray, List.getElem?_append_left (by simpa [Lib.byteCells] using hi)]
  simp [Lib.byteCells, hi]

theorem BlkF.frozen {w : World} {g : Nat} {z : List Value} {l : List UInt8} (h : BlkF w g z l) {i : Nat} (hi : i < l.length) : w.frozen? ⟨g, i, none⟩ = false := by
  unfold BlkF at h
  simp [World.frozen?, h]
  omega

theorem BlkF.set_ {w : World} {g : Nat} {z : List Value} {l : List UInt8} (h : BlkF w g z l) {i : Nat} (hi : i < l.length) (b : UInt8) (x : Int) (hx : x = b.toNat) : BlkF (w.setCell ⟨g, i, none⟩ (.int .u8 x)) g z (l.set i b) := by
  subst hx
  unfold BlkF at h ⊢
  have e : Lib.byteCells (l.set i b) = (Lib.byteCells l).set i (.int .u8 b.toNat) := by simp [Lib.byteCells, List.map_set]
  have hi2 : i < (Lib.byteCells l).length := by simpa [Lib.byteCells] using hi
  rw [e, List.length_set, ← List.set_append_left _ _ hi2]
  simp [World.setCell, Array.getElem?_modify, h]

theorem BlkF.convert {w : World} {g cap m : Nat} {z : List Value} {l : List UInt8} (h : BlkF w g z l) (hm : l.length = m) :
    (convert 63 9 (.slice (some ⟨g, 0, none⟩) m cap)).run Tryd.prog w = .ok (.string (nstr l)) w := by
  subst hm
  refine run_convert_bytes_back (P := Tryd.prog) w 63 9 5 ⟨g, 0, none⟩ cap l Tryd.underlying63 Tryd.underlying5 Tryd.underlying9 (fun j hj => ?_)
  have e : (⟨g, 0, none⟩ : Addr).add j = ⟨g, j, none⟩ := by unfold Addr.add; split <;> simp_all
  rw [e, h.cell hj]

/-- []byte(s) -/
theorem bytes_of_string (w : World) (s : ByteArray) : ∃ (cap : Nat) (z : List Value) (w' : World),
    (convert 9 63 (.string s)).run Tryd.prog w = .ok (.slice (some ⟨w.heap.size, 0, none⟩) s.size cap) w' ∧ BlkF w' w.heap.size z s.data.toList ∧ Below w.heap.size w w' := by
  refine ⟨_, List.replicate (grownCap w s.size 0 5 - s.size) (Value.int .u8 0), _, run_bytes_of_string w 9 63 5 s Tryd.underlying9 Tryd.underlying63 Tryd.underlying5, ?_, ?_⟩
  · have e : bytesRow s (grownCap w s.size 0 5) = (Lib.byteCells s.data.toList ++ List.replicate (grownCap w s.size 0 5 - s.size) (Value.int .u8 0)).toArray := by
      apply Array.toList_inj.1
      simp [bytesRow, Lib.byteCells]
    unfold BlkF
    rw [e]
    have e2 : ∀ o : Obj, (w.drew.alloc o).heap[w.heap.size]? = some o := fun o => heap_alloc_new w.drew o
    rw [e2]
    simp [Lib.byteCells]
  · exact ((Below.refl _ _).drew).alloc (by simp) _

theorem foldK_set (s : ByteArray) (k : Nat) (h : k < s.size) :
    foldL (s.data.toList.take (k + 1)) ++ s.data.toList.drop (k + 1) = (foldL (s.data.toList.take k) ++ s.data.toList.drop k).set k (foldB s[k]) := by
  have hl : k < s.data.toList.length := by simpa using h
  have e : (foldL (s.data.toList.take k)).length = k := by rw [foldL_length, List.length_take]; omega
  rw [fold_take s k h, List.drop_eq_getElem_cons hl, List.set_append_right _ _ (by omega), e, Nat.sub_self, List.set_cons_zero, List.append_assoc]
  rfl

theorem foldK_at (s : ByteArray) (k : Nat) (h : k < s.size) (h2 : k < (foldL (s.data.toList.take k) ++ s.data.toList.drop k).length) :
    (foldL (s.data.toList.take k) ++ s.data.toList.drop k)[k] = s[k] := by
  have hl : k < s.data.toList.length := by simpa using h
  have e : (foldL (s.data.toList.take k)).length = k := by rw [foldL_length, List.length_take]; omega
  rw [List.getElem_append_right (by omega)]
  simp only [e, Nat.sub_self, List.getElem_drop, Nat.add_zero]
  rfl

theorem foldK_length (s : ByteArray) (k : Nat) (h : k ≤ s.size) : (foldL (s.data.toList.take k) ++ s.data.toList.drop k).length = s.size := by
  rw [List.length_append, foldL_length, List.length_take, List.length_drop]
  simp
  omega

end Go.Proofs.YtknkhljegmielaaDoor
