/-
  Texts laid together: NFold, NText, NStrip, NColl, NNorm. By an AI agent.
-/
import Derived.Test.YtebddnjccmaimaaGreatDoorGMem
import Derived.Test.YtebddnjccmaimaaGreatDoorGPlain
import Derived.Lib.Strings
import Derived.Lib.OthersKept
import Derived.Laws.RangeAny
/-
  What spec.FoldCase and impl.FoldCase answer, for every string of at most 2^20 bytes; the walk of laws.FnExactFoldCase. By an AI agent.
-/
namespace Go.Proofs.YtebddnjccmaimaaGreatDoor
open Go.RowKit
set_option linter.unusedVariables false

def nstr (l : List UInt8) : ByteArray := ⟨l.toArray⟩
theorem nret_str {a b : ByteArray} (h : a = b) : Ending.returned (.string a) = .returned (.string b) := by rw [h]
theorem nret_bool {a b : Bool} (h : a = b) : Ending.returned (.bool a) = .returned (.bool b) := by rw [h]
theorem nstr_list (l : List UInt8) : (nstr l).data.toList = l := by simp [nstr]
theorem nstr_size (l : List UInt8) : (nstr l).size = l.length := by simp [nstr, ByteArray.size]
theorem nstr_data (s : ByteArray) : nstr s.data.toList = s := by cases s; simp [nstr]

theorem fbyte_at? (s : ByteArray) (k : Nat) (h : k < s.size) : s.data.toList[k]? = some s[k] := by
  rw [List.getElem?_eq_getElem (by simpa using h)]
  rfl

theorem ftake_snoc (s : ByteArray) (k : Nat) (h : k < s.size) : s.data.toList.take (k + 1) = s.data.toList.take k ++ [s[k]] := by
  rw [List.take_succ_eq_append_getElem (by simpa using h)]; rfl

theorem ftake_all (s : ByteArray) : s.data.toList.take s.size = s.data.toList := List.take_of_length_le (by simp)

theorem fold_take (s : ByteArray) (k : Nat) (h : k < s.size) : foldL (s.data.toList.take (k + 1)) = foldL (s.data.toList.take k) ++ [foldB s[k]] := by
  rw [ftake_snoc s k h, foldL_snoc]

theorem byte_of_nat (c : UInt8) : UInt8.ofNat ((c.toNat : Int)).toNat = c := by
  rw [Int.toNat_natCast]
  exact UInt8.ofNat_toNat

set_option maxRecDepth 100000 in
set_option maxHeartbeats 800000 in
theorem spec_fc (s : ByteArray) (w : World) (hs : s.size ≤ 1048576) :
    Calls Tryz.prog 128 #[.string s] w fun e w' => e = .returned (.string (nstr (foldL s.data.toList))) ∧ Below w.heap.size w w' := by
  have HS := Lib.hid hs
  go_enter Tryz.func128, Tryz.ntmps128
  go_wp2
  go_loopw [3, 4] (fun v i wr => ∃ k : Nat, k ≤ s.size ∧ i = .int .i64 k ∧ OwnB wr w.heap.size v (foldL (s.data.toList.take k)) ∧ Below w.heap.size w wr) (fun _ i _ => s.size - (intOf i).toNat)
  case atStart => exact ⟨0, Nat.zero_le _, rfl, OwnB.made w _ #[] 0 (Nat.le_refl _) (Nat.zero_le _) rfl, (Below.refl _ _).alloc (Nat.le_refl _) _⟩
  case round =>
    obtain ⟨k, hk, rfl, hown, hb⟩ := hrel
    have HOWN := Lib.hid hown
    have HB := Lib.hid hb
    clear hown hb
    by_cases hlt : k < s.size
    · have hby := s[k].toNat_lt
      have HLN := Lib.hid (show (foldL (s.data.toList.take k)).length ≤ 70368744177664 by
        rw [foldL_length]
        have h2 : (s.data.toList.take k).length ≤ k := List.length_take_le _ _
        have := HS.out
        omega)
      have HTK := Lib.hid (fold_take s k hlt)
      have hbs := Lib.hid HB.out.size
      by_cases hc : 65 ≤ s[k].toNat ∧ s[k].toNat ≤ 90
      · obtain ⟨h1, h2⟩ := hc
        have HF := Lib.hid (foldB_yes h1 h2)
        go_wp2_with (at_builtin; refine append_byte rfl _ _ rfl w.heap.size _ (foldL (s.data.toList.take k)) ((s[k].toNat : Int) + 32) HOWN.out rfl rfl (by omega) (by omega) HLN.out hbs.out ?_; intro v1 w1 hown1 hb1)
        go_roundw
        case rel =>
          refine ⟨k + 1, by omega, by go_num, ?_, HB.out.trans hb1⟩
          rw [HTK.out, HF.out]
          exact hown1
        case measure => simp [intOf]; omega
      · have HF := Lib.hid (foldB_no hc)
        go_wp2_with (at_builtin; refine append_byte rfl _ _ rfl w.heap.size _ (foldL (s.data.toList.take k)) (s[k].toNat : Int) HOWN.out rfl rfl (by omega) (by omega) HLN.out hbs.out ?_; intro v1 w1 hown1 hb1)
        all_goals
          go_roundw
          case rel =>
            refine ⟨k + 1, by omega, by go_num, ?_, HB.out.trans hb1⟩
            rw [HTK.out, HF.out]
            rw [byte_of_nat] at hown1
            exact hown1
          case measure => simp [intOf]; omega
    · obtain rfl : k = s.size := by omega
      have hcv := HOWN.out.convert
      go_wp2
      go_ret
      exact ⟨nret_str (by rw [ftake_all]; rfl), HB.out⟩

/-- block g holds the bytes l and behind them the cells z; the run-time's mark lies behind the last one -/
def BlkF (w : World) (g : Nat) (z : List Value) (l : List UInt8) : Prop := w.heap[g]? = some (.cells (Lib.byteCells l ++ z).toArray 5 (l.length + z.length, l.length + z.length + 1))

theorem BlkF.cell {w : World} {g : Nat} {z : List Value} {l : List UInt8} (h : BlkF w g z l) {i : Nat} (hi : i < l.length) : w.cell? ⟨g, i, none⟩ = some (.int .u8 (l[i].toNat : Int)) := by
  rw [cell_of_row w g i _ 5 _ h]
  rw [List.getElem?_toArray, List.getElem?_append_left (by simpa [Lib.byteCells] using hi)]
  simp [Lib.byteCells, hi]

theorem BlkF.frozen {w : World} {g : Nat} {z : List Value} {l : List UInt8} (h : BlkF w g z l) {i : Nat} (hi : i < l.length) : w.frozen? ⟨g, i, none⟩ = false := by
  unfold BlkF at h
  simp [World.frozen?, h]
  omega

theorem BlkF.set_ {w : World} {g : Nat} {z : List Value} {l : List UInt8} (h : BlkF w g z l) {i : Nat} (hi : i < l.length) (b : UInt8) (x : Int) (hx : x = b.toNat) : BlkF (w.setCell ⟨g, i, none⟩ (.int .u8 x)) g z (l.set i b) := by
  subst hx
  unfold BlkF at h ⊢
  have e : Lib.byteCells (l.set i b) = (Lib.byteCells l).set i (.int .u8 b.toNat) := by simp [Lib.byteCells, List.map_set]
  have hi2 : i < (Lib.byteCells l).length := by simpa [Lib.byteCells] using hi
  rw [e, List.length_set, ← List.set_append_left _ _ hi2]
  simp [World.setCell, Array.getElem?_modify, h]

theorem BlkF.convert {w : World} {g cap m : Nat} {z : List Value} {l : List UInt8} (h : BlkF w g z l) (hm : l.length = m) :
    (convert 22 9 (.slice (some ⟨g, 0, none⟩) m cap)).run Tryz.prog w = .ok (.string (nstr l)) w := by
  subst hm
  refine run_convert_bytes_back (P := Tryz.prog) w 22 9 5 ⟨g, 0, none⟩ cap l Tryz.underlying22 Tryz.underlying5 Tryz.underlying9 (fun j hj => ?_)
  have e : (⟨g, 0, none⟩ : Addr).add j = ⟨g, j, none⟩ := by unfold Addr.add; split <;> simp_all
  rw [e, h.cell hj]

/-- []byte(s) -/
theorem bytes_of_string (w : World) (s : ByteArray) : ∃ (cap : Nat) (z : List Value) (w' : World),
    (convert 9 22 (.string s)).run Tryz.prog w = .ok (.slice (some ⟨w.heap.size, 0, none⟩) s.size cap) w' ∧ BlkF w' w.heap.size z s.data.toList ∧ Below w.heap.size w w' := by
  refine ⟨_, List.replicate (grownCap w s.size 0 5 - s.size) (Value.int .u8 0), _, run_bytes_of_string w 9 22 5 s Tryz.underlying9 Tryz.underlying22 Tryz.underlying5, ?_, ?_⟩
  · have e : bytesRow s (grownCap w s.size 0 5) = (Lib.byteCells s.data.toList ++ List.replicate (grownCap w s.size 0 5 - s.size) (Value.int .u8 0)).toArray := by
      apply Array.toList_inj.1
      simp [bytesRow, Lib.byteCells]
    unfold BlkF
    rw [e]
    have e2 : ∀ o : Obj, (w.drew.alloc o).heap[w.heap.size]? = some o := fun o => heap_alloc_new w.drew o
    rw [e2]
    simp [Lib.byteCells]
  · exact ((Below.refl _ _).drew).alloc (by simp) _

theorem foldK_set (s : ByteArray) (k : Nat) (h : k < s.size) :
    foldL (s.data.toList.take (k + 1)) ++ s.data.toList.drop (k + 1) = (foldL (s.data.toList.take k) ++ s.data.toList.drop k).set k (foldB s[k]) := by
  have hl : k < s.data.toList.length := by simpa using h
  have e : (foldL (s.data.toList.take k)).length = k := by rw [foldL_length, List.length_take]; omega
  rw [fold_take s k h, List.drop_eq_getElem_cons hl, List.set_append_right _ _ (by omega), e, Nat.sub_self, List.set_cons_zero, List.append_assoc]
  rfl

theorem foldK_at (s : ByteArray) (k : Nat) (h : k < s.size) (h2 : k < (foldL (s.data.toList.take k) ++ s.data.toList.drop k).length) :
    (foldL (s.data.toList.take k) ++ s.data.toList.drop k)[k] = s[k] := by
  have hl : k < s.data.toList.length := by simpa using h
  have e : (foldL (s.data.toList.take k)).length = k := by rw [foldL_length, List.length_take]; omega
  rw [List.getElem_append_right (by omega)]
  simp only [e, Nat.sub_self, List.getElem_drop, Nat.add_zero]
  rfl

theorem foldK_length (s : ByteArray) (k : Nat) (h : k ≤ s.size) : (foldL (s.data.toList.take k) ++ s.data.toList.drop k).length = s.size := by
  rw [List.length_append, foldL_length, List.length_take, List.length_drop]
  simp
  omega

set_option maxRecDepth 100000 in
set_option maxHeartbeats 400000 in
theorem foldByte_any (c : UInt8) (w : World) :
    Calls Tryz.prog 167 #[.int .u8 (c.toNat : Int)] w fun e w' => e = .returned (.int .u8 ((foldB c).toNat : Int)) ∧ w = w' := by
  have hby := c.toNat_lt
  by_cases hc : 65 ≤ c.toNat ∧ c.toNat ≤ 90
  · obtain ⟨h1, h2⟩ := hc
    have e : ((foldB c).toNat : Int) = (c.toNat : Int) + 32 := by rw [foldB_yes h1 h2, UInt8.toNat_ofNat']; omega
    rw [e]
    clear e
    go_enter Tryz.func167, Tryz.ntmps167
    go_wp2
    go_ret
    exact ⟨congrArg (fun x => Ending.returned (.int .u8 x)) (show (c.toNat : Int) - 65 + 97 = c.toNat + 32 by omega), rfl⟩
  · rw [foldB_no hc]
    go_enter Tryz.func167, Tryz.ntmps167
    go_wp2
    all_goals
      go_ret
      exact ⟨rfl, rfl⟩

set_option maxRecDepth 100000 in
set_option maxHeartbeats 800000 in
theorem impl_fc (s : ByteArray) (w : World) (hs : s.size ≤ 1048576) :
    Calls Tryz.prog 154 #[.string s] w fun e w' => e = .returned (.string (nstr (foldL s.data.toList))) ∧ Below w.heap.size w w' := by
  have HS := Lib.hid hs
  obtain ⟨cap, z, w2, hcv, hbk, hb2⟩ := bytes_of_string w s
  have HBK := Lib.hid hbk
  have HB2 := Lib.hid hb2
  clear hbk hb2
  go_enter Tryz.func154, Tryz.ntmps154
  go_wp2
  clear hcv
  go_loopw [10] (fun i wr => ∃ k : Nat, k ≤ s.size ∧ i = .int .i64 k ∧ BlkF wr w.heap.size z (foldL (s.data.toList.take k) ++ s.data.toList.drop k) ∧ Below w.heap.size w wr) (fun i _ => s.size - (intOf i).toNat)
  case atStart => exact ⟨0, Nat.zero_le _, rfl, HBK.out, HB2.out⟩
  case round =>
    obtain ⟨k, hk, rfl, hbk, hb⟩ := hrel
    have HK := Lib.hid hbk
    have HB := Lib.hid hb
    clear hbk hb
    by_cases hlt : k < s.size
    · have hby := s[k].toNat_lt
      have HL := Lib.hid (show k < (foldL (s.data.toList.take k) ++ s.data.toList.drop k).length by rw [foldK_length s k hk]; exact hlt)
      have hcell : wr.cell? ⟨w.heap.size, k, none⟩ = some (.int .u8 (s[k].toNat : Int)) := by
        rw [HK.out.cell HL.out, foldK_at s k hlt]
      have hfz := HK.out.frozen HL.out
      have HE := Lib.hid (foldK_set s k hlt)
      go_wp2_with (go_at_call 167; refine (foldByte_any _ _).mono ?_; rintro e w' ⟨rfl, rfl⟩)
      go_roundw
      case rel =>
        refine ⟨k + 1, by omega, by go_num, ?_, HB.out.setCell (Nat.le_refl _) _⟩
        rw [HE.out]
        exact HK.out.set_ HL.out _ _ rfl
      case measure => simp [intOf]; omega
    · obtain rfl : k = s.size := by omega
      have hcv := HK.out.convert (cap := cap) (m := s.size) (foldK_length s s.size (Nat.le_refl _))
      go_wp2
      go_ret
      exact ⟨nret_str (by rw [ftake_all, List.drop_of_length_le (by simp), List.append_nil]), HB.out⟩

end Go.Proofs.YtebddnjccmaimaaGreatDoor

/-
  What spec.IsText and impl.IsText answer, for every string of at most 2^20 bytes; the walk of laws.FnExactIsText. By an AI agent.
-/
namespace Go.Proofs.YtebddnjccmaimaaGreatDoor
open Go.RowKit
set_option linter.unusedVariables false

theorem nbyte_at? (s : ByteArray) (k : Nat) (h : k < s.size) : s.data.toList[k]? = some s[k] := by
  rw [List.getElem?_eq_getElem (by simpa using h)]
  rfl

theorem ntake_snoc (s : ByteArray) (k : Nat) (h : k < s.size) : s.data.toList.take (k + 1) = s.data.toList.take k ++ [s[k]] := by
  rw [List.take_succ_eq_append_getElem (by simpa using h)]; rfl

theorem ntake_all (s : ByteArray) : s.data.toList.take s.size = s.data.toList := List.take_of_length_le (by simp)

theorem niterPos_at {w : World} {k p : Nat} {s : ByteArray} (h : w.heap[k]? = some (.stringIter s p)) : w.iterPos k = p := by
  simp [World.iterPos, h]

/-- the first k bytes are printable -/
def TextTo (s : ByteArray) (k : Nat) : Prop := ∀ c ∈ s.data.toList.take k, 32 ≤ c.toNat ∧ c.toNat ≤ 126

theorem TextTo.zero (s : ByteArray) : TextTo s 0 := by intro c hc; simp at hc
theorem TextTo.succ {s : ByteArray} {k : Nat} (h : TextTo s k) (hk : k < s.size) (h1 : 32 ≤ s[k].toNat) (h2 : s[k].toNat ≤ 126) : TextTo s (k + 1) := by
  intro c hc
  rw [ntake_snoc s k hk] at hc
  rcases List.mem_append.1 hc with hc | hc
  · exact h c hc
  · simp at hc; subst hc; exact ⟨h1, h2⟩
theorem TextTo.all {s : ByteArray} (h : TextTo s s.size) (h1 : s.size ≤ 40) : isTextB s.data.toList = true := by
  unfold TextTo at h
  rw [ntake_all] at h
  exact text_ok (by simpa using h1) h
theorem text_bad_at {s : ByteArray} {k : Nat} (hk : k < s.size) (h : s[k].toNat < 32 ∨ 126 < s[k].toNat) : isTextB s.data.toList = false :=
  text_bad (List.mem_of_getElem? (nbyte_at? s k hk)) h
theorem text_long_at {s : ByteArray} (h : 40 < s.size) : isTextB s.data.toList = false := text_long (by simpa using h)

set_option maxRecDepth 100000 in
set_option maxHeartbeats 400000 in
theorem spec_it (s : ByteArray) (w : World) (hs : s.size ≤ 1048576) (b : Bool) (hb : isTextB s.data.toList = b) :
    Calls Tryz.prog 126 #[.string s] w fun e w' => e = .returned (.bool b) ∧ w = w' := by
  have HR := Lib.hid hb
  clear hb
  by_cases h40 : s.size ≤ 40
  all_goals
    go_enter Tryz.func126, Tryz.ntmps126
    go_wp2
    go_loop [3] (fun i => ∃ k : Nat, k ≤ s.size ∧ i = .int .i64 k ∧ TextTo s k) (fun i => s.size - (intOf i).toNat)
    case atStart => exact ⟨0, Nat.zero_le _, rfl, TextTo.zero s⟩
    case round =>
      obtain ⟨k, hk, rfl, ht⟩ := hrel
      have HT := Lib.hid ht
      clear ht
      by_cases hlt : k < s.size
      · have hby := s[k].toNat_lt
        by_cases h1 : s[k].toNat < 32
        · have HB := Lib.hid (text_bad_at hlt (.inl h1))
          obtain rfl : false = b := HB.out.symm.trans HR.out
          go_wp2
          go_ret
          exact ⟨rfl, rfl⟩
        · by_cases h2 : 126 < s[k].toNat
          · have HB := Lib.hid (text_bad_at hlt (.inr h2))
            obtain rfl : false = b := HB.out.symm.trans HR.out
            go_wp2
            go_ret
            exact ⟨rfl, rfl⟩
          · go_wp2
            go_round
            case rel => exact ⟨k + 1, by omega, by go_num, HT.out.succ hlt (by omega) (by omega)⟩
            case measure => simp [intOf]; omega
      · obtain rfl : k = s.size := by omega
        first
          | (obtain rfl : true = b := (HT.out.all (by assumption)).symm.trans HR.out
             go_wp2
             go_ret
             exact ⟨nret_bool (by first | exact decide_eq_true (by omega) | exact decide_eq_false (by omega)), rfl⟩)
          | (obtain rfl : false = b := (text_long_at (by omega)).symm.trans HR.out
             go_wp2
             go_ret
             exact ⟨nret_bool (by first | exact decide_eq_true (by omega) | exact decide_eq_false (by omega)), rfl⟩)

set_option maxRecDepth 100000 in
set_option maxHeartbeats 400000 in
theorem impl_it (s : ByteArray) (w : World) (hs : s.size ≤ 1048576) (b : Bool) (hb : isTextB s.data.toList = b) :
    Calls Tryz.prog 119 #[.string s] w fun e w' => e = .returned (.bool b) ∧ Below w.heap.size w w' := by
  have HR := Lib.hid hb
  clear hb
  by_cases h40 : 40 < s.size
  · obtain rfl : false = b := (text_long_at h40).symm.trans HR.out
    go_enter Tryz.func119, Tryz.ntmps119
    go_wp2
    go_ret
    exact ⟨rfl, Below.refl _ _⟩
  · go_enter Tryz.func119, Tryz.ntmps119
    go_wp2
    go_loopw [] (fun wr => ∃ i : Nat, i ≤ s.size ∧ TextTo s i ∧ wr.heap[w.heap.size]? = some (.stringIter s i) ∧ Below w.heap.size w wr) (fun wr => s.size - wr.iterPos w.heap.size)
    case atStart => exact ⟨0, Nat.zero_le _, TextTo.zero s, World.iter_heap w s 0, (Below.refl _ _).alloc (Nat.le_refl _) _⟩
    case round =>
      obtain ⟨i, hi, ht, hit, hb⟩ := hrel
      have HT := Lib.hid ht
      have HIT := Lib.hid hit
      have HB := Lib.hid hb
      clear ht hit hb
      by_cases hlt : i < s.size
      · by_cases hbad : s[i].toNat < 32 ∨ 126 < s[i].toNat
        · have HBAD := Lib.hid (text_bad_at hlt hbad)
          have hnx := fun ty => Lib.run_next_any_at (P := Tryz.prog) wr w.heap.size s i ty HIT.out hlt
          have hr : ((Utf8.decode s i).1 : Int) < 32 ∨ 32 ≤ ((Utf8.decode s i).1 : Int) ∧ 126 < ((Utf8.decode s i).1 : Int) := by
            by_cases ha : s[i].toNat < 128
            · rw [decode_ascii s i hlt ha]
              simp only
              omega
            · have h1 := (decode_high s i hlt (by omega)).1
              omega
          clear hbad
          obtain rfl : false = b := HBAD.out.symm.trans HR.out
          rcases hr with hr | ⟨hr, hr'⟩
          all_goals
            go_wp2
            go_ret
            exact ⟨rfl, Lib.below_iterAt HB.out (Nat.le_refl _) _ _⟩
        · have h1 : 32 ≤ s[i].toNat := by omega
          have h2 : s[i].toNat ≤ 126 := by omega
          have hnx := fun ty => Lib.run_next_ascii_at (P := Tryz.prog) wr w.heap.size s i ty HIT.out hlt (by omega)
          have hit2 := Lib.iterAt_heap wr w.heap.size s i (i + 1) HIT.out
          have HIT2 := Lib.hid hit2
          clear hit2 hbad
          go_wp2
          go_roundw
          case rel => exact ⟨i + 1, by omega, HT.out.succ hlt h1 h2, HIT2.out, Lib.below_iterAt HB.out (Nat.le_refl _) _ _⟩
          case measure =>
            rw [niterPos_at HIT2.out, niterPos_at HIT.out]
            omega
      · have hnx := fun ty => Lib.run_next_end_at (P := Tryz.prog) wr w.heap.size s i ty HIT.out hlt
        obtain rfl : i = s.size := by omega
        obtain rfl : true = b := (HT.out.all (by omega)).symm.trans HR.out
        go_wp2
        go_ret
        exact ⟨rfl, HB.out⟩

end Go.Proofs.YtebddnjccmaimaaGreatDoor

/-
  What spec.StripMarks and impl.StripMarks answer, for every string of at most 2^20 bytes; the walk of laws.FnExactStripMarks. By an AI agent.
-/
namespace Go.Proofs.YtebddnjccmaimaaGreatDoor
open Go.RowKit
set_option linter.unusedVariables false

/-- the five ways in which a byte is no letter and no digit, and the three in which it is one -/
theorem word_ways (x : Int) : (x < 48 ∧ isWordI x = false) ∨ (48 ≤ x ∧ x ≤ 57 ∧ isWordI x = true) ∨ (57 < x ∧ x < 65 ∧ isWordI x = false) ∨ (65 ≤ x ∧ x ≤ 90 ∧ isWordI x = true) ∨
    (90 < x ∧ x < 97 ∧ isWordI x = false) ∨ (97 ≤ x ∧ x ≤ 122 ∧ isWordI x = true) ∨ (122 < x ∧ isWordI x = false) := by
  by_cases h1 : x < 48
  · exact .inl ⟨h1, wordI_no (by omega)⟩
  · by_cases h2 : x ≤ 57
    · exact .inr (.inl ⟨by omega, h2, wordI_yes (by omega)⟩)
    · by_cases h3 : x < 65
      · exact .inr (.inr (.inl ⟨by omega, h3, wordI_no (by omega)⟩))
      · by_cases h4 : x ≤ 90
        · exact .inr (.inr (.inr (.inl ⟨by omega, h4, wordI_yes (by omega)⟩)))
        · by_cases h5 : x < 97
          · exact .inr (.inr (.inr (.inr (.inl ⟨by omega, h5, wordI_no (by omega)⟩))))
          · by_cases h6 : x ≤ 122
            · exact .inr (.inr (.inr (.inr (.inr (.inl ⟨by omega, h6, wordI_yes (by omega)⟩)))))
            · exact .inr (.inr (.inr (.inr (.inr (.inr ⟨by omega, wordI_no (by omega)⟩)))))

set_option maxRecDepth 100000 in
theorem l2Word_is (x : Int) (b : Bool) (w : World) (hb : isWordI x = b) :
    Calls Tryz.prog 156 #[.int .u8 x] w fun e w' => e = .returned (.bool b) ∧ w = w' := by
  rcases word_ways x with ⟨h1, h⟩ | ⟨h1, h2, h⟩ | ⟨h1, h2, h⟩ | ⟨h1, h2, h⟩ | ⟨h1, h2, h⟩ | ⟨h1, h2, h⟩ | ⟨h1, h⟩
  all_goals
    obtain rfl := h.symm.trans hb
    clear h hb
    go_enter Tryz.func156, Tryz.ntmps156
    go_wp2
    go_ret
    exact ⟨nret_bool (by first | rfl | (simp; omega)), rfl⟩

set_option maxRecDepth 100000 in
theorem isWordByte_is (x : Int) (b : Bool) (w : World) (hb : isWordI x = b) :
    Calls Tryz.prog 171 #[.int .u8 x] w fun e w' => e = .returned (.bool b) ∧ w = w' := by
  rcases word_ways x with ⟨h1, h⟩ | ⟨h1, h2, h⟩ | ⟨h1, h2, h⟩ | ⟨h1, h2, h⟩ | ⟨h1, h2, h⟩ | ⟨h1, h2, h⟩ | ⟨h1, h⟩
  all_goals
    obtain rfl := h.symm.trans hb
    clear h hb
    go_enter Tryz.func171, Tryz.ntmps171
    go_wp2
    go_ret
    exact ⟨nret_bool (by first | rfl | (simp; omega)), rfl⟩

theorem strip_take (s : ByteArray) (k : Nat) (h : k < s.size) : stripL (s.data.toList.take (k + 1)) = stripL (s.data.toList.take k) ++ stripB s[k] := by
  rw [ftake_snoc s k h, stripL_snoc]

theorem strip_len (s : ByteArray) (k : Nat) (hk : k ≤ s.size) (hs : s.size ≤ 1048576) : (stripL (s.data.toList.take k)).length ≤ 70368744177664 := by
  have h1 := stripL_length (s.data.toList.take k)
  have h2 : (s.data.toList.take k).length ≤ k := List.length_take_le _ _
  omega

/-- what becomes of the byte at k -/
inductive Way (c : UInt8) : Prop
  | word (h : isWordI c.toNat = true) (h1 : c.toNat ≠ 39) (e : stripB c = [c])
  | space (h : isWordI c.toNat = false) (h1 : c.toNat = 32) (e : stripB c = [c])
  | mark (h : isWordI c.toNat = false) (h1 : c.toNat = 39) (e : stripB c = [])
  | other (h : isWordI c.toNat = false) (h1 : c.toNat ≠ 39) (h2 : c.toNat ≠ 32) (e : stripB c = [32])

theorem way_of (c : UInt8) : Way c := by
  cases h : isWordI c.toNat
  · by_cases h1 : c.toNat = 39
    · exact .mark h h1 (stripB_mark h1)
    · by_cases h2 : c.toNat = 32
      · refine .space h h2 ?_
        rw [stripB_other h h1]
        rw [show c = 32 from UInt8.toNat_inj.1 h2]
      · exact .other h h1 h2 (stripB_other h h1)
  · exact .word h (fun e => by rw [e] at h; exact absurd h (by decide)) (stripB_word h)

set_option maxRecDepth 100000 in
set_option maxHeartbeats 1600000 in
theorem spec_sm (s : ByteArray) (w : World) (hs : s.size ≤ 1048576) :
    Calls Tryz.prog 130 #[.string s] w fun e w' => e = .returned (.string (nstr (stripL s.data.toList))) ∧ Below w.heap.size w w' := by
  have HS := Lib.hid hs
  go_enter Tryz.func130, Tryz.ntmps130
  go_wp2
  go_loopw [3, 4] (fun v i wr => ∃ k : Nat, k ≤ s.size ∧ i = .int .i64 k ∧ OwnB wr w.heap.size v (stripL (s.data.toList.take k)) ∧ Below w.heap.size w wr) (fun _ i _ => s.size - (intOf i).toNat)
  case atStart => exact ⟨0, Nat.zero_le _, rfl, OwnB.made w _ #[] 0 (Nat.le_refl _) (Nat.zero_le _) rfl, (Below.refl _ _).alloc (Nat.le_refl _) _⟩
  case round =>
    obtain ⟨k, hk, rfl, hown, hb⟩ := hrel
    have HOWN := Lib.hid hown
    have HB := Lib.hid hb
    clear hown hb
    by_cases hlt : k < s.size
    · have hby := s[k].toNat_lt
      have HLN := Lib.hid (strip_len s k hk hs)
      have HTK := Lib.hid (strip_take s k hlt)
      have hbs := Lib.hid HB.out.size
      rcases way_of s[k] with ⟨h, h1, e⟩ | ⟨h, h1, e⟩ | ⟨h, h1, e⟩ | ⟨h, h1, h2, e⟩
      · have HW := Lib.hid h
        have HE := Lib.hid e
        clear h h1 e
        go_wp2_with (first
          | (go_at_call 156; refine (l2Word_is _ true _ HW.out).mono ?_; rintro e w' ⟨rfl, rfl⟩)
          | (at_builtin; refine append_byte rfl _ _ rfl w.heap.size _ (stripL (s.data.toList.take k)) (s[k].toNat : Int) HOWN.out rfl rfl (by omega) (by omega) HLN.out hbs.out ?_; intro v1 w1 hown1 hb1))
        go_roundw
        case rel =>
          refine ⟨k + 1, by omega, by go_num, ?_, HB.out.trans hb1⟩
          rw [HTK.out, HE.out]
          rw [byte_of_nat] at hown1
          exact hown1
        case measure => simp [intOf]; omega
      · have HW := Lib.hid h
        have HE := Lib.hid e
        have hq : ((s[k].toNat : Int) == 32) = true := by simp; omega
        clear h h1 e
        go_wp2_with (first
          | (go_at_call 156; refine (l2Word_is _ false _ HW.out).mono ?_; rintro e w' ⟨rfl, rfl⟩)
          | (at_builtin; refine append_byte rfl _ _ rfl w.heap.size _ (stripL (s.data.toList.take k)) (s[k].toNat : Int) HOWN.out rfl rfl (by omega) (by omega) HLN.out hbs.out ?_; intro v1 w1 hown1 hb1))
        go_roundw
        case rel =>
          refine ⟨k + 1, by omega, by go_num, ?_, HB.out.trans hb1⟩
          rw [HTK.out, HE.out]
          rw [byte_of_nat] at hown1
          exact hown1
        case measure => simp [intOf]; omega
      · have HW := Lib.hid h
        have HE := Lib.hid e
        have hq : ((s[k].toNat : Int) == 32) = false := by simp; omega
        have hq2 : ((s[k].toNat : Int) != 39) = false := by simp; omega
        clear h h1 e
        go_wp2_with (go_at_call 156; refine (l2Word_is _ false _ HW.out).mono ?_; rintro e w' ⟨rfl, rfl⟩)
        go_roundw
        case rel =>
          refine ⟨k + 1, by omega, by go_num, ?_, HB.out⟩
          rw [HTK.out, HE.out, List.append_nil]
          exact HOWN.out
        case measure => simp [intOf]; omega
      · have HW := Lib.hid h
        have HE := Lib.hid e
        have hq : ((s[k].toNat : Int) == 32) = false := by simp; omega
        have hq2 : ((s[k].toNat : Int) != 39) = true := by simp; omega
        clear h h1 h2 e
        go_wp2_with (first
          | (go_at_call 156; refine (l2Word_is _ false _ HW.out).mono ?_; rintro e w' ⟨rfl, rfl⟩)
          | (at_builtin; refine append_byte rfl _ _ rfl w.heap.size _ (stripL (s.data.toList.take k)) 32 HOWN.out rfl rfl (by omega) (by omega) HLN.out hbs.out ?_; intro v1 w1 hown1 hb1))
        go_roundw
        case rel =>
          refine ⟨k + 1, by omega, by go_num, ?_, HB.out.trans hb1⟩
          rw [HTK.out, HE.out]
          exact hown1
        case measure => simp [intOf]; omega
    · obtain rfl : k = s.size := by omega
      have hcv := HOWN.out.convert
      go_wp2
      go_ret
      exact ⟨nret_str (by rw [ftake_all]; rfl), HB.out⟩

set_option maxRecDepth 100000 in
set_option maxHeartbeats 1600000 in
theorem impl_sm (s : ByteArray) (w : World) (hs : s.size ≤ 1048576) :
    Calls Tryz.prog 153 #[.string s] w fun e w' => e = .returned (.string (nstr (stripL s.data.toList))) ∧ Below w.heap.size w w' := by
  have HS := Lib.hid hs
  have hmk : (Instr.makeSlice 22 (.int .i64 0) (.int .i64 (s.size : Int))).run Tryz.prog w = .ok (.slice (some ⟨w.heap.size, 0, none⟩) 0 s.size) (w.alloc (.cells (madeCells #[.int .u8 0] s.size) 5)) := make_bytes w 0 s.size (Nat.zero_le _) (by omega)
  go_enter Tryz.func153, Tryz.ntmps153
  go_wp2
  clear hmk
  go_loopw [3, 11] (fun v i wr => ∃ k : Nat, k ≤ s.size ∧ i = .int .i64 k ∧ OwnB wr w.heap.size v (stripL (s.data.toList.take k)) ∧ Below w.heap.size w wr) (fun _ i _ => s.size - (intOf i).toNat)
  case atStart => exact ⟨0, Nat.zero_le _, rfl, OwnB.made0 w _ s.size (Nat.le_refl _) (by unfold maxLen; omega), (Below.refl _ _).alloc (Nat.le_refl _) _⟩
  case round =>
    obtain ⟨k, hk, rfl, hown, hb⟩ := hrel
    have HOWN := Lib.hid hown
    have HB := Lib.hid hb
    clear hown hb
    by_cases hlt : k < s.size
    · have hby := s[k].toNat_lt
      have HLN := Lib.hid (strip_len s k hk hs)
      have HTK := Lib.hid (strip_take s k hlt)
      have hbs := Lib.hid HB.out.size
      rcases way_of s[k] with ⟨h, h1, e⟩ | ⟨h, h1, e⟩ | ⟨h, h1, e⟩ | ⟨h, h1, h2, e⟩
      · have HW := Lib.hid h
        have HE := Lib.hid e
        have hq : ((s[k].toNat : Int) == 39) = false := by simp; omega
        clear h h1 e
        go_wp2_with (first
          | (go_at_call 171; refine (isWordByte_is _ true _ HW.out).mono ?_; rintro e w' ⟨rfl, rfl⟩)
          | (at_builtin; refine append_byte rfl _ _ rfl w.heap.size _ (stripL (s.data.toList.take k)) (s[k].toNat : Int) HOWN.out rfl rfl (by omega) (by omega) HLN.out hbs.out ?_; intro v1 w1 hown1 hb1))
        go_roundw
        case rel =>
          refine ⟨k + 1, by omega, by go_num, ?_, HB.out.trans hb1⟩
          rw [HTK.out, HE.out]
          rw [byte_of_nat] at hown1
          exact hown1
        case measure => simp [intOf]; omega
      · have HW := Lib.hid h
        have HE := Lib.hid (show stripB s[k] = [32] from stripB_other h (by omega))
        have hq : ((s[k].toNat : Int) == 39) = false := by simp; omega
        clear h h1 e
        go_wp2_with (first
          | (go_at_call 171; refine (isWordByte_is _ false _ HW.out).mono ?_; rintro e w' ⟨rfl, rfl⟩)
          | (at_builtin; refine append_byte rfl _ _ rfl w.heap.size _ (stripL (s.data.toList.take k)) 32 HOWN.out rfl rfl (by omega) (by omega) HLN.out hbs.out ?_; intro v1 w1 hown1 hb1))
        go_roundw
        case rel =>
          refine ⟨k + 1, by omega, by go_num, ?_, HB.out.trans hb1⟩
          rw [HTK.out, HE.out]
          exact hown1
        case measure => simp [intOf]; omega
      · have HW := Lib.hid h
        have HE := Lib.hid e
        have hq : ((s[k].toNat : Int) == 39) = true := by simp; omega
        clear h h1 e
        go_wp2
        go_roundw
        case rel =>
          refine ⟨k + 1, by omega, by go_num, ?_, HB.out⟩
          rw [HTK.out, HE.out, List.append_nil]
          exact HOWN.out
        case measure => simp [intOf]; omega
      · have HW := Lib.hid h
        have HE := Lib.hid e
        have hq : ((s[k].toNat : Int) == 39) = false := by simp; omega
        clear h h1 h2 e
        go_wp2_with (first
          | (go_at_call 171; refine (isWordByte_is _ false _ HW.out).mono ?_; rintro e w' ⟨rfl, rfl⟩)
          | (at_builtin; refine append_byte rfl _ _ rfl w.heap.size _ (stripL (s.data.toList.take k)) 32 HOWN.out rfl rfl (by omega) (by omega) HLN.out hbs.out ?_; intro v1 w1 hown1 hb1))
        go_roundw
        case rel =>
          refine ⟨k + 1, by omega, by go_num, ?_, HB.out.trans hb1⟩
          rw [HTK.out, HE.out]
          exact hown1
        case measure => simp [intOf]; omega
    · obtain rfl : k = s.size := by omega
      have hcv := HOWN.out.convert
      go_wp2
      go_ret
      exact ⟨nret_str (by rw [ftake_all]; rfl), HB.out⟩

end Go.Proofs.YtebddnjccmaimaaGreatDoor

/-
  What spec.CollapseSpaces and impl.CollapseSpaces answer, for every string of at most 2^20 bytes; the walk of laws.FnExactCollapseSpaces. By an AI agent.
-/
namespace Go.Proofs.YtebddnjccmaimaaGreatDoor
open Go.RowKit
set_option linter.unusedVariables false

theorem OwnB.form {w : World} {base : Nat} {v : Value} {l : List UInt8} (h : OwnB w base v l) : ∃ A c, v = .slice A l.length c := by
  rcases h.2 with ⟨rfl, h0⟩ | ⟨g, cap, cur, rfl, -, -, -, -, -, -⟩
  · exact ⟨none, 0, by rw [h0]⟩
  · exact ⟨_, cap, rfl⟩

theorem coll_sp (s : ByteArray) (k : Nat) (h : k < s.size) (hc : s[k].toNat = 32) : collL (s.data.toList.take (k + 1)) = collL (s.data.toList.take k) := by
  rw [ftake_snoc s k h, show s[k] = 32 from UInt8.toNat_inj.1 hc, collL_space]

theorem ne32 {c : UInt8} (h : c.toNat ≠ 32) : c ≠ 32 := fun e => h (by rw [e]; rfl)

theorem coll_first (s : ByteArray) (k : Nat) (h : k < s.size) (hc : s[k].toNat ≠ 32) (h0 : collL (s.data.toList.take k) = []) : collL (s.data.toList.take (k + 1)) = [] ++ [s[k]] := by
  rw [ftake_snoc s k h]
  exact collL_first (ne32 hc) h0

theorem last_take (s : ByteArray) (j : Nat) (h : j < s.size) : (s.data.toList.take (j + 1)).getLast? = some s[j] := by
  rw [ftake_snoc s j h, List.getLast?_append]
  rfl

theorem coll_join (s : ByteArray) (j : Nat) (h : j + 1 < s.size) (hc : s[j + 1].toNat ≠ 32) (h0 : collL (s.data.toList.take (j + 1)) ≠ []) (hl : s[j].toNat = 32) :
    collL (s.data.toList.take (j + 1 + 1)) = (collL (s.data.toList.take (j + 1)) ++ [32]) ++ [s[j + 1]] := by
  rw [ftake_snoc s (j + 1) h]
  refine collL_join (ne32 hc) h0 ?_
  rw [last_take s j (by omega), show s[j] = 32 from UInt8.toNat_inj.1 hl]

theorem coll_next (s : ByteArray) (j : Nat) (h : j + 1 < s.size) (hc : s[j + 1].toNat ≠ 32) (hl : s[j].toNat ≠ 32) :
    collL (s.data.toList.take (j + 1 + 1)) = collL (s.data.toList.take (j + 1)) ++ [s[j + 1]] := by
  rw [ftake_snoc s (j + 1) h]
  refine collL_next (ne32 hc) ?_
  rw [last_take s j (by omega)]
  intro e
  injection e with e
  exact ne32 hl e

theorem coll_len (s : ByteArray) (k : Nat) (hk : k ≤ s.size) (hs : s.size ≤ 1048576) : (collL (s.data.toList.take k)).length ≤ 70368744177600 := by
  have h1 := collL_length (s.data.toList.take k)
  have h2 : (s.data.toList.take k).length ≤ k := List.length_take_le _ _
  omega

theorem coll_nil (s : ByteArray) : collL (s.data.toList.take 0) = [] := by simp [collL, collS]

set_option maxRecDepth 100000 in
set_option maxHeartbeats 1600000 in
theorem spec_cs (s : ByteArray) (w : World) (hs : s.size ≤ 1048576) :
    Calls Tryz.prog 129 #[.string s] w fun e w' => e = .returned (.string (nstr (collL s.data.toList))) ∧ Below w.heap.size w w' := by
  have HS := Lib.hid hs
  go_enter Tryz.func129, Tryz.ntmps129
  go_wp2
  go_loopw [3, 4] (fun v i wr => ∃ k : Nat, k ≤ s.size ∧ i = .int .i64 k ∧ OwnB wr w.heap.size v (collL (s.data.toList.take k)) ∧ Below w.heap.size w wr) (fun _ i _ => s.size - (intOf i).toNat)
  case atStart => exact ⟨0, Nat.zero_le _, rfl, by rw [coll_nil]; exact OwnB.made w _ #[] 0 (Nat.le_refl _) (Nat.zero_le _) rfl, (Below.refl _ _).alloc (Nat.le_refl _) _⟩
  case round =>
    obtain ⟨k, hk, rfl, hown, hb⟩ := hrel
    have HB := Lib.hid hb
    clear hb
    by_cases hlt : k < s.size
    · have hby := s[k].toNat_lt
      have hbs := Lib.hid HB.out.size
      by_cases hc : s[k].toNat = 32
      · have HOWN := Lib.hid hown
        have HE := Lib.hid (coll_sp s k hlt hc)
        have hq : ((s[k].toNat : Int) != 32) = false := by simp; omega
        clear hown hc
        go_wp2
        go_roundw
        case rel => exact ⟨k + 1, by omega, by go_num, by rw [HE.out]; exact HOWN.out, HB.out⟩
        case measure => simp [intOf]; omega
      · have hq : ((s[k].toNat : Int) != 32) = true := by simp; omega
        have HLN := Lib.hid (coll_len s k hk hs)
        obtain ⟨A, cp, hv⟩ := hown.form
        obtain ⟨n, hn⟩ : ∃ n, n = (collL (s.data.toList.take k)).length := ⟨_, rfl⟩
        rw [← hn] at hv
        subst hv
        have HOWN := Lib.hid hown
        have HN := Lib.hid hn
        have HC := Lib.hid hc
        clear hown hn hc
        have hnl : n ≤ 70368744177600 := by rw [HN.out]; exact HLN.out
        by_cases h0 : n = 0
        · have HE := Lib.hid (coll_first s k hlt HC.out (List.eq_nil_of_length_eq_zero (by rw [← HN.out]; exact h0)))
          have HNIL := Lib.hid (show collL (s.data.toList.take k) = [] from List.eq_nil_of_length_eq_zero (by rw [← HN.out]; exact h0))
          subst h0
          go_wp2_with (at_builtin; refine append_byte rfl _ _ rfl w.heap.size _ (collL (s.data.toList.take k)) (s[k].toNat : Int) HOWN.out rfl rfl (by omega) (by omega) (Nat.le_trans HLN.out (by omega)) hbs.out ?_; intro v1 w1 hown1 hb1)
          go_roundw
          case rel =>
            refine ⟨k + 1, by omega, by go_num, ?_, HB.out.trans hb1⟩
            rw [HE.out]
            rw [byte_of_nat, HNIL.out] at hown1
            exact hown1
          case measure => simp [intOf]; omega
        · have h0' : 0 < n := by omega
          have HNE := Lib.hid (show collL (s.data.toList.take k) ≠ [] from fun e => h0 (by rw [HN.out, e]; rfl))
          have hk0 : 0 < k := by
            rcases Nat.eq_zero_or_pos k with rfl | h
            · exact absurd (coll_nil s) HNE.out
            · exact h
          obtain ⟨j, rfl⟩ : ∃ j, k = j + 1 := ⟨k - 1, by omega⟩
          clear h0 hk0
          have hby2 := s[j].toNat_lt
          by_cases hl : s[j].toNat = 32
          · have hq2 : ((s[j].toNat : Int) == 32) = true := by simp; omega
            have HE := Lib.hid (coll_join s j hlt HC.out HNE.out hl)
            clear hl
            go_wp2_with (at_builtin; refine append_byte rfl _ _ rfl w.heap.size _ (collL (s.data.toList.take (j + 1))) 32 HOWN.out rfl rfl (by omega) (by omega) (Nat.le_trans HLN.out (by omega)) hbs.out ?_; intro v1 w1 hown1 hb1; refine Hid.out ?_)
            refine Lib.hid ?_
            have HOWN1 := Lib.hid hown1
            have HB1 := Lib.hid hb1
            have HLN1 := Lib.hid (show (collL (s.data.toList.take (j + 1)) ++ [UInt8.ofNat (32 : Int).toNat]).length ≤ 70368744177664 by rw [List.length_append]; have := HLN.out; simp at this ⊢; omega)
            have HBS1 := Lib.hid (Nat.le_trans hbs.out hb1.size)
            clear hown1 hb1
            go_wp2_with (at_builtin; refine append_byte rfl _ _ rfl w.heap.size _ _ (s[j + 1].toNat : Int) HOWN1.out rfl rfl (by omega) (by omega) HLN1.out HBS1.out ?_; intro v2 w2 hown2 hb2)
            go_roundw
            case rel =>
              refine ⟨j + 1 + 1, by omega, by go_num, ?_, (HB.out.trans HB1.out).trans hb2⟩
              rw [HE.out]
              rw [byte_of_nat] at hown2
              exact hown2
            case measure => simp [intOf]; omega
          · have hq2 : ((s[j].toNat : Int) == 32) = false := by simp; omega
            have HE := Lib.hid (coll_next s j hlt HC.out hl)
            clear hl
            go_wp2_with (at_builtin; refine append_byte rfl _ _ rfl w.heap.size _ (collL (s.data.toList.take (j + 1))) (s[j + 1].toNat : Int) HOWN.out rfl rfl (by omega) (by omega) (Nat.le_trans HLN.out (by omega)) hbs.out ?_; intro v1 w1 hown1 hb1)
            go_roundw
            case rel =>
              refine ⟨j + 1 + 1, by omega, by go_num, ?_, HB.out.trans hb1⟩
              rw [HE.out]
              rw [byte_of_nat] at hown1
              exact hown1
            case measure => simp [intOf]; omega
    · obtain rfl : k = s.size := by omega
      have hcv := hown.convert
      clear hown
      go_wp2
      go_ret
      exact ⟨nret_str (by rw [ftake_all]; rfl), HB.out⟩

set_option maxRecDepth 100000 in
set_option maxHeartbeats 1600000 in
theorem impl_cs (s : ByteArray) (w : World) (hs : s.size ≤ 1048576) :
    Calls Tryz.prog 152 #[.string s] w fun e w' => e = .returned (.string (nstr (collL s.data.toList))) ∧ Below w.heap.size w w' := by
  have HS := Lib.hid hs
  have hmk : (Instr.makeSlice 22 (.int .i64 0) (.int .i64 (s.size : Int))).run Tryz.prog w = .ok (.slice (some ⟨w.heap.size, 0, none⟩) 0 s.size) (w.alloc (.cells (madeCells #[.int .u8 0] s.size) 5)) := make_bytes w 0 s.size (Nat.zero_le _) (by omega)
  go_enter Tryz.func152, Tryz.ntmps152
  go_wp2
  clear hmk
  go_loopw [3, 10] (fun v i wr => ∃ k : Nat, k ≤ s.size ∧ i = .int .i64 k ∧ OwnB wr w.heap.size v (collL (s.data.toList.take k)) ∧ Below w.heap.size w wr) (fun _ i _ => s.size - (intOf i).toNat)
  case atStart => exact ⟨0, Nat.zero_le _, rfl, by rw [coll_nil]; exact OwnB.made0 w _ s.size (Nat.le_refl _) (by unfold maxLen; omega), (Below.refl _ _).alloc (Nat.le_refl _) _⟩
  case round =>
    obtain ⟨k, hk, rfl, hown, hb⟩ := hrel
    have HB := Lib.hid hb
    clear hb
    by_cases hlt : k < s.size
    · have hby := s[k].toNat_lt
      have hbs := Lib.hid HB.out.size
      by_cases hc : s[k].toNat = 32
      · have HOWN := Lib.hid hown
        have HE := Lib.hid (coll_sp s k hlt hc)
        have hq : ((s[k].toNat : Int) == 32) = true := by simp; omega
        clear hown hc
        go_wp2
        go_roundw
        case rel => exact ⟨k + 1, by omega, by go_num, by rw [HE.out]; exact HOWN.out, HB.out⟩
        case measure => simp [intOf]; omega
      · have hq : ((s[k].toNat : Int) == 32) = false := by simp; omega
        have HLN := Lib.hid (coll_len s k hk hs)
        obtain ⟨A, cp, hv⟩ := hown.form
        obtain ⟨n, hn⟩ : ∃ n, n = (collL (s.data.toList.take k)).length := ⟨_, rfl⟩
        rw [← hn] at hv
        subst hv
        have HOWN := Lib.hid hown
        have HN := Lib.hid hn
        have HC := Lib.hid hc
        clear hown hn hc
        have hnl : n ≤ 70368744177600 := by rw [HN.out]; exact HLN.out
        by_cases h0 : n = 0
        · have HE := Lib.hid (coll_first s k hlt HC.out (List.eq_nil_of_length_eq_zero (by rw [← HN.out]; exact h0)))
          have HNIL := Lib.hid (show collL (s.data.toList.take k) = [] from List.eq_nil_of_length_eq_zero (by rw [← HN.out]; exact h0))
          subst h0
          go_wp2_with (at_builtin; refine append_byte rfl _ _ rfl w.heap.size _ (collL (s.data.toList.take k)) (s[k].toNat : Int) HOWN.out rfl rfl (by omega) (by omega) (Nat.le_trans HLN.out (by omega)) hbs.out ?_; intro v1 w1 hown1 hb1)
          go_roundw
          case rel =>
            refine ⟨k + 1, by omega, by go_num, ?_, HB.out.trans hb1⟩
            rw [HE.out]
            rw [byte_of_nat, HNIL.out] at hown1
            exact hown1
          case measure => simp [intOf]; omega
        · have h0' : 0 < n := by omega
          have HNE := Lib.hid (show collL (s.data.toList.take k) ≠ [] from fun e => h0 (by rw [HN.out, e]; rfl))
          have hk0 : 0 < k := by
            rcases Nat.eq_zero_or_pos k with rfl | h
            · exact absurd (coll_nil s) HNE.out
            · exact h
          obtain ⟨j, rfl⟩ : ∃ j, k = j + 1 := ⟨k - 1, by omega⟩
          clear h0 hk0
          have hby2 := s[j].toNat_lt
          by_cases hl : s[j].toNat = 32
          · have hq2 : ((s[j].toNat : Int) == 32) = true := by simp; omega
            have HE := Lib.hid (coll_join s j hlt HC.out HNE.out hl)
            clear hl
            go_wp2_with (at_builtin; refine append_byte rfl _ _ rfl w.heap.size _ (collL (s.data.toList.take (j + 1))) 32 HOWN.out rfl rfl (by omega) (by omega) (Nat.le_trans HLN.out (by omega)) hbs.out ?_; intro v1 w1 hown1 hb1; refine Hid.out ?_)
            refine Lib.hid ?_
            have HOWN1 := Lib.hid hown1
            have HB1 := Lib.hid hb1
            have HLN1 := Lib.hid (show (collL (s.data.toList.take (j + 1)) ++ [UInt8.ofNat (32 : Int).toNat]).length ≤ 70368744177664 by rw [List.length_append]; have := HLN.out; simp at this ⊢; omega)
            have HBS1 := Lib.hid (Nat.le_trans hbs.out hb1.size)
            clear hown1 hb1
            go_wp2_with (at_builtin; refine append_byte rfl _ _ rfl w.heap.size _ _ (s[j + 1].toNat : Int) HOWN1.out rfl rfl (by omega) (by omega) HLN1.out HBS1.out ?_; intro v2 w2 hown2 hb2)
            go_roundw
            case rel =>
              refine ⟨j + 1 + 1, by omega, by go_num, ?_, (HB.out.trans HB1.out).trans hb2⟩
              rw [HE.out]
              rw [byte_of_nat] at hown2
              exact hown2
            case measure => simp [intOf]; omega
          · have hq2 : ((s[j].toNat : Int) == 32) = false := by simp; omega
            have HE := Lib.hid (coll_next s j hlt HC.out hl)
            clear hl
            go_wp2_with (at_builtin; refine append_byte rfl _ _ rfl w.heap.size _ (collL (s.data.toList.take (j + 1))) (s[j + 1].toNat : Int) HOWN.out rfl rfl (by omega) (by omega) (Nat.le_trans HLN.out (by omega)) hbs.out ?_; intro v1 w1 hown1 hb1)
            go_roundw
            case rel =>
              refine ⟨j + 1 + 1, by omega, by go_num, ?_, HB.out.trans hb1⟩
              rw [HE.out]
              rw [byte_of_nat] at hown1
              exact hown1
            case measure => simp [intOf]; omega
    · obtain rfl : k = s.size := by omega
      have hcv := hown.convert
      clear hown
      go_wp2
      go_ret
      exact ⟨nret_str (by rw [ftake_all]; rfl), HB.out⟩

end Go.Proofs.YtebddnjccmaimaaGreatDoor

/-
  What spec.Normalize, impl.Normalize, spec.IsNormal and impl.IsNormal answer, for every string of at most 2^20 bytes; the walks of laws.FnExactNormalize and laws.FnExactIsNormal. By an AI agent.
-/
namespace Go.Proofs.YtebddnjccmaimaaGreatDoor
open Go.RowKit
set_option linter.unusedVariables false

theorem norm_parts (l : List UInt8) : normL l = collL (stripL (foldL l)) := rfl

theorem size_fold (s : ByteArray) (hs : s.size ≤ 1048576) : (nstr (foldL s.data.toList)).size ≤ 1048576 := by
  rw [nstr_size, foldL_length]; simpa using hs
theorem size_strip (s : ByteArray) (hs : s.size ≤ 1048576) : (nstr (stripL (nstr (foldL s.data.toList)).data.toList)).size ≤ 1048576 := by
  rw [nstr_size, nstr_list]
  have h1 := stripL_length (foldL s.data.toList)
  rw [foldL_length] at h1
  have : s.data.toList.length = s.size := by simp
  omega

set_option maxRecDepth 100000 in
theorem spec_no (s : ByteArray) (w : World) (hs : s.size ≤ 1048576) :
    Calls Tryz.prog 100 #[.string s] w fun e w' => e = .returned (.string (nstr (normL s.data.toList))) ∧ Below w.heap.size w w' := by
  have HS := Lib.hid hs
  have HF := Lib.hid (size_fold s hs)
  have HG := Lib.hid (size_strip s hs)
  clear hs
  go_enter Tryz.func100, Tryz.ntmps100
  go_wp2_with (first
    | (go_at_call 128; (refine (spec_fc _ _ HS.out).mono ?_); rintro e w1 ⟨rfl, hb1⟩)
    | (go_at_call 130; (refine (spec_sm _ _ HF.out).mono ?_); rintro e w2 ⟨rfl, hb2⟩)
    | (go_at_call 129; (refine (spec_cs _ _ HG.out).mono ?_); rintro e w3 ⟨rfl, hb3⟩))
  go_ret
  refine ⟨nret_str (by rw [nstr_list, nstr_list]; rfl), ?_⟩
  have h12 := hb1.trans (hb2.mono hb1.size)
  exact h12.trans (hb3.mono h12.size)

set_option maxRecDepth 100000 in
theorem impl_no (s : ByteArray) (w : World) (hs : s.size ≤ 1048576) :
    Calls Tryz.prog 124 #[.string s] w fun e w' => e = .returned (.string (nstr (normL s.data.toList))) ∧ Below w.heap.size w w' := by
  have HS := Lib.hid hs
  have HF := Lib.hid (size_fold s hs)
  have HG := Lib.hid (size_strip s hs)
  clear hs
  go_enter Tryz.func124, Tryz.ntmps124
  go_wp2_with (first
    | (go_at_call 154; (refine (impl_fc _ _ HS.out).mono ?_); rintro e w1 ⟨rfl, hb1⟩)
    | (go_at_call 153; (refine (impl_sm _ _ HF.out).mono ?_); rintro e w2 ⟨rfl, hb2⟩)
    | (go_at_call 152; (refine (impl_cs _ _ HG.out).mono ?_); rintro e w3 ⟨rfl, hb3⟩))
  go_ret
  refine ⟨nret_str (by rw [nstr_list, nstr_list]; rfl), ?_⟩
  have h12 := hb1.trans (hb2.mono hb1.size)
  exact h12.trans (hb3.mono h12.size)

end Go.Proofs.YtebddnjccmaimaaGreatDoor

