/-
  What spec.IsText and impl.IsText answer, for every string of at most 2^20 bytes; the walk of laws.FnExactIsText. By an AI agent.
-/
import Derived.Test.YtggohfinkpppkabGreatDoorNFold
import Derived.Lib.Strings
import Derived.Lib.OthersKept
import Derived.Laws.RangeAny
namespace Go.Proofs.YtggohfinkpppkabGreatDoor
open Go.RowKit
set_option linter.unusedVariables false

theorem nbyte_at? (s : ByteArray) (k : Nat) (h : k < s.size) : s.data.toList[k]? = some s[k] := by
  rw [List.getElem?_eq_getElem (by simpa using h)]
  rfl

theorem ntake_snoc (s : ByteArray) (k : Nat) (h : k < s.size) : s.data.toList.take (k + 1) = s.data.toList.take k ++ [s[k]] := by
  rw [List.take_succ_eq_append_getElem (by simpa using h)]; rfl

theorem ntake_all (s : ByteArray) : s.data.toList.take s.size = s.data.toList := List.take_of_length_le (by simp)

theorem niterPos_at {w : World} {k p : Nat} {s : ByteArray} (h : w.heap[k]? = some (.stringIter s p)) : w.iterPos k = p := by
  simp [World.iterPos, h]

/-- the first k bytes are printable -/
def TextTo (s : ByteArray) (k : Nat) : Prop := ∀ c ∈ s.data.toList.take k, 32 ≤ c.toNat ∧ c.toNat ≤ 126

theorem TextTo.zero (s : ByteArray) : TextTo s 0 := by intro c hc; simp at hc
theorem TextTo.succ {s : ByteArray} {k : Nat} (h : TextTo s k) (hk : k < s.size) (h1 : 32 ≤ s[k].toNat) (h2 : s[k].toNat ≤ 126) : TextTo s (k + 1) := by
  intro c hc
  rw [ntake_snoc s k hk] at hc
  rcases List.mem_append.1 hc with hc | hc
  · exact h c hc
  · simp at hc; subst hc; exact ⟨h1, h2⟩
theorem TextTo.all {s : ByteArray} (h : TextTo s s.size) (h1 : s.size ≤ 40) : isTextB s.data.toList = true := by
  unfold TextTo at h
  rw [ntake_all] at h
  exact text_ok (by simpa using h1) h
theorem text_bad_at {s : ByteArray} {k : Nat} (hk : k < s.size) (h : s[k].toNat < 32 ∨ 126 < s[k].toNat) : isTextB s.data.toList = false :=
  text_bad (List.mem_of_getElem? (nbyte_at? s k hk)) h
theorem text_long_at {s : ByteArray} (h : 40 < s.size) : isTextB s.data.toList = false := text_long (by simpa using h)

set_option maxRecDepth 100000 in
set_option maxHeartbeats 400000 in
theorem spec_it (s : ByteArray) (w : World) (hs : s.size ≤ 1048576) (b : Bool) (hb : isTextB s.data.toList = b) :
    Calls Tryz.prog 61 #[.string s] w fun e w' => e = .returned (.bool b) ∧ w = w' := by
  have HR := Lib.hid hb
  clear hb
  by_cases h40 : s.size ≤ 40
  all_goals
    go_enter Tryz.func61, Tryz.ntmps61
    go_wp2
    go_loop [3] (fun i => ∃ k : Nat, k ≤ s.size ∧ i = .int .i64 k ∧ TextTo s k) (fun i => s.size - (intOf i).toNat)
    case atStart => exact ⟨0, Nat.zero_le _, rfl, TextTo.zero s⟩
    case round =>
      obtain ⟨k, hk, rfl, ht⟩ := hrel
      have HT := Lib.hid ht
      clear ht
      by_cases hlt : k < s.size
      · have hby := s[k].toNat_lt
        by_cases h1 : s[k].toNat < 32
        · have HB := Lib.hid (text_bad_at hlt (.inl h1))
          obtain rfl : false = b := HB.out.symm.trans HR.out
          go_wp2
          go_ret
          exact ⟨rfl, rfl⟩
        · by_cases h2 : 126 < s[k].toNat
          · have HB := Lib.hid (text_bad_at hlt (.inr h2))
            obtain rfl : false = b := HB.out.symm.trans HR.out
            go_wp2
            go_ret
            exact ⟨rfl, rfl⟩
          · go_wp2
            go_round
            case rel => exact ⟨k + 1, by omega, by go_num, HT.out.succ hlt (by omega) (by omega)⟩
            case measure => simp [intOf]; omega
      · obtain rfl : k = s.size := by omega
        first
          | (obtain rfl : true = b := (HT.out.all (by assumption)).symm.trans HR.out
             go_wp2
             go_ret
             exact ⟨nret_bool (by first | exact decide_eq_true (by omega) | exact decide_eq_false (by omega)), rfl⟩)
          | (obtain rfl : false = b := (text_long_at (by omega)).symm.trans HR.out
             go_wp2
             go_ret
             exact ⟨nret_bool (by first | exact decide_eq_true (by omega) | exact decide_eq_false (by omega)), rfl⟩)

set_option maxRecDepth 100000 in
set_option maxHeartbeats 400000 in
theorem impl_it (s : ByteArray) (w : World) (hs : s.size ≤ 1048576) (b : Bool) (hb : isTextB s.data.toList = b) :
    Calls Tryz.prog 69 #[.string s] w fun e w' => e = .returned (.bool b) ∧ Below w.heap.size w w' := by
  have HR := Lib.hid hb
  clear hb
  by_cases h40 : 40 < s.size
  · obtain rfl : false = b := (text_long_at h40).symm.trans HR.out
    go_enter Tryz.func69, Tryz.ntmps69
    go_wp2
    go_ret
    exact ⟨rfl, Below.refl _ _⟩
  · go_enter Tryz.func69, Tryz.ntmps69
    go_wp2
    go_loopw [] (fun wr => ∃ i : Nat, i ≤ s.size ∧ TextTo s i ∧ wr.heap[w.heap.size]? = some (.stringIter s i) ∧ Below w.heap.size w wr) (fun wr => s.size - wr.iterPos w.heap.size)
    case atStart => exact ⟨0, Nat.zero_le _, TextTo.zero s, World.iter_heap w s 0, (Below.refl _ _).alloc (Nat.le_refl _) _⟩
    case round =>
      obtain ⟨i, hi, ht, hit, hb⟩ := hrel
      have HT := Lib.hid ht
      have HIT := Lib.hid hit
      have HB := Lib.hid hb
      clear ht hit hb
      by_cases hlt : i < s.size
      · by_cases hbad : s[i].toNat < 32 ∨ 126 < s[i].toNat
        · have HBAD := Lib.hid (text_bad_at hlt hbad)
          have hnx := fun ty => Lib.run_next_any_at (P := Tryz.prog) wr w.heap.size s i ty HIT.out hlt
          have hr : ((Utf8.decode s i).1 : Int) < 32 ∨ 32 ≤ ((Utf8.decode s i).1 : Int) ∧ 126 < ((Utf8.decode s i).1 : Int) := by
            by_cases ha : s[i].toNat < 128
            · rw [decode_ascii s i hlt ha]
              simp only
              omega
            · have h1 := (decode_high s i hlt (by omega)).1
              omega
          clear hbad
          obtain rfl : false = b := HBAD.out.symm.trans HR.out
          rcases hr with hr | ⟨hr, hr'⟩
          all_goals
            go_wp2
            go_ret
            exact ⟨rfl, Lib.below_iterAt HB.out (Nat.le_refl _) _ _⟩
        · have h1 : 32 ≤ s[i].toNat := by omega
          have h2 : s[i].toNat ≤ 126 := by omega
          have hnx := fun ty => Lib.run_next_ascii_at (P := Tryz.prog) wr w.heap.size s i ty HIT.out hlt (by omega)
          have hit2 := Lib.iterAt_heap wr w.heap.size s i (i + 1) HIT.out
          have HIT2 := Lib.hid hit2
          clear hit2 hbad
          go_wp2
          go_roundw
          case rel => exact ⟨i + 1, by omega, HT.out.succ hlt h1 h2, HIT2.out, Lib.below_iterAt HB.out (Nat.le_refl _) _ _⟩
          case measure =>
            rw [niterPos_at HIT2.out, niterPos_at HIT.out]
            omega
      · have hnx := fun ty => Lib.run_next_end_at (P := Tryz.prog) wr w.heap.size s i ty HIT.out hlt
        obtain rfl : i = s.size := by omega
        obtain rfl : true = b := (HT.out.all (by omega)).symm.trans HR.out
        go_wp2
        go_ret
        exact ⟨rfl, HB.out⟩

end Go.Proofs.YtggohfinkpppkabGreatDoor
