/-
  What spec.DecodeHex and impl.DecodeHex answer, for every string; the walk of laws.FnExactDecodeHex. By an AI agent.
-/
import Derived.Test.YtfplkkmfcojmaaaHexDig
import Derived.Test.YtfplkkmfcojmaaaEncFix
import Derived.Test.YtfplkkmfcojmaaaDecVar
import Derived.Lib.OthersKept
import Derived.Laws.RangeAny
namespace Go.Proofs.Ytfplkkmfcojmaaa
open Go.RowKit
set_option linter.unusedVariables false

def SomeDh (s : ByteArray) (w : World) (e : Ending) (w' : World) : Prop := e = .returned (.tuple #[.string (strOf (dhL s.data.toList)), .bool (dhB s.data.toList)]) ∧ Below w.heap.size w w'

theorem dh_ret_none {s : ByteArray} {w w' : World} (h : unhex s.data.toList = none) (hb : Below w.heap.size w w') : SomeDh s w (.returned (.tuple #[.string ⟨#[]⟩, .bool false])) w' := by
  obtain ⟨h1, h2⟩ := dh_none h
  exact ⟨by rw [h1, h2]; rfl, hb⟩

theorem dh_ret_some {s : ByteArray} {w w' : World} {r : List UInt8} (h : unhex s.data.toList = some r) (hb : Below w.heap.size w w') : SomeDh s w (.returned (.tuple #[.string (strOf r), .bool true])) w' := by
  obtain ⟨h1, h2⟩ := dh_some h
  exact ⟨by rw [h1, h2], hb⟩

set_option maxRecDepth 100000 in
set_option maxHeartbeats 800000 in
theorem spec_dh (s : ByteArray) (w : World) (hs : s.size ≤ 1048576) :
    Calls Try.prog 19 #[.string s] w (SomeDh s w) := by
  have HS := Lib.hid hs
  by_cases hodd : s.size % 2 = 1
  · have hd : (((s.size : Int) % 2) == 1) = true := by simp; omega
    have HO := Lib.hid hodd
    clear hodd
    go_enter Try.func19, Try.ntmps19
    go_wp2
    go_ret2
    exact dh_ret_none (unhex_odd (s.size / 2) _ (by have := HO.out; simp; omega)) ((Below.refl _ _).alloc (Nat.le_refl _) _)
  · have hd : (((s.size : Int) % 2) == 1) = false := by simp; omega
    obtain ⟨m, hm⟩ : ∃ m, s.size = 2 * m := ⟨s.size / 2, by omega⟩
    have HM := Lib.hid hm
    clear hm hodd
    go_enter Try.func19, Try.ntmps19
    go_wp2
    go_loopw [4, 5] (fun v i wr => ∃ (p : Nat) (l' : List UInt8), p ≤ m ∧ i = .int .i64 (2 * p : Nat) ∧ l'.length = p ∧ unhex s.data.toList = (unhex (s.data.toList.drop (2 * p))).map (l' ++ ·) ∧
        OwnB wr w.heap.size v l' ∧ Below w.heap.size w wr) (fun _ i _ => (s.size - (intOf i)).toNat)
    case atStart =>
      refine ⟨0, [], Nat.zero_le _, rfl, rfl, ?_, OwnB.made w _ #[] 0 (Nat.le_refl _) (Nat.zero_le _) rfl, (Below.refl _ _).alloc (Nat.le_refl _) _⟩
      rw [Nat.mul_zero, List.drop_zero]
      cases unhex s.data.toList <;> simp
    case round =>
      obtain ⟨p, l', hp, rfl, hlen, hun, hown, hb⟩ := hrel
      have HUN := Lib.hid hun
      have HB := Lib.hid hb
      have HLEN := Lib.hid hlen
      have HOWN := Lib.hid hown
      have HP := Lib.hid hp
      clear hun hb hlen hp hown
      by_cases hlt : p < m
      · have h2p : 2 * p + 1 < s.size := by have := HM.out; omega
        obtain ⟨i, hi⟩ : ∃ i, i = 2 * p := ⟨_, rfl⟩
        rw [← hi] at h2p ⊢
        have HI := Lib.hid hi
        clear hi
        have hi0 : i < s.size := by omega
        have ra := hv_range s[i].toNat
        have rb := hv_range s[i + 1].toNat
        have e : s.data.toList.drop (2 * p) = s[i] :: s[i + 1] :: s.data.toList.drop (2 * p + 2) := by
          rw [← HI.out]; exact drop_two (byte_getElem? s i hi0) (byte_getElem? s (i + 1) h2p)
        have HE := Lib.hid e
        clear e
        by_cases hbad : hv s[i].toNat < 0 ∨ hv s[i + 1].toNat < 0
        · have HBAD := Lib.hid hbad
          have hbad2 : hv s[i].toNat < 0 ∨ (0 ≤ hv s[i].toNat ∧ hv s[i + 1].toNat < 0) := by omega
          clear hbad
          rcases hbad2 with hx | ⟨hx, hy⟩
          all_goals
            go_wp2_with (go_at_call 28; refine (l1FromHex_any _ _).mono ?_; rintro e w' ⟨rfl, rfl⟩)
            go_ret2
            exact dh_ret_none (unhex_bad HE.out HBAD.out HUN.out) HB.out
        · have HG := Lib.hid hbad
          have hx : 0 ≤ hv s[i].toNat := by omega
          have hy : 0 ≤ hv s[i + 1].toNat := by omega
          clear hbad
          have HLN : l'.length ≤ 70368744177664 := by rw [HLEN.out]; have := HM.out; have := HS.out; omega
          have HLN' := Lib.hid HLN
          have HBS := Lib.hid HB.out.size
          clear HLN
          go_wp2_with (first
            | (go_at_call 28; refine (l1FromHex_any _ _).mono ?_; rintro e w' ⟨rfl, rfl⟩)
            | (at_builtin; refine append_byte rfl _ _ rfl w.heap.size _ l' _ HOWN.out rfl rfl (by omega) (by omega) HLN'.out HBS.out ?_; intro v1 w1 hown1 hb1))
          go_roundw
          case rel =>
            have hxy : 0 ≤ hv s[i].toNat ∧ 0 ≤ hv s[i + 1].toNat := ⟨hx, hy⟩
            exact ⟨p + 1, _, hlt, by have := HI.out; go_num, by simp [HLEN.out], unhex_pair HE.out hxy.1 hxy.2 HUN.out, hown1, HB.out.trans hb1⟩
          case measure => simp [intOf]; omega
      · obtain rfl : p = m := by have := HP.out; omega
        have hcv := HOWN.out.convert
        have hge : (s.size : Int) ≤ 2 * (p : Int) := by have := HM.out; omega
        go_wp2
        go_ret2
        refine dh_ret_some ?_ HB.out
        rw [HUN.out, List.drop_eq_nil_of_le (by have := HM.out; simp; omega)]
        simp [unhex]

theorem u8_or4 (x y : Int) (hx0 : 0 ≤ x) (hx : x % 16 = 0) (hx1 : x < 256) (hy0 : 0 ≤ y) (hy : y < 16) : bits .or .u8 x y = x + y :=
  bits_join .u8 8 (by decide) wraps_u8 4 x y hx0 hx hx1 hy0 hy (by omega)

theorem BlkB.keep {w w' : World} {g : Nat} {cs : Array Value} (h : BlkB w g cs) (e : w'.heap[g]? = w.heap[g]?) : BlkB w' g cs := by
  unfold BlkB at h ⊢
  rw [e, h]

theorem byteCells_set (L : List UInt8) (i : Nat) (b : UInt8) : Lib.byteCells (L.set i b) = (Lib.byteCells L).set i (.int .u8 b.toNat) := by
  simp [Lib.byteCells, List.map_set]

theorem cells_set (L : List UInt8) (i : Nat) (b : UInt8) (v : Value) (hv : v = .int .u8 b.toNat) : (Lib.byteCells L).toArray.setIfInBounds i v = (Lib.byteCells (L.set i b)).toArray := by
  subst hv
  rw [byteCells_set, List.setIfInBounds_toArray]

theorem made_cells (m : Nat) : madeCells #[Value.int .u8 0] m = (Lib.byteCells (List.replicate m 0)).toArray := by
  apply Array.ext
  · simp [size_madeCells, Lib.byteCells]
  · intro i h1 h2
    simp [madeCells, Lib.byteCells, Nat.mod_one]

theorem iterPos_at {w : World} {k p : Nat} {s : ByteArray} (h : w.heap[k]? = some (.stringIter s p)) : w.iterPos k = p := by
  simp [World.iterPos, h]

theorem setCell_iter {w : World} {k g o p : Nat} {s : ByteArray} {u : Value} (h : w.heap[k]? = some (.stringIter s p)) (hne : k ≠ g) : (w.setCell ⟨g, o, none⟩ u).heap[k]? = some (.stringIter s p) := by
  rw [Below.heap_setCell w ⟨g, o, none⟩ u k hne, h]

/-- the rune at i and the byte at i have the same value as a digit -/
theorem hv_rune (s : ByteArray) (i : Nat) (h : i < s.size) : hv ((Utf8.decode s i).1 : Int) = hv (s[i].toNat : Int) := by
  by_cases ha : s[i].toNat < 128
  · rw [decode_ascii s i h ha]
  · have h1 := (decode_high s i h (by omega)).1
    rw [hv_high _ (by omega), hv_high _ (by omega)]

theorem hv_ascii {b : UInt8} (h : 0 ≤ hv (b.toNat : Int)) : b.toNat < 128 := by
  rcases Nat.lt_or_ge b.toNat 128 with h1 | h1
  · exact h1
  · rw [hv_high _ (by omega)] at h
    omega

theorem store_dig (c b : UInt8) (h : c.toNat ≤ 15) (h0 : 0 ≤ hv (b.toNat : Int)) :
    Value.int .u8 (bits .or .u8 ((c.toNat : Int) * 16) (hv (b.toNat : Int))) = Value.int .u8 ((UInt8.ofNat (16 * (c.toNat : Int) + hv (b.toNat : Int)).toNat).toNat : Int) := by
  have hr := hv_range (b.toNat : Int)
  rw [u8_or4 _ _ (by omega) (by omega) (by omega) h0 (by omega), UInt8.toNat_ofNat']
  congr 1
  omega

set_option maxRecDepth 100000 in
set_option maxHeartbeats 800000 in
theorem impl_dh (s : ByteArray) (w : World) (hs : s.size ≤ 1048576) :
    Calls Try.prog 20 #[.string s] w (SomeDh s w) := by
  have HS := Lib.hid hs
  by_cases hodd : s.size % 2 = 1
  · have hd : (((s.size : Int) % 2) != 0) = true := by simp; omega
    have HO := Lib.hid hodd
    clear hodd
    go_enter Try.func20, Try.ntmps20
    go_wp2
    go_ret2
    exact dh_ret_none (unhex_odd (s.size / 2) _ (by have := HO.out; simp; omega)) (Below.refl _ _)
  · have hd : (((s.size : Int) % 2) != 0) = false := by simp; omega
    obtain ⟨m, hm⟩ : ∃ m, s.size = 2 * m := ⟨s.size / 2, by omega⟩
    have hm2 : (s.size : Int) / 2 = m := by omega
    have hmb : (m : Int) ≤ 524288 := by omega
    have HM := Lib.hid hm
    have hmk := make_bytes w m m (Nat.le_refl _) (by omega)
    clear hm hodd hs
    go_enter Try.func20, Try.ntmps20
    go_wp2
    clear hmk hm2
    go_loopw [] (fun wr => ∃ (i : Nat) (L : List UInt8), i ≤ s.size ∧ wr.heap[w.heap.size + 1]? = some (.stringIter s i) ∧ DhInv s.data.toList m i L ∧
        BlkB wr w.heap.size (Lib.byteCells L).toArray ∧ Below w.heap.size w wr) (fun wr => (s.size - wr.iterPos (w.heap.size + 1)))
    case atStart =>
      refine ⟨0, List.replicate m 0, Nat.zero_le _, ?_, DhInv.start _ _, ?_, ?_⟩
      · have h := World.iter_heap (w.alloc (.cells (madeCells #[Value.int .u8 0] m) 5)) s 0
        simpa using h
      · rw [← made_cells]
        exact (BlkB.new w _).keep (Below.heap_alloc _ _ _ (by simp))
      · exact ((Below.refl _ _).alloc (Nat.le_refl _) _).alloc (by simp) _
    case round =>
      obtain ⟨i, L, hi, hit, hinv, hbk, hb⟩ := hrel
      have HIT := Lib.hid hit
      have HINV := Lib.hid hinv
      have HB := Lib.hid hb
      have HBK := Lib.hid hbk
      clear hit hinv hb hbk
      by_cases hlt : i < s.size
      · have hl2 : s.data.toList.length = 2 * m := by have := HM.out; simp; omega
        have HL2 := Lib.hid hl2
        have him : i < 2 * m := by have := HM.out; omega
        have HIM := Lib.hid him
        clear hl2 him
        by_cases hneg : hv (s[i].toNat : Int) < 0
        · have hnx := fun ty => Lib.run_next_any_at (P := Try.prog) wr (w.heap.size + 1) s i ty HIT.out hlt
          have hr : hv ((Utf8.decode s i).1 : Int) < 0 := by rw [hv_rune s i hlt]; exact hneg
          have HNEG := Lib.hid (HINV.out.bad HL2.out HIM.out (byte_getElem? s i hlt) hneg)
          clear hneg
          go_wp2_with (go_at_call 29; refine (hexValue_any _ _).mono ?_; rintro e w' ⟨rfl, rfl⟩)
          go_ret2
          exact dh_ret_none HNEG.out (Lib.below_iterAt HB.out (by omega) _ _)
        · have h0 : 0 ≤ hv (s[i].toNat : Int) := by omega
          have hasc := hv_ascii h0
          have hnx := fun ty => Lib.run_next_ascii_at (P := Try.prog) wr (w.heap.size + 1) s i ty HIT.out hlt hasc
          obtain ⟨c, hc, hc15, hst⟩ := HINV.out.step HL2.out HIM.out (byte_getElem? s i hlt) h0
          have HST := Lib.hid hst
          have hbk2 : BlkB (wr.iterAt (w.heap.size + 1) s (i + 1)) w.heap.size (Lib.byteCells L).toArray := HBK.out.keep (Lib.iterAt_other _ _ _ _ _ (by omega))
          have hcell : (wr.iterAt (w.heap.size + 1) s (i + 1)).cell? ⟨w.heap.size, i / 2, none⟩ = some (.int .u8 c.toNat) := by
            rw [hbk2.cell]
            simp [Lib.byteCells, hc]
          have hfz : (wr.iterAt (w.heap.size + 1) s (i + 1)).frozen? ⟨w.heap.size, i / 2, none⟩ = false := hbk2.frozen _
          have HBK2 := Lib.hid hbk2
          have hcb : (c.toNat : Int) ≤ 15 := by omega
          have hrr := (hv_range (s[i].toNat : Int)).2
          have hib : (i : Int) ≤ 1048576 := by have := HS.out; omega
          have hi2 : i / 2 < m := by have := HIM.out; omega
          have HASC := Lib.hid hasc
          have HC15 := Lib.hid hc15
          clear hst hbk2 hc hneg hasc hc15
          go_wp2_with (go_at_call 29; refine (hexValue_any _ _).mono ?_; rintro e w' ⟨rfl, rfl⟩)
          have hit2 := Lib.iterAt_heap wr (w.heap.size + 1) s i (i + 1) HIT.out
          have HIT3 := Lib.hid (setCell_iter (g := w.heap.size) (o := i / 2) (u := .int .u8 (bits .or .u8 ((c.toNat : Int) * 16) (hv (s[i].toNat : Int)))) hit2 (by omega))
          clear hit2
          go_roundw
          case rel =>
            refine ⟨i + 1, _, by omega, HIT3.out, HST.out, ?_, (Lib.below_iterAt HB.out (by omega) _ _).setCell (Nat.le_refl _) _⟩
            rw [← cells_set _ _ _ _ (store_dig c s[i] HC15.out h0)]
            exact HBK2.out.set_ _ _
          case measure =>
            rw [iterPos_at HIT3.out, iterPos_at HIT.out]
            omega
      · have hnx := fun ty => Lib.run_next_end_at (P := Try.prog) wr (w.heap.size + 1) s i ty HIT.out hlt
        obtain rfl : i = s.size := by omega
        have HD := Lib.hid ((HM.out ▸ HINV.out : DhInv s.data.toList m (2 * m) L).done (by have := HM.out; simp; omega))
        have hcv := HBK.out.convert (l := L) (m := m) (by simp) (HINV.out.length (by have := HM.out; omega))
        go_wp2
        go_ret2
        exact dh_ret_some HD.out HB.out

set_option maxRecDepth 100000 in
set_option maxHeartbeats 400000 in
theorem FnExactDecodeHex_walk (a0 : ByteArray) (w0 : a0.size ≤ maxLen) (w : World) :
    Calls Try.prog 8 #[.string a0] w fun e w' => e = .returned (.bool true) ∧ Below w.heap.size w w' := by
  by_cases hbig : 1048576 < (a0.size : Int)
  · go_enter Try.func8, Try.ntmps8
    go_wp2
    go_ret
    exact ⟨rfl, Below.refl _ _⟩
  · have W0 := Lib.hid (show a0.size ≤ 1048576 by omega)
    go_enter Try.func8, Try.ntmps8
    go_wp2_with (first
      | (go_at_call 19; (refine (spec_dh _ _ W0.out).mono ?_); rintro e w1 ⟨rfl, hb1⟩)
      | (go_at_call 20; (refine (impl_dh _ _ W0.out).mono ?_); rintro e w2 ⟨rfl, hb2⟩))
    go_ret
    exact ⟨rfl, hb1.trans (hb2.mono hb1.size)⟩

end Go.Proofs.Ytfplkkmfcojmaaa
