/-
  What impl.parseHead and impl.ParseRecord answer. By an AI agent.
-/
import Derived.Test.YtlapgcbeemdboaaDoorRecPars
import Derived.Test.YtlapgcbeemdboaaDoorParseInt
import Derived.Test.YtlapgcbeemdboaaDoorCmpCnt
import Derived.WalkSmall
namespace Go.Proofs.YtlapgcbeemdboaaDoor
open Go.RowKit
set_option linter.unusedVariables false

theorem cell_lt {w : World} {p : Addr} {v : Value} (h : w.cell? p = some v) : p.block < w.heap.size := by
  by_cases hl : p.block < w.heap.size
  · exact hl
  · have h1 : w.heap[p.block]? = none := Array.getElem?_eq_none (by omega)
    unfold World.cell? at h
    simp [h1] at h

/-- internal/bytealg.MaxLen holds some int -/
def MaxAt (w : World) : Prop := ∃ m, w.cell? ⟨0, 0, none⟩ = some (.int .i64 m)
theorem MaxAt.of_shape {w : World} (h : w.ShapedOpen Tryd.prog) : MaxAt w := Tryd.laysM147.s1_3 w h
theorem MaxAt.on {w w' : World} (h : MaxAt w) (hb : Below w.heap.size w w') : MaxAt w' := by
  obtain ⟨m, hm⟩ := h
  exact ⟨m, (hb.cell (cell_lt hm)).trans hm⟩

/-- strings.Cut at a dot -/
theorem dot_is (p : ByteArray) (w : World) (hp : p.size ≤ 1048576) (hx : MaxAt w) (N V : ByteArray) (f : Bool) (hN : (Lib.cut p.data.toList [46]).1 = N.data.toList) (hV : (Lib.cut p.data.toList [46]).2.1 = V.data.toList) (hf : (Lib.cut p.data.toList [46]).2.2 = f) :
    Calls Tryd.prog 43 #[.string p, .string ⟨#[46]⟩] w fun e w' => e = .returned (.tuple #[.string N, .string V, .bool f]) ∧ Below w.heap.size w w' := by
  obtain ⟨m, hm⟩ := hx
  refine (Tryd.strings_Cut p ⟨#[46]⟩ m w (by omega) hm).mono fun e w' ⟨he, n, hw⟩ => ⟨?_, ?_⟩
  · rw [he]
    show Ending.returned (.tuple #[.string ⟨(Lib.cut p.data.toList [46]).1.toArray⟩, .string ⟨(Lib.cut p.data.toList [46]).2.1.toArray⟩, .bool (Lib.cut p.data.toList [46]).2.2]) = _
    rw [hN, hV, hf]
  · rw [hw]
    exact below_drewN (Below.refl _ _) n
theorem letter_is (c : UInt8) (r : Int) (w : World) (hr : Lib.indexByte [97, 98, 99, 100] c = r) :
    Calls Tryd.prog 44 #[.string ⟨#[97, 98, 99, 100]⟩, .int .u8 (c.toNat : Int)] w fun e w' => e = .returned (.int .i64 r) ∧ w' = w := by
  refine (Tryd.strings_IndexByte ⟨#[97, 98, 99, 100]⟩ (c.toNat : Int) w).mono fun e w' ⟨he, hw⟩ => ⟨?_, hw⟩
  rw [he, ← hr]
  simp

/-- what parseHead hands back -/
def GivesPH (w : World) (p : Str) (e : Ending) (w' : World) : Prop :=
  ∃ S K V, e = .returned (.agg #[.int .i64 S, .int .i64 K, .int .i64 V, .slice none 0 0]) ∧ PHok p S K V ∧ Below w.heap.size w w'

set_option maxRecDepth 100000 in
set_option maxHeartbeats 1600000 in
theorem ph_impl (p : ByteArray) (w : World) (hp : p.size ≤ 1048576) (hx : MaxAt w) (ht : TabAt w) :
    Calls Tryd.prog 30 #[.string p] w (GivesPH w p.data.toList) := by
  obtain ⟨N, hN⟩ : ∃ N : ByteArray, (Lib.cut p.data.toList [46]).1 = N.data.toList := ⟨⟨(Lib.cut p.data.toList [46]).1.toArray⟩, by simp⟩
  obtain ⟨V, hV⟩ : ∃ V : ByteArray, (Lib.cut p.data.toList [46]).2.1 = V.data.toList := ⟨⟨(Lib.cut p.data.toList [46]).2.1.toArray⟩, by simp⟩
  obtain ⟨f, hf⟩ : ∃ f, (Lib.cut p.data.toList [46]).2.2 = f := ⟨_, rfl⟩
  have hpl : p.data.toList.length = p.size := by simp
  have hNl : N.size ≤ 1048576 := by
    have h1 : N.data.toList.length = N.size := by simp
    rw [← h1, ← hN]
    unfold Lib.cut
    split
    · simp; omega
    · simp; omega
  have hVl : V.size ≤ 1048576 := by
    have h1 : V.data.toList.length = V.size := by simp
    rw [← h1, ← hV]
    unfold Lib.cut
    split
    · simp; omega
    · simp
  have HP := Lib.hid hp
  have HN := Lib.hid hN
  have HV := Lib.hid hV
  have HF := Lib.hid hf
  have HB1 := Lib.hid ((Below.refl w.heap.size w).alloc (Nat.le_refl _) (.cells #[.int .i64 0, .int .i64 0, .int .i64 0, .slice none 0 0] 27))
  have HR1 := Lib.hid (RecB.new 27 w _ 0 0 0 (.slice none 0 0) rfl)
  have HX := Lib.hid hx
  have HT := Lib.hid ht
  clear hp hN hV hf hx ht hpl
  go_enter Tryd.func30, Tryd.ntmps30
  go_wp2_with (go_at_call 43; (refine (dot_is p _ HP.out (HX.out.on HB1.out) N V f HN.out HV.out HF.out).mono ?_); rintro e w2 ⟨rfl, hb⟩; refine Hid.out ?_)
  have HR2 := Lib.hid (HR1.out.below hb)
  have HB2 := Lib.hid (HB1.out.trans (hb.mono HB1.out.size))
  clear hb
  by_cases hz : N.size = 0
  · have hn0 : N = ⟨#[]⟩ := by
      apply ByteArray.ext
      apply Array.ext'
      have h1 : N.data.toList.length = 0 := by simpa using hz
      simpa using List.eq_nil_of_length_eq_zero h1
    subst hn0
    have q0 := HR2.out.c0
    have q1 := HR2.out.c1
    have q2 := HR2.out.c2
    have q3 := HR2.out.c3
    have f0 := HR2.out.frozen 0
    have f1 := HR2.out.frozen 1
    have f2 := HR2.out.frozen 2
    have f3 := HR2.out.frozen 3
    refine Lib.hid ?_
    go_wp2
    have z := (((HR2.out.set0 0).set1 0).set2 0).set3 (.slice none 0 0)
    have e0 := z.c0
    have e1 := z.c1
    have e2 := z.c2
    have e3 := z.c3
    refine bodyPost_ret (v := .agg #[.int .i64 0, .int .i64 0, .int .i64 0, .slice none 0 0]) (by simp [results, Tryd.results30, go_sem, e0, e1, e2, e3]) rfl ⟨0, 0, 0, rfl, .inl ⟨HN.out, rfl, rfl, rfl⟩, ?_⟩
    exact (((HB2.out.setCell (by simp) _).setCell (by simp) _).setCell (by simp) _).setCell (by simp) _
  · have hz1 : 0 < N.size := by omega
    have hz2 : (0 : Int) < (N.size : Int) := by omega
    have hz3 : (1 : Int) ≤ (N.size : Int) := by omega
    have hne : N.toList.isEmpty = false := by
      rw [ByteArray.toList_eq]
      cases h : N.data.toList with
      | nil => exact absurd (by simpa using congrArg List.length h) hz
      | cons a b => rfl
    obtain ⟨S, hS⟩ : ∃ S, Lib.indexByte [97, 98, 99, 100] N[0] = S := ⟨_, rfl⟩
    have HS := Lib.hid hS
    clear hS
    refine Lib.hid ?_
    go_wp2_with (go_at_call 44; (refine (letter_is _ S _ HS.out).mono ?_); rintro e w3 ⟨rfl, rfl⟩; refine Hid.out ?_)
    have HRB := Lib.hid (RecB.new 27 w3 _ S 0 0 (.slice none 0 0) rfl)
    have HBA := Lib.hid (HB2.out.alloc HB2.out.size (.cells #[.int .i64 S, .int .i64 0, .int .i64 0, .slice none 0 0] 27))
    have HLG := Lib.hid HR2.out.lt
    refine Lib.hid ?_
    go_wp2_with (go_at_call 45; (refine (impl_pi (N.extract 1 N.size) _ (by simp; omega) (HT.out.on HBA.out)).mono ?_); rintro e w4 ⟨K, o1, rfl, hp1, hb4⟩; refine Hid.out ?_)
    have RB4 := Lib.hid (HRB.out.below hb4)
    have RA4 := Lib.hid ((HR2.out.alloc _).below hb4)
    have HB4 := Lib.hid (HBA.out.trans (hb4.mono HBA.out.size))
    obtain ⟨g, hg⟩ : ∃ g, w3.heap.size = g := ⟨_, rfl⟩
    rw [hg] at RB4 HLG
    rw [hg]
    have HP1 := Lib.hid hp1
    clear hb4 hp1
    have hlg := HLG.out
    have HBS := Lib.hid (HB4.out.setCell (p := ⟨g, 1, none⟩) (by simp; omega) (.int .i64 K))
    have b1 := RB4.out.c1
    have bf := RB4.out.frozen 1
    refine Lib.hid ?_
    go_wp2_with (go_at_call 45; (refine (impl_pi V _ hVl (HT.out.on HBS.out)).mono ?_); rintro e w5 ⟨K2, o2, rfl, hp2, hb5⟩; refine Hid.out ?_)
    have RB5 := Lib.hid ((RB4.out.set1 K).below hb5)
    have RA5 := Lib.hid ((RA4.out.other ⟨g, 1, none⟩ (.int .i64 K) (by simp; omega)).below hb5)
    have HB5 := Lib.hid (HBS.out.trans (hb5.mono HBS.out.size))
    have HP2 := Lib.hid hp2
    clear hb5 hp2 b1 bf
    have hng : ¬ w.heap.size = g := by omega
    have hgn : ¬ g = w.heap.size := by omega
    have q0 := RA5.out.c0
    have q1 := RA5.out.c1
    have q2 := RA5.out.c2
    have q3 := RA5.out.c3
    have f0 := RA5.out.frozen 0
    have f1 := RA5.out.frozen 1
    have f2 := RA5.out.frozen 2
    have f3 := RA5.out.frozen 3
    have p0 := RB5.out.c0
    have p1 := RB5.out.c1
    have p2 := RB5.out.c2
    have p3 := RB5.out.c3
    have g2 := RB5.out.frozen 2
    refine Lib.hid ?_
    go_wp2
    have z := ((((RA5.out.other ⟨g, 2, none⟩ (.int .i64 K2) (by simp; omega)).set0 S).set1 K).set2 K2).set3 (.slice none 0 0)
    have e0 := z.c0
    have e1 := z.c1
    have e2 := z.c2
    have e3 := z.c3
    refine bodyPost_ret (v := .agg #[.int .i64 S, .int .i64 K, .int .i64 K2, .slice none 0 0]) (by simp [results, Tryd.results30, go_sem, e0, e1, e2, e3]) rfl ⟨S, K, K2, rfl, .inr ⟨N[0], (N.extract 1 N.size).data.toList, o1, o2, HN.out.trans (data_cons N hz1), HS.out.symm, HP1.out, ?_⟩, ?_⟩
    · rw [HV.out]; exact HP2.out
    · exact ((((HB5.out.setCell (by simp; omega) _).setCell (by simp) _).setCell (by simp) _).setCell (by simp) _).setCell (by simp) _

end Go.Proofs.YtlapgcbeemdboaaDoor
