/-
  The walk of laws.FnDiagrams: it answers true for every slice of bytes, a nil one too. By an AI agent.
-/
import Derived.Test.YtpmfabpnjacegaaGreatDoorEvD
import Derived.Test.YtpmfabpnjacegaaGreatDoorRul14
import Derived.Test.YtpmfabpnjacegaaGreatDoorBdI
import Derived.Test.YtpmfabpnjacegaaGreatDoorDgW
import Derived.Test.YtpmfabpnjacegaaGreatDoorDgFI
import Derived.Test.YtpmfabpnjacegaaGreatDoorDgFS
import Derived.Test.YtpmfabpnjacegaaGreatDoorRuE
import Derived.Test.YtpmfabpnjacegaaGreatDoorGQ12
import Derived.Test.YtpmfabpnjacegaaGreatDoorVarI
import Derived.Test.YtpmfabpnjacegaaGreatDoorGQ4
import Derived.Test.YtpmfabpnjacegaaGreatDoorGQ19
import Derived.Deep.RegionHeld3
namespace Go.Proofs.YtpmfabpnjacegaaGreatDoor
open Go.RowKit
set_option linter.unusedVariables false
set_option linter.unusedSimpArgs false
set_option linter.unnecessarySimpa false

/-- what stands in the memory -/
structure FdP (w0 : World) (bR b5 b7 : Nat) (a : Option Addr) (c : Nat) (R : List (List TS)) (y : Int) (a5 : Option Addr) (c5 : Nat) (a7 : Option Addr) (c7 : Nat) (D : List DN) (x : Option Addr) (l : List Int) (W : World) : Prop where
  low : Below w0.heap.size w0 W
  rs : BlkV W bR 26 #[.slice a R.length c]
  sr : SmRu W a R c
  d5 : BlkV W b5 32 #[.int .i64 y, .slice a5 D.length c5]
  s5 : SmDn W a5 D c5
  d7 : BlkV W b7 32 #[.int .i64 y, .slice a7 D.length c7]
  s7 : SmDn W a7 D c7
  vi : InI W x l
  tab : TabAt W
theorem FdP.below {w0 W W' : World} {bR b5 b7 : Nat} {a : Option Addr} {c : Nat} {R : List (List TS)} {y : Int} {a5 : Option Addr} {c5 : Nat} {a7 : Option Addr} {c7 : Nat} {D : List DN} {x : Option Addr} {l : List Int} (h : FdP w0 bR b5 b7 a c R y a5 c5 a7 c7 D x l W) (hb : Below W.heap.size W W') : FdP w0 bR b5 b7 a c R y a5 c5 a7 c7 D x l W' :=
  ⟨h.low.trans (hb.mono h.low.size), h.rs.below hb, h.sr.below hb, h.d5.below hb, h.s5.below hb, h.d7.below hb, h.s7.below hb, h.vi.below hb, h.tab.on hb⟩
structure FdQ (w0 : World) (bR b5 b7 : Nat) (a : Option Addr) (c : Nat) (R : List (List TS)) (y : Int) (a5 : Option Addr) (c5 : Nat) (a7 : Option Addr) (c7 : Nat) (D : List DN) (x : Option Addr) (l : List Int) (b9 : Nat) (z : Int) (a9 : Option Addr) (c9 : Nat) (E : List DN) (xv : Option Addr) (v : List Int) (W : World) : Prop extends FdP w0 bR b5 b7 a c R y a5 c5 a7 c7 D x l W where
  d9 : BlkV W b9 32 #[.int .i64 z, .slice a9 E.length c9]
  s9 : SmDn W a9 E c9
  v9 : InI W xv v
theorem FdQ.below {w0 W W' : World} {bR b5 b7 : Nat} {a : Option Addr} {c : Nat} {R : List (List TS)} {y : Int} {a5 : Option Addr} {c5 : Nat} {a7 : Option Addr} {c7 : Nat} {D : List DN} {x : Option Addr} {l : List Int} {b9 : Nat} {z : Int} {a9 : Option Addr} {c9 : Nat} {E : List DN} {xv : Option Addr} {v : List Int} (h : FdQ w0 bR b5 b7 a c R y a5 c5 a7 c7 D x l b9 z a9 c9 E xv v W) (hb : Below W.heap.size W W') : FdQ w0 bR b5 b7 a c R y a5 c5 a7 c7 D x l b9 z a9 c9 E xv v W' :=
  ⟨h.toFdP.below hb, h.d9.below hb, h.s9.below hb, h.v9.below hb⟩

set_option maxRecDepth 100000 in
set_option maxHeartbeats 8000000 in
theorem FnDiagrams_core (A0 : Option Addr) (len cap : Nat) (w : World) (hcode : CodeAt w w.heap.size A0 len) (ht : TabAt w) :
    Calls Tryz.prog 3 #[.slice A0 len cap] w fun e w' => e = .returned (.bool true) ∧ Below w.heap.size w w' := by
  have HCODE := Lib.hid hcode
  have HT := Lib.hid ht
  have hlen : (len : Int) ≤ 1048576 := by have := hcode.1; omega
  clear hcode ht
  go_enter Tryz.func3, Tryz.ntmps3
  go_wp2_with (go_at_call 4; (refine (big_no A0 len cap _ hlen).mono ?_); rintro e w0 ⟨rfl, rfl⟩; refine Hid.out ?_)
  refine Lib.hid ?_
  clear hlen
  go_wp2_with (go_at_call 5; ((with_reducible refine (frdraw_any A0 len cap _ HCODE.out rules_any).mono ?_); rintro e wd ⟨R, a, c, q, l, gx, ox, cx, rfl, hq, ho, hsm, hl6, hin, hbd⟩; refine Hid.out ?_))
  obtain ⟨w3, hw3⟩ : ∃ w3, wd.alloc (.cells #[.slice a R.length c] 26) = w3 := ⟨_, rfl⟩
  have hb3 : Below wd.heap.size wd w3 := by rw [← hw3]; exact (Below.refl _ _).alloc (Nat.le_refl _) _
  have HX3 := Lib.hid (show BlkV w3 wd.heap.size 26 #[.slice a R.length c] by rw [← hw3]; exact BlkV.new _ _ _)
  have HB3 := Lib.hid (show Below w.heap.size w w3 from hbd.trans (hb3.mono hbd.size))
  have HS := Lib.hid (show SmRu w3 a R c by rw [← hw3]; exact (ho.smRu hq (by have := hsm.1; omega) (fun x hx => by have := hsm.2 x hx; omega)).alloc _)
  have HIN := Lib.hid (hin.below hb3)
  have HWE := Lib.hid hw3
  have HLX := Lib.hid (show l.length ≤ 4000000 by omega)
  obtain ⟨⟨⟨y, D⟩, rb⟩, hr⟩ : ∃ r, bdR R = r := ⟨_, rfl⟩
  have hDl := bd_len R
  rw [hr] at hDl
  have HDL := Lib.hid (show D.length ≤ 511 from hDl)
  have HR := Lib.hid hr
  clear hq ho hsm hbd hb3 hw3 hin hl6 hr hDl
  obtain ⟨bR, hbR⟩ : ∃ b, wd.heap.size = b := ⟨_, rfl⟩
  rw [hbR] at HX3
  have q3 := HX3.out.one0
  have p3 : (wd.alloc (.cells #[.slice a R.length c] 26)).cell? ⟨bR, 0, none⟩ = some (.slice a R.length c) := by rw [HWE.out]; exact q3
  refine Lib.hid ?_
  go_wp2_with (go_at_call 6; rw [HWE.out]; ((refine (bd_impl a c R y D rb w3 HR.out HS.out).mono ?_); rintro e w4 ⟨a5, c5, rfl, ho5, hb4⟩; refine Hid.out ?_))
  (try rw [hbR])
  clear hbR q3 p3
  obtain ⟨w5, hw5⟩ : ∃ w5, w4.alloc (.cells #[.int .i64 y, .slice a5 D.length c5] 32) = w5 := ⟨_, rfl⟩
  have hb5 : Below w4.heap.size w4 w5 := by rw [← hw5]; exact (Below.refl _ _).alloc (Nat.le_refl _) _
  have HY5 := Lib.hid (show BlkV w5 w4.heap.size 32 #[.int .i64 y, .slice a5 D.length c5] by rw [← hw5]; exact BlkV.new _ _ _)
  have h35 : Below w3.heap.size w3 w5 := hb4.trans (hb5.mono hb4.size)
  have HX5 := Lib.hid (HX3.out.below h35)
  have HB5 := Lib.hid (HB3.out.trans (h35.mono HB3.out.size))
  have HS5 := Lib.hid (HS.out.below h35)
  have HIN5 := Lib.hid (HIN.out.below h35)
  have HD5 := Lib.hid ((ho5.smDn (by have := HDL.out; omega)).below hb5)
  have HWE5 := Lib.hid hw5
  clear ho5 hb4 hb5 h35 hw5
  obtain ⟨b5, hb5⟩ : ∃ b, w4.heap.size = b := ⟨_, rfl⟩
  rw [hb5] at HY5
  have q5 := HX5.out.one0
  have p5 : (w4.alloc (.cells #[.int .i64 y, .slice a5 D.length c5] 32)).cell? ⟨bR, 0, none⟩ = some (.slice a R.length c) := by rw [HWE5.out]; exact q5
  refine Lib.hid ?_
  go_wp2_with (go_at_call 7; rw [HWE5.out]; ((refine (bd_spec a c R y D rb w5 HR.out HS5.out).mono ?_); rintro e w6' ⟨a7, c7, rfl, ho7, hb6⟩; refine Hid.out ?_))
  (try rw [hb5])
  clear hb5 q5 p5
  obtain ⟨w6, hw6⟩ : ∃ w6, w6'.alloc (.cells #[.int .i64 y, .slice a7 D.length c7] 32) = w6 := ⟨_, rfl⟩
  have hb7 : Below w6'.heap.size w6' w6 := by rw [← hw6]; exact (Below.refl _ _).alloc (Nat.le_refl _) _
  have hY7 : BlkV w6 w6'.heap.size 32 #[.int .i64 y, .slice a7 D.length c7] := by rw [← hw6]; exact BlkV.new _ _ _
  have h56 : Below w5.heap.size w5 w6 := hb6.trans (hb7.mono hb6.size)
  have HF6 := Lib.hid (show FdP w bR b5 w6'.heap.size a c R y a5 c5 a7 c7 D (some ⟨gx, ox, none⟩) l w6 from ⟨HB5.out.trans (h56.mono HB5.out.size), HX5.out.below h56, HS5.out.below h56, HY5.out.below h56, HD5.out.below h56, hY7, (ho7.smDn (by have := HDL.out; omega)).below hb7, HIN5.out.below h56, HT.out.on (HB5.out.trans (h56.mono HB5.out.size))⟩)
  have HWE6 := Lib.hid hw6
  clear ho7 hb6 hb7 hY7 h56 hw6 HB3 HX3 HS HIN HB5 HX5 HS5 HIN5 HD5 HY5
  obtain ⟨b7, hb7⟩ : ∃ b, w6'.heap.size = b := ⟨_, rfl⟩
  rw [hb7] at HF6
  obtain ⟨fr, hfr⟩ : ∃ z, frR R l = z := ⟨_, rfl⟩
  have HFR := Lib.hid hfr
  obtain ⟨fd, hfd⟩ : ∃ z, dgR y D = z := ⟨_, rfl⟩
  have HFD := Lib.hid hfd
  clear hfr hfd
  refine Lib.hid ?_
  go_wp2_with (fail)
  (try rw [hb7])
  (try rw [HWE6.out])
  clear hb7
  have HF7 := Lib.hid (HF6.out.below (show Below w6.heap.size w6 w6.drew from ⟨rfl, rfl, rfl, Nat.le_refl _, fun _ _ => rfl⟩))
  have r0_6 := HF6.out.rs.one0
  have p0_6 := HF6.out.d5.two0
  have p1_6 := HF6.out.d5.two1
  have s0_6 := HF6.out.d7.two0
  have s1_6 := HF6.out.d7.two1
  refine wp_region_noPanic ?_
  refine wp_region_held_drew (S := (fun w' => w'.cell? ⟨bR, 0, none⟩ = some (.slice a R.length c) ∧ w'.cell? ⟨b5, 0, none⟩ = some (.int .i64 y) ∧ w'.cell? ⟨b5, 1, none⟩ = some (.slice a5 D.length c5) ∧ w'.cell? ⟨b7, 0, none⟩ = some (.int .i64 y) ∧ w'.cell? ⟨b7, 1, none⟩ = some (.slice a7 D.length c7))) (by kernel_rfl) ?hSb (fun hHeld => ?hRb)
  case hSb => exact ⟨r0_6, p0_6, p1_6, s0_6, s1_6⟩
  refine wpAnyH_take (i := 0) (v := ?vb0) rfl (by kernel_rfl) (by kernel_rfl) (by kernel_rfl) (fun _ _ _ h => h) (Or.inl ⟨by kernel_rfl, ?hyb0⟩) (by assumption) ?hrb0
  case hyb0 => (intro w' hSw; (try dsimp only at hSw); go_simp; (try with_reducible rfl))
  (try simp only [Act.put, List.getElem_toArray, List.getElem_cons_succ, List.getElem_cons_zero, List.setIfInBounds_toArray, List.set_cons_zero, List.set_cons_succ])
  refine wpAnyH_take (i := 1) (v := ?vb1) rfl (by kernel_rfl) (by kernel_rfl) (by kernel_rfl) (fun _ _ _ h => h) (Or.inl ⟨by kernel_rfl, ?hyb1⟩) (by assumption) ?hrb1
  case hyb1 => (intro w' hSw; (try dsimp only at hSw); go_simp; (try with_reducible rfl))
  (try simp only [Act.put, List.getElem_toArray, List.getElem_cons_succ, List.getElem_cons_zero, List.setIfInBounds_toArray, List.set_cons_zero, List.set_cons_succ])
  refine wpAnyH_take (i := 2) (v := ?vb2) rfl (by kernel_rfl) (by kernel_rfl) (by kernel_rfl) (fun _ _ _ h => h) (Or.inl ⟨by kernel_rfl, ?hyb2⟩) (by assumption) ?hrb2
  case hyb2 => (intro w' hSw; (try dsimp only at hSw); go_simp; (try with_reducible rfl))
  (try simp only [Act.put, List.getElem_toArray, List.getElem_cons_succ, List.getElem_cons_zero, List.setIfInBounds_toArray, List.set_cons_zero, List.set_cons_succ])
  refine wpAnyH_take (i := 3) (v := ?vb3) rfl (by kernel_rfl) (by kernel_rfl) (by kernel_rfl) (fun _ _ _ h => h) (Or.inl ⟨by kernel_rfl, ?hyb3⟩) (by assumption) ?hrb3
  case hyb3 => (intro w' hSw; (try dsimp only at hSw); go_simp; (try with_reducible rfl))
  (try simp only [Act.put, List.getElem_toArray, List.getElem_cons_succ, List.getElem_cons_zero, List.setIfInBounds_toArray, List.set_cons_zero, List.set_cons_succ])
  refine wpAnyH_take (i := 4) (v := ?vb4) rfl (by kernel_rfl) (by kernel_rfl) (by kernel_rfl) (fun _ _ _ h => h) (Or.inl ⟨by kernel_rfl, ?hyb4⟩) (by assumption) ?hrb4
  case hyb4 => (intro w' hSw; (try dsimp only at hSw); go_simp; (try with_reducible rfl))
  (try simp only [Act.put, List.getElem_toArray, List.getElem_cons_succ, List.getElem_cons_zero, List.setIfInBounds_toArray, List.set_cons_zero, List.set_cons_succ])
  refine wpAnyH_take (i := 5) (v := ?vb5) rfl (by kernel_rfl) (by kernel_rfl) (by kernel_rfl) (fun _ _ _ h => h) (Or.inl ⟨by kernel_rfl, ?hyb5⟩) (by assumption) ?hrb5
  case hyb5 => (intro w' hSw; (try dsimp only at hSw); go_simp; (try with_reducible rfl))
  (try simp only [Act.put, List.getElem_toArray, List.getElem_cons_succ, List.getElem_cons_zero, List.setIfInBounds_toArray, List.set_cons_zero, List.set_cons_succ])
  refine wpAnyH_ready (rs := [6]) (by kernel_rfl) (by simp) ?_
  refine AllReadyH.cons rfl (fun K hK => ?_) AllReadyH.nil
  go_simp
  go_at_call 8
  refine (eqd_impl y a5 c5 D y a7 c7 D true _ (by unfold eqDB; simp) HF7.out.s5 HF7.out.s7).mono ?_
  rintro e w8 ⟨rfl, hb⟩
  have HF8 := Lib.hid (HF7.out.below hb)
  have r0_8 := HF8.out.rs.one0
  have p0_8 := HF8.out.d5.two0
  have p1_8 := HF8.out.d5.two1
  have s0_8 := HF8.out.d7.two0
  have s1_8 := HF8.out.d7.two1
  clear hb
  refine hK.out _ _ ?hSb6 (fun hHeld6 => ?hTb6)
  case hSb6 => exact ⟨r0_8, p0_8, p1_8, s0_8, s1_8⟩
  clear hK K
  (try simp only [Act.put, List.getElem_toArray, List.getElem_cons_succ, List.getElem_cons_zero, List.setIfInBounds_toArray, List.set_cons_zero, List.set_cons_succ])
  refine wpAnyH_take (i := 7) (v := ?vb7) rfl (by kernel_rfl) (by kernel_rfl) (by kernel_rfl) (fun _ _ _ h => h) (Or.inl ⟨by kernel_rfl, ?hyb7⟩) (by assumption) ?hrb7
  case hyb7 => (intro w' hSw; (try dsimp only at hSw); go_simp; (try with_reducible rfl))
  (try simp only [Act.put, List.getElem_toArray, List.getElem_cons_succ, List.getElem_cons_zero, List.setIfInBounds_toArray, List.set_cons_zero, List.set_cons_succ])
  refine wpAnyH_take (i := 8) (v := ?vb8) rfl (by kernel_rfl) (by kernel_rfl) (by kernel_rfl) (fun _ _ _ h => h) (Or.inl ⟨by kernel_rfl, ?hyb8⟩) (by assumption) ?hrb8
  case hyb8 => (intro w' hSw; (try dsimp only at hSw); go_simp; (try with_reducible rfl))
  (try simp only [Act.put, List.getElem_toArray, List.getElem_cons_succ, List.getElem_cons_zero, List.setIfInBounds_toArray, List.set_cons_zero, List.set_cons_succ])
  refine wpAnyH_take (i := 9) (v := ?vb9) rfl (by kernel_rfl) (by kernel_rfl) (by kernel_rfl) (fun _ _ _ h => h) (Or.inl ⟨by kernel_rfl, ?hyb9⟩) (by assumption) ?hrb9
  case hyb9 => (intro w' hSw; (try dsimp only at hSw); go_simp; (try with_reducible rfl))
  (try simp only [Act.put, List.getElem_toArray, List.getElem_cons_succ, List.getElem_cons_zero, List.setIfInBounds_toArray, List.set_cons_zero, List.set_cons_succ])
  refine wpAnyH_take (i := 10) (v := ?vb10) rfl (by kernel_rfl) (by kernel_rfl) (by kernel_rfl) (fun _ _ _ h => h) (Or.inl ⟨by kernel_rfl, ?hyb10⟩) (by assumption) ?hrb10
  case hyb10 => (intro w' hSw; (try dsimp only at hSw); go_simp; (try with_reducible rfl))
  (try simp only [Act.put, List.getElem_toArray, List.getElem_cons_succ, List.getElem_cons_zero, List.setIfInBounds_toArray, List.set_cons_zero, List.set_cons_succ])
  refine wpAnyH_take (i := 11) (v := ?vb11) rfl (by kernel_rfl) (by kernel_rfl) (by kernel_rfl) (fun _ _ _ h => h) (Or.inl ⟨by kernel_rfl, ?hyb11⟩) (by assumption) ?hrb11
  case hyb11 => (intro w' hSw; (try dsimp only at hSw); go_simp; (try with_reducible rfl))
  (try simp only [Act.put, List.getElem_toArray, List.getElem_cons_succ, List.getElem_cons_zero, List.setIfInBounds_toArray, List.set_cons_zero, List.set_cons_succ])
  refine wpAnyH_take (i := 13) (v := ?vb13) rfl (by kernel_rfl) (by kernel_rfl) (by kernel_rfl) (fun _ _ _ h => h) (Or.inl ⟨by kernel_rfl, ?hyb13⟩) (by assumption) ?hrb13
  case hyb13 => (intro w' hSw; (try dsimp only at hSw); go_simp; (try with_reducible rfl))
  (try simp only [Act.put, List.getElem_toArray, List.getElem_cons_succ, List.getElem_cons_zero, List.setIfInBounds_toArray, List.set_cons_zero, List.set_cons_succ])
  refine wpAnyH_take (i := 14) (v := ?vb14) rfl (by kernel_rfl) (by kernel_rfl) (by kernel_rfl) (fun _ _ _ h => h) (Or.inl ⟨by kernel_rfl, ?hyb14⟩) (by assumption) ?hrb14
  case hyb14 => (intro w' hSw; (try dsimp only at hSw); go_simp; (try with_reducible rfl))
  (try simp only [Act.put, List.getElem_toArray, List.getElem_cons_succ, List.getElem_cons_zero, List.setIfInBounds_toArray, List.set_cons_zero, List.set_cons_succ])
  refine wpAnyH_ready (rs := [12]) (by kernel_rfl) (by simp) ?_
  refine AllReadyH.cons rfl (fun K hK => ?_) AllReadyH.nil
  go_simp
  go_at_call 9
  refine (fr_impl a c R (some ⟨gx, ox, none⟩) cx l _ _ HF8.out.sr HLX.out HF8.out.vi HFR.out).mono ?_
  rintro e w9 ⟨rfl, hb⟩
  have HF9 := Lib.hid (HF8.out.below hb)
  have r0_9 := HF9.out.rs.one0
  have p0_9 := HF9.out.d5.two0
  have p1_9 := HF9.out.d5.two1
  have s0_9 := HF9.out.d7.two0
  have s1_9 := HF9.out.d7.two1
  clear hb
  refine hK.out _ _ ?hSb12 (fun hHeld12 => ?hTb12)
  case hSb12 => exact ⟨r0_9, p0_9, p1_9, s0_9, s1_9⟩
  clear hK K
  (try simp only [Act.put, List.getElem_toArray, List.getElem_cons_succ, List.getElem_cons_zero, List.setIfInBounds_toArray, List.set_cons_zero, List.set_cons_succ])
  refine wpAnyH_ready (rs := [15]) (by kernel_rfl) (by simp) ?_
  refine AllReadyH.cons rfl (fun K hK => ?_) AllReadyH.nil
  go_simp
  go_at_call 10
  refine (fr_spec a c R (some ⟨gx, ox, none⟩) cx l _ _ HF9.out.sr HLX.out HF9.out.vi HFR.out).mono ?_
  rintro e w10 ⟨rfl, hb⟩
  have HF10 := Lib.hid (HF9.out.below hb)
  have r0_10 := HF10.out.rs.one0
  have p0_10 := HF10.out.d5.two0
  have p1_10 := HF10.out.d5.two1
  have s0_10 := HF10.out.d7.two0
  have s1_10 := HF10.out.d7.two1
  clear hb
  refine hK.out _ _ ?hSb15 (fun hHeld15 => ?hTb15)
  case hSb15 => exact ⟨r0_10, p0_10, p1_10, s0_10, s1_10⟩
  clear hK K
  (try simp only [Act.put, List.getElem_toArray, List.getElem_cons_succ, List.getElem_cons_zero, List.setIfInBounds_toArray, List.set_cons_zero, List.set_cons_succ])
  refine wpAnyH_take (i := 16) (v := ?vb16) rfl (by kernel_rfl) (by kernel_rfl) (by kernel_rfl) (fun _ _ _ h => h) (Or.inl ⟨by kernel_rfl, ?hyb16⟩) (by assumption) ?hrb16
  case hyb16 => (intro w' hSw; (try dsimp only at hSw); go_simp; (try with_reducible rfl))
  (try simp only [Act.put, List.getElem_toArray, List.getElem_cons_succ, List.getElem_cons_zero, List.setIfInBounds_toArray, List.set_cons_zero, List.set_cons_succ])
  refine wpAnyH_take (i := 17) (v := ?vb17) rfl (by kernel_rfl) (by kernel_rfl) (by kernel_rfl) (fun _ _ _ h => h) (Or.inl ⟨by kernel_rfl, ?hyb17⟩) (by assumption) ?hrb17
  case hyb17 => (intro w' hSw; (try dsimp only at hSw); go_simp; (try with_reducible rfl))
  (try simp only [Act.put, List.getElem_toArray, List.getElem_cons_succ, List.getElem_cons_zero, List.setIfInBounds_toArray, List.set_cons_zero, List.set_cons_succ])
  refine wpAnyH_take (i := 18) (v := ?vb18) rfl (by kernel_rfl) (by kernel_rfl) (by kernel_rfl) (fun _ _ _ h => h) (Or.inl ⟨by kernel_rfl, ?hyb18⟩) (by assumption) ?hrb18
  case hyb18 => (intro w' hSw; (try dsimp only at hSw); go_simp; (try with_reducible rfl))
  (try simp only [Act.put, List.getElem_toArray, List.getElem_cons_succ, List.getElem_cons_zero, List.setIfInBounds_toArray, List.set_cons_zero, List.set_cons_succ])
  refine wpAnyH_take (i := 19) (v := ?vb19) rfl (by kernel_rfl) (by kernel_rfl) (by kernel_rfl) (fun _ _ _ h => h) (Or.inl ⟨by kernel_rfl, ?hyb19⟩) (by assumption) ?hrb19
  case hyb19 => (intro w' hSw; (try dsimp only at hSw); go_simp; (try with_reducible rfl))
  (try simp only [Act.put, List.getElem_toArray, List.getElem_cons_succ, List.getElem_cons_zero, List.setIfInBounds_toArray, List.set_cons_zero, List.set_cons_succ])
  refine wpAnyH_take (i := 21) (v := ?vb21) rfl (by kernel_rfl) (by kernel_rfl) (by kernel_rfl) (fun _ _ _ h => h) (Or.inl ⟨by kernel_rfl, ?hyb21⟩) (by assumption) ?hrb21
  case hyb21 => (intro w' hSw; (try dsimp only at hSw); go_simp; (try with_reducible rfl))
  (try simp only [Act.put, List.getElem_toArray, List.getElem_cons_succ, List.getElem_cons_zero, List.setIfInBounds_toArray, List.set_cons_zero, List.set_cons_succ])
  refine wpAnyH_ready (rs := [20]) (by kernel_rfl) (by simp) ?_
  refine AllReadyH.cons rfl (fun K hK => ?_) AllReadyH.nil
  go_simp
  go_at_call 11
  refine (fd_impl y a5 c5 D _ _ HFD.out HF10.out.s5 HF10.out.tab).mono ?_
  rintro e w11 ⟨rfl, hb⟩
  have HF11 := Lib.hid (HF10.out.below hb)
  have r0_11 := HF11.out.rs.one0
  have p0_11 := HF11.out.d5.two0
  have p1_11 := HF11.out.d5.two1
  have s0_11 := HF11.out.d7.two0
  have s1_11 := HF11.out.d7.two1
  clear hb
  refine hK.out _ _ ?hSb20 (fun hHeld20 => ?hTb20)
  case hSb20 => exact ⟨r0_11, p0_11, p1_11, s0_11, s1_11⟩
  clear hK K
  (try simp only [Act.put, List.getElem_toArray, List.getElem_cons_succ, List.getElem_cons_zero, List.setIfInBounds_toArray, List.set_cons_zero, List.set_cons_succ])
  refine wpAnyH_ready (rs := [22]) (by kernel_rfl) (by simp) ?_
  refine AllReadyH.cons rfl (fun K hK => ?_) AllReadyH.nil
  go_simp
  go_at_call 12
  refine (fd_spec y a7 c7 D _ _ HFD.out HF11.out.s7).mono ?_
  rintro e w12 ⟨rfl, hb⟩
  have HF12 := Lib.hid (HF11.out.below hb)
  have r0_12 := HF12.out.rs.one0
  have p0_12 := HF12.out.d5.two0
  have p1_12 := HF12.out.d5.two1
  have s0_12 := HF12.out.d7.two0
  have s1_12 := HF12.out.d7.two1
  clear hb
  refine hK.out _ _ ?hSb22 (fun hHeld22 => ?hTb22)
  case hSb22 => exact ⟨r0_12, p0_12, p1_12, s0_12, s1_12⟩
  clear hK K
  (try simp only [Act.put, List.getElem_toArray, List.getElem_cons_succ, List.getElem_cons_zero, List.setIfInBounds_toArray, List.set_cons_zero, List.set_cons_succ])
  refine wpAnyH_take (i := 23) (v := ?vb23) rfl (by kernel_rfl) (by kernel_rfl) (by kernel_rfl) (fun _ _ _ h => h) (Or.inl ⟨by kernel_rfl, ?hyb23⟩) (by assumption) ?hrb23
  case hyb23 => (intro w' hSw; (try dsimp only at hSw); go_simp; (try with_reducible rfl))
  (try simp only [Act.put, List.getElem_toArray, List.getElem_cons_succ, List.getElem_cons_zero, List.setIfInBounds_toArray, List.set_cons_zero, List.set_cons_succ])
  refine wpAnyH_take (i := 24) (v := ?vb24) rfl (by kernel_rfl) (by kernel_rfl) (by kernel_rfl) (fun _ _ _ h => h) (Or.inl ⟨by kernel_rfl, ?hyb24⟩) (by assumption) ?hrb24
  case hyb24 => (intro w' hSw; (try dsimp only at hSw); go_simp; (try with_reducible rfl))
  (try simp only [Act.put, List.getElem_toArray, List.getElem_cons_succ, List.getElem_cons_zero, List.setIfInBounds_toArray, List.set_cons_zero, List.set_cons_succ])
  refine wpAnyH_done (by kernel_rfl) ?_ _
  refine NoPanic.normal ?_
  refine Lib.hid ?_
  have HCODE2 := Lib.hid (show CodeAt w12 w12.heap.size A0 len from (HCODE.out.keep (fun k hk => HF12.out.low.block k hk)).more HF12.out.low.size)
  go_wp2_with (go_at_call 13; ((with_reducible refine (evdraw_any A0 len cap _ HCODE2.out rules_any).mono ?_); rintro e we ⟨z, a9, c9, E, v, gv, ov, cv, rfl, ho, hsm, hl6, hin, hbe⟩; refine Hid.out ?_))
  obtain ⟨w20, hw20⟩ : ∃ w20, we.alloc (.cells #[.int .i64 z, .slice a9 E.length c9] 32) = w20 := ⟨_, rfl⟩
  have hb20 : Below we.heap.size we w20 := by rw [← hw20]; exact (Below.refl _ _).alloc (Nat.le_refl _) _
  have HF20 := Lib.hid (show FdQ w bR b5 b7 a c R y a5 c5 a7 c7 D (some ⟨gx, ox, none⟩) l we.heap.size z a9 c9 E (some ⟨gv, ov, none⟩) v w20 from ⟨(HF12.out.below hbe).below hb20, by rw [← hw20]; exact BlkV.new _ _ _, (ho.smDn (by omega)).below hb20, hin.below hb20⟩)
  have HLV := Lib.hid (show v.length ≤ 4000000 by omega)
  have HW20 := Lib.hid hw20
  clear ho hsm hl6 hin hbe hb20 hw20
  obtain ⟨b9, hb9⟩ : ∃ b, we.heap.size = b := ⟨_, rfl⟩
  rw [hb9] at HF20
  obtain ⟨ev, hev⟩ : ∃ r, evR z E v = r := ⟨_, rfl⟩
  obtain ⟨tv, htv⟩ : ∃ r, teR z E v = r := ⟨_, rfl⟩
  obtain ⟨dv, hdv⟩ : ∃ r, dgB z E = r := ⟨_, rfl⟩
  have HEV := Lib.hid hev
  have HTV := Lib.hid htv
  have HDV := Lib.hid hdv
  clear hev htv hdv
  refine Lib.hid ?_
  go_wp2_with (fail)
  (try rw [hb9])
  (try rw [HW20.out])
  clear hb9
  have HF21 := Lib.hid (HF20.out.below (show Below w20.heap.size w20 w20.drew from ⟨rfl, rfl, rfl, Nat.le_refl _, fun _ _ => rfl⟩))
  have r0_20 := HF20.out.rs.one0
  have p0_20 := HF20.out.d5.two0
  have p1_20 := HF20.out.d5.two1
  have s0_20 := HF20.out.d7.two0
  have s1_20 := HF20.out.d7.two1
  have v0_20 := HF20.out.d9.two0
  have v1_20 := HF20.out.d9.two1
  refine wp_region_noPanic ?_
  refine wp_region_held_drew (S := (fun w' => w'.cell? ⟨bR, 0, none⟩ = some (.slice a R.length c) ∧ w'.cell? ⟨b5, 0, none⟩ = some (.int .i64 y) ∧ w'.cell? ⟨b5, 1, none⟩ = some (.slice a5 D.length c5) ∧ w'.cell? ⟨b7, 0, none⟩ = some (.int .i64 y) ∧ w'.cell? ⟨b7, 1, none⟩ = some (.slice a7 D.length c7) ∧ w'.cell? ⟨b9, 0, none⟩ = some (.int .i64 z) ∧ w'.cell? ⟨b9, 1, none⟩ = some (.slice a9 E.length c9))) (by kernel_rfl) ?hSc (fun hHeld => ?hRc)
  case hSc => exact ⟨r0_20, p0_20, p1_20, s0_20, s1_20, v0_20, v1_20⟩
  refine wpAnyH_take (i := 0) (v := ?vc0) rfl (by kernel_rfl) (by kernel_rfl) (by kernel_rfl) (fun _ _ _ h => h) (Or.inl ⟨by kernel_rfl, ?hyc0⟩) (by assumption) ?hrc0
  case hyc0 => (intro w' hSw; (try dsimp only at hSw); go_simp; (try with_reducible rfl))
  (try simp only [Act.put, List.getElem_toArray, List.getElem_cons_succ, List.getElem_cons_zero, List.setIfInBounds_toArray, List.set_cons_zero, List.set_cons_succ])
  refine wpAnyH_take (i := 1) (v := ?vc1) rfl (by kernel_rfl) (by kernel_rfl) (by kernel_rfl) (fun _ _ _ h => h) (Or.inl ⟨by kernel_rfl, ?hyc1⟩) (by assumption) ?hrc1
  case hyc1 => (intro w' hSw; (try dsimp only at hSw); go_simp; (try with_reducible rfl))
  (try simp only [Act.put, List.getElem_toArray, List.getElem_cons_succ, List.getElem_cons_zero, List.setIfInBounds_toArray, List.set_cons_zero, List.set_cons_succ])
  refine wpAnyH_take (i := 3) (v := ?vc3) rfl (by kernel_rfl) (by kernel_rfl) (by kernel_rfl) (fun _ _ _ h => h) (Or.inl ⟨by kernel_rfl, ?hyc3⟩) (by assumption) ?hrc3
  case hyc3 => (intro w' hSw; (try dsimp only at hSw); go_simp; (try with_reducible rfl))
  (try simp only [Act.put, List.getElem_toArray, List.getElem_cons_succ, List.getElem_cons_zero, List.setIfInBounds_toArray, List.set_cons_zero, List.set_cons_succ])
  refine wpAnyH_take (i := 4) (v := ?vc4) rfl (by kernel_rfl) (by kernel_rfl) (by kernel_rfl) (fun _ _ _ h => h) (Or.inl ⟨by kernel_rfl, ?hyc4⟩) (by assumption) ?hrc4
  case hyc4 => (intro w' hSw; (try dsimp only at hSw); go_simp; (try with_reducible rfl))
  (try simp only [Act.put, List.getElem_toArray, List.getElem_cons_succ, List.getElem_cons_zero, List.setIfInBounds_toArray, List.set_cons_zero, List.set_cons_succ])
  refine wpAnyH_ready (rs := [2]) (by kernel_rfl) (by simp) ?_
  refine AllReadyH.cons rfl (fun K hK => ?_) AllReadyH.nil
  go_simp
  go_at_call 14
  refine (ev_impl z a9 c9 E (some ⟨gv, ov, none⟩) cv v _ _ HEV.out HF21.out.s9 HLV.out HF21.out.v9).mono ?_
  rintro e w22 ⟨rfl, hb⟩
  have HF22 := Lib.hid (HF21.out.below hb)
  have r0_22 := HF22.out.rs.one0
  have p0_22 := HF22.out.d5.two0
  have p1_22 := HF22.out.d5.two1
  have s0_22 := HF22.out.d7.two0
  have s1_22 := HF22.out.d7.two1
  have v0_22 := HF22.out.d9.two0
  have v1_22 := HF22.out.d9.two1
  clear hb
  refine hK.out _ _ ?hSc2 (fun hHeld2 => ?hTc2)
  case hSc2 => exact ⟨r0_22, p0_22, p1_22, s0_22, s1_22, v0_22, v1_22⟩
  clear hK K
  (try simp only [Act.put, List.getElem_toArray, List.getElem_cons_succ, List.getElem_cons_zero, List.setIfInBounds_toArray, List.set_cons_zero, List.set_cons_succ])
  refine wpAnyH_ready (rs := [5]) (by kernel_rfl) (by simp) ?_
  refine AllReadyH.cons rfl (fun K hK => ?_) AllReadyH.nil
  go_simp
  go_at_call 15
  refine (ev_spec z a9 c9 E (some ⟨gv, ov, none⟩) cv v _ _ HEV.out HF22.out.s9 HLV.out HF22.out.v9).mono ?_
  rintro e w23 ⟨rfl, hb⟩
  have HF23 := Lib.hid (HF22.out.below hb)
  have r0_23 := HF23.out.rs.one0
  have p0_23 := HF23.out.d5.two0
  have p1_23 := HF23.out.d5.two1
  have s0_23 := HF23.out.d7.two0
  have s1_23 := HF23.out.d7.two1
  have v0_23 := HF23.out.d9.two0
  have v1_23 := HF23.out.d9.two1
  clear hb
  refine hK.out _ _ ?hSc5 (fun hHeld5 => ?hTc5)
  case hSc5 => exact ⟨r0_23, p0_23, p1_23, s0_23, s1_23, v0_23, v1_23⟩
  clear hK K
  (try simp only [Act.put, List.getElem_toArray, List.getElem_cons_succ, List.getElem_cons_zero, List.setIfInBounds_toArray, List.set_cons_zero, List.set_cons_succ])
  refine wpAnyH_take (i := 6) (v := ?vc6) rfl (by kernel_rfl) (by kernel_rfl) (by kernel_rfl) (fun _ _ _ h => h) (Or.inl ⟨by kernel_rfl, ?hyc6⟩) (by assumption) ?hrc6
  case hyc6 => (intro w' hSw; (try dsimp only at hSw); go_simp; (try with_reducible rfl))
  (try simp only [Act.put, List.getElem_toArray, List.getElem_cons_succ, List.getElem_cons_zero, List.setIfInBounds_toArray, List.set_cons_zero, List.set_cons_succ])
  refine wpAnyH_take (i := 7) (v := ?vc7) rfl (by kernel_rfl) (by kernel_rfl) (by kernel_rfl) (fun _ _ _ h => h) (Or.inl ⟨by kernel_rfl, ?hyc7⟩) (by assumption) ?hrc7
  case hyc7 => (intro w' hSw; (try dsimp only at hSw); go_simp; (try with_reducible rfl))
  (try simp only [Act.put, List.getElem_toArray, List.getElem_cons_succ, List.getElem_cons_zero, List.setIfInBounds_toArray, List.set_cons_zero, List.set_cons_succ])
  refine wpAnyH_take (i := 8) (v := ?vc8) rfl (by kernel_rfl) (by kernel_rfl) (by kernel_rfl) (fun _ _ _ h => h) (Or.inl ⟨by kernel_rfl, ?hyc8⟩) (by assumption) ?hrc8
  case hyc8 => (intro w' hSw; (try dsimp only at hSw); go_simp; (try with_reducible rfl))
  (try simp only [Act.put, List.getElem_toArray, List.getElem_cons_succ, List.getElem_cons_zero, List.setIfInBounds_toArray, List.set_cons_zero, List.set_cons_succ])
  refine wpAnyH_take (i := 9) (v := ?vc9) rfl (by kernel_rfl) (by kernel_rfl) (by kernel_rfl) (fun _ _ _ h => h) (Or.inl ⟨by kernel_rfl, ?hyc9⟩) (by assumption) ?hrc9
  case hyc9 => (intro w' hSw; (try dsimp only at hSw); go_simp; (try with_reducible rfl))
  (try simp only [Act.put, List.getElem_toArray, List.getElem_cons_succ, List.getElem_cons_zero, List.setIfInBounds_toArray, List.set_cons_zero, List.set_cons_succ])
  refine wpAnyH_take (i := 11) (v := ?vc11) rfl (by kernel_rfl) (by kernel_rfl) (by kernel_rfl) (fun _ _ _ h => h) (Or.inl ⟨by kernel_rfl, ?hyc11⟩) (by assumption) ?hrc11
  case hyc11 => (intro w' hSw; (try dsimp only at hSw); go_simp; (try with_reducible rfl))
  (try simp only [Act.put, List.getElem_toArray, List.getElem_cons_succ, List.getElem_cons_zero, List.setIfInBounds_toArray, List.set_cons_zero, List.set_cons_succ])
  refine wpAnyH_take (i := 12) (v := ?vc12) rfl (by kernel_rfl) (by kernel_rfl) (by kernel_rfl) (fun _ _ _ h => h) (Or.inl ⟨by kernel_rfl, ?hyc12⟩) (by assumption) ?hrc12
  case hyc12 => (intro w' hSw; (try dsimp only at hSw); go_simp; (try with_reducible rfl))
  (try simp only [Act.put, List.getElem_toArray, List.getElem_cons_succ, List.getElem_cons_zero, List.setIfInBounds_toArray, List.set_cons_zero, List.set_cons_succ])
  refine wpAnyH_ready (rs := [10]) (by kernel_rfl) (by simp) ?_
  refine AllReadyH.cons rfl (fun K hK => ?_) AllReadyH.nil
  go_simp
  go_at_call 16
  refine (te_impl z a9 c9 E (some ⟨gv, ov, none⟩) cv v _ _ HTV.out HF23.out.s9 HLV.out HF23.out.v9).mono ?_
  rintro e w24 ⟨rfl, hb⟩
  have HF24 := Lib.hid (HF23.out.below hb)
  have r0_24 := HF24.out.rs.one0
  have p0_24 := HF24.out.d5.two0
  have p1_24 := HF24.out.d5.two1
  have s0_24 := HF24.out.d7.two0
  have s1_24 := HF24.out.d7.two1
  have v0_24 := HF24.out.d9.two0
  have v1_24 := HF24.out.d9.two1
  clear hb
  refine hK.out _ _ ?hSc10 (fun hHeld10 => ?hTc10)
  case hSc10 => exact ⟨r0_24, p0_24, p1_24, s0_24, s1_24, v0_24, v1_24⟩
  clear hK K
  (try simp only [Act.put, List.getElem_toArray, List.getElem_cons_succ, List.getElem_cons_zero, List.setIfInBounds_toArray, List.set_cons_zero, List.set_cons_succ])
  refine wpAnyH_ready (rs := [13]) (by kernel_rfl) (by simp) ?_
  refine AllReadyH.cons rfl (fun K hK => ?_) AllReadyH.nil
  go_simp
  go_at_call 17
  refine (te_spec z a9 c9 E (some ⟨gv, ov, none⟩) cv v _ _ HTV.out HF24.out.s9 HLV.out HF24.out.v9).mono ?_
  rintro e w25 ⟨rfl, hb⟩
  have HF25 := Lib.hid (HF24.out.below hb)
  have r0_25 := HF25.out.rs.one0
  have p0_25 := HF25.out.d5.two0
  have p1_25 := HF25.out.d5.two1
  have s0_25 := HF25.out.d7.two0
  have s1_25 := HF25.out.d7.two1
  have v0_25 := HF25.out.d9.two0
  have v1_25 := HF25.out.d9.two1
  clear hb
  refine hK.out _ _ ?hSc13 (fun hHeld13 => ?hTc13)
  case hSc13 => exact ⟨r0_25, p0_25, p1_25, s0_25, s1_25, v0_25, v1_25⟩
  clear hK K
  (try simp only [Act.put, List.getElem_toArray, List.getElem_cons_succ, List.getElem_cons_zero, List.setIfInBounds_toArray, List.set_cons_zero, List.set_cons_succ])
  refine wpAnyH_take (i := 14) (v := ?vc14) rfl (by kernel_rfl) (by kernel_rfl) (by kernel_rfl) (fun _ _ _ h => h) (Or.inl ⟨by kernel_rfl, ?hyc14⟩) (by assumption) ?hrc14
  case hyc14 => (intro w' hSw; (try dsimp only at hSw); go_simp; (try with_reducible rfl))
  (try simp only [Act.put, List.getElem_toArray, List.getElem_cons_succ, List.getElem_cons_zero, List.setIfInBounds_toArray, List.set_cons_zero, List.set_cons_succ])
  refine wpAnyH_take (i := 15) (v := ?vc15) rfl (by kernel_rfl) (by kernel_rfl) (by kernel_rfl) (fun _ _ _ h => h) (Or.inl ⟨by kernel_rfl, ?hyc15⟩) (by assumption) ?hrc15
  case hyc15 => (intro w' hSw; (try dsimp only at hSw); go_simp; (try with_reducible rfl))
  (try simp only [Act.put, List.getElem_toArray, List.getElem_cons_succ, List.getElem_cons_zero, List.setIfInBounds_toArray, List.set_cons_zero, List.set_cons_succ])
  refine wpAnyH_take (i := 16) (v := ?vc16) rfl (by kernel_rfl) (by kernel_rfl) (by kernel_rfl) (fun _ _ _ h => h) (Or.inl ⟨by kernel_rfl, ?hyc16⟩) (by assumption) ?hrc16
  case hyc16 => (intro w' hSw; (try dsimp only at hSw); go_simp; (try with_reducible rfl))
  (try simp only [Act.put, List.getElem_toArray, List.getElem_cons_succ, List.getElem_cons_zero, List.setIfInBounds_toArray, List.set_cons_zero, List.set_cons_succ])
  refine wpAnyH_take (i := 17) (v := ?vc17) rfl (by kernel_rfl) (by kernel_rfl) (by kernel_rfl) (fun _ _ _ h => h) (Or.inl ⟨by kernel_rfl, ?hyc17⟩) (by assumption) ?hrc17
  case hyc17 => (intro w' hSw; (try dsimp only at hSw); go_simp; (try with_reducible rfl))
  (try simp only [Act.put, List.getElem_toArray, List.getElem_cons_succ, List.getElem_cons_zero, List.setIfInBounds_toArray, List.set_cons_zero, List.set_cons_succ])
  refine wpAnyH_take (i := 19) (v := ?vc19) rfl (by kernel_rfl) (by kernel_rfl) (by kernel_rfl) (fun _ _ _ h => h) (Or.inl ⟨by kernel_rfl, ?hyc19⟩) (by assumption) ?hrc19
  case hyc19 => (intro w' hSw; (try dsimp only at hSw); go_simp; (try with_reducible rfl))
  (try simp only [Act.put, List.getElem_toArray, List.getElem_cons_succ, List.getElem_cons_zero, List.setIfInBounds_toArray, List.set_cons_zero, List.set_cons_succ])
  refine wpAnyH_ready (rs := [18]) (by kernel_rfl) (by simp) ?_
  refine AllReadyH.cons rfl (fun K hK => ?_) AllReadyH.nil
  go_simp
  go_at_call 18
  refine (dg_impl z a9 c9 E _ _ HDV.out HF25.out.s9).mono ?_
  rintro e w26 ⟨rfl, hb⟩
  have HF26 := Lib.hid (HF25.out.below hb)
  have r0_26 := HF26.out.rs.one0
  have p0_26 := HF26.out.d5.two0
  have p1_26 := HF26.out.d5.two1
  have s0_26 := HF26.out.d7.two0
  have s1_26 := HF26.out.d7.two1
  have v0_26 := HF26.out.d9.two0
  have v1_26 := HF26.out.d9.two1
  clear hb
  refine hK.out _ _ ?hSc18 (fun hHeld18 => ?hTc18)
  case hSc18 => exact ⟨r0_26, p0_26, p1_26, s0_26, s1_26, v0_26, v1_26⟩
  clear hK K
  (try simp only [Act.put, List.getElem_toArray, List.getElem_cons_succ, List.getElem_cons_zero, List.setIfInBounds_toArray, List.set_cons_zero, List.set_cons_succ])
  refine wpAnyH_ready (rs := [20]) (by kernel_rfl) (by simp) ?_
  refine AllReadyH.cons rfl (fun K hK => ?_) AllReadyH.nil
  go_simp
  go_at_call 19
  refine (dg_spec z a9 c9 E _ _ HDV.out HF26.out.s9).mono ?_
  rintro e w27 ⟨rfl, hb⟩
  have HF27 := Lib.hid (HF26.out.below hb)
  have r0_27 := HF27.out.rs.one0
  have p0_27 := HF27.out.d5.two0
  have p1_27 := HF27.out.d5.two1
  have s0_27 := HF27.out.d7.two0
  have s1_27 := HF27.out.d7.two1
  have v0_27 := HF27.out.d9.two0
  have v1_27 := HF27.out.d9.two1
  clear hb
  refine hK.out _ _ ?hSc20 (fun hHeld20 => ?hTc20)
  case hSc20 => exact ⟨r0_27, p0_27, p1_27, s0_27, s1_27, v0_27, v1_27⟩
  clear hK K
  (try simp only [Act.put, List.getElem_toArray, List.getElem_cons_succ, List.getElem_cons_zero, List.setIfInBounds_toArray, List.set_cons_zero, List.set_cons_succ])
  refine wpAnyH_take (i := 21) (v := ?vc21) rfl (by kernel_rfl) (by kernel_rfl) (by kernel_rfl) (fun _ _ _ h => h) (Or.inl ⟨by kernel_rfl, ?hyc21⟩) (by assumption) ?hrc21
  case hyc21 => (intro w' hSw; (try dsimp only at hSw); go_simp; (try with_reducible rfl))
  (try simp only [Act.put, List.getElem_toArray, List.getElem_cons_succ, List.getElem_cons_zero, List.setIfInBounds_toArray, List.set_cons_zero, List.set_cons_succ])
  refine wpAnyH_take (i := 22) (v := ?vc22) rfl (by kernel_rfl) (by kernel_rfl) (by kernel_rfl) (fun _ _ _ h => h) (Or.inl ⟨by kernel_rfl, ?hyc22⟩) (by assumption) ?hrc22
  case hyc22 => (intro w' hSw; (try dsimp only at hSw); go_simp; (try with_reducible rfl))
  (try simp only [Act.put, List.getElem_toArray, List.getElem_cons_succ, List.getElem_cons_zero, List.setIfInBounds_toArray, List.set_cons_zero, List.set_cons_succ])
  refine wpAnyH_done (by kernel_rfl) ?_ _
  refine NoPanic.normal ?_
  obtain ⟨w28, hwq⟩ : ∃ x, x = w27 := ⟨_, rfl⟩
  have HF28 := Lib.hid (show FdP w bR b5 b7 a c R y a5 c5 a7 c7 D (some ⟨gx, ox, none⟩) l w28 by rw [hwq]; exact HF27.out.toFdP)
  refine Lib.hid ?_
  go_wp2_with (fail)
  rw [← hwq]
  clear hwq
  cases rb
  · skip
    have HF29 := Lib.hid (HF28.out.below (show Below w28.heap.size w28 w28.drew from ⟨rfl, rfl, rfl, Nat.le_refl _, fun _ _ => rfl⟩))
    have r0_28 := HF28.out.rs.one0
    have p0_28 := HF28.out.d5.two0
    have p1_28 := HF28.out.d5.two1
    refine wp_region_noPanic ?_
    refine wp_region_held_drew (S := (fun w' => w'.cell? ⟨bR, 0, none⟩ = some (.slice a R.length c) ∧ w'.cell? ⟨b5, 0, none⟩ = some (.int .i64 y) ∧ w'.cell? ⟨b5, 1, none⟩ = some (.slice a5 D.length c5))) (by kernel_rfl) ?hSe (fun hHeld => ?hRe)
    case hSe => exact ⟨r0_28, p0_28, p1_28⟩
    refine wpAnyH_take (i := 0) (v := ?ve0) rfl (by kernel_rfl) (by kernel_rfl) (by kernel_rfl) (fun _ _ _ h => h) (Or.inl ⟨by kernel_rfl, ?hye0⟩) (by assumption) ?hre0
    case hye0 => (intro w' hSw; (try dsimp only at hSw); go_simp; (try with_reducible rfl))
    (try simp only [Act.put, List.getElem_toArray, List.getElem_cons_succ, List.getElem_cons_zero, List.setIfInBounds_toArray, List.set_cons_zero, List.set_cons_succ])
    refine wpAnyH_take (i := 1) (v := ?ve1) rfl (by kernel_rfl) (by kernel_rfl) (by kernel_rfl) (fun _ _ _ h => h) (Or.inl ⟨by kernel_rfl, ?hye1⟩) (by assumption) ?hre1
    case hye1 => (intro w' hSw; (try dsimp only at hSw); go_simp; (try with_reducible rfl))
    (try simp only [Act.put, List.getElem_toArray, List.getElem_cons_succ, List.getElem_cons_zero, List.setIfInBounds_toArray, List.set_cons_zero, List.set_cons_succ])
    refine wpAnyH_take (i := 2) (v := ?ve2) rfl (by kernel_rfl) (by kernel_rfl) (by kernel_rfl) (fun _ _ _ h => h) (Or.inl ⟨by kernel_rfl, ?hye2⟩) (by assumption) ?hre2
    case hye2 => (intro w' hSw; (try dsimp only at hSw); go_simp; (try with_reducible rfl))
    (try simp only [Act.put, List.getElem_toArray, List.getElem_cons_succ, List.getElem_cons_zero, List.setIfInBounds_toArray, List.set_cons_zero, List.set_cons_succ])
    refine wpAnyH_take (i := 3) (v := undef) rfl (by kernel_rfl) (by kernel_rfl) (by kernel_rfl) (fun _ _ _ h => h) (Or.inr ⟨by kernel_rfl, rfl⟩) (by assumption) ?_
    (try simp only [Act.put, List.getElem_toArray, List.getElem_cons_succ, List.getElem_cons_zero, List.setIfInBounds_toArray, List.set_cons_zero, List.set_cons_succ])
    refine wpAnyH_take (i := 4) (v := undef) rfl (by kernel_rfl) (by kernel_rfl) (by kernel_rfl) (fun _ _ _ h => h) (Or.inr ⟨by kernel_rfl, rfl⟩) (by assumption) ?_
    (try simp only [Act.put, List.getElem_toArray, List.getElem_cons_succ, List.getElem_cons_zero, List.setIfInBounds_toArray, List.set_cons_zero, List.set_cons_succ])
    refine wpAnyH_take (i := 5) (v := undef) rfl (by kernel_rfl) (by kernel_rfl) (by kernel_rfl) (fun _ _ _ h => h) (Or.inr ⟨by kernel_rfl, rfl⟩) (by assumption) ?_
    (try simp only [Act.put, List.getElem_toArray, List.getElem_cons_succ, List.getElem_cons_zero, List.setIfInBounds_toArray, List.set_cons_zero, List.set_cons_succ])
    refine wpAnyH_take (i := 6) (v := undef) rfl (by kernel_rfl) (by kernel_rfl) (by kernel_rfl) (fun _ _ _ h => h) (Or.inr ⟨by kernel_rfl, rfl⟩) (by assumption) ?_
    (try simp only [Act.put, List.getElem_toArray, List.getElem_cons_succ, List.getElem_cons_zero, List.setIfInBounds_toArray, List.set_cons_zero, List.set_cons_succ])
    refine wpAnyH_take (i := 7) (v := undef) rfl (by kernel_rfl) (by kernel_rfl) (by kernel_rfl) (fun _ _ _ h => h) (Or.inr ⟨by kernel_rfl, rfl⟩) (by assumption) ?_
    (try simp only [Act.put, List.getElem_toArray, List.getElem_cons_succ, List.getElem_cons_zero, List.setIfInBounds_toArray, List.set_cons_zero, List.set_cons_succ])
    refine wpAnyH_take (i := 8) (v := undef) rfl (by kernel_rfl) (by kernel_rfl) (by kernel_rfl) (fun _ _ _ h => h) (Or.inr ⟨by kernel_rfl, rfl⟩) (by assumption) ?_
    (try simp only [Act.put, List.getElem_toArray, List.getElem_cons_succ, List.getElem_cons_zero, List.setIfInBounds_toArray, List.set_cons_zero, List.set_cons_succ])
    refine wpAnyH_take (i := 9) (v := undef) rfl (by kernel_rfl) (by kernel_rfl) (by kernel_rfl) (fun _ _ _ h => h) (Or.inr ⟨by kernel_rfl, rfl⟩) (by assumption) ?_
    (try simp only [Act.put, List.getElem_toArray, List.getElem_cons_succ, List.getElem_cons_zero, List.setIfInBounds_toArray, List.set_cons_zero, List.set_cons_succ])
    refine wpAnyH_take (i := 10) (v := undef) rfl (by kernel_rfl) (by kernel_rfl) (by kernel_rfl) (fun _ _ _ h => h) (Or.inr ⟨by kernel_rfl, rfl⟩) (by assumption) ?_
    (try simp only [Act.put, List.getElem_toArray, List.getElem_cons_succ, List.getElem_cons_zero, List.setIfInBounds_toArray, List.set_cons_zero, List.set_cons_succ])
    refine wpAnyH_take (i := 11) (v := undef) rfl (by kernel_rfl) (by kernel_rfl) (by kernel_rfl) (fun _ _ _ h => h) (Or.inr ⟨by kernel_rfl, rfl⟩) (by assumption) ?_
    (try simp only [Act.put, List.getElem_toArray, List.getElem_cons_succ, List.getElem_cons_zero, List.setIfInBounds_toArray, List.set_cons_zero, List.set_cons_succ])
    refine wpAnyH_take (i := 12) (v := undef) rfl (by kernel_rfl) (by kernel_rfl) (by kernel_rfl) (fun _ _ _ h => h) (Or.inr ⟨by kernel_rfl, rfl⟩) (by assumption) ?_
    (try simp only [Act.put, List.getElem_toArray, List.getElem_cons_succ, List.getElem_cons_zero, List.setIfInBounds_toArray, List.set_cons_zero, List.set_cons_succ])
    refine wpAnyH_take (i := 13) (v := undef) rfl (by kernel_rfl) (by kernel_rfl) (by kernel_rfl) (fun _ _ _ h => h) (Or.inr ⟨by kernel_rfl, rfl⟩) (by assumption) ?_
    (try simp only [Act.put, List.getElem_toArray, List.getElem_cons_succ, List.getElem_cons_zero, List.setIfInBounds_toArray, List.set_cons_zero, List.set_cons_succ])
    refine wpAnyH_take (i := 14) (v := undef) rfl (by kernel_rfl) (by kernel_rfl) (by kernel_rfl) (fun _ _ _ h => h) (Or.inr ⟨by kernel_rfl, rfl⟩) (by assumption) ?_
    (try simp only [Act.put, List.getElem_toArray, List.getElem_cons_succ, List.getElem_cons_zero, List.setIfInBounds_toArray, List.set_cons_zero, List.set_cons_succ])
    refine wpAnyH_take (i := 15) (v := undef) rfl (by kernel_rfl) (by kernel_rfl) (by kernel_rfl) (fun _ _ _ h => h) (Or.inr ⟨by kernel_rfl, rfl⟩) (by assumption) ?_
    (try simp only [Act.put, List.getElem_toArray, List.getElem_cons_succ, List.getElem_cons_zero, List.setIfInBounds_toArray, List.set_cons_zero, List.set_cons_succ])
    refine wpAnyH_take (i := 16) (v := undef) rfl (by kernel_rfl) (by kernel_rfl) (by kernel_rfl) (fun _ _ _ h => h) (Or.inr ⟨by kernel_rfl, rfl⟩) (by assumption) ?_
    (try simp only [Act.put, List.getElem_toArray, List.getElem_cons_succ, List.getElem_cons_zero, List.setIfInBounds_toArray, List.set_cons_zero, List.set_cons_succ])
    refine wpAnyH_take (i := 17) (v := undef) rfl (by kernel_rfl) (by kernel_rfl) (by kernel_rfl) (fun _ _ _ h => h) (Or.inr ⟨by kernel_rfl, rfl⟩) (by assumption) ?_
    (try simp only [Act.put, List.getElem_toArray, List.getElem_cons_succ, List.getElem_cons_zero, List.setIfInBounds_toArray, List.set_cons_zero, List.set_cons_succ])
    refine wpAnyH_take (i := 18) (v := undef) rfl (by kernel_rfl) (by kernel_rfl) (by kernel_rfl) (fun _ _ _ h => h) (Or.inr ⟨by kernel_rfl, rfl⟩) (by assumption) ?_
    (try simp only [Act.put, List.getElem_toArray, List.getElem_cons_succ, List.getElem_cons_zero, List.setIfInBounds_toArray, List.set_cons_zero, List.set_cons_succ])
    refine wpAnyH_take (i := 19) (v := undef) rfl (by kernel_rfl) (by kernel_rfl) (by kernel_rfl) (fun _ _ _ h => h) (Or.inr ⟨by kernel_rfl, rfl⟩) (by assumption) ?_
    (try simp only [Act.put, List.getElem_toArray, List.getElem_cons_succ, List.getElem_cons_zero, List.setIfInBounds_toArray, List.set_cons_zero, List.set_cons_succ])
    refine wpAnyH_take (i := 20) (v := undef) rfl (by kernel_rfl) (by kernel_rfl) (by kernel_rfl) (fun _ _ _ h => h) (Or.inr ⟨by kernel_rfl, rfl⟩) (by assumption) ?_
    (try simp only [Act.put, List.getElem_toArray, List.getElem_cons_succ, List.getElem_cons_zero, List.setIfInBounds_toArray, List.set_cons_zero, List.set_cons_succ])
    refine wpAnyH_take (i := 21) (v := undef) rfl (by kernel_rfl) (by kernel_rfl) (by kernel_rfl) (fun _ _ _ h => h) (Or.inr ⟨by kernel_rfl, rfl⟩) (by assumption) ?_
    (try simp only [Act.put, List.getElem_toArray, List.getElem_cons_succ, List.getElem_cons_zero, List.setIfInBounds_toArray, List.set_cons_zero, List.set_cons_succ])
    refine wpAnyH_take (i := 22) (v := undef) rfl (by kernel_rfl) (by kernel_rfl) (by kernel_rfl) (fun _ _ _ h => h) (Or.inr ⟨by kernel_rfl, rfl⟩) (by assumption) ?_
    (try simp only [Act.put, List.getElem_toArray, List.getElem_cons_succ, List.getElem_cons_zero, List.setIfInBounds_toArray, List.set_cons_zero, List.set_cons_succ])
    refine wpAnyH_take (i := 23) (v := ?ve23) rfl (by kernel_rfl) (by kernel_rfl) (by kernel_rfl) (fun _ _ _ h => h) (Or.inl ⟨by kernel_rfl, ?hye23⟩) (by assumption) ?hre23
    case hye23 => (intro w' hSw; (try dsimp only at hSw); go_simp; (try with_reducible rfl))
    (try simp only [Act.put, List.getElem_toArray, List.getElem_cons_succ, List.getElem_cons_zero, List.setIfInBounds_toArray, List.set_cons_zero, List.set_cons_succ])
    refine wpAnyH_take (i := 24) (v := ?ve24) rfl (by kernel_rfl) (by kernel_rfl) (by kernel_rfl) (fun _ _ _ h => h) (Or.inl ⟨by kernel_rfl, ?hye24⟩) (by assumption) ?hre24
    case hye24 => (intro w' hSw; (try dsimp only at hSw); go_simp; (try with_reducible rfl))
    (try simp only [Act.put, List.getElem_toArray, List.getElem_cons_succ, List.getElem_cons_zero, List.setIfInBounds_toArray, List.set_cons_zero, List.set_cons_succ])
    refine wpAnyH_done (by kernel_rfl) ?_ _
    refine NoPanic.normal ?_
    go_wp2
    go_ret
    exact ⟨rfl, HF28.out.low.drew⟩
  · have HBF := Lib.hid (bd_facts HR.out l rfl)
    obtain ⟨rh, hrh⟩ : ∃ r, rhB R l = r := ⟨_, rfl⟩
    have HRH := Lib.hid hrh
    rw [hrh] at HBF
    obtain ⟨tb, htb⟩ : ∃ r, teR y D l = r := ⟨_, rfl⟩
    have HTB := Lib.hid htb
    rw [htb] at HBF
    obtain ⟨V, hV⟩ : ∃ V, varsR R = V := ⟨_, rfl⟩
    have HVR := Lib.hid hV
    rw [hV] at HBF
    have hle : tb ≤ (V.length : Int) := HBF.out.2.2
    clear hrh htb hV
    have HF29 := Lib.hid (HF28.out.below (show Below w28.heap.size w28 w28.drew from ⟨rfl, rfl, rfl, Nat.le_refl _, fun _ _ => rfl⟩))
    have r0_28 := HF28.out.rs.one0
    have p0_28 := HF28.out.d5.two0
    have p1_28 := HF28.out.d5.two1
    refine wp_region_noPanic ?_
    refine wp_region_held_drew (S := (fun w' => w'.cell? ⟨bR, 0, none⟩ = some (.slice a R.length c) ∧ w'.cell? ⟨b5, 0, none⟩ = some (.int .i64 y) ∧ w'.cell? ⟨b5, 1, none⟩ = some (.slice a5 D.length c5))) (by kernel_rfl) ?hSd (fun hHeld => ?hRd)
    case hSd => exact ⟨r0_28, p0_28, p1_28⟩
    refine wpAnyH_take (i := 0) (v := ?vd0) rfl (by kernel_rfl) (by kernel_rfl) (by kernel_rfl) (fun _ _ _ h => h) (Or.inl ⟨by kernel_rfl, ?hyd0⟩) (by assumption) ?hrd0
    case hyd0 => (intro w' hSw; (try dsimp only at hSw); go_simp; (try with_reducible rfl))
    (try simp only [Act.put, List.getElem_toArray, List.getElem_cons_succ, List.getElem_cons_zero, List.setIfInBounds_toArray, List.set_cons_zero, List.set_cons_succ])
    refine wpAnyH_take (i := 1) (v := ?vd1) rfl (by kernel_rfl) (by kernel_rfl) (by kernel_rfl) (fun _ _ _ h => h) (Or.inl ⟨by kernel_rfl, ?hyd1⟩) (by assumption) ?hrd1
    case hyd1 => (intro w' hSw; (try dsimp only at hSw); go_simp; (try with_reducible rfl))
    (try simp only [Act.put, List.getElem_toArray, List.getElem_cons_succ, List.getElem_cons_zero, List.setIfInBounds_toArray, List.set_cons_zero, List.set_cons_succ])
    refine wpAnyH_take (i := 2) (v := ?vd2) rfl (by kernel_rfl) (by kernel_rfl) (by kernel_rfl) (fun _ _ _ h => h) (Or.inl ⟨by kernel_rfl, ?hyd2⟩) (by assumption) ?hrd2
    case hyd2 => (intro w' hSw; (try dsimp only at hSw); go_simp; (try with_reducible rfl))
    (try simp only [Act.put, List.getElem_toArray, List.getElem_cons_succ, List.getElem_cons_zero, List.setIfInBounds_toArray, List.set_cons_zero, List.set_cons_succ])
    refine wpAnyH_take (i := 3) (v := ?vd3) rfl (by kernel_rfl) (by kernel_rfl) (by kernel_rfl) (fun _ _ _ h => h) (Or.inl ⟨by kernel_rfl, ?hyd3⟩) (by assumption) ?hrd3
    case hyd3 => (intro w' hSw; (try dsimp only at hSw); go_simp; (try with_reducible rfl))
    (try simp only [Act.put, List.getElem_toArray, List.getElem_cons_succ, List.getElem_cons_zero, List.setIfInBounds_toArray, List.set_cons_zero, List.set_cons_succ])
    refine wpAnyH_ready (rs := [4]) (by kernel_rfl) (by simp) ?_
    refine AllReadyH.cons rfl (fun K hK => ?_) AllReadyH.nil
    go_simp
    go_at_call 18
    refine (dg_impl y a5 c5 D true _ HBF.out.1 HF29.out.s5).mono ?_
    rintro e w30 ⟨rfl, hb⟩
    have HF30 := Lib.hid (HF29.out.below hb)
    have r0_30 := HF30.out.rs.one0
    have p0_30 := HF30.out.d5.two0
    have p1_30 := HF30.out.d5.two1
    clear hb
    refine hK.out _ _ ?hSd4 (fun hHeld4 => ?hTd4)
    case hSd4 => exact ⟨r0_30, p0_30, p1_30⟩
    clear hK K
    (try simp only [Act.put, List.getElem_toArray, List.getElem_cons_succ, List.getElem_cons_zero, List.setIfInBounds_toArray, List.set_cons_zero, List.set_cons_succ])
    refine wpAnyH_take (i := 5) (v := ?vd5) rfl (by kernel_rfl) (by kernel_rfl) (by kernel_rfl) (fun _ _ _ h => h) (Or.inl ⟨by kernel_rfl, ?hyd5⟩) (by assumption) ?hrd5
    case hyd5 => (intro w' hSw; (try dsimp only at hSw); go_simp; (try with_reducible rfl))
    (try simp only [Act.put, List.getElem_toArray, List.getElem_cons_succ, List.getElem_cons_zero, List.setIfInBounds_toArray, List.set_cons_zero, List.set_cons_succ])
    refine wpAnyH_take (i := 6) (v := ?vd6) rfl (by kernel_rfl) (by kernel_rfl) (by kernel_rfl) (fun _ _ _ h => h) (Or.inl ⟨by kernel_rfl, ?hyd6⟩) (by assumption) ?hrd6
    case hyd6 => (intro w' hSw; (try dsimp only at hSw); go_simp; (try with_reducible rfl))
    (try simp only [Act.put, List.getElem_toArray, List.getElem_cons_succ, List.getElem_cons_zero, List.setIfInBounds_toArray, List.set_cons_zero, List.set_cons_succ])
    refine wpAnyH_take (i := 7) (v := ?vd7) rfl (by kernel_rfl) (by kernel_rfl) (by kernel_rfl) (fun _ _ _ h => h) (Or.inl ⟨by kernel_rfl, ?hyd7⟩) (by assumption) ?hrd7
    case hyd7 => (intro w' hSw; (try dsimp only at hSw); go_simp; (try with_reducible rfl))
    (try simp only [Act.put, List.getElem_toArray, List.getElem_cons_succ, List.getElem_cons_zero, List.setIfInBounds_toArray, List.set_cons_zero, List.set_cons_succ])
    refine wpAnyH_take (i := 9) (v := ?vd9) rfl (by kernel_rfl) (by kernel_rfl) (by kernel_rfl) (fun _ _ _ h => h) (Or.inl ⟨by kernel_rfl, ?hyd9⟩) (by assumption) ?hrd9
    case hyd9 => (intro w' hSw; (try dsimp only at hSw); go_simp; (try with_reducible rfl))
    (try simp only [Act.put, List.getElem_toArray, List.getElem_cons_succ, List.getElem_cons_zero, List.setIfInBounds_toArray, List.set_cons_zero, List.set_cons_succ])
    refine wpAnyH_take (i := 10) (v := ?vd10) rfl (by kernel_rfl) (by kernel_rfl) (by kernel_rfl) (fun _ _ _ h => h) (Or.inl ⟨by kernel_rfl, ?hyd10⟩) (by assumption) ?hrd10
    case hyd10 => (intro w' hSw; (try dsimp only at hSw); go_simp; (try with_reducible rfl))
    (try simp only [Act.put, List.getElem_toArray, List.getElem_cons_succ, List.getElem_cons_zero, List.setIfInBounds_toArray, List.set_cons_zero, List.set_cons_succ])
    refine wpAnyH_ready (rs := [8]) (by kernel_rfl) (by simp) ?_
    refine AllReadyH.cons rfl (fun K hK => ?_) AllReadyH.nil
    go_simp
    go_at_call 14
    refine (ev_impl y a5 c5 D (some ⟨gx, ox, none⟩) cx l _ _ HBF.out.2.1 HF30.out.s5 HLX.out HF30.out.vi).mono ?_
    rintro e w31 ⟨rfl, hb⟩
    have HF31 := Lib.hid (HF30.out.below hb)
    have r0_31 := HF31.out.rs.one0
    have p0_31 := HF31.out.d5.two0
    have p1_31 := HF31.out.d5.two1
    clear hb
    refine hK.out _ _ ?hSd8 (fun hHeld8 => ?hTd8)
    case hSd8 => exact ⟨r0_31, p0_31, p1_31⟩
    clear hK K
    (try simp only [Act.put, List.getElem_toArray, List.getElem_cons_succ, List.getElem_cons_zero, List.setIfInBounds_toArray, List.set_cons_zero, List.set_cons_succ])
    refine wpAnyH_ready (rs := [11]) (by kernel_rfl) (by simp) ?_
    refine AllReadyH.cons rfl (fun K hK => ?_) AllReadyH.nil
    go_simp
    go_at_call 20
    refine (rhs_spec a c R (some ⟨gx, ox, none⟩) cx l _ _ HF31.out.sr HLX.out HF31.out.vi HRH.out).mono ?_
    rintro e w32 ⟨rfl, hb⟩
    have HF32 := Lib.hid (HF31.out.below hb)
    have r0_32 := HF32.out.rs.one0
    have p0_32 := HF32.out.d5.two0
    have p1_32 := HF32.out.d5.two1
    clear hb
    refine hK.out _ _ ?hSd11 (fun hHeld11 => ?hTd11)
    case hSd11 => exact ⟨r0_32, p0_32, p1_32⟩
    clear hK K
    (try simp only [Act.put, List.getElem_toArray, List.getElem_cons_succ, List.getElem_cons_zero, List.setIfInBounds_toArray, List.set_cons_zero, List.set_cons_succ])
    refine wpAnyH_take (i := 12) (v := ?vd12) rfl (by kernel_rfl) (by kernel_rfl) (by kernel_rfl) (fun _ _ _ h => h) (Or.inl ⟨by kernel_rfl, ?hyd12⟩) (by assumption) ?hrd12
    case hyd12 => (intro w' hSw; (try dsimp only at hSw); go_simp; (try with_reducible rfl))
    (try simp only [Act.put, List.getElem_toArray, List.getElem_cons_succ, List.getElem_cons_zero, List.setIfInBounds_toArray, List.set_cons_zero, List.set_cons_succ])
    refine wpAnyH_take (i := 13) (v := ?vd13) rfl (by kernel_rfl) (by kernel_rfl) (by kernel_rfl) (fun _ _ _ h => h) (Or.inl ⟨by kernel_rfl, ?hyd13⟩) (by assumption) ?hrd13
    case hyd13 => (intro w' hSw; (try dsimp only at hSw); go_simp; (try with_reducible rfl))
    (try simp only [Act.put, List.getElem_toArray, List.getElem_cons_succ, List.getElem_cons_zero, List.setIfInBounds_toArray, List.set_cons_zero, List.set_cons_succ])
    refine wpAnyH_take (i := 14) (v := ?vd14) rfl (by kernel_rfl) (by kernel_rfl) (by kernel_rfl) (fun _ _ _ h => h) (Or.inl ⟨by kernel_rfl, ?hyd14⟩) (by assumption) ?hrd14
    case hyd14 => (intro w' hSw; (try dsimp only at hSw); go_simp; (try with_reducible rfl))
    (try simp only [Act.put, List.getElem_toArray, List.getElem_cons_succ, List.getElem_cons_zero, List.setIfInBounds_toArray, List.set_cons_zero, List.set_cons_succ])
    refine wpAnyH_take (i := 15) (v := ?vd15) rfl (by kernel_rfl) (by kernel_rfl) (by kernel_rfl) (fun _ _ _ h => h) (Or.inl ⟨by kernel_rfl, ?hyd15⟩) (by assumption) ?hrd15
    case hyd15 => (intro w' hSw; (try dsimp only at hSw); go_simp; (try with_reducible rfl))
    (try simp only [Act.put, List.getElem_toArray, List.getElem_cons_succ, List.getElem_cons_zero, List.setIfInBounds_toArray, List.set_cons_zero, List.set_cons_succ])
    refine wpAnyH_take (i := 16) (v := ?vd16) rfl (by kernel_rfl) (by kernel_rfl) (by kernel_rfl) (fun _ _ _ h => h) (Or.inl ⟨by kernel_rfl, ?hyd16⟩) (by assumption) ?hrd16
    case hyd16 => (intro w' hSw; (try dsimp only at hSw); go_simp; (try with_reducible rfl))
    (try simp only [Act.put, List.getElem_toArray, List.getElem_cons_succ, List.getElem_cons_zero, List.setIfInBounds_toArray, List.set_cons_zero, List.set_cons_succ])
    refine wpAnyH_take (i := 18) (v := ?vd18) rfl (by kernel_rfl) (by kernel_rfl) (by kernel_rfl) (fun _ _ _ h => h) (Or.inl ⟨by kernel_rfl, ?hyd18⟩) (by assumption) ?hrd18
    case hyd18 => (intro w' hSw; (try dsimp only at hSw); go_simp; (try with_reducible rfl))
    (try simp only [Act.put, List.getElem_toArray, List.getElem_cons_succ, List.getElem_cons_zero, List.setIfInBounds_toArray, List.set_cons_zero, List.set_cons_succ])
    refine wpAnyH_ready (rs := [17]) (by kernel_rfl) (by simp) ?_
    refine AllReadyH.cons rfl (fun K hK => ?_) AllReadyH.nil
    go_simp
    go_at_call 16
    refine (te_impl y a5 c5 D (some ⟨gx, ox, none⟩) cx l _ _ HTB.out HF32.out.s5 HLX.out HF32.out.vi).mono ?_
    rintro e w33 ⟨rfl, hb⟩
    have HF33 := Lib.hid (HF32.out.below hb)
    have r0_33 := HF33.out.rs.one0
    have p0_33 := HF33.out.d5.two0
    have p1_33 := HF33.out.d5.two1
    clear hb
    refine hK.out _ _ ?hSd17 (fun hHeld17 => ?hTd17)
    case hSd17 => exact ⟨r0_33, p0_33, p1_33⟩
    clear hK K
    (try simp only [Act.put, List.getElem_toArray, List.getElem_cons_succ, List.getElem_cons_zero, List.setIfInBounds_toArray, List.set_cons_zero, List.set_cons_succ])
    refine wpAnyH_ready (rs := [19]) (by kernel_rfl) (by simp) ?_
    refine AllReadyH.cons rfl (fun K hK => ?_) AllReadyH.nil
    go_simp
    go_at_call 21
    refine (vars_impl a c R _ _ HVR.out HF33.out.sr).mono ?_
    rintro e w34 ⟨aV, cV, rfl, hoV, hb⟩
    have HF34 := Lib.hid (HF33.out.below hb)
    have r0_34 := HF34.out.rs.one0
    have p0_34 := HF34.out.d5.two0
    have p1_34 := HF34.out.d5.two1
    clear hb
    refine hK.out _ _ ?hSd19 (fun hHeld19 => ?hTd19)
    case hSd19 => exact ⟨r0_34, p0_34, p1_34⟩
    clear hK K
    (try simp only [Act.put, List.getElem_toArray, List.getElem_cons_succ, List.getElem_cons_zero, List.setIfInBounds_toArray, List.set_cons_zero, List.set_cons_succ])
    refine wpAnyH_take (i := 20) (v := ?vd20) rfl (by kernel_rfl) (by kernel_rfl) (by kernel_rfl) (fun _ _ _ h => h) (Or.inl ⟨by kernel_rfl, ?hyd20⟩) (by assumption) ?hrd20
    case hyd20 => (intro w' hSw; (try dsimp only at hSw); go_simp; (try with_reducible rfl))
    (try simp only [Act.put, List.getElem_toArray, List.getElem_cons_succ, List.getElem_cons_zero, List.setIfInBounds_toArray, List.set_cons_zero, List.set_cons_succ])
    refine wpAnyH_take (i := 21) (v := ?vd21) rfl (by kernel_rfl) (by kernel_rfl) (by kernel_rfl) (fun _ _ _ h => h) (Or.inl ⟨by kernel_rfl, ?hyd21⟩) (by assumption) ?hrd21
    case hyd21 => (intro w' hSw; (try dsimp only at hSw); go_simp; (try with_reducible rfl))
    (try simp only [Act.put, List.getElem_toArray, List.getElem_cons_succ, List.getElem_cons_zero, List.setIfInBounds_toArray, List.set_cons_zero, List.set_cons_succ])
    refine wpAnyH_take (i := 22) (v := ?vd22) rfl (by kernel_rfl) (by kernel_rfl) (by kernel_rfl) (fun _ _ _ h => h) (Or.inl ⟨by kernel_rfl, ?hyd22⟩) (by assumption) ?hrd22
    case hyd22 => (intro w' hSw; (try dsimp only at hSw); go_simp; (try with_reducible rfl))
    (try simp only [Act.put, List.getElem_toArray, List.getElem_cons_succ, List.getElem_cons_zero, List.setIfInBounds_toArray, List.set_cons_zero, List.set_cons_succ])
    refine wpAnyH_take (i := 23) (v := ?vd23) rfl (by kernel_rfl) (by kernel_rfl) (by kernel_rfl) (fun _ _ _ h => h) (Or.inl ⟨by kernel_rfl, ?hyd23⟩) (by assumption) ?hrd23
    case hyd23 => (intro w' hSw; (try dsimp only at hSw); go_simp; (try with_reducible rfl))
    (try simp only [Act.put, List.getElem_toArray, List.getElem_cons_succ, List.getElem_cons_zero, List.setIfInBounds_toArray, List.set_cons_zero, List.set_cons_succ])
    refine wpAnyH_take (i := 24) (v := ?vd24) rfl (by kernel_rfl) (by kernel_rfl) (by kernel_rfl) (fun _ _ _ h => h) (Or.inl ⟨by kernel_rfl, ?hyd24⟩) (by assumption) ?hrd24
    case hyd24 => (intro w' hSw; (try dsimp only at hSw); go_simp; (try with_reducible rfl))
    (try simp only [Act.put, List.getElem_toArray, List.getElem_cons_succ, List.getElem_cons_zero, List.setIfInBounds_toArray, List.set_cons_zero, List.set_cons_succ])
    refine wpAnyH_done (by kernel_rfl) ?_ _
    refine NoPanic.normal ?_
    go_wp2
    go_ret
    exact ⟨by simp [hle], HF34.out.low⟩

theorem FnDiagrams_walk (A : Option Addr) (len cap : Nat) (zs : List Int) (w : World) (h : IsRow .u8 w A len cap zs) (ht : TabAt w) :
    Calls Tryz.prog 3 #[.slice A len cap] w fun e w' => e = .returned (.bool true) ∧ Below w.heap.size w w' := by
  by_cases hl : 1048576 < (len : Int)
  · go_enter Tryz.func3, Tryz.ntmps3
    go_wp2_with (go_at_call 4; (refine (big_yes A len cap _ hl).mono ?_); rintro e w0 ⟨rfl, rfl⟩)
    go_ret
    exact ⟨rfl, Below.refl _ _⟩
  · exact FnDiagrams_core A len cap w (codeAt_of h (by omega)) ht

end Go.Proofs.YtpmfabpnjacegaaGreatDoor

