/-
  What spec.ParseRecord answers. By an AI agent.
-/
import Derived.Test.YtlapgcbeemdboaaDoorRecPars
import Derived.Test.YtlapgcbeemdboaaDoorCutS
import Derived.Test.YtlapgcbeemdboaaDoorParseInt
import Derived.Test.YtlapgcbeemdboaaDoorCmpCnt
import Derived.Deep.RegionLaw
import Derived.Deep.DeepCutAuto
namespace Go.Proofs.YtlapgcbeemdboaaDoor
open Go.RowKit
set_option linter.unusedVariables false

theorem pret_zero {w w' : World} (S K V : Int) (L : List Str) (r : Bool) (h : r = false ∧ S = 0 ∧ K = 0 ∧ V = 0 ∧ L = []) (hb : Below w.heap.size w w') :
    GivesRB w S K V L r (.returned (.tuple #[.agg #[.int .i64 0, .int .i64 0, .int .i64 0, .slice none 0 0], .bool false])) w' := by
  obtain ⟨rfl, rfl, rfl, rfl, rfl⟩ := h
  exact ⟨none, 0, rfl, OwnS.nil _ _, hb⟩

theorem own_new1 {w w' : World} {o : Obj} {v : Value} {l : List Str} (h : OwnS w' (w.alloc o).heap.size v l) : OwnS w' (w.heap.size + 1) v l := by
  have e : (w.alloc o).heap.size = w.heap.size + 1 := by simp
  rw [← e]
  exact h
theorem rec_apart {w : World} {g base : Nat} {s k v : Int} {V u : Value} {l : List Str} (h : RecB 27 w g s k v V) (ho : OwnS w base u l) : u.ownBlock ≠ some g := by
  rcases ho.2 with ⟨rfl, -⟩ | ⟨g', cap, cur, rfl, -, hg, -⟩
  · simp [Value.ownBlock]
  · intro e
    simp [Value.ownBlock] at e
    subst e
    unfold RecB at h
    rw [h] at hg
    simp at hg
theorem OwnS.set_ne {w : World} {base : Nat} {v : Value} {l : List Str} (h : OwnS w base v l) (p : Addr) (u : Value) (hp : v.ownBlock ≠ some p.block) : OwnS (w.setCell p u) base v l :=
  World.ownsRow.kept (w' := w.setCell p u) h (row := some p.block) ⟨rfl, rfl, rfl, by simp [World.setCell], fun i hi hne => Below.heap_setCell w p u i (fun e => hne (by rw [e]))⟩ (.inr hp)

/-- the candidate: a record of the call's own -/
def CandAt (w w' : World) (s k v : Int) (M : List Str) (x : Value) : Prop :=
  ∃ g a c, x = .pointer (some ⟨g, 0, none⟩) ∧ w.heap.size < g ∧ RecB 27 w' g s k v (.slice a M.length c) ∧ OwnS w' (w.heap.size + 1) (.slice a M.length c) M ∧ RecB 27 w' w.heap.size 0 0 0 (.slice none 0 0) ∧ Below w.heap.size w w'
theorem cand_new {w w5 w6 : World} {s k v : Int} {M : List Str} {a : Option Addr} {c : Nat} (hb5 : Below w.heap.size w w5) (hA : RecB 27 w5 w.heap.size 0 0 0 (.slice none 0 0)) (hb6 : Below w5.heap.size w5 w6) (ho : OwnS w6 w5.heap.size (.slice a M.length c) M) (hl : w.heap.size < w5.heap.size) :
    CandAt w (w6.alloc (.cells #[.int .i64 s, .int .i64 k, .int .i64 v, .slice a M.length c] 27)) s k v M (.pointer (some ⟨w6.heap.size, 0, none⟩)) :=
  ⟨_, a, c, rfl, Nat.lt_of_lt_of_le hl hb6.size, RecB.new _ _ _ _ _ _ _ rfl, (ho.alloc _).mono hl, (hA.below hb6).alloc _, (hb5.trans (hb6.mono hb5.size)).alloc (hb5.trans (hb6.mono hb5.size)).size _⟩
theorem cand_old {w w5 w6 : World} {g : Nat} {s k v : Int} {M : List Str} {a : Option Addr} {c : Nat} (hb5 : Below w.heap.size w w5) (hA : RecB 27 w5 w.heap.size 0 0 0 (.slice none 0 0)) (hb6 : Below w5.heap.size w5 w6) (ho : OwnS w6 w5.heap.size (.slice a M.length c) M) (hl : w.heap.size < w5.heap.size) (hg : w5.heap.size ≤ g)
    (hr : RecB 27 w6 g 0 0 0 (.slice none 0 0)) :
    CandAt w ((((w6.setCell ⟨g, 0, none⟩ (.int .i64 s)).setCell ⟨g, 1, none⟩ (.int .i64 k)).setCell ⟨g, 2, none⟩ (.int .i64 v)).setCell ⟨g, 3, none⟩ (.slice a M.length c)) s k v M (.pointer (some ⟨g, 0, none⟩)) := by
  have hne := rec_apart hr ho
  have hA6 := hA.below hb6
  have hlg : w.heap.size ≠ g := by omega
  have hB := hb5.trans (hb6.mono hb5.size)
  refine ⟨_, a, c, rfl, by omega, (((hr.set0 s).set1 k).set2 v).set3 _, ((((ho.set_ne _ _ hne).set_ne _ _ hne).set_ne _ _ hne).set_ne _ _ hne).mono hl, (((hA6.other _ _ hlg).other _ _ hlg).other _ _ hlg).other _ _ hlg, ?_⟩
  exact (((hB.setCell (by simp; omega) _).setCell (by simp; omega) _).setCell (by simp; omega) _).setCell (by simp; omega) _

set_option maxRecDepth 100000 in
set_option maxHeartbeats 3200000 in
theorem pr_spec (a0 : ByteArray) (S K V : Int) (L : List Str) (r : Bool) (w : World) (hs : a0.size ≤ 1048576) (ho : PRout a0.data.toList S K V L r) :
    Calls Tryd.prog 13 #[.string a0] w (GivesRB w S K V L r) := by
  have HS := Lib.hid hs
  have HO := Lib.hid ho
  have hsl : a0.data.toList.length = a0.size := by simp
  obtain ⟨x, M, hx⟩ := cutL_cons 124 a0.data.toList
  have hPL : (cutL 124 a0.data.toList).length ≤ 4000000 := by
    have h1 := kS_len 124 a0.data.toList
    unfold cutL
    rw [List.length_append]
    simp
    omega
  have hM : M.length ≤ 3999999 := by rw [hx] at hPL; simp at hPL; omega
  have HX := Lib.hid hx
  have HXL := Lib.hid (fun y (hy : y ∈ x :: M) => show y.length ≤ 1048576 by have := cutL_part (c := 124) (s := a0.data.toList) (y := y) (by rw [hx]; exact hy); omega)
  have HB1 := Lib.hid ((Below.refl w.heap.size w).alloc (Nat.le_refl _) (.cells #[.int .i64 0, .int .i64 0, .int .i64 0, .slice none 0 0] 27))
  have HR1 := Lib.hid (RecB.new 27 w _ 0 0 0 (.slice none 0 0) rfl)
  clear ho hs hsl hx hPL
  go_enter Tryd.func13, Tryd.ntmps13
  go_wp2_with (go_at_call 27; (refine (cut_any a0 124 _ (by have := HS.out; omega)).mono ?_); rintro e w2 hg; rw [HX.out] at hg; obtain ⟨al, cl, he, hol, hbl⟩ := hg; obtain rfl : e = .returned (.slice al (M.length + 1) cl) := he; refine Hid.out ?_)
  have HOL := Lib.hid (own_new1 hol)
  have HR2 := Lib.hid (HR1.out.below hbl)
  have HB2 := Lib.hid (HB1.out.trans (hbl.mono HB1.out.size))
  obtain ⟨bl, ol, rfl, hbl1, hcl⟩ := hol.inS (by simp)
  obtain ⟨t0, ht0, ht0s⟩ : ∃ t : ByteArray, t.data.toList = x ∧ encStr x = .string t := ⟨⟨x.toArray⟩, by simp, rfl⟩
  have hc0 : w2.cell? ⟨bl, ol, none⟩ = some (.string t0) := by rw [← ht0s]; exact hcl 0 x (by simp)
  have hcap := hol.cap_ge
  simp only [List.length_cons] at hcap
  have ht0z : t0.size ≤ 1048576 := by
    have h1 := HXL.out x (List.mem_cons_self ..)
    rw [← ht0] at h1
    simpa using h1
  have HT0 := Lib.hid ht0
  clear hol hbl hcl ht0 ht0s
  refine Lib.hid ?_
  go_wp2_with (go_at_call 27; (refine (cut_any t0 46 _ (by omega)).mono ?_); rintro e w3 hg; rw [HT0.out] at hg; obtain ⟨ah, ch, rfl, hoh, hbh⟩ := hg; refine Hid.out ?_)
  have HB3 := Lib.hid (HB2.out.trans (hbh.mono HB2.out.size))
  have HR3 := Lib.hid (HR2.out.below hbh)
  have HOL3 := Lib.hid (HOL.out.below hbh)
  obtain ⟨H, hH⟩ : ∃ H, cutL 46 x = H := ⟨_, rfl⟩
  rw [hH] at hoh
  rw [hH]
  have hHL : H.length ≤ 4000000 := by
    have h1 := kS_len 46 x
    have h2 := HXL.out x (List.mem_cons_self ..)
    rw [← hH]
    unfold cutL
    rw [List.length_append]
    simp
    omega
  have HH := Lib.hid hH
  have HOH := Lib.hid hoh
  clear hH hoh hbh hc0
  by_cases h2 : H.length = 2
  · obtain ⟨y0, y1, rfl⟩ : ∃ y0 y1, H = [y0, y1] := by
      match H, h2 with
      | [a, b], _ => exact ⟨a, b, rfl⟩
    have e2 : ([y0, y1] : List Str).length = 2 := rfl
    rw [e2]
    have HO2 := Lib.hid (show OwnS w3 w2.heap.size (.slice ah 2 ch) [y0, y1] from HOH.out)
    obtain ⟨bh, oh, rfl, hbh1, hch⟩ := HO2.out.inS (by simp)
    obtain ⟨t1, ht1, ht1s⟩ : ∃ t : ByteArray, t.data.toList = y0 ∧ encStr y0 = .string t := ⟨⟨y0.toArray⟩, by simp, rfl⟩
    obtain ⟨t2, ht2, ht2s⟩ : ∃ t : ByteArray, t.data.toList = y1 ∧ encStr y1 = .string t := ⟨⟨y1.toArray⟩, by simp, rfl⟩
    have hc1 : w3.cell? ⟨bh, oh, none⟩ = some (.string t1) := by rw [← ht1s]; exact hch 0 y0 (by simp)
    have hc2 : w3.cell? ⟨bh, oh + 1, none⟩ = some (.string t2) := by rw [← ht2s]; exact hch 1 y1 (by simp)
    have hx1z : x.length ≤ 1048576 := HXL.out x (List.mem_cons_self ..)
    have ht1z : t1.size ≤ 1048576 := by
      have h1 := cutL_part (c := 46) (s := x) (y := y0) (by rw [HH.out]; simp)
      rw [← data_size, ht1]
      omega
    have ht2z : t2.size ≤ 1048576 := by
      have h1 := cutL_part (c := 46) (s := x) (y := y1) (by rw [HH.out]; simp)
      rw [← data_size, ht2]
      omega
    have hcap2 := HO2.out.cap_ge
    simp only [List.length_cons, List.length_nil] at hcap2
    have HT1 := Lib.hid ht1
    have HT2 := Lib.hid ht2
    clear hch ht1 ht1s ht2 ht2s hHL h2 e2 hx1z
    by_cases h3 : t1.size < 2
    · have HZ := Lib.hid (pr_short HO.out HX.out HH.out (.inr ⟨y0, [y1], rfl, by rw [← HT1.out, data_size]; exact h3⟩))
      have hz3 : (t1.size : Int) < 2 := by omega
      have R0 := HR3
      have q0 := R0.out.c0
      have q1 := R0.out.c1
      have q2 := R0.out.c2
      have q3 := R0.out.c3
      have f0 := R0.out.frozen 0
      have f1 := R0.out.frozen 1
      have f2 := R0.out.frozen 2
      have f3 := R0.out.frozen 3
      refine Lib.hid ?_
      go_wp2
      have z := (((R0.out.set0 0).set1 0).set2 0).set3 (.slice none 0 0)
      have e0 := z.c0
      have e1 := z.c1
      have e2 := z.c2
      have e3 := z.c3
      refine bodyPost_ret (v := .tuple #[.agg #[.int .i64 0, .int .i64 0, .int .i64 0, .slice none 0 0], .bool false]) (by simp [results, Tryd.results13, go_sem, e0, e1, e2, e3]) rfl (pret_zero S K V L r HZ.out ?_)
      exact (((HB3.out.setCell (by simp) _).setCell (by simp) _).setCell (by simp) _).setCell (by simp) _
    · have hz1 : 0 < t1.size := by omega
      have hz2 : (0 : Int) < (t1.size : Int) := by omega
      have hz3 : (1 : Int) ≤ (t1.size : Int) := by omega
      refine Lib.hid ?_
      go_wp2_with (go_at_call 28; (refine (spec_pi _ _ (by simp; omega)).mono ?_); rintro e w4 ⟨n, o1, rfl, hp1, hb4⟩; refine Hid.out ?_)
      have hd1 : w4.cell? ⟨bh, oh, none⟩ = some (.string t1) := (hb4.cell hbh1).trans hc1
      have hd2 : w4.cell? ⟨bh, oh + 1, none⟩ = some (.string t2) := (hb4.cell hbh1).trans hc2
      have HB4 := Lib.hid (HB3.out.trans (hb4.mono HB3.out.size))
      have HR4 := Lib.hid (HR3.out.below hb4)
      have HOL4 := Lib.hid (HOL3.out.below hb4)
      have hs4 : bh < w4.heap.size := Nat.lt_of_lt_of_le hbh1 hb4.size
      have HP1 := Lib.hid hp1
      clear hc1 hc2 hb4 hp1 hbh1
      refine Lib.hid ?_
      go_wp2_with (go_at_call 28; (refine (spec_pi _ _ (by omega)).mono ?_); rintro e w5 ⟨n2, o2, rfl, hp2, hb5⟩; refine Hid.out ?_)
      have hc1 : w5.cell? ⟨bh, oh, none⟩ = some (.string t1) := (hb5.cell hs4).trans hd1
      have HB5 := Lib.hid (HB4.out.trans (hb5.mono HB4.out.size))
      have HR5 := Lib.hid (HR4.out.below hb5)
      have HOL5 := Lib.hid (HOL4.out.below hb5)
      have hs5 : bh < w5.heap.size := Nat.lt_of_lt_of_le hs4 hb5.size
      have HP2 := Lib.hid hp2
      clear hd1 hd2 hb5 hp2 hs4
      have HSM := Lib.hid ((HOL5.out.sm (by simp; omega) HXL.out).tail)
      obtain ⟨ad, had⟩ : ∃ ad : Option Addr, (if cl = 1 then some ⟨bl, ol, none⟩ else some ⟨bl, ol + 1, none⟩) = ad := ⟨_, rfl⟩
      rw [had] at HSM
      have HL5 := Lib.hid (show w.heap.size < w5.heap.size from HR5.out.lt)
      have HS5 := Lib.hid hs5
      have hm1 : (1 : Int) ≤ (M.length : Int) + 1 := by omega
      have hm2 : (M.length : Int) + 1 ≤ (cl : Int) := by omega
      have hm3 : (1 : Int) ≤ (cl : Int) := by omega
      have O1 : Hid (OwnS (w5.alloc (.cells #[] 9)).drew w5.heap.size (.slice (some ⟨w5.heap.size, 0, none⟩) 0 0) []) := Lib.hid (own_new w5 w5.heap.size w5.heap.size rfl (Nat.le_refl _))
      have B1 := Lib.hid ((Below.refl w5.heap.size w5).alloc (Nat.le_refl _) (.cells #[] 9)).drew
      have O2 : Hid (OwnS ((w5.alloc (.cells #[.int .i64 0, .int .i64 0, .int .i64 0, .slice none 0 0] 27)).alloc (.cells #[] 9)).drew w5.heap.size (.slice (some ⟨w5.heap.size + 1, 0, none⟩) 0 0) []) := Lib.hid (own_new (w5.alloc (.cells #[.int .i64 0, .int .i64 0, .int .i64 0, .slice none 0 0] 27)) w5.heap.size (w5.heap.size + 1) (by simp) (by omega))
      have B2 := Lib.hid (((Below.refl w5.heap.size w5).alloc (Nat.le_refl _) (.cells #[.int .i64 0, .int .i64 0, .int .i64 0, .slice none 0 0] 27)).alloc (by simp) (.cells #[] 9)).drew
      have R2 : Hid (RecB 27 ((w5.alloc (.cells #[.int .i64 0, .int .i64 0, .int .i64 0, .slice none 0 0] 27)).alloc (.cells #[] 9)).drew w5.heap.size 0 0 0 (.slice none 0 0)) := Lib.hid ((RecB.new _ _ _ _ _ _ _ rfl).alloc _)
      have O3 : Hid (OwnS ((w5.alloc (.cells #[] 9)).alloc (.cells #[.int .i64 0, .int .i64 0, .int .i64 0, .slice none 0 0] 27)).drew w5.heap.size (.slice (some ⟨w5.heap.size, 0, none⟩) 0 0) []) := Lib.hid ((own_new w5 w5.heap.size w5.heap.size rfl (Nat.le_refl _)).alloc (.cells #[.int .i64 0, .int .i64 0, .int .i64 0, .slice none 0 0] 27))
      have B3 := Lib.hid (((Below.refl w5.heap.size w5).alloc (Nat.le_refl _) (.cells #[] 9)).alloc (by simp) (.cells #[.int .i64 0, .int .i64 0, .int .i64 0, .slice none 0 0] 27)).drew
      have R3 : Hid (RecB 27 ((w5.alloc (.cells #[] 9)).alloc (.cells #[.int .i64 0, .int .i64 0, .int .i64 0, .slice none 0 0] 27)).drew (w5.heap.size + 1) 0 0 0 (.slice none 0 0)) := Lib.hid (RecB.new _ _ _ _ _ _ _ (by simp))
      refine Lib.hid ?_
      go_upto_region 7 with (fail)
      go_cut [10] (fun s wx => CandAt w wx ((t1[0].toNat : Int) - 97) n n2 M s)
      case first =>
        have ha1 := fun (o : Obj) => (World.cell?_alloc_lt (o := o) (w := w5) (a := ⟨bh, oh, none⟩) hs5).trans hc1
        have hw0 : IntKind.i64.wrap (t1[0].toNat : Int) = (t1[0].toNat : Int) := IntWalk.i64_in _ (by have := t1[0].toNat_lt; omega)
        have hw1 : IntKind.i64.wrap ((t1[0].toNat : Int) - 97) = (t1[0].toNat : Int) - 97 := IntWalk.i64_in _ (by have := t1[0].toNat_lt; omega)
        go_region_law (first
          | (refine step_app (by rfl) (.tmp 51) (.tmp 53) (by rfl) w5.heap.size (.slice (some ⟨w5.heap.size, 0, none⟩) 0 0) [] (by rfl) ad M.length (cl - 1) M (by rfl) rfl O1.out (HSM.out.below B1.out).1 HSM.out.2.1 (by simp; omega) B1.out.size ?_; intro v1 w6 ho1 hg1; have hb6 : Below w5.heap.size w5 w6 := grown_old B1.out hg1 O1.out; rw [List.nil_append] at ho1; obtain ⟨a1, c1, rfl⟩ := ho1.shape; have hy := (hb6.cell HS5.out).trans hc1; have hz := fun (o : Obj) => (World.cell?_alloc_lt (o := o) (w := w6) (a := ⟨bh, oh, none⟩) (Nat.lt_of_lt_of_le HS5.out hb6.size)).trans hy)
          | (refine step_app (by rfl) (.tmp 51) (.tmp 53) (by rfl) w5.heap.size (.slice (some ⟨w5.heap.size + 1, 0, none⟩) 0 0) [] (by rfl) ad M.length (cl - 1) M (by rfl) rfl O2.out (HSM.out.below B2.out).1 HSM.out.2.1 (by simp; omega) B2.out.size ?_; intro v1 w6 ho1 hg1; have hb6 : Below w5.heap.size w5 w6 := grown_old B2.out hg1 O2.out; have rr := R2.out.grown hg1 (by simp [Value.ownBlock]); have q0 := rr.c0; have q1 := rr.c1; have q2 := rr.c2; have q3 := rr.c3; have f0 := rr.frozen 0; have f1 := rr.frozen 1; have f2 := rr.frozen 2; have f3 := rr.frozen 3; rw [List.nil_append] at ho1; obtain ⟨a1, c1, rfl⟩ := ho1.shape; have hy := (hb6.cell HS5.out).trans hc1)
          | (refine step_app (by rfl) (.tmp 51) (.tmp 53) (by rfl) w5.heap.size (.slice (some ⟨w5.heap.size, 0, none⟩) 0 0) [] (by rfl) ad M.length (cl - 1) M (by rfl) rfl O3.out (HSM.out.below B3.out).1 HSM.out.2.1 (by simp; omega) B3.out.size ?_; intro v1 w6 ho1 hg1; have hb6 : Below w5.heap.size w5 w6 := grown_old B3.out hg1 O3.out; have rr := R3.out.grown hg1 (by simp [Value.ownBlock]); have q0 := rr.c0; have q1 := rr.c1; have q2 := rr.c2; have q3 := rr.c3; have f0 := rr.frozen 0; have f1 := rr.frozen 1; have f2 := rr.frozen 2; have f3 := rr.frozen 3; rw [List.nil_append] at ho1; obtain ⟨a1, c1, rfl⟩ := ho1.shape; have hy := (hb6.cell HS5.out).trans hc1))
        all_goals go_wp2_with (fail)
        all_goals go_meet
        all_goals first
          | with_reducible exact cand_old HB5.out HR5.out hb6 ho1 HL5.out (by omega) rr
          | with_reducible exact cand_new HB5.out HR5.out hb6 ho1 HL5.out
      case rest =>
        obtain ⟨g, a1, c1, rfl, hlt, hr, ho, hA, hb⟩ := hcut
        obtain ⟨F, hF⟩ : ∃ F, frR ((t1[0].toNat : Int) - 97) n n2 M = F := ⟨_, rfl⟩
        have HF := Lib.hid hF
        have p0 := hr.c0
        have p1 := hr.c1
        have p2 := hr.c2
        have p3 := hr.c3
        have HRC := Lib.hid hr
        have HOC := Lib.hid ho
        have HAC := Lib.hid hA
        have HBC := Lib.hid hb
        have HSC := Lib.hid (ho.sm (by omega) (fun y hy => HXL.out y (List.mem_cons_of_mem _ hy)))
        clear hF hr ho hA hb
        refine Lib.hid ?_
        go_wp2_with (go_at_call 11; (with_reducible refine (fr_spec _ _ _ a1 c1 M F _ HF.out HSC.out).mono ?_); rintro e w6 ⟨rfl, hb6⟩; refine Hid.out ?_)
        have r6 := HRC.out.below hb6
        have R6 := Lib.hid (HAC.out.below hb6)
        have HO6 := Lib.hid (HOC.out.below hb6)
        have HB6 := Lib.hid (HBC.out.trans (hb6.mono HBC.out.size))
        clear hb6 p0 p1 p2 p3
        have q0 := R6.out.c0
        have q1 := R6.out.c1
        have q2 := R6.out.c2
        have q3 := R6.out.c3
        have f0 := R6.out.frozen 0
        have f1 := R6.out.frozen 1
        have f2 := R6.out.frozen 2
        have f3 := R6.out.frozen 3
        by_cases hFa : F = a0
        · have HY := Lib.hid (pr_yes HO.out (fun e => by
            have h1 := HX.out
            rw [e] at h1
            injection h1 with h2 h3
            have h4 := HH.out
            rw [← h2] at h4
            injection h4 with h5 h6
            cases h6) (HF.out.trans (hFa.trans (str_of_list a0).symm)))
          subst hFa
          have p0 := r6.c0
          have p1 := r6.c1
          have p2 := r6.c2
          have p3 := r6.c3
          have HLT := Lib.hid hlt
          clear r6
          refine Lib.hid ?_
          go_wp2
          have z := (((R6.out.set0 ((t1[0].toNat : Int) - 97)).set1 n).set2 n2).set3 (.slice a1 M.length c1)
          have e0 := z.c0
          have e1 := z.c1
          have e2 := z.c2
          have e3 := z.c3
          obtain ⟨rfl, rfl, rfl, rfl, rfl⟩ := HY.out
          refine bodyPost_ret (v := .tuple #[.agg #[.int .i64 ((t1[0].toNat : Int) - 97), .int .i64 K, .int .i64 V, .slice a1 L.length c1], .bool true]) (by simp [results, Tryd.results13, go_sem, e0, e1, e2, e3]) rfl ⟨a1, c1, rfl, ?_, ?_⟩
          · exact ((((HO6.out.set_ _ _ (by simp)).set_ _ _ (by simp)).set_ _ _ (by simp)).set_ _ _ (by simp)).mono (by omega)
          · exact (((HB6.out.setCell (by simp) _).setCell (by simp) _).setCell (by simp) _).setCell (by simp) _
        · have HN := Lib.hid (pr_no (c := t1[0]) (c' := (t1.extract 1 t1.size).data.toList) (y1 := t2.data.toList) HO.out HX.out (by rw [HH.out, HT2.out, ← data_cons t1 hz1, HT1.out]) HP1.out HP2.out (fun e => hFa (HF.out.symm.trans (e.trans (str_of_list a0)))))
          have hFb : (F.toList == a0.toList) = false := by
            rw [ByteArray.toList_eq, ByteArray.toList_eq]
            simp
            intro e
            exact hFa (ByteArray.ext e)
          clear r6
          refine Lib.hid ?_
          go_wp2
          have z := (((R6.out.set0 0).set1 0).set2 0).set3 (.slice none 0 0)
          have e0 := z.c0
          have e1 := z.c1
          have e2 := z.c2
          have e3 := z.c3
          refine bodyPost_ret (v := .tuple #[.agg #[.int .i64 0, .int .i64 0, .int .i64 0, .slice none 0 0], .bool false]) (by simp [results, Tryd.results13, go_sem, e0, e1, e2, e3]) rfl (pret_zero S K V L r HN.out ?_)
          exact (((HB6.out.setCell (by simp) _).setCell (by simp) _).setCell (by simp) _).setCell (by simp) _
  · have HZ := Lib.hid (pr_short HO.out HX.out HH.out (.inl h2))
    have h2' : ¬ (H.length : Int) = 2 := by omega
    have R0 := HR3
    have q0 := R0.out.c0
    have q1 := R0.out.c1
    have q2 := R0.out.c2
    have q3 := R0.out.c3
    have f0 := R0.out.frozen 0
    have f1 := R0.out.frozen 1
    have f2 := R0.out.frozen 2
    have f3 := R0.out.frozen 3
    refine Lib.hid ?_
    go_wp2
    have z := (((R0.out.set0 0).set1 0).set2 0).set3 (.slice none 0 0)
    have e0 := z.c0
    have e1 := z.c1
    have e2 := z.c2
    have e3 := z.c3
    refine bodyPost_ret (v := .tuple #[.agg #[.int .i64 0, .int .i64 0, .int .i64 0, .slice none 0 0], .bool false]) (by simp [results, Tryd.results13, go_sem, e0, e1, e2, e3]) rfl (pret_zero S K V L r HZ.out ?_)
    exact (((HB3.out.setCell (by simp) _).setCell (by simp) _).setCell (by simp) _).setCell (by simp) _

end Go.Proofs.YtlapgcbeemdboaaDoor
