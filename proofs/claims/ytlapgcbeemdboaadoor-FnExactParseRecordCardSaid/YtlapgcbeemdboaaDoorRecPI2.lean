/-
  What impl.ParseRecord answers. By an AI agent.
-/
import Derived.Test.YtlapgcbeemdboaaDoorRecPS
import Derived.Test.YtlapgcbeemdboaaDoorRecPI
namespace Go.Proofs.YtlapgcbeemdboaaDoor
open Go.RowKit
set_option linter.unusedVariables false

theorem tail_mem (c : UInt8) : ∀ {L : List Str} {y : Str}, y ∈ L → y.length ≤ (Lib.joinTail [c] L).length
  | z :: L, y, h => by
    rw [tail_cons]
    rcases List.mem_cons.1 h with rfl | h
    · simp; omega
    · have := tail_mem c h
      simp; omega
theorem split_part {k : Nat} {s x : Str} {L : List Str} (h : Lib.splitK [124] 0 k s = x :: L) : ∀ y ∈ x :: L, y.length ≤ s.length := by
  obtain ⟨x', L', h1, h2⟩ := split_back 124 k s
  rw [h] at h1
  injection h1 with e1 e2
  subst e1
  subst e2
  intro y hy
  rw [h2, List.length_append]
  rcases List.mem_cons.1 hy with rfl | hy
  · omega
  · have := tail_mem 124 hy
    omega

theorem row_cell (w : World) (P : List ByteArray) (N j : Nat) (t : ByteArray) (hj : P[j]? = some t) : (w.alloc (.cells (Lib.cellsOf P N) 9)).cell? ⟨w.heap.size, j, none⟩ = some (.string t) := by
  rw [cell_of_row (w.alloc (.cells (Lib.cellsOf P N) 9)) w.heap.size j (Lib.cellsOf P N) 9 (0, 0) (heap_alloc_new w _)]
  have hl : j < P.length := (List.getElem?_eq_some_iff.1 hj).1
  unfold Lib.cellsOf
  rw [List.getElem?_toArray, List.getElem?_append_left (by simpa using hl), List.getElem?_map, hj]
  rfl

/-- what strings.SplitN at a bar hands back -/
def GivesP (w : World) (s : Str) (e : Ending) (w' : World) : Prop :=
  ∃ (k : Nat) (p : ByteArray) (M : List Str) (b o c : Nat), e = .returned (.slice (some ⟨b, o, none⟩) (M.length + 1) c) ∧ Lib.splitK [124] 0 k s = p.data.toList :: M ∧ (s.length < 5 ∨ 4 ≤ k) ∧ Sm w' (some ⟨b, o, none⟩) (p.data.toList :: M) c ∧ w'.cell? ⟨b, o, none⟩ = some (.string p) ∧ p.size ≤ 1048576 ∧ M.length + 1 ≤ c ∧ c ≤ 6 ∧ b < w'.heap.size ∧ Below w.heap.size w w'

theorem split_is (s : ByteArray) (w : World) (hs : s.size ≤ 1048576) (hx : MaxAt w) :
    Calls Tryd.prog 29 #[.string s, .string ⟨#[124]⟩, .int .i64 6] w (GivesP w s.data.toList) := by
  obtain ⟨m, hm⟩ := hx
  refine (Tryd.strings_SplitN s ⟨#[124]⟩ 6 m w (by omega) hm (by decide) (by decide) (by decide)).mono fun e w' ⟨he, hw⟩ => ?_
  obtain ⟨P, hP⟩ : ∃ P, Lib.splitB ⟨#[124]⟩ 0 (min 6 (s.size + 1) - 1) s = P := ⟨_, rfl⟩
  have hlen := Lib.splitB_length_le ⟨#[124]⟩ 0 (min 6 (s.size + 1) - 1) s
  have hd := Lib.splitB_data ⟨#[124]⟩ 0 (min 6 (s.size + 1) - 1) s
  rw [hP] at he hw hlen hd
  have hz : s.data.toList.length = s.size := by simp
  cases P with
  | nil =>
    exfalso
    obtain ⟨x, L, h1, -⟩ := split_back 124 (min 6 (s.size + 1) - 1) s.data.toList
    have h2 : ([] : List Str) = x :: L := hd.trans h1
    cases h2
  | cons p Q =>
    have hk : Lib.splitK [124] 0 (min 6 (s.size + 1) - 1) s.data.toList = p.data.toList :: Q.map (·.data.toList) := hd.symm
    have hpart := split_part hk
    have hQ : (Q.map (·.data.toList)).length = Q.length := by simp
    have hc0 := row_cell w (p :: Q) (min 6 (s.size + 1)) 0 p rfl
    rw [List.length_cons] at hlen
    refine ⟨min 6 (s.size + 1) - 1, p, Q.map (·.data.toList), w.heap.size, 0, min 6 (s.size + 1), ?_, hk, by omega, ?_, ?_, ?_, by rw [hQ]; omega, by omega, ?_, ?_⟩
    · rw [he, hQ]
      rfl
    · rw [hw]
      refine ⟨fun _ => ⟨w.heap.size, 0, rfl, by simp, fun j x hj => ?_⟩, by simp, by rw [List.length_cons, hQ]; omega, by rw [List.length_cons, hQ]; omega, fun y hy => by have := hpart y hy; omega⟩
      rw [Nat.zero_add]
      have h1 : ((p :: Q).map (·.data.toList))[j]? = some x := hj
      rw [List.getElem?_map] at h1
      cases h2 : (p :: Q)[j]? with
      | none => rw [h2] at h1; simp at h1
      | some t =>
        rw [h2] at h1
        simp at h1
        rw [row_cell w (p :: Q) _ j t h2, ← h1]
    · rw [hw]; exact hc0
    · have := hpart p.data.toList (List.mem_cons_self ..)
      have e : p.data.toList.length = p.size := by simp
      omega
    · rw [hw]; simp
    · rw [hw]; exact (Below.refl _ _).alloc (Nat.le_refl _) _

set_option maxRecDepth 100000 in
set_option maxHeartbeats 1600000 in
theorem pr_impl (a0 : ByteArray) (S K V : Int) (L : List Str) (r : Bool) (w : World) (hs : a0.size ≤ 1048576) (ho : PRout a0.data.toList S K V L r) (ht : TabAt w) (hx : MaxAt w) :
    Calls Tryd.prog 14 #[.string a0] w (GivesRB w S K V L r) := by
  have HS := Lib.hid hs
  have HO := Lib.hid ho
  have HB1 := Lib.hid ((Below.refl w.heap.size w).alloc (Nat.le_refl _) (.cells #[.int .i64 0, .int .i64 0, .int .i64 0, .slice none 0 0] 27))
  have HR1 := Lib.hid (RecB.new 27 w _ 0 0 0 (.slice none 0 0) rfl)
  have HT := Lib.hid ht
  have HX := Lib.hid hx
  clear hs ho ht hx
  go_enter Tryd.func14, Tryd.ntmps14
  go_wp2_with (go_at_call 29; (refine (split_is a0 _ HS.out (HX.out.on HB1.out)).mono ?_); rintro e w2 ⟨k, p, M, bl, ol, cl, rfl, hk, hk4, hsm, hc0, hp, hm, hc6, hbl, hb⟩; refine Hid.out ?_)
  have HR2 := Lib.hid (HR1.out.below hb)
  have HB2 := Lib.hid (HB1.out.trans (hb.mono HB1.out.size))
  have HK := Lib.hid hk
  have HK4 := Lib.hid hk4
  have HSM := Lib.hid hsm
  have HP := Lib.hid hp
  have hml : M.length ≤ 5 := by omega
  clear hb hk hk4 hsm hp
  refine Lib.hid ?_
  go_wp2_with (go_at_call 30; (refine (ph_impl p _ HP.out (HX.out.on HB2.out) (HT.out.on HB2.out)).mono ?_); rintro e w3 ⟨S1, K1, V1, rfl, hph, hb⟩; refine Hid.out ?_)
  have HR3 := Lib.hid ((HR2.out.below hb).alloc (.cells #[.int .i64 S1, .int .i64 K1, .int .i64 V1, .slice none 0 0] 27))
  have HB3 := Lib.hid ((HB2.out.trans (hb.mono HB2.out.size)).alloc (HB2.out.trans (hb.mono HB2.out.size)).size (.cells #[.int .i64 S1, .int .i64 K1, .int .i64 V1, .slice none 0 0] 27))
  have HSM3 := Lib.hid (((HSM.out.below hb).below ((Below.refl _ _).alloc (Nat.le_refl _) (.cells #[.int .i64 S1, .int .i64 K1, .int .i64 V1, .slice none 0 0] 27))).tail)
  have HPH := Lib.hid hph
  obtain ⟨ad, had⟩ : ∃ ad : Option Addr, (if cl = 1 then some ⟨bl, ol, none⟩ else some ⟨bl, ol + 1, none⟩) = ad := ⟨_, rfl⟩
  rw [had] at HSM3
  have hm1 : (1 : Int) ≤ (M.length : Int) + 1 := by omega
  have hm2 : (M.length : Int) + 1 ≤ (cl : Int) := by omega
  have hm3 : (1 : Int) ≤ (cl : Int) := by omega
  clear hb hph hc0
  have p0 := (RecB.new 27 w3 _ S1 K1 V1 (.slice none 0 0) rfl).c0
  have p1 := (RecB.new 27 w3 _ S1 K1 V1 (.slice none 0 0) rfl).c1
  have p2 := (RecB.new 27 w3 _ S1 K1 V1 (.slice none 0 0) rfl).c2
  have p3 := (RecB.new 27 w3 _ S1 K1 V1 (.slice none 0 0) rfl).c3
  refine Lib.hid ?_
  go_wp2_with (fail)
  go_region_with (go_at_call 31; (with_reducible refine (nr_impl S1 K1 V1 ad (cl - 1) M S K V L r _ (pr_parts k HK4.out HO.out HK.out HPH.out) ?_).mono ?_); exact HSM3.out; rintro e w4 ⟨a1, c1, rfl, ho4, hb4⟩; have R4 := Lib.hid (HR3.out.below (undrew hb4)); have HB4 := Lib.hid (HB3.out.trans ((undrew hb4).mono HB3.out.size)); have HO4 := Lib.hid ho4; have q0 := R4.out.c0; have q1 := R4.out.c1; have q2 := R4.out.c2; have q3 := R4.out.c3; have f0 := R4.out.frozen 0; have f1 := R4.out.frozen 1; have f2 := R4.out.frozen 2; have f3 := R4.out.frozen 3; clear hb4 ho4)
  all_goals
    go_wp2
    have z := (((R4.out.set0 S).set1 K).set2 V).set3 (.slice a1 L.length c1)
    have e0 := z.c0
    have e1 := z.c1
    have e2 := z.c2
    have e3 := z.c3
    refine bodyPost_ret (v := .tuple #[.agg #[.int .i64 S, .int .i64 K, .int .i64 V, .slice a1 L.length c1], .bool r]) (by simp [results, Tryd.results14, go_sem, e0, e1, e2, e3]) rfl ⟨a1, c1, rfl, ?_, ?_⟩
    · exact ((((HO4.out.set_ _ _ HR3.out.lt).set_ _ _ HR3.out.lt).set_ _ _ HR3.out.lt).set_ _ _ HR3.out.lt).mono HB3.out.size
    · exact (((HB4.out.setCell (by simp) _).setCell (by simp) _).setCell (by simp) _).setCell (by simp) _

end Go.Proofs.YtlapgcbeemdboaaDoor
