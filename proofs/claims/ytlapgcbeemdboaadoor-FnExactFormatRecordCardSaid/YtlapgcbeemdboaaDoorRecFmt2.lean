/-
  What impl.FormatRecord with its methods answers. By an AI agent.
-/
import Derived.Test.YtlapgcbeemdboaaDoorRecFmt
namespace Go.Proofs.YtlapgcbeemdboaaDoor
open Go.RowKit
set_option linter.unusedVariables false

theorem join_is (a : Option Addr) (c : Nat) (l : List Str) (J : ByteArray) (w : World) (h : Sm w a l c) (h0 : 0 < l.length) (hj : strOf (Lib.join l [124]) = J) (hlen : (Lib.join l [124]).length ≤ 300) :
    Calls Tryd.prog 26 #[.slice a l.length c, .string ⟨#[124]⟩] w fun e w' => e = .returned (.string J) ∧ Below w.heap.size w w' := by
  obtain ⟨b, off, rfl, hb, hc⟩ := h.1 h0
  have hl := h.2.2.2.1
  have hcap := h.2.2.1
  have e1 : (l.map fun x => (⟨x.toArray⟩ : ByteArray)).map (·.data.toList) = l := by
    rw [List.map_map]
    simp [Function.comp_def]
  have hlen2 : (l.map fun x => (⟨x.toArray⟩ : ByteArray)).length = l.length := by simp
  have hx := Tryd.strings_Join b off c (l.map fun x => ⟨x.toArray⟩) ⟨#[124]⟩ w (fun j x hx => by
    rw [List.getElem?_map] at hx
    cases h2 : l[j]? with
    | none => rw [h2] at hx; cases hx
    | some y =>
      rw [h2] at hx
      simp at hx
      subst hx
      exact hc j y h2) hb (by rw [hlen2]; omega) (by rw [hlen2]; exact hcap) (by rw [e1]; show (Lib.join l [124]).length ≤ _; omega)
  rw [hlen2] at hx
  refine hx.mono fun e w' ⟨he, hbl⟩ => ⟨?_, hbl⟩
  rw [he, e1, ← hj]
  rfl

theorem join_tail {l : List Str} (h : 0 < l.length) : [124] ++ Lib.join l [124] = Lib.joinTail [124] l := by
  cases l with
  | nil => exact absurd h (Nat.lt_irrefl 0)
  | cons x l =>
    rw [Lib.join_cons]
    simp [Lib.joinTail]

theorem name_at (s k : Int) (X : ByteArray) (w : World) (hs0 : 0 ≤ s) (hs1 : s ≤ 3) (hk0 : 1 ≤ k) (hk1 : k ≤ 99) (ht : TabAt w) (hX : strOf (nmL s k) = X) :
    Calls Tryd.prog 23 #[.agg #[.int .i64 s, .int .i64 k]] w fun e w' => e = .returned (.string X) ∧ Below w.heap.size w w' := by
  rw [← hX]
  exact name_impl s k w hs0 hs1 hk0 hk1 ht

set_option maxRecDepth 100000 in
set_option maxHeartbeats 1600000 in
theorem head_impl (s0 k0 v0 : Int) (V : Value) (r : ByteArray) (w : World) (hr : strOf (hdL s0 k0 v0) = r) (hs0 : 0 ≤ s0) (hs1 : s0 ≤ 3) (hk0 : 1 ≤ k0) (hk1 : k0 ≤ 99) (hv0 : 1 ≤ v0) (hv1 : v0 ≤ 999) (ht : TabAt w) :
    Calls Tryd.prog 25 #[.agg #[.int .i64 s0, .int .i64 k0, .int .i64 v0, V]] w fun e w' => e = .returned (.string r) ∧ Below w.heap.size w w' := by
  obtain ⟨wb, hwb⟩ : ∃ wb, wb = w.alloc (.cells #[.int .i64 s0, .int .i64 k0, .int .i64 v0, V] 27) := ⟨_, rfl⟩
  have HB := Lib.hid (show Below w.heap.size w wb by rw [hwb]; exact (Below.refl _ _).alloc (Nat.le_refl _) _)
  have r1 : RecB 27 wb w.heap.size s0 k0 v0 V := by rw [hwb]; exact RecB.new _ _ _ _ _ _ _ rfl
  have R1 := Lib.hid r1
  have q0 := r1.c0
  have q1 := r1.c1
  have q2 := r1.c2
  have q3 := r1.c3
  have HT := Lib.hid (ht.on HB.out)
  have HWB := Lib.hid hwb
  obtain ⟨X, hX⟩ : ∃ X, strOf (nmL s0 k0) = X := ⟨_, rfl⟩
  obtain ⟨t, htt⟩ : ∃ t, strOf (Lib.itoa v0) = t := ⟨_, rfl⟩
  have hxs : X.size ≤ 22 := by rw [← hX, strOf_size]; exact nm_len hk0 hk1
  have hts : t.size ≤ 21 := by rw [← htt, strOf_size]; exact Lib.itoa_length_le v0 (by omega) (by omega)
  have HHD := Lib.hid (show (X ++ ⟨#[46]⟩) ++ t = r by
    rw [← hr, ← hX, ← htt]
    show (strOf (nmL s0 k0) ++ strOf [46]) ++ strOf (Lib.itoa v0) = _
    rw [strOf_append, strOf_append]
    rfl)
  have HX := Lib.hid hX
  have HTT := Lib.hid htt
  have z1 : ¬ 9223372036854775807 < X.size + 1 := by omega
  have z2 : ¬ 9223372036854775807 < X.size + 1 + t.size := by omega
  clear hwb ht htt hX r1 hr
  go_enter Tryd.func25, Tryd.ntmps25
  go_wp2_with (fail)
  rw [← HWB.out]
  go_region_held3 (fun w' => w'.cell? ⟨w.heap.size, 0, none⟩ = some (.int .i64 s0) ∧ w'.cell? ⟨w.heap.size, 1, none⟩ = some (.int .i64 k0) ∧ w'.cell? ⟨w.heap.size, 2, none⟩ = some (.int .i64 v0) ∧ w'.cell? ⟨w.heap.size, 3, none⟩ = some V)
    (first | exact ⟨p0, p1, p2, p3⟩ | exact ⟨y0, y1, y2, y3⟩ | exact ⟨x0, x1, x2, x3⟩ | exact ⟨q0, q1, q2, q3⟩)
    (first
      | (go_at_call 22; (with_reducible refine (origin_is _ _ _ _ _).mono ?_); rintro e w2 ⟨rfl, hb⟩; have R2 := Lib.hid (R1.out.below (undrew hb)); have x0 := R2.out.c0; have x1 := R2.out.c1; have x2 := R2.out.c2; have x3 := R2.out.c3; have HT2 := Lib.hid (HT.out.on (undrew hb)); have HB2 := Lib.hid (HB.out.trans ((undrew hb).mono HB.out.size)); clear hb)
      | (go_at_call 23; (with_reducible refine (name_at s0 k0 X _ hs0 hs1 hk0 hk1 HT2.out HX.out).mono ?_); rintro e w3 ⟨rfl, hb⟩; have R3 := Lib.hid (R2.out.below hb); have y0 := R3.out.c0; have y1 := R3.out.c1; have y2 := R3.out.c2; have y3 := R3.out.c3; have HT3 := Lib.hid (HT2.out.on hb); have HB3 := Lib.hid (HB2.out.trans (hb.mono HB2.out.size)); clear hb)
      | (go_at_call 38; (with_reducible refine (impl_fi_at v0 t _ (by omega) (by omega) HT3.out HTT.out).mono ?_); rintro e w4 ⟨rfl, hb⟩; have R4 := Lib.hid (R3.out.below hb); have p0 := R4.out.c0; have p1 := R4.out.c1; have p2 := R4.out.c2; have p3 := R4.out.c3; have HB4 := Lib.hid (HB3.out.trans (hb.mono HB3.out.size)); clear hb))
  all_goals
    go_wp2
    go_ret
    exact ⟨ret_str HHD.out, HB4.out⟩

set_option maxRecDepth 100000 in
set_option maxHeartbeats 1600000 in
theorem fr_impl (s0 k0 v0 : Int) (b0 : Option Addr) (d0 : Nat) (l0 : List Str) (r : ByteArray) (w : World) (hr : frR s0 k0 v0 l0 = r) (h0 : Sm w b0 l0 d0) (ht : TabAt w) :
    Calls Tryd.prog 12 #[.agg #[.int .i64 s0, .int .i64 k0, .int .i64 v0, .slice b0 l0.length d0]] w fun e w' => e = .returned (.string r) ∧ Below w.heap.size w w' := by
  have HSM := Lib.hid (h0.below ((Below.refl _ _).alloc (Nat.le_refl _) (.cells #[.int .i64 s0, .int .i64 k0, .int .i64 v0, .slice b0 l0.length d0] 27)))
  have HS0 := Lib.hid h0
  have HT := Lib.hid ht
  have HR := Lib.hid hr
  clear h0 hr ht
  by_cases hv : recB s0 k0 v0 l0 = true
  · obtain ⟨hs0, hs1, hk0, hk1, hv0, hv1⟩ := head_of hv
    obtain ⟨h4, hfl⟩ := rec_fields hv
    have hpos : 0 < l0.length := by omega
    have hjl : (Lib.joinTail [124] l0).length ≤ 164 := by
      have := tail_len l0 (fun x hx => field_len (hfl x hx))
      omega
    have hjn : (Lib.join l0 [124]).length ≤ 300 := by
      rw [← join_tail hpos] at hjl
      simp at hjl
      omega
    obtain ⟨X, hX⟩ : ∃ X, strOf (hdL s0 k0 v0) = X := ⟨_, rfl⟩
    obtain ⟨J, hJ⟩ : ∃ J, strOf (Lib.join l0 [124]) = J := ⟨_, rfl⟩
    have hxs : X.size ≤ 44 := by rw [← hX, strOf_size]; exact hd_len hk0 hk1 hv0 hv1
    have hjs : J.size ≤ 300 := by rw [← hJ, strOf_size]; exact hjn
    have HRR := Lib.hid (show (X ++ ⟨#[124]⟩) ++ J = r by
      rw [← HR.out, fr_yes hv, ← hX, ← hJ]
      show (strOf (hdL s0 k0 v0) ++ strOf [124]) ++ strOf (Lib.join l0 [124]) = _
      rw [strOf_append, strOf_append, List.append_assoc, join_tail hpos]
      rfl)
    have HX := Lib.hid hX
    have HJ := Lib.hid hJ
    have HJN := Lib.hid hjn
    have HP := Lib.hid hpos
    have HV := Lib.hid hv
    have z1 : ¬ 9223372036854775807 < X.size + 1 := by omega
    have z2 : ¬ 9223372036854775807 < X.size + 1 + J.size := by omega
    clear hv hfl hX hJ h4 hpos hjl hjn
    go_enter Tryd.func12, Tryd.ntmps12
    go_wp2_with (go_at_call 21; (refine (iv_impl _ _ _ _ _ _ _ _ HV.out HSM.out).mono ?_); rintro e w1 ⟨rfl, hb⟩; refine Hid.out ?_)
    have r1 := (RecB.new 27 w _ s0 k0 v0 (.slice b0 l0.length d0) rfl).below hb
    have HB := Lib.hid (below_new hb)
    have HS1 := Lib.hid (HSM.out.below hb)
    have HT1 := Lib.hid (HT.out.on HB.out)
    have R1 := Lib.hid r1
    have q0 := r1.c0
    have q1 := r1.c1
    have q2 := r1.c2
    have q3 := r1.c3
    clear r1 hb
    refine Lib.hid ?_
    go_wp2_with (fail)
    go_region_held3 (fun w' => w'.cell? ⟨w.heap.size, 0, none⟩ = some (.int .i64 s0) ∧ w'.cell? ⟨w.heap.size, 1, none⟩ = some (.int .i64 k0) ∧ w'.cell? ⟨w.heap.size, 2, none⟩ = some (.int .i64 v0) ∧ w'.cell? ⟨w.heap.size, 3, none⟩ = some (.slice b0 l0.length d0))
      (first | exact ⟨y0, y1, y2, y3⟩ | exact ⟨x0, x1, x2, x3⟩ | exact ⟨q0, q1, q2, q3⟩)
      (first
        | (go_at_call 25; (with_reducible refine (head_impl s0 k0 v0 _ X _ HX.out hs0 hs1 hk0 hk1 hv0 hv1 ?_).mono ?_); exact HT1.out; rintro e w2 ⟨rfl, hb⟩; have R2 := Lib.hid (R1.out.below (undrew hb)); have x0 := R2.out.c0; have x1 := R2.out.c1; have x2 := R2.out.c2; have x3 := R2.out.c3; have HS2 := Lib.hid (HS1.out.below (undrew hb)); have HB2 := Lib.hid (HB.out.trans ((undrew hb).mono HB.out.size)); clear hb)
        | (go_at_call 26; (with_reducible refine (join_is b0 d0 l0 J _ HS2.out HP.out HJ.out HJN.out).mono ?_); rintro e w3 ⟨rfl, hb⟩; have R3 := Lib.hid (R2.out.below hb); have y0 := R3.out.c0; have y1 := R3.out.c1; have y2 := R3.out.c2; have y3 := R3.out.c3; have HB3 := Lib.hid (HB2.out.trans (hb.mono HB2.out.size)); clear hb))
    all_goals
      go_wp2
      go_ret
      exact ⟨ret_str HRR.out, HB3.out⟩
  · have HV := Lib.hid (show recB s0 k0 v0 l0 = false by simpa using hv)
    have HRR := Lib.hid (show ⟨#[]⟩ = r by rw [← HR.out, fr_no HV.out])
    clear hv
    go_enter Tryd.func12, Tryd.ntmps12
    go_wp2_with (go_at_call 21; (refine (iv_impl _ _ _ _ _ _ _ _ HV.out HSM.out).mono ?_); rintro e w1 ⟨rfl, hb⟩)
    go_ret
    exact ⟨ret_str HRR.out, below_new hb⟩

end Go.Proofs.YtlapgcbeemdboaaDoor
