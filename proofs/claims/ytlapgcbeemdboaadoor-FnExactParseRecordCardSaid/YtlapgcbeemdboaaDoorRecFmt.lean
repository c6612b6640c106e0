/-
  What spec.FormatRecord answers. By an AI agent.
-/
import Derived.Test.YtlapgcbeemdboaaDoorRecName2
import Derived.Lib.Join
namespace Go.Proofs.YtlapgcbeemdboaaDoor
open Go.RowKit
set_option linter.unusedVariables false

def hdL (s k v : Int) : List UInt8 := nmL s k ++ [46] ++ Lib.itoa v
def frL (s k v : Int) (l : List Str) : List UInt8 := hdL s k v ++ Lib.joinTail [124] l
def frR (s k v : Int) (l : List Str) : ByteArray := if recB s k v l = true then strOf (frL s k v l) else ⟨#[]⟩
theorem fr_yes {s k v : Int} {l : List Str} (h : recB s k v l = true) : frR s k v l = strOf (frL s k v l) := if_pos h
theorem fr_no {s k v : Int} {l : List Str} (h : recB s k v l = false) : frR s k v l = ⟨#[]⟩ := if_neg (by rw [h]; exact Bool.false_ne_true)

theorem rec_fields {s k v : Int} {l : List Str} (h : recB s k v l = true) : l.length = 4 ∧ ∀ x ∈ l, fieldB x = true := by
  unfold recB fieldsB at h
  simp at h
  exact h.2
theorem field_len {x : Str} (h : fieldB x = true) : x.length ≤ 40 := by
  unfold fieldB isTextB at h
  simp at h
  exact h.2.1
theorem tail_len : ∀ (l : List Str), (∀ x ∈ l, x.length ≤ 40) → (Lib.joinTail [124] l).length ≤ 41 * l.length
  | [], _ => by simp [Lib.joinTail]
  | x :: l, h => by
    have h1 := tail_len l (fun y hy => h y (List.mem_cons_of_mem _ hy))
    have h2 := h x (List.mem_cons_self ..)
    have e : Lib.joinTail [124] (x :: l) = 124 :: x ++ Lib.joinTail [124] l := by simp [Lib.joinTail]
    rw [e]
    simp at h1 ⊢
    omega
theorem nm_len {s k : Int} (h0 : 1 ≤ k) (h1 : k ≤ 99) : (nmL s k).length ≤ 22 := by
  have := Lib.itoa_length_le k (by omega) (by omega)
  unfold nmL
  simp
  omega
theorem hd_len {s k v : Int} (h0 : 1 ≤ k) (h1 : k ≤ 99) (h2 : 1 ≤ v) (h3 : v ≤ 999) : (hdL s k v).length ≤ 44 := by
  have h4 := nm_len (s := s) h0 h1
  have h5 := Lib.itoa_length_le v (by omega) (by omega)
  unfold hdL
  simp
  omega
theorem str_of_list (t : ByteArray) : strOf t.data.toList = t := by
  unfold strOf
  simp

theorem spec_fi_at (n : Int) (t : ByteArray) (w : World) (h0 : -9223372036854775808 ≤ n) (h1 : n ≤ 9223372036854775807) (hn : strOf (Lib.itoa n) = t) :
    Calls Tryd.prog 19 #[.int .i64 n] w fun e w' => e = .returned (.string t) ∧ Below w.heap.size w w' := by
  rw [← hn]
  exact spec_fi n w h0 h1

set_option maxRecDepth 100000 in
set_option maxHeartbeats 1600000 in
theorem fr_spec (s0 k0 v0 : Int) (b0 : Option Addr) (d0 : Nat) (l0 : List Str) (r : ByteArray) (w : World) (hr : frR s0 k0 v0 l0 = r) (h0 : Sm w b0 l0 d0) :
    Calls Tryd.prog 11 #[.agg #[.int .i64 s0, .int .i64 k0, .int .i64 v0, .slice b0 l0.length d0]] w fun e w' => e = .returned (.string r) ∧ Below w.heap.size w w' := by
  have hlen := h0.2.2.2.1
  have HSM := Lib.hid (h0.below ((Below.refl _ _).alloc (Nat.le_refl _) (.cells #[.int .i64 s0, .int .i64 k0, .int .i64 v0, .slice b0 l0.length d0] 27)))
  have HS0 := Lib.hid h0
  have HR := Lib.hid hr
  clear h0 hr
  by_cases hv : recB s0 k0 v0 l0 = true
  · obtain ⟨hs0, hs1, hk0, hk1, hv0, hv1⟩ := head_of hv
    obtain ⟨h4, hfl⟩ := rec_fields hv
    have HRR := Lib.hid (show strOf (frL s0 k0 v0 l0) = r by rw [← HR.out, fr_yes hv])
    have HFL := Lib.hid (fun x hx => field_len (hfl x hx))
    obtain ⟨X, hX⟩ : ∃ X, rnR s0 k0 v0 l0 = X := ⟨_, rfl⟩
    obtain ⟨t, ht⟩ : ∃ t, strOf (Lib.itoa v0) = t := ⟨_, rfl⟩
    have hxs : X.size ≤ 22 := by rw [← hX, rn_yes hv, strOf_size]; exact nm_len hk0 hk1
    have hts : t.size ≤ 21 := by rw [← ht, strOf_size]; exact Lib.itoa_length_le v0 (by omega) (by omega)
    have HHD := Lib.hid (show (X ++ ⟨#[46]⟩) ++ t = strOf (hdL s0 k0 v0) by
      rw [← hX, ← ht, rn_yes hv]
      show (strOf (nmL s0 k0) ++ strOf [46]) ++ strOf (Lib.itoa v0) = _
      rw [strOf_append, strOf_append]
      rfl)
    have HHL := Lib.hid (hd_len (s := s0) hk0 hk1 hv0 hv1)
    have HX := Lib.hid hX
    have HTT := Lib.hid ht
    have HV := Lib.hid hv
    have H4 := Lib.hid h4
    clear hv hfl hX ht h4
    have z1 : ¬ 9223372036854775807 < X.size + 1 := by omega
    have z2 : ¬ 9223372036854775807 < X.size + 1 + t.size := by omega
    go_enter Tryd.func11, Tryd.ntmps11
    go_wp2_with (go_at_call 18; (refine (iv_spec _ _ _ _ _ _ _ _ HV.out HSM.out).mono ?_); rintro e w1 ⟨rfl, hb⟩; refine Hid.out ?_)
    have r1 := (RecB.new 27 w _ s0 k0 v0 (.slice b0 l0.length d0) rfl).below hb
    have HB := Lib.hid (below_new hb)
    have HS1 := Lib.hid (HSM.out.below hb)
    have R1 := Lib.hid r1
    have q0 := r1.c0
    have q1 := r1.c1
    have q2 := r1.c2
    have q3 := r1.c3
    clear r1 hb
    refine Lib.hid ?_
    go_wp2_with (fail)
    go_region_held3 (fun w' => w'.cell? ⟨w.heap.size, 0, none⟩ = some (.int .i64 s0) ∧ w'.cell? ⟨w.heap.size, 1, none⟩ = some (.int .i64 k0) ∧ w'.cell? ⟨w.heap.size, 2, none⟩ = some (.int .i64 v0) ∧ w'.cell? ⟨w.heap.size, 3, none⟩ = some (.slice b0 l0.length d0))
      (first | exact ⟨y0, y1, y2, y3⟩ | exact ⟨x0, x1, x2, x3⟩ | exact ⟨q0, q1, q2, q3⟩)
      (first
        | (go_at_call 7; (with_reducible refine (rn_spec s0 k0 v0 b0 d0 l0 X _ HX.out ?_).mono ?_); exact HS1.out; rintro e w2 ⟨rfl, hb⟩; have R2 := Lib.hid (R1.out.below (undrew hb)); have x0 := R2.out.c0; have x1 := R2.out.c1; have x2 := R2.out.c2; have x3 := R2.out.c3; have HB2 := Lib.hid (HB.out.trans ((undrew hb).mono HB.out.size)); clear hb)
        | (go_at_call 19; (with_reducible refine (spec_fi_at v0 t _ (by omega) (by omega) HTT.out).mono ?_); rintro e w3 ⟨rfl, hb⟩; have R3 := Lib.hid (R2.out.below hb); have y0 := R3.out.c0; have y1 := R3.out.c1; have y2 := R3.out.c2; have y3 := R3.out.c3; have HB3 := Lib.hid (HB2.out.trans (hb.mono HB2.out.size)); clear hb))
    have HIN := Lib.hid (HS0.out.1.below HB3.out)
    clear q0 q1 q2 q3 x0 x1 x2 x3
    go_wp2
    go_loop [3, 4] (fun s i => ∃ n : Nat, n ≤ l0.length ∧ i = .int .i64 n ∧ s = .string (strOf (hdL s0 k0 v0 ++ Lib.joinTail [124] (l0.take n)))) (fun _ i => l0.length - (intOf i).toNat)
    case atStart => exact ⟨0, Nat.zero_le _, rfl, by rw [HHD.out]; simp [Lib.joinTail]⟩
    case round =>
      obtain ⟨n, hn, rfl, rfl⟩ := hrel
      have hus : (strOf (hdL s0 k0 v0 ++ Lib.joinTail [124] (l0.take n))).size ≤ 300 := by
        have h1 := tail_len (l0.take n) (fun x hx => HFL.out x (List.mem_of_mem_take hx))
        have h2 := HHL.out
        have h3 := H4.out
        have h5 : (l0.take n).length ≤ 4 := by rw [List.length_take]; omega
        rw [strOf_size, List.length_append]
        omega
      generalize hu : strOf (hdL s0 k0 v0 ++ Lib.joinTail [124] (l0.take n)) = u at hus ⊢
      have HU := Lib.hid hu
      clear hu
      by_cases hlt : n < l0.length
      · obtain ⟨b, off, rfl, hbw, hc⟩ := HIN.out (by omega)
        obtain ⟨x, f, hx1, hx2, hx3, hx4⟩ := str_at hlt
        have hcell : w3.cell? ⟨b, off + n, none⟩ = some (.string f) := by rw [← hx3]; exact hc n x hx1
        have hfs : f.size ≤ 40 := by rw [hx4]; exact HFL.out x (List.mem_of_getElem? hx1)
        have HX1 := Lib.hid hx1
        have HX2 := Lib.hid hx2
        have z3 : ¬ 9223372036854775807 < u.size + 1 := by omega
        have z4 : ¬ 9223372036854775807 < u.size + 1 + f.size := by omega
        clear hc hx1 hx2 hx3 hx4
        go_wp2
        go_round
        case rel =>
          refine ⟨n + 1, by omega, by go_num, ?_⟩
          rw [Lib.joinTail_take_succ _ _ _ _ HX1.out, ← HX2.out, ← HU.out]
          congr 1
          show (strOf _ ++ strOf [124]) ++ f = _
          rw [← str_of_list f, strOf_append, strOf_append, str_of_list f]
          congr 1
          simp [List.append_assoc]
        case measure => simp [intOf]; omega
      · obtain rfl : n = l0.length := by omega
        have HE := Lib.hid (show u = r by rw [← HRR.out, ← HU.out, List.take_length]; rfl)
        go_wp2
        go_ret
        exact ⟨ret_str HE.out, HB3.out⟩
  · have HV := Lib.hid (show recB s0 k0 v0 l0 = false by simpa using hv)
    have HRR := Lib.hid (show ⟨#[]⟩ = r by rw [← HR.out, fr_no HV.out])
    clear hv
    go_enter Tryd.func11, Tryd.ntmps11
    go_wp2_with (go_at_call 18; (refine (iv_spec _ _ _ _ _ _ _ _ HV.out HSM.out).mono ?_); rintro e w1 ⟨rfl, hb⟩)
    go_ret
    exact ⟨ret_str HRR.out, below_new hb⟩

end Go.Proofs.YtlapgcbeemdboaaDoor
