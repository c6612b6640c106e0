/-
  What spec.l8Field, spec.IsValidRecord and impl.IsValidRecord with its methods answer. By an AI agent.
-/
import Derived.Test.YtebddnjccmaimaaGreatDoorRecV
import Derived.Test.YtebddnjccmaimaaGreatDoorGMem
import Derived.Test.YtebddnjccmaimaaGreatDoorGNorm
import Derived.Test.YtebddnjccmaimaaGreatDoorShelf
namespace Go.Proofs.YtebddnjccmaimaaGreatDoor
open Go.RowKit
set_option linter.unusedVariables false

/-- a text without | and ; -/
def cleanB (x : Str) : Bool := x.all fun c => decide (c ≠ 124 ∧ c ≠ 59)
def fieldB (x : Str) : Bool := cleanB x && isTextB x
def headB (s k v : Int) : Bool := decide (0 ≤ s ∧ s ≤ 3) && decide (1 ≤ k ∧ k ≤ 99) && decide (1 ≤ v ∧ v ≤ 999)
def fieldsB (l : List Str) : Bool := decide (l.length = 4) && l.all fieldB
def recB (s k v : Int) (l : List Str) : Bool := headB s k v && fieldsB l

theorem oret_bool {a b : Bool} (h : a = b) : Ending.returned (.bool a) = .returned (.bool b) := by rw [h]

theorem clean_zero (x : Str) : cleanB (x.take 0) = true := by simp [cleanB]
theorem clean_yes {x : Str} {k : Nat} {c : UInt8} (h : cleanB (x.take k) = true) (hx : x[k]? = some c) (h1 : c ≠ 124) (h2 : c ≠ 59) : cleanB (x.take (k + 1)) = true := by
  obtain ⟨hlt, he⟩ := List.getElem?_eq_some_iff.1 hx
  unfold cleanB at h ⊢
  rw [List.take_succ_eq_append_getElem hlt, List.all_append, h, he]
  simp [h1, h2]
theorem clean_no {x : Str} {c : UInt8} (hx : c ∈ x) (h : c = 124 ∨ c = 59) : fieldB x = false := by
  have h1 : cleanB x = false := by
    unfold cleanB
    rw [List.all_eq_false]
    refine ⟨c, hx, ?_⟩
    rcases h with rfl | rfl <;> decide
  unfold fieldB
  rw [h1]
  rfl
theorem u8_ne {c : UInt8} {n : UInt8} (h : ((c.toNat : Int) == (n.toNat : Int)) = false) : c ≠ n := fun e => by
  subst e
  simp at h

theorem hasAny_is {x : Str} : Lib.containsAny x [124, 59] = !cleanB x := by
  unfold Lib.containsAny
  induction x with
  | nil => rfl
  | cons c x ih =>
    have e : cleanB (c :: x) = (decide (c ≠ 124 ∧ c ≠ 59) && cleanB x) := by simp [cleanB]
    have hge := Lib.indexAny_ge [124, 59] x
    rw [e, Lib.indexAny]
    by_cases h : c = 124 ∨ c = 59
    · have h1 : ([124, 59] : List UInt8).contains c = true := by rcases h with rfl | rfl <;> decide
      have h2 : decide (c ≠ 124 ∧ c ≠ 59) = false := by simp; intro h3; rcases h with h | h <;> simp_all
      rw [if_pos h1, h2]
      rfl
    · have h1 : ([124, 59] : List UInt8).contains c = false := by
        simp only [List.contains_cons, List.contains_nil, Bool.or_false, Bool.or_eq_false_iff, beq_eq_false_iff_ne]
        exact ⟨fun e => h (.inl e), fun e => h (.inr e)⟩
      have h2 : decide (c ≠ 124 ∧ c ≠ 59) = true := by simp; exact ⟨fun e => h (.inl e), fun e => h (.inr e)⟩
      rw [if_neg (by rw [h1]; exact Bool.false_ne_true), h2, Bool.true_and, ← ih]
      by_cases h3 : Lib.indexAny x [124, 59] = -1
      · rw [h3]; rfl
      · rw [if_neg (by simpa using h3)]
        congr 1
        exact propext ⟨fun h => by omega, fun h => by omega⟩

set_option maxRecDepth 100000 in
theorem l8_any (s : ByteArray) (b : Bool) (w : World) (hs : s.size ≤ 1048576) (hb : fieldB s.data.toList = b) :
    Calls Tryz.prog 96 #[.string s] w fun e w' => e = .returned (.bool b) ∧ w = w' := by
  have HB := Lib.hid hb
  clear hb
  go_enter Tryz.func96, Tryz.ntmps96
  go_wp2
  go_loop [3] (fun i => ∃ k : Nat, k ≤ s.size ∧ i = .int .i64 k ∧ cleanB (s.data.toList.take k) = true) (fun i => s.size - (intOf i).toNat)
  case atStart => exact ⟨0, Nat.zero_le _, rfl, clean_zero _⟩
  case round =>
    obtain ⟨k, hk, rfl, hc⟩ := hrel
    have HC := Lib.hid hc
    clear hc
    by_cases hlt : k < s.size
    · have HX := Lib.hid (nbyte_at? s k hlt)
      have hby := s[k].toNat_lt
      by_cases h1 : s[k].toNat = 124
      · have hq : ((s[k].toNat : Int) == 124) = true := by simp; omega
        have HE := Lib.hid (show s[k] = 124 ∨ s[k] = 59 from .inl (UInt8.toNat_inj.1 h1))
        clear h1
        go_wp2
        go_ret
        exact ⟨oret_bool (by rw [← HB.out, clean_no (List.mem_of_getElem? HX.out) HE.out]), rfl⟩
      · have hq : ((s[k].toNat : Int) == 124) = false := by simp; omega
        by_cases h2 : s[k].toNat = 59
        · have hq2 : ((s[k].toNat : Int) == 59) = true := by simp; omega
          have HE := Lib.hid (show s[k] = 124 ∨ s[k] = 59 from .inr (UInt8.toNat_inj.1 h2))
          clear h1 h2
          go_wp2
          go_ret
          exact ⟨oret_bool (by rw [← HB.out, clean_no (List.mem_of_getElem? HX.out) HE.out]), rfl⟩
        · have hq2 : ((s[k].toNat : Int) == 59) = false := by simp; omega
          have HN := Lib.hid (clean_yes HC.out HX.out (fun e => h1 (by rw [e]; rfl)) (fun e => h2 (by rw [e]; rfl)))
          clear h1 h2
          go_wp2
          go_round
          case rel => exact ⟨k + 1, by omega, by go_num, HN.out⟩
          case measure => simp [intOf]; omega
    · obtain rfl : k = s.size := by omega
      have HT := Lib.hid (show isTextB s.data.toList = b by
        have h1 := HC.out
        rw [ntake_all] at h1
        have h2 := HB.out
        unfold fieldB at h2
        rw [h1, Bool.true_and] at h2
        exact h2)
      go_wp2_with (go_at_call 126; (refine (spec_it _ _ (by omega) _ HT.out).mono ?_); rintro e w1 ⟨rfl, rfl⟩)
      go_ret
      exact ⟨rfl, rfl⟩

theorem all_zero (l : List Str) : (l.take 0).all fieldB = true := by simp
theorem all_yes {l : List Str} {k : Nat} {x : Str} (h : (l.take k).all fieldB = true) (hx : l[k]? = some x) (h1 : fieldB x = true) : (l.take (k + 1)).all fieldB = true := by
  obtain ⟨hlt, he⟩ := List.getElem?_eq_some_iff.1 hx
  rw [List.take_succ_eq_append_getElem hlt, List.all_append, h, he]
  simp [h1]
theorem all_no {l : List Str} {k : Nat} {x : Str} (hx : l[k]? = some x) (h1 : fieldB x = false) : l.all fieldB = false := by
  rw [List.all_eq_false]
  exact ⟨x, List.mem_of_getElem? hx, by rw [h1]; exact Bool.false_ne_true⟩
theorem rec_no_field {s k v : Int} {l : List Str} (h : l.all fieldB = false) : recB s k v l = false := by
  unfold recB fieldsB
  rw [h]
  simp

set_option maxRecDepth 100000 in
set_option maxHeartbeats 1600000 in
theorem iv_spec (s k v : Int) (a : Option Addr) (c : Nat) (l : List Str) (r : Bool) (w : World) (hr : recB s k v l = r) (h : Sm w a l c) :
    Calls Tryz.prog 64 #[.agg #[.int .i64 s, .int .i64 k, .int .i64 v, .slice a l.length c]] w fun e w' => e = .returned (.bool r) ∧ Below w.heap.size w w' := by
  have hlen : l.length ≤ 4000000 := h.2.2.2.1
  have HR := Lib.hid hr
  have HIN := Lib.hid (h.1.alloc (.cells #[.int .i64 s, .int .i64 k, .int .i64 v, .slice a l.length c] 37))
  have HX := Lib.hid h.2.2.2.2
  clear hr h
  go_enter Tryz.func64, Tryz.ntmps64
  go_wp2
  go_loop [3] (fun i => ∃ n : Nat, n ≤ l.length ∧ i = .int .i64 n ∧ (l.take n).all fieldB = true) (fun i => l.length - (intOf i).toNat)
  case atStart => exact ⟨0, Nat.zero_le _, rfl, all_zero _⟩
  case round =>
    obtain ⟨n, hn, rfl, hall⟩ := hrel
    have HA := Lib.hid hall
    clear hall
    by_cases hlt : n < l.length
    · obtain ⟨b, off, rfl, hb, hc⟩ := HIN.out (by omega)
      obtain ⟨x, t, hx1, hx2, hx3, hx4⟩ := str_at hlt
      have hcell := hc n x hx1
      rw [hx3] at hcell
      have HSZ := Lib.hid (show t.size ≤ 1048576 by rw [hx4]; exact HX.out x (List.mem_of_getElem? hx1))
      have HX1 := Lib.hid hx1
      obtain ⟨f, hf⟩ : ∃ f, fieldB x = f := ⟨_, rfl⟩
      have HF := Lib.hid (show fieldB t.data.toList = f by rw [hx2]; exact hf)
      have HF2 := Lib.hid hf
      clear hc hx1 hx2 hx3 hx4 hf
      cases f
      · go_wp2_with (go_at_call 96; (refine (l8_any t false _ HSZ.out HF.out).mono ?_); rintro e w1 ⟨rfl, rfl⟩)
        go_ret
        exact ⟨oret_bool (by rw [← HR.out, rec_no_field (all_no HX1.out HF2.out)]), (Below.refl _ _).alloc (Nat.le_refl _) _⟩
      · go_wp2_with (go_at_call 96; (refine (l8_any t true _ HSZ.out HF.out).mono ?_); rintro e w1 ⟨rfl, rfl⟩)
        go_round
        case rel => exact ⟨n + 1, by omega, by go_num, all_yes HA.out HX1.out HF2.out⟩
        case measure => simp [intOf]; omega
    · obtain rfl : n = l.length := by omega
      have HAL := Lib.hid (show l.all fieldB = true by have := HA.out; rw [List.take_length] at this; exact this)
      have HRR := Lib.hid (show (headB s k v && decide (l.length = 4)) = r by
        have h1 := HR.out
        unfold recB fieldsB at h1
        rw [HAL.out, Bool.and_true] at h1
        exact h1)
      by_cases h1 : 0 ≤ s ∧ s ≤ 3
      · have H1a := Lib.hid h1.1
        have H1b := Lib.hid h1.2
        have H1 := Lib.hid h1
        clear h1
        by_cases h2 : 1 ≤ k ∧ k ≤ 99
        · have H2a := Lib.hid h2.1
          have H2b := Lib.hid h2.2
          have H2 := Lib.hid h2
          clear h2
          by_cases h3 : 1 ≤ v ∧ v ≤ 999
          · have H3a := Lib.hid h3.1
            have H3b := Lib.hid h3.2
            have H3 := Lib.hid h3
            clear h3
            by_cases h4 : l.length = 4
            · have hq : ((l.length : Int) == 4) = true := by simp; omega
              have H4 := Lib.hid h4
              clear h4
              go_wp2_with (first
                | (go_at_call 97; (with_reducible refine (l1In_yes s 0 3 _ H1a.out H1b.out).mono ?_); rintro e w1 ⟨rfl, rfl⟩)
                | (go_at_call 97; (with_reducible refine (l1In_yes k 1 99 _ H2a.out H2b.out).mono ?_); rintro e w1 ⟨rfl, rfl⟩)
                | (go_at_call 97; (with_reducible refine (l1In_yes v 1 999 _ H3a.out H3b.out).mono ?_); rintro e w1 ⟨rfl, rfl⟩))
              go_ret
              exact ⟨oret_bool (by rw [← HRR.out]; unfold headB; simp only [decide_eq_true H1.out, decide_eq_true H2.out, decide_eq_true H3.out, decide_eq_true H4.out]; rfl), (Below.refl _ _).alloc (Nat.le_refl _) _⟩
            · have hq : ((l.length : Int) == 4) = false := by simp; omega
              have H4 := Lib.hid h4
              clear h4
              go_wp2_with (first
                | (go_at_call 97; (with_reducible refine (l1In_yes s 0 3 _ H1a.out H1b.out).mono ?_); rintro e w1 ⟨rfl, rfl⟩)
                | (go_at_call 97; (with_reducible refine (l1In_yes k 1 99 _ H2a.out H2b.out).mono ?_); rintro e w1 ⟨rfl, rfl⟩)
                | (go_at_call 97; (with_reducible refine (l1In_yes v 1 999 _ H3a.out H3b.out).mono ?_); rintro e w1 ⟨rfl, rfl⟩))
              go_ret
              exact ⟨oret_bool (by rw [← HRR.out]; unfold headB; simp only [decide_eq_true H1.out, decide_eq_true H2.out, decide_eq_true H3.out, decide_eq_false H4.out]; rfl), (Below.refl _ _).alloc (Nat.le_refl _) _⟩
          · have H3 := Lib.hid h3
            clear h3
            go_wp2_with (first
              | (go_at_call 97; (with_reducible refine (l1In_yes s 0 3 _ H1a.out H1b.out).mono ?_); rintro e w1 ⟨rfl, rfl⟩)
              | (go_at_call 97; (with_reducible refine (l1In_yes k 1 99 _ H2a.out H2b.out).mono ?_); rintro e w1 ⟨rfl, rfl⟩)
              | (go_at_call 97; (with_reducible refine (l1In_no v 1 999 _ H3.out).mono ?_); rintro e w1 ⟨rfl, rfl⟩))
            go_ret
            exact ⟨oret_bool (by rw [← HRR.out]; unfold headB; simp only [decide_eq_false H3.out, Bool.and_false, Bool.false_and]), (Below.refl _ _).alloc (Nat.le_refl _) _⟩
        · have H2 := Lib.hid h2
          clear h2
          go_wp2_with (first
            | (go_at_call 97; (with_reducible refine (l1In_yes s 0 3 _ H1a.out H1b.out).mono ?_); rintro e w1 ⟨rfl, rfl⟩)
            | (go_at_call 97; (with_reducible refine (l1In_no k 1 99 _ H2.out).mono ?_); rintro e w1 ⟨rfl, rfl⟩))
          go_ret
          exact ⟨oret_bool (by rw [← HRR.out]; unfold headB; simp only [decide_eq_false H2.out, Bool.and_false, Bool.false_and]), (Below.refl _ _).alloc (Nat.le_refl _) _⟩
      · have H1 := Lib.hid h1
        clear h1
        go_wp2_with (first
          | (go_at_call 97; (with_reducible refine (l1In_no s 0 3 _ H1.out).mono ?_); rintro e w1 ⟨rfl, rfl⟩))
        go_ret
        exact ⟨oret_bool (by rw [← HRR.out]; unfold headB; simp only [decide_eq_false H1.out, Bool.false_and]), (Below.refl _ _).alloc (Nat.le_refl _) _⟩

theorem rwithin_one (lo hi x : Int) (r : Bool) (w0 w : World) (g : Nat) (hw : w = w0.alloc (.cells #[.int .i64 x] 3)) (hg : w0.heap.size = g) (hr : withinB lo hi [x] = r) :
    Calls Tryz.prog 118 #[.int .i64 lo, .int .i64 hi, .slice (some ⟨g, 0, none⟩) 1 1] w fun e w' => e = .returned (.bool r) ∧ w' = w := by
  subst hg
  refine within_is lo hi _ 1 [x] r w (by simp) ?_ hr
  rw [hw]
  exact InI.new w0 [x]

theorem within_at1 (lo hi x : Int) (r : Bool) (o1 : Obj) (w : World) (hr : withinB lo hi [x] = r) :
    Calls Tryz.prog 118 #[.int .i64 lo, .int .i64 hi, .slice (some ⟨w.heap.size + 1, 0, none⟩) 1 1] ((w.alloc o1).alloc (.cells #[.int .i64 x] 3)) fun e w' => e = .returned (.bool r) ∧ w' = (w.alloc o1).alloc (.cells #[.int .i64 x] 3) :=
  rwithin_one lo hi x r _ _ _ rfl (by simp) hr
theorem within_at2 (lo hi x : Int) (r : Bool) (o1 o2 : Obj) (w : World) (hr : withinB lo hi [x] = r) :
    Calls Tryz.prog 118 #[.int .i64 lo, .int .i64 hi, .slice (some ⟨w.heap.size + 1 + 1, 0, none⟩) 1 1] (((w.alloc o1).alloc o2).alloc (.cells #[.int .i64 x] 3)) fun e w' => e = .returned (.bool r) ∧ w' = ((w.alloc o1).alloc o2).alloc (.cells #[.int .i64 x] 3) :=
  rwithin_one lo hi x r _ _ _ rfl (by simp) hr
theorem within_at3 (lo hi x : Int) (r : Bool) (o1 o2 o3 : Obj) (w : World) (hr : withinB lo hi [x] = r) :
    Calls Tryz.prog 118 #[.int .i64 lo, .int .i64 hi, .slice (some ⟨w.heap.size + 1 + 1 + 1, 0, none⟩) 1 1] ((((w.alloc o1).alloc o2).alloc o3).alloc (.cells #[.int .i64 x] 3)) fun e w' => e = .returned (.bool r) ∧ w' = (((w.alloc o1).alloc o2).alloc o3).alloc (.cells #[.int .i64 x] 3) :=
  rwithin_one lo hi x r _ _ _ rfl (by simp) hr

theorem within_dec (lo hi x : Int) : withinB lo hi [x] = decide (lo ≤ x ∧ x ≤ hi) := by
  unfold withinB
  simp

set_option maxRecDepth 100000 in
theorem hh_impl (s k v : Int) (V : Value) (r : Bool) (w : World) (hr : headB s k v = r) :
    Calls Tryz.prog 88 #[.agg #[.int .i64 s, .int .i64 k, .int .i64 v, V]] w fun e w' => e = .returned (.bool r) ∧ Below w.heap.size w w' := by
  have HR := Lib.hid hr
  clear hr
  obtain ⟨b1, h1⟩ : ∃ b, withinB 0 3 [s] = b := ⟨_, rfl⟩
  obtain ⟨b2, h2⟩ : ∃ b, withinB 1 99 [k] = b := ⟨_, rfl⟩
  obtain ⟨b3, h3⟩ : ∃ b, withinB 1 999 [v] = b := ⟨_, rfl⟩
  have HRR := Lib.hid (show (b1 && b2 && b3) = r by
    rw [← HR.out, ← h1, ← h2, ← h3, within_dec, within_dec, within_dec]
    rfl)
  have H1 := Lib.hid h1
  have H2 := Lib.hid h2
  have H3 := Lib.hid h3
  clear h1 h2 h3
  cases b1
  all_goals cases b2
  all_goals cases b3
  all_goals
    go_enter Tryz.func88, Tryz.ntmps88
    go_wp2_with (first
      | (go_at_call 118; (with_reducible refine (within_at1 0 3 s _ _ _ H1.out).mono ?_); rintro e w1 ⟨rfl, rfl⟩)
      | (go_at_call 118; (with_reducible refine (within_at2 1 99 k _ _ _ _ H2.out).mono ?_); rintro e w1 ⟨rfl, rfl⟩)
      | (go_at_call 118; (with_reducible refine (within_at3 1 999 v _ _ _ _ _ H3.out).mono ?_); rintro e w1 ⟨rfl, rfl⟩))
    go_ret
    obtain rfl := HRR.out
    exact ⟨rfl, by first
      | exact ((Below.refl w.heap.size w).alloc (Nat.le_refl _) _).alloc (by simp) _
      | exact (((Below.refl w.heap.size w).alloc (Nat.le_refl _) _).alloc (by simp) _).alloc (by simp; omega) _
      | exact ((((Below.refl w.heap.size w).alloc (Nat.le_refl _) _).alloc (by simp) _).alloc (by simp; omega) _).alloc (by simp; omega) _⟩

theorem text_ascii {x : Str} (h : isTextB x = true) : ∀ (j : Nat) b, x[j]? = some b → b.toNat < 128 := by
  intro j b hj
  unfold isTextB at h
  have h1 := (of_decide_eq_true h).2 b (List.mem_of_getElem? hj)
  omega
theorem marks_ascii : ∀ (j : Nat) b, (⟨#[124, 59]⟩ : ByteArray).data.toList[j]? = some b → b.toNat < 128 := by
  intro j b hj
  have h1 : b ∈ ([124, 59] : List UInt8) := List.mem_of_getElem? hj
  simp at h1
  rcases h1 with rfl | rfl <;> decide

theorem any_is (s : ByteArray) (r : Bool) (w : World) (hs : s.size ≤ 1048576) (ht : isTextB s.data.toList = true) (hr : (!cleanB s.data.toList) = r) :
    Calls Tryz.prog 120 #[.string s, .string ⟨#[124, 59]⟩] w fun e w' => e = .returned (.bool r) ∧ Below w.heap.size w w' :=
  (Tryz.strings_ContainsAny_laid s ⟨#[124, 59]⟩ w (by omega) (by decide) (text_ascii ht) marks_ascii).mono fun e w' ⟨he, hb⟩ => ⟨by rw [he, ← hr, ← hasAny_is], hb⟩

set_option maxRecDepth 100000 in
set_option maxHeartbeats 1600000 in
theorem hf_impl (s k v : Int) (a : Option Addr) (c : Nat) (l : List Str) (r : Bool) (w : World) (hr : fieldsB l = r) (h : Sm w a l c) :
    Calls Tryz.prog 89 #[.agg #[.int .i64 s, .int .i64 k, .int .i64 v, .slice a l.length c]] w fun e w' => e = .returned (.bool r) ∧ Below w.heap.size w w' := by
  have hlen : l.length ≤ 4000000 := h.2.2.2.1
  have HR := Lib.hid hr
  have HIN := Lib.hid h.1
  have HX := Lib.hid h.2.2.2.2
  clear hr h
  by_cases h4 : l.length = 4
  · have hq : ((l.length : Int) != 4) = false := by simp; omega
    have HRR := Lib.hid (show l.all fieldB = r by
      rw [← HR.out]
      unfold fieldsB
      rw [decide_eq_true h4, Bool.true_and])
    clear h4
    go_enter Tryz.func89, Tryz.ntmps89
    go_wp2
    go_loopw [12] (fun i wr => ∃ n : Nat, n ≤ l.length ∧ i = .int .i64 n ∧ (l.take n).all fieldB = true ∧ Below w.heap.size w wr) (fun i _ => l.length - (intOf i).toNat)
    case atStart => exact ⟨0, Nat.zero_le _, rfl, all_zero _, (Below.refl _ _).alloc (Nat.le_refl _) _⟩
    case round =>
      obtain ⟨n, hn, rfl, hall, hb⟩ := hrel
      have HA := Lib.hid hall
      have HB := Lib.hid hb
      clear hall hb
      by_cases hlt : n < l.length
      · obtain ⟨b, off, rfl, hbw, hc⟩ := HIN.out (by omega)
        obtain ⟨x, t, hx1, hx2, hx3, hx4⟩ := str_at hlt
        have hcell : wr.cell? ⟨b, off + n, none⟩ = some (.string t) := by rw [← hx3, HB.out.cell (p := ⟨b, off + n, none⟩) hbw]; exact hc n x hx1
        have HSZ := Lib.hid (show t.size ≤ 1048576 by rw [hx4]; exact HX.out x (List.mem_of_getElem? hx1))
        have HX1 := Lib.hid hx1
        have HX2 := Lib.hid hx2
        obtain ⟨f, hf⟩ : ∃ f, isTextB t.data.toList = f := ⟨_, rfl⟩
        have HF := Lib.hid hf
        clear hc hx1 hx2 hx3 hx4 hf
        cases f
        · go_wp2_with (go_at_call 119; (refine (impl_it _ _ HSZ.out _ HF.out).mono ?_); rintro e w1 ⟨rfl, hb1⟩)
          go_ret
          exact ⟨oret_bool (by rw [← HRR.out, all_no HX1.out (by unfold fieldB; rw [← HX2.out, HF.out, Bool.and_false])]), HB.out.trans (hb1.mono HB.out.size)⟩
        · obtain ⟨g, hg⟩ : ∃ g, (!cleanB t.data.toList) = g := ⟨_, rfl⟩
          have HG := Lib.hid hg
          clear hg
          cases g
          · go_wp2_with (first
              | (go_at_call 119; (refine (impl_it _ _ HSZ.out _ HF.out).mono ?_); rintro e w1 ⟨rfl, hb1⟩)
              | (go_at_call 120; (refine (any_is _ _ _ HSZ.out HF.out HG.out).mono ?_); rintro e w2 ⟨rfl, hb2⟩))
            go_roundw
            case rel =>
              refine ⟨n + 1, by omega, by go_num, all_yes HA.out HX1.out ?_, (HB.out.trans (hb1.mono HB.out.size)).trans (hb2.mono (Nat.le_trans HB.out.size hb1.size))⟩
              have h1 := HG.out
              simp at h1
              unfold fieldB
              rw [← HX2.out, HF.out, h1]
              rfl
            case measure => simp [intOf]; omega
          · go_wp2_with (first
              | (go_at_call 119; (refine (impl_it _ _ HSZ.out _ HF.out).mono ?_); rintro e w1 ⟨rfl, hb1⟩)
              | (go_at_call 120; (refine (any_is _ _ _ HSZ.out HF.out HG.out).mono ?_); rintro e w2 ⟨rfl, hb2⟩))
            go_ret
            refine ⟨oret_bool ?_, (HB.out.trans (hb1.mono HB.out.size)).trans (hb2.mono (Nat.le_trans HB.out.size hb1.size))⟩
            have h1 := HG.out
            simp at h1
            rw [← HRR.out, all_no HX1.out (by unfold fieldB; rw [← HX2.out, h1]; rfl)]
      · obtain rfl : n = l.length := by omega
        go_wp2
        go_ret
        exact ⟨oret_bool (by have h1 := HA.out; rw [List.take_length] at h1; rw [← HRR.out, h1]), HB.out⟩
  · have hq : ((l.length : Int) != 4) = true := by simp; omega
    have HRR := Lib.hid (show false = r by
      rw [← HR.out]
      unfold fieldsB
      rw [decide_eq_false h4, Bool.false_and])
    clear h4
    go_enter Tryz.func89, Tryz.ntmps89
    go_wp2
    go_ret
    exact ⟨oret_bool HRR.out, (Below.refl _ _).alloc (Nat.le_refl _) _⟩

set_option maxRecDepth 100000 in
set_option maxHeartbeats 800000 in
theorem iv_impl (s k v : Int) (a : Option Addr) (c : Nat) (l : List Str) (r : Bool) (w : World) (hr : recB s k v l = r) (h : Sm w a l c) :
    Calls Tryz.prog 53 #[.agg #[.int .i64 s, .int .i64 k, .int .i64 v, .slice a l.length c]] w fun e w' => e = .returned (.bool r) ∧ Below w.heap.size w w' := by
  obtain ⟨b1, h1⟩ : ∃ b, headB s k v = b := ⟨_, rfl⟩
  obtain ⟨b2, h2⟩ : ∃ b, fieldsB l = b := ⟨_, rfl⟩
  have HRR := Lib.hid (show (b1 && b2) = r by rw [← hr, ← h1, ← h2]; rfl)
  have H1 := Lib.hid h1
  have H2 := Lib.hid h2
  have HSM := Lib.hid (h.below ((Below.refl _ _).alloc (Nat.le_refl _) (.cells #[.int .i64 s, .int .i64 k, .int .i64 v, .slice a l.length c] 37)))
  clear hr h h1 h2
  cases b1
  · go_enter Tryz.func53, Tryz.ntmps53
    go_wp2_with (go_at_call 88; (refine (hh_impl _ _ _ _ _ _ H1.out).mono ?_); rintro e w1 ⟨rfl, hb⟩)
    go_ret
    obtain rfl := HRR.out
    exact ⟨rfl, below_new hb⟩
  · go_enter Tryz.func53, Tryz.ntmps53
    go_wp2_with (go_at_call 88; (refine (hh_impl _ _ _ _ _ _ H1.out).mono ?_); rintro e w1 ⟨rfl, hb⟩; refine Hid.out ?_)
    have hr1 := (RecB.new 37 w _ s k v (.slice a l.length c) rfl).below hb
    have HB := Lib.hid (below_new hb)
    have HS2 := Lib.hid (HSM.out.below hb)
    have q0 := hr1.c0
    have q1 := hr1.c1
    have q2 := hr1.c2
    have q3 := hr1.c3
    clear hr1 hb
    refine Lib.hid ?_
    go_wp2_with (go_at_call 89; (refine (hf_impl _ _ _ _ _ _ _ _ H2.out HS2.out).mono ?_); rintro e w2 ⟨rfl, hb2⟩)
    go_ret
    obtain rfl := HRR.out
    exact ⟨by first | rfl | simp, HB.out.trans (hb2.mono HB.out.size)⟩

abbrev ivR := recB

end Go.Proofs.YtebddnjccmaimaaGreatDoor
