/-
  The walk of laws.FnIntegerEncodings: it answers true, whatever the code. By an AI agent.
-/
import Derived.Test.YtfplkkmfcojmaaaDoorDraw1
import Derived.Test.YtfplkkmfcojmaaaDoorEncFix
import Derived.Test.YtfplkkmfcojmaaaDoorDecFix
import Derived.Test.YtfplkkmfcojmaaaDoorDecVar
import Derived.Test.YtfplkkmfcojmaaaDoorEncHex
import Derived.Test.YtfplkkmfcojmaaaDoorDecHex
import Derived.Test.YtfplkkmfcojmaaaDoorParseInt
namespace Go.Proofs.YtfplkkmfcojmaaaDoor
open Go.RowKit
set_option linter.unusedVariables false

/-! plain facts -/
theorem leN_vint (n : Nat) : leN (vint n) = n := by
  induction n using Nat.strongRecOn with
  | ind n ih =>
    by_cases h : n < 128
    · rw [vint_small n h]
      simp only [leN, UInt8.toNat_ofNat']
      omega
    · rw [vint_large n h]
      simp only [leN, UInt8.toNat_ofNat', ih (n / 128) (by omega)]
      omega

theorem vint_short (k : Nat) : ∀ n, n < 128 ^ (k + 1) → (vint n).length ≤ k + 1 := by
  induction k with
  | zero => intro n h; rw [vint_small n (by simpa using h)]; simp
  | succ k ih =>
    intro n h
    by_cases h1 : n < 128
    · rw [vint_small n h1]; simp
    · rw [vint_large n h1, List.length_cons]
      have := ih (n / 128) (by rw [Nat.pow_succ] at h; omega)
      omega

theorem dv_of_vint (n : Nat) (t : List UInt8) (h : n ≤ 562949953421311) : DvOk (vint n ++ t) n (vint n).length := by
  have h1 := vint_length_pos n
  have h2 := vint_short 6 n (by have : (128 : Nat) ^ (6 + 1) = 562949953421312 := by decide
                                omega)
  have e : (vint n ++ t).take (vint n).length = vint n := by simp
  exact .inl ⟨h1, h2, by simp, by rw [e, leN_vint], e.symm⟩

theorem beN_fix (m : Nat) : ∀ n, n < 256 ^ m → beN (fixB m n) = n := by
  induction m with
  | zero => intro n h; simp at h; subst h; rfl
  | succ m ih =>
    intro n h
    rw [fixB, beN_snoc, ih (n / 256) (by rw [Nat.pow_succ] at h; omega), UInt8.toNat_ofNat']
    omega

theorem unhex_hex (l : List UInt8) : unhex (hexL l) = some l := by
  induction l with
  | nil => rfl
  | cons b l ih =>
    have hb := b.toNat_lt
    have h1 : ((UInt8.ofNat (digN (b.toNat / 16))).toNat : Int) = digN (b.toNat / 16) := by
      have := digN_lt (b.toNat / 16) (by omega)
      rw [UInt8.toNat_ofNat', Nat.mod_eq_of_lt (by omega)]
    have h2 : ((UInt8.ofNat (digN (b.toNat % 16))).toNat : Int) = digN (b.toNat % 16) := by
      have := digN_lt (b.toNat % 16) (by omega)
      rw [UInt8.toNat_ofNat', Nat.mod_eq_of_lt (by omega)]
    rw [hexL, unhex, h1, h2, hv_dig _ (by omega), hv_dig _ (by omega), if_neg (by omega), ih]
    have e : (16 * ((b.toNat / 16 : Nat) : Int) + ((b.toNat % 16 : Nat) : Int)).toNat = b.toNat := by omega
    rw [e]
    simp

/-! the drawing functions -/
def OneInt (w : World) (e : Ending) (w' : World) : Prop := ∃ n : Int, e = .returned (.int .i64 n) ∧ -9223372036854775808 ≤ n ∧ n ≤ 9223372036854775807 ∧ Below w.heap.size w w'
def OneText (w : World) (e : Ending) (w' : World) : Prop := ∃ l : List UInt8, e = .returned (.string (strOf l)) ∧ l.length ≤ 40 ∧ Below w.heap.size w w'
def TwoInts (w : World) (e : Ending) (w' : World) : Prop := ∃ n m : Int, e = .returned (.tuple #[.int .i64 n, .int .i64 m]) ∧ (-9223372036854775808 ≤ n ∧ n ≤ 9223372036854775807) ∧ -1 ≤ m ∧ m ≤ 8 ∧ Below w.heap.size w w'

set_option maxRecDepth 100000 in
set_option maxHeartbeats 1000000 in
theorem drawV (A : Option Addr) (len cap : Nat) (w : World) (hcode : CodeAt w w.heap.size A len) : Calls Tryd.prog 7 #[.slice A len cap] w (OneInt w) := by
  have HCODE := Lib.hid hcode
  clear hcode
  go_enter Tryd.func7, Tryd.ntmps7
  go_wp2_with (go_at_call 21; (refine (l1New_any A len cap _ HCODE.out).mono ?_); rintro e w1 ⟨c, rfl, hc1, hb1⟩; refine Hid.out ?_)
  refine Lib.hid ?_
  have HC1 := Lib.hid hc1
  have HB1 := Lib.hid hb1
  clear hc1 hb1
  go_wp2_with (go_at_call 22; (refine (l1Num_any w.heap.size c _ HC1.out).mono ?_); rintro e w2 ⟨n, rfl, h0, h1, hc2, hg2⟩)
  go_ret
  exact ⟨n, rfl, h0, h1, HB1.out.grown hg2 HB1.out.size (fun k hk => by injection hk with hk; have := HC1.out.1; omega)⟩

set_option maxRecDepth 100000 in
set_option maxHeartbeats 1000000 in
theorem drawH (A : Option Addr) (len cap : Nat) (w : World) (hcode : CodeAt w w.heap.size A len) : Calls Tryd.prog 8 #[.slice A len cap] w (OneText w) := by
  have HCODE := Lib.hid hcode
  clear hcode
  go_enter Tryd.func8, Tryd.ntmps8
  go_wp2_with (go_at_call 21; (refine (l1New_any A len cap _ HCODE.out).mono ?_); rintro e w1 ⟨c, rfl, hc1, hb1⟩; refine Hid.out ?_)
  refine Lib.hid ?_
  have HC1 := Lib.hid hc1
  have HB1 := Lib.hid hb1
  clear hc1 hb1
  go_wp2_with (go_at_call 23; (refine (l1Text_any w.heap.size c 40 _ HC1.out (by omega)).mono ?_); rintro e w2 ⟨l, rfl, h0, hc2, hg2⟩)
  go_ret
  exact ⟨l, rfl, h0, HB1.out.grown hg2 HB1.out.size (fun k hk => by injection hk with hk; have := HC1.out.1; omega)⟩

set_option maxRecDepth 100000 in
set_option maxHeartbeats 1000000 in
theorem drawF (A : Option Addr) (len cap : Nat) (w : World) (hcode : CodeAt w w.heap.size A len) : Calls Tryd.prog 11 #[.slice A len cap] w (TwoInts w) := by
  have HCODE := Lib.hid hcode
  clear hcode
  go_enter Tryd.func11, Tryd.ntmps11
  go_wp2_with (go_at_call 21; (refine (l1New_any A len cap _ HCODE.out).mono ?_); rintro e w1 ⟨c, rfl, hc1, hb1⟩; refine Hid.out ?_)
  refine Lib.hid ?_
  have HC1 := Lib.hid hc1
  have HB1 := Lib.hid hb1
  clear hc1 hb1
  go_wp2_with (go_at_call 22; (refine (l1Num_any w.heap.size c _ HC1.out).mono ?_); rintro e w2 ⟨n, rfl, h0, h1, hc2, hg2⟩; refine Hid.out ?_)
  refine Lib.hid ?_
  have HC2 := Lib.hid hc2
  have HG2 := Lib.hid hg2
  have HN := Lib.hid (And.intro h0 h1)
  clear hc2 hg2 h0 h1
  go_wp2_with (go_at_call 25; (refine (l1Below_any w.heap.size c _ _ HC2.out (by omega) (by omega)).mono ?_); rintro e w3 ⟨x, rfl, hx0, hx1, hc3, hg3⟩)
  go_ret2
  exact ⟨n, x - 1, rfl, HN.out, by omega, by omega, HB1.out.grown (grown_trans HG2.out hg3) HB1.out.size (fun k hk => by injection hk with hk; have := HC1.out.1; omega)⟩

theorem big_no (A : Option Addr) (len cap : Nat) (w : World) (h : (len : Int) ≤ 1048576) : Calls Tryd.prog 6 #[.slice A len cap] w fun e w' => e = .returned (.bool false) ∧ w = w' := by
  have hd : decide (1048576 < (len : Int)) = false := by simp; omega
  go_enter Tryd.func6, Tryd.ntmps6
  go_wp2
  go_ret
  exact ⟨rfl, rfl⟩

theorem big_yes (A : Option Addr) (len cap : Nat) (w : World) (h : 1048576 < (len : Int)) : Calls Tryd.prog 6 #[.slice A len cap] w fun e w' => e = .returned (.bool true) ∧ w = w' := by
  have hd : decide (1048576 < (len : Int)) = true := by simp; omega
  go_enter Tryd.func6, Tryd.ntmps6
  go_wp2
  go_ret
  exact ⟨rfl, rfl⟩

theorem CodeAt.on {w w' : World} {A : Option Addr} {len : Nat} (h : CodeAt w w.heap.size A len) (hb : Below w.heap.size w w') : CodeAt w' w'.heap.size A len := by
  have h1 := h.keep (w' := w') (fun k hk => hb.block k hk)
  refine ⟨h1.1, fun h0 => ?_⟩
  obtain ⟨b, off, hA, hb1, hz⟩ := h1.2 h0
  exact ⟨b, off, hA, Nat.lt_of_lt_of_le hb1 hb.size, hz⟩

theorem chain {w w1 w2 : World} (h1 : Below w.heap.size w w1) (h2 : Below w1.heap.size w1 w2) : Below w.heap.size w w2 := h1.trans (h2.mono h1.size)

theorem pi_of_itoa {w z : Int} {good : Bool} (h : PiOk (Lib.itoa w) z good) : (good = true ∧ z = w ∧ -1000000000 < w ∧ w < 1000000000) ∨ (good = false ∧ (w ≤ -1000000000 ∨ (-1000000000 < w ∧ 1000000000 ≤ w))) := by
  rcases h with ⟨rfl, h1, h2, h3⟩ | ⟨rfl, rfl, h1⟩
  · obtain rfl := itoa_inj h1
    exact .inl ⟨rfl, rfl, h2, h3⟩
  · refine .inr ⟨rfl, ?_⟩
    have := h1 w
    by_cases h2 : -1000000000 < w
    · by_cases h3 : w < 1000000000
      · exact absurd rfl (h1 w h2 h3)
      · omega
    · omega

def SomeDf (w : World) (e : Ending) (w' : World) : Prop := ∃ (y : Int) (ok : Bool), e = .returned (.tuple #[.int .i64 y, .bool ok]) ∧ w = w'

theorem impl_df_any (s : ByteArray) (m : Int) (w : World) (hs : s.size ≤ maxLen) : Calls Tryd.prog 13 #[.string s, .int .i64 m] w (SomeDf w) := by
  by_cases h : 1 ≤ m ∧ m ≤ 7 ∧ m ≤ s.size
  · obtain ⟨h1, h2, h3⟩ := h
    obtain ⟨k, rfl⟩ := Int.eq_ofNat_of_zero_le (show 0 ≤ m by omega)
    exact (impl_df_yes s k w hs (by omega) (by omega) (by omega)).mono fun _ _ ⟨h, hw⟩ => ⟨_, _, h, hw⟩
  · exact (impl_df_no s m w hs h).mono fun _ _ ⟨h, hw⟩ => ⟨_, _, h, hw⟩

theorem df_back (a b : Nat) (l : List UInt8) (h : a < 256 ^ b) : beN ((strOf (fixB b a) ++ strOf l).data.toList.take b) = a := by
  rw [strOf_append, strOf_list, List.take_left' (fixB_length b a), beN_fix b a h]

theorem empty_app (l : List UInt8) (h : l.length ≤ 40) : ((⟨#[]⟩ : ByteArray) ++ strOf l).size ≤ maxLen := by
  rw [show ((⟨#[]⟩ : ByteArray) ++ strOf l) = strOf ([] ++ l) from strOf_append [] l, strOf_size]
  unfold maxLen
  simp only [List.nil_append]
  omega

theorem not_empty {l : List UInt8} (h : 0 < l.length) : (strOf l).toList.isEmpty = false ∧ ¬ (strOf l).toList = [] := by
  rw [show (strOf l).toList = l from ByteArray.toList_mk l]
  cases l with
  | nil => simp at h
  | cons x r => simp

theorem impl_ef_big (n m : Nat) (w : World) (hn : (n : Int) ≤ 9223372036854775807) (h1 : 1 ≤ m) (h2 : m ≤ 7) (h : ¬ n < 256 ^ m) :
    Calls Tryd.prog 12 #[.int .i64 n, .int .i64 m] w fun e w' => e = .returned (.string ⟨#[]⟩) ∧ Below w.heap.size w w' :=
  (impl_ef n m w hn h1 h2).mono fun _ _ ⟨e, hb⟩ => ⟨by rw [e, efL, if_neg h]; rfl, hb⟩
theorem spec_ef_big (n m : Nat) (w : World) (hn : (n : Int) ≤ 9223372036854775807) (h1 : 1 ≤ m) (h2 : m ≤ 7) (h : ¬ n < 256 ^ m) :
    Calls Tryd.prog 14 #[.int .i64 n, .int .i64 m] w fun e w' => e = .returned (.string ⟨#[]⟩) ∧ Below w.heap.size w w' :=
  (spec_ef n m w hn h1 h2).mono fun _ _ ⟨e, hb⟩ => ⟨by rw [e, efL, if_neg h]; rfl, hb⟩
theorem impl_ef_fit (n m : Nat) (w : World) (hn : (n : Int) ≤ 9223372036854775807) (h1 : 1 ≤ m) (h2 : m ≤ 7) (h : n < 256 ^ m) :
    Calls Tryd.prog 12 #[.int .i64 n, .int .i64 m] w fun e w' => e = .returned (.string (strOf (fixB m n))) ∧ Below w.heap.size w w' :=
  (impl_ef n m w hn h1 h2).mono fun _ _ ⟨e, hb⟩ => ⟨by rw [e, efL, if_pos h], hb⟩
theorem spec_ef_fit (n m : Nat) (w : World) (hn : (n : Int) ≤ 9223372036854775807) (h1 : 1 ≤ m) (h2 : m ≤ 7) (h : n < 256 ^ m) :
    Calls Tryd.prog 14 #[.int .i64 n, .int .i64 m] w fun e w' => e = .returned (.string (strOf (fixB m n))) ∧ Below w.heap.size w w' :=
  (spec_ef n m w hn h1 h2).mono fun _ _ ⟨e, hb⟩ => ⟨by rw [e, efL, if_pos h], hb⟩

theorem df_fit (n m : Nat) (l : List UInt8) (w : World) (h1 : 1 ≤ m) (h2 : m ≤ 7) (h : n < 256 ^ m) (hl : l.length ≤ 40) :
    Calls Tryd.prog 13 #[.string (strOf (fixB m n) ++ strOf l), .int .i64 m] w fun e w' => e = .returned (.tuple #[.int .i64 n, .bool true]) ∧ w = w' := by
  have hs : (strOf (fixB m n) ++ strOf l).size = m + l.length := by rw [strOf_append, strOf_size, List.length_append, fixB_length]
  refine (impl_df_yes _ m w (by rw [hs]; unfold maxLen; omega) h1 h2 (by omega)).mono fun _ _ ⟨e, hw⟩ => ⟨by rw [e, df_back n m l h], hw⟩

theorem eh_short (l : List UInt8) (w : World) (hl : l.length ≤ 40) :
    Calls Tryd.prog 15 #[.string (strOf l)] w fun e w' => e = .returned (.string (strOf (hexL l))) ∧ Below w.heap.size w w' :=
  (impl_eh (strOf l) w (by rw [strOf_size]; omega)).mono fun _ _ ⟨e, hb⟩ => ⟨by rw [e, strOf_list], hb⟩
theorem dh_short (l : List UInt8) (w : World) (hl : l.length ≤ 40) :
    Calls Tryd.prog 16 #[.string (strOf (hexL l))] w fun e w' => e = .returned (.tuple #[.string (strOf l), .bool true]) ∧ Below w.heap.size w w' :=
  (impl_dh (strOf (hexL l)) w (by rw [strOf_size, hexL_length]; omega)).mono fun _ _ ⟨e, hb⟩ => ⟨by rw [e, strOf_list, (dh_some (unhex_hex l)).1, (dh_some (unhex_hex l)).2], hb⟩

theorem pi_short (n : Int) (w : World) (h0 : -9223372036854775808 ≤ n) (h1 : n ≤ 9223372036854775807) (ht : TabAt w) :
    Calls Tryd.prog 18 #[.string (strOf (Lib.itoa n))] w (SomePi (strOf (Lib.itoa n)) w) :=
  impl_pi _ w (by rw [strOf_size]; have := Lib.itoa_length_le n h0 h1; omega) ht

set_option maxRecDepth 100000 in
set_option maxHeartbeats 16000000 in
theorem FnIntegerEncodings_core (A : Option Addr) (len cap : Nat) (w : World) (hcode : CodeAt w w.heap.size A len) (ht : TabAt w) :
    Calls Tryd.prog 3 #[.slice A len cap] w fun e w' => e = .returned (.bool true) ∧ Below w.heap.size w w' := by
  have HCODE := Lib.hid hcode
  have HT := Lib.hid ht
  have hlen : (len : Int) ≤ 1048576 := by have := hcode.1; omega
  clear hcode ht
  go_enter Tryd.func3, Tryd.ntmps3
  go_wp2_with (first
    | (go_at_call 6; (refine (big_no A len cap _ hlen).mono ?_); rintro e w' ⟨rfl, rfl⟩)
    | (go_at_call 7; (refine (drawV A len cap _ HCODE.out).mono ?_); rintro e w1 ⟨n, rfl, hn0, hn1, hb1⟩; refine Hid.out ?_))
  refine Lib.hid ?_
  have HB1 := Lib.hid hb1
  clear hb1 hlen
  go_wp2_with (go_at_call 8; (refine (drawH A len cap _ (HCODE.out.on HB1.out)).mono ?_); rintro e w2 ⟨l, rfl, hl, hb2⟩; refine Hid.out ?_)
  refine Lib.hid ?_
  have HB2 := Lib.hid (chain HB1.out hb2)
  have hszl : (strOf l).size ≤ 40 := by rw [strOf_size]; exact hl
  have HL := Lib.hid hl
  clear hb2 hl
  have hcase : (∃ k : Nat, n = k ∧ k ≤ 562949953421311) ∨ n < 0 ∨ 562949953421311 < n := by
    by_cases h0 : 0 ≤ n
    · by_cases h1 : n ≤ 562949953421311
      · exact .inl ⟨n.toNat, by omega, by omega⟩
      · exact .inr (.inr (by omega))
    · exact .inr (.inl (by omega))
  rcases hcase with ⟨k, rfl, hv⟩ | hbad | hbad
  case' inl =>
    have HV := Lib.hid hv
    have hszv : (strOf (vint k)).size ≤ 7 := by
      rw [strOf_size]
      exact vint_short 6 k (by have := HV.out; have : (128 : Nat) ^ (6 + 1) = 562949953421312 := by decide
                               omega)
    clear hv
    go_wp2_with (go_at_call 9; (refine (impl_ev_yes k _ HV.out).mono ?_); rintro e w3 ⟨rfl, hb3⟩; refine Hid.out ?_)
    refine Lib.hid ?_
    have HB3 := Lib.hid (chain HB2.out hb3)
    clear hb3
    go_wp2_with (go_at_call 10; (refine (impl_dv _ _ ?_).mono ?_); (rw [strOf_append, strOf_size, List.length_append]; unfold maxLen; have := hszl; have := hszv; rw [strOf_size] at *; omega); rintro e w4 ⟨x, y, rfl, hd, hb4⟩; refine Hid.out ?_)
    refine Lib.hid ?_
    have HB4 := Lib.hid (chain HB3.out hb4)
    obtain ⟨rfl, rfl⟩ : x = k ∧ y = (vint k).length := by
      rw [strOf_append, strOf_list] at hd
      exact hd.same (dv_of_vint k l HV.out)
    clear hb4 hd
    have hv1 : (x : Int) ≤ 562949953421311 := by have := HV.out; omega
    obtain ⟨he1, he2⟩ := not_empty (vint_length_pos x)
    have he3 : (((vint x).length : Int) != ((strOf (vint x)).size : Int)) = false := by rw [strOf_size]; simp
    go_wp2_with (go_at_call 11; (refine (drawF A len cap _ (HCODE.out.on HB4.out)).mono ?_); rintro e w5 ⟨a, m, rfl, ha, hm0, hm1, hb5⟩; refine Hid.out ?_)
    refine Lib.hid ?_
    clear he1 he2 he3 hv1 hszv hn0 hn1
  case' inr.inl =>
    have HV : Hid (n < 0 ∨ 562949953421311 < n) := .inl hbad
    go_wp2_with (go_at_call 9; (refine (impl_ev_no n _ HV.out).mono ?_); rintro e w3 ⟨rfl, hb3⟩; refine Hid.out ?_)
    refine Lib.hid ?_
    have HB3 := Lib.hid (chain HB2.out hb3)
    clear hb3
    go_wp2_with (go_at_call 10; (refine (impl_dv _ _ (empty_app l HL.out)).mono ?_); rintro e w4 ⟨x, y, rfl, hd, hb4⟩; refine Hid.out ?_)
    refine Lib.hid ?_
    have HB4 := Lib.hid (chain HB3.out hb4)
    clear hb4 hd
    go_wp2_with (go_at_call 11; (refine (drawF A len cap _ (HCODE.out.on HB4.out)).mono ?_); rintro e w5 ⟨a, m, rfl, ha, hm0, hm1, hb5⟩; refine Hid.out ?_)
    refine Lib.hid ?_
    clear hbad hn0 hn1
  case' inr.inr =>
    have HV : Hid (n < 0 ∨ 562949953421311 < n) := .inr hbad
    have hd1 : decide (n ≤ 562949953421311) = false := by simp; omega
    have hd2 : decide (0 ≤ n) = true := by simp; omega
    have hd3 : 0 ≤ n := by omega
    go_wp2_with (go_at_call 9; (refine (impl_ev_no n _ HV.out).mono ?_); rintro e w3 ⟨rfl, hb3⟩; refine Hid.out ?_)
    refine Lib.hid ?_
    have HB3 := Lib.hid (chain HB2.out hb3)
    clear hb3
    go_wp2_with (go_at_call 10; (refine (impl_dv _ _ (empty_app l HL.out)).mono ?_); rintro e w4 ⟨x, y, rfl, hd, hb4⟩; refine Hid.out ?_)
    refine Lib.hid ?_
    have HB4 := Lib.hid (chain HB3.out hb4)
    clear hb4 hd
    go_wp2_with (go_at_call 11; (refine (drawF A len cap _ (HCODE.out.on HB4.out)).mono ?_); rintro e w5 ⟨a, m, rfl, ha, hm0, hm1, hb5⟩; refine Hid.out ?_)
    refine Lib.hid ?_
    clear hd1 hd2 hd3 hbad hn0 hn1
  all_goals
    have HB5 := Lib.hid (chain HB4.out hb5)
    have HA := Lib.hid ha
    clear hb5 ha
    have hcase2 : EfOff a m ∨ (∃ p b : Nat, a = p ∧ m = b ∧ 1 ≤ b ∧ b ≤ 7 ∧ ¬ p < 256 ^ b) ∨ (∃ p b : Nat, a = p ∧ m = b ∧ 1 ≤ b ∧ b ≤ 7 ∧ p < 256 ^ b) := by
      by_cases h : EfOff a m
      · exact .inl h
      · have h3 : 0 ≤ a ∧ 1 ≤ m ∧ m ≤ 7 := by unfold EfOff at h; omega
        by_cases h4 : a.toNat < 256 ^ m.toNat
        · exact .inr (.inr ⟨a.toNat, m.toNat, by omega, by omega, by omega, by omega, h4⟩)
        · exact .inr (.inl ⟨a.toNat, m.toNat, by omega, by omega, by omega, by omega, h4⟩)
    clear hm0 hm1
    rcases hcase2 with hoff | ⟨p, b, rfl, rfl, hp1, hp7, hnf⟩ | ⟨p, b, rfl, rfl, hp1, hp7, hfit⟩
    all_goals first
      | (have HOFF := Lib.hid hoff
         clear hoff
         go_wp2_with (go_at_call 12; (refine (impl_ef_off a m _ HOFF.out).mono ?_); rintro e w6 ⟨rfl, hb6⟩; refine Hid.out ?_)
         refine Lib.hid ?_
         have HB6 := Lib.hid (chain HB5.out hb6)
         clear hb6
         go_wp2_with (go_at_call 13; (refine (impl_df_any _ m _ (empty_app l HL.out)).mono ?_); rintro e w7 ⟨y', ok, rfl, rfl⟩; refine Hid.out ?_)
         refine Lib.hid ?_
         go_wp2_with (first
           | (go_at_call 14; (refine (spec_ef_off a m _ HOFF.out).mono ?_); rintro e w8 ⟨rfl, hb8⟩)
           | (go_at_call 15; (refine (eh_short l _ HL.out).mono ?_); rintro e w9 ⟨rfl, hb9⟩; refine Hid.out ?_))
         refine Lib.hid ?_
         have HB9 := Lib.hid (chain (chain HB6.out hb8) hb9)
         clear hb8 hb9)
      | (have HNF := Lib.hid hnf
         have HP := Lib.hid (And.intro hp1 hp7)
         clear hnf hp1 hp7
         go_wp2_with (go_at_call 12; (refine (impl_ef_big p b _ HA.out.2 HP.out.1 HP.out.2 HNF.out).mono ?_); rintro e w6 ⟨rfl, hb6⟩; refine Hid.out ?_)
         refine Lib.hid ?_
         have HB6 := Lib.hid (chain HB5.out hb6)
         clear hb6
         go_wp2_with (go_at_call 13; (refine (impl_df_any _ _ _ (empty_app l HL.out)).mono ?_); rintro e w7 ⟨y', ok, rfl, rfl⟩; refine Hid.out ?_)
         refine Lib.hid ?_
         go_wp2_with (first
           | (go_at_call 14; (refine (spec_ef_big p b _ HA.out.2 HP.out.1 HP.out.2 HNF.out).mono ?_); rintro e w8 ⟨rfl, hb8⟩)
           | (go_at_call 15; (refine (eh_short l _ HL.out).mono ?_); rintro e w9 ⟨rfl, hb9⟩; refine Hid.out ?_))
         refine Lib.hid ?_
         have HB9 := Lib.hid (chain (chain HB6.out hb8) hb9)
         clear hb8 hb9)
      | (have HFIT := Lib.hid hfit
         have HP := Lib.hid (And.intro hp1 hp7)
         have hszf : (strOf (fixB b p)).size ≤ 7 := by rw [strOf_size, fixB_length]; exact hp7
         have hbb : (b : Int) ≤ 7 := by omega
         clear hfit hp1 hp7
         go_wp2_with (go_at_call 12; (refine (impl_ef_fit p b _ HA.out.2 HP.out.1 HP.out.2 HFIT.out).mono ?_); rintro e w6 ⟨rfl, hb6⟩; refine Hid.out ?_)
         refine Lib.hid ?_
         have HB6 := Lib.hid (chain HB5.out hb6)
         clear hb6
         go_wp2_with (go_at_call 13; (refine (df_fit p b l _ HP.out.1 HP.out.2 HFIT.out HL.out).mono ?_); rintro e w7 ⟨rfl, rfl⟩; refine Hid.out ?_)
         refine Lib.hid ?_
         obtain ⟨he1, he2⟩ := not_empty (l := fixB b p) (by rw [fixB_length]; exact HP.out.1)
         have he3 : (((strOf (fixB b p)).size : Int) != (b : Int)) = false := by rw [strOf_size, fixB_length]; simp
         go_wp2_with (first
           | (go_at_call 14; (refine (spec_ef_fit p b _ HA.out.2 HP.out.1 HP.out.2 HFIT.out).mono ?_); rintro e w8 ⟨rfl, hb8⟩)
           | (go_at_call 15; (refine (eh_short l _ HL.out).mono ?_); rintro e w9 ⟨rfl, hb9⟩; refine Hid.out ?_))
         refine Lib.hid ?_
         have HB9 := Lib.hid (chain (chain HB6.out hb8) hb9)
         clear hb8 hb9 he1 he2 he3 hszf hbb)
  all_goals
    go_wp2_with (go_at_call 16; (refine (dh_short l _ HL.out).mono ?_); rintro e w10 ⟨rfl, hb10⟩; refine Hid.out ?_)
    refine Lib.hid ?_
    have HB10 := Lib.hid (chain HB9.out hb10)
    clear hb10
    go_wp2_with (go_at_call 17; (refine (impl_fi _ _ HA.out.1 HA.out.2 (HT.out.on HB10.out)).mono ?_); rintro e w11 ⟨rfl, hb11⟩; refine Hid.out ?_)
    refine Lib.hid ?_
    have HB11 := Lib.hid (chain HB10.out hb11)
    clear hb11
    go_wp2_with (go_at_call 18; (refine (pi_short _ _ HA.out.1 HA.out.2 (HT.out.on HB11.out)).mono ?_); rintro e w12 ⟨z, good, rfl, hpi, hb12⟩; refine Hid.out ?_)
    refine Lib.hid ?_
    have HB12 := Lib.hid (chain HB11.out hb12)
    clear hb12
    rw [strOf_list] at hpi
    have hlen2 : (((strOf (hexL l)).size : Int) == 2 * ((strOf l).size : Int)) = true := by rw [strOf_size, strOf_size, hexL_length]; simp
    rcases pi_of_itoa hpi with ⟨rfl, rfl, hr1, hr2⟩ | ⟨rfl, hs1 | ⟨hq1, hq2⟩⟩
    all_goals clear hpi
    all_goals first
      | (have hd1 := decide_eq_true hr1
         have hd2 := decide_eq_true hr2
         clear hr1 hr2)
      | (have hd1 := decide_eq_true hq1
         have hd2 := decide_eq_false (Int.not_lt.mpr hq2)
         clear hq1 hq2)
      | (have hd1 := decide_eq_false (Int.not_lt.mpr hs1)
         clear hs1)
    all_goals go_wp2_with (go_at_call 19; (refine (spec_fi _ _ HA.out.1 HA.out.2).mono ?_); rintro e w13 ⟨rfl, hb13⟩)
    all_goals go_ret
    all_goals exact ⟨rfl, chain HB12.out hb13⟩

end Go.Proofs.YtfplkkmfcojmaaaDoor
