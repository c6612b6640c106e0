/-
  What the laws' own markText, markStringS and heldStringS do. By an AI agent.
-/
import Derived.Test.YthjbekgognfiiaaJ1
namespace Go.Proofs.Ythjbekgognfiiaa
open Go.RowKit
set_option linter.unusedVariables false

/-- the digits of k ahead of acc -/
def mdigL : Nat → Nat → List UInt8 → List UInt8
  | 0, _, acc => acc
  | f + 1, k, acc => if k = 0 then acc else mdigL f (k / 10) (UInt8.ofNat (48 + k % 10) :: acc)
theorem mdigL_enough : ∀ (f g k : Nat) (acc : List UInt8), k ≤ f → k ≤ g → mdigL f k acc = mdigL g k acc := by
  intro f
  induction f with
  | zero =>
    intro g k acc h1 h2
    obtain rfl : k = 0 := by omega
    cases g <;> simp [mdigL]
  | succ f ih =>
    intro g k acc h1 h2
    cases g with
    | zero =>
      obtain rfl : k = 0 := by omega
      simp [mdigL]
    | succ g =>
      unfold mdigL
      by_cases h : k = 0
      · rw [if_pos h, if_pos h]
      · rw [if_neg h, if_neg h]
        exact ih g _ _ (by omega) (by omega)
theorem mdigL_step {k : Nat} (h : 0 < k) (acc : List UInt8) : mdigL k k acc = mdigL (k / 10) (k / 10) (UInt8.ofNat (48 + k % 10) :: acc) := by
  obtain ⟨f, rfl⟩ : ∃ f, k = f + 1 := ⟨k - 1, by omega⟩
  conv => lhs; unfold mdigL
  rw [if_neg (by omega)]
  exact mdigL_enough _ _ _ _ (by omega) (by omega)
theorem mdigL_zero (acc : List UInt8) : mdigL 0 0 acc = acc := rfl

/-- the mark of number k -/
def markL (k : Nat) : Str := 109 :: mdigL k k []
def marksL (k n : Nat) : List Str := (List.range n).map fun j => markL (k + j)
theorem marks_length (k n : Nat) : (marksL k n).length = n := by simp [marksL]
theorem marks_at {k n j : Nat} (h : j < n) : (marksL k n)[j]? = some (markL (k + j)) := by simp [marksL, h]
theorem marks_succ (k n : Nat) : marksL k (n + 1) = marksL k n ++ [markL (k + n)] := by simp [marksL, List.range_succ]

theorem mdig48 (x : Nat) : (48 : UInt8) + UInt8.ofNat x = UInt8.ofNat (48 + x) := by
  rw [UInt8.ofNat_add]; rfl
theorem mstr_cons (b c : UInt8) (l : List UInt8) (h : b = c) : Value.string ((⟨#[b]⟩ : ByteArray) ++ strOf l) = .string (strOf (c :: l)) := by
  subst h
  exact congrArg _ (strOf_append [b] l)

set_option maxRecDepth 100000 in
theorem mark_text (n : Nat) (w : World) (h0 : 0 < n) (h1 : (n : Int) ≤ 4611686018427387904) :
    Calls Try.prog 37 #[.int .i64 n] w fun e w' => e = .returned (encStr (markL n)) ∧ Below w.heap.size w w' := by
  have hle : decide ((n : Int) ≤ 0) = false := by simp; omega
  go_enter Try.func37, Try.ntmps37
  go_wp2
  clear hle
  go_loopw [0, 3] (fun a o wr => ∃ (k : Nat) (l : List UInt8), k ≤ n ∧ a = .int .i64 k ∧ o = .string (strOf l) ∧ l.length + k ≤ n ∧ mdigL n n [] = mdigL k k l ∧ Below w.heap.size w wr) (fun a _ _ => (intOf a).toNat)
  case atStart => exact ⟨n, [], Nat.le_refl _, rfl, rfl, by simp, rfl, Below.refl _ _⟩
  case round =>
    obtain ⟨k, l, hk, rfl, rfl, hlen, hd, hb⟩ := hrel
    have HD := Lib.hid hd
    have HB := Lib.hid hb
    have HLEN := Lib.hid hlen
    have hsz : (strOf l).size ≤ 4611686018427387904 := by rw [strOf_size]; omega
    clear hd hb hlen
    by_cases h0 : 0 < k
    · have hcv := convert_one wr (48 + (k : Int) % 10) (by omega) (by omega)
      go_wp2
      go_roundw
      case rel =>
        refine ⟨k / 10, UInt8.ofNat (48 + k % 10) :: l, by omega, by go_num, ?_, by have := HLEN.out; simp; omega, by rw [HD.out, mdigL_step h0], HB.out.trans ((Below.refl _ _).alloc HB.out.size _)⟩
        exact mstr_cons _ _ l (mdig48 _)
      case measure => simp [intOf]; omega
    · obtain rfl : k = 0 := by omega
      go_wp2
      go_ret
      refine ⟨?_, HB.out⟩
      have e : encStr (markL n) = .string ((⟨#[109]⟩ : ByteArray) ++ strOf l) := by
        unfold markL
        rw [HD.out, mdigL_zero]
        exact congrArg Value.string (strOf_append [109] l).symm
      rw [e]
      rfl

theorem own_at {w : World} {base : Nat} {a : Option Addr} {n cap : Nat} {xs : List Value} (h : w.ownsRow base 9 1 (.slice a n cap) n xs) (h0 : 0 < n) : ∃ g, a = some ⟨g, 0, none⟩ ∧ g < w.heap.size := by
  rcases h.2 with ⟨_, h1⟩ | ⟨g, cap', cur, hv, hb, hg, _⟩
  · omega
  · simp only [Value.slice.injEq] at hv
    exact ⟨g, hv.1, (Array.getElem?_eq_some_iff.1 hg).1⟩

/-- the first k are marked -/
def markV (l : List Str) (k0 k : Nat) : List Value := (marksL k0 k).map encStr ++ (l.drop k).map encStr
theorem markV_zero (l : List Str) (k0 : Nat) : markV l k0 0 = l.map encStr := by simp [markV, marksL]
theorem markV_all (l : List Str) (k0 : Nat) : markV l k0 l.length = (marksL k0 l.length).map encStr := by simp [markV]
theorem markV_at {l : List Str} {k0 k : Nat} {x : Str} (h : l[k]? = some x) : (markV l k0 k)[k]? = some (encStr x) := by
  obtain ⟨hlt, he⟩ := List.getElem?_eq_some_iff.1 h
  unfold markV
  rw [List.getElem?_append_right (by simp [marks_length]), List.length_map, marks_length, Nat.sub_self, List.getElem?_map, List.getElem?_drop, Nat.add_zero, h]
  rfl
theorem markV_set {l : List Str} {k0 k : Nat} (hlt : k < l.length) : (markV l k0 k).set k (encStr (markL (k0 + k))) = markV l k0 (k + 1) := by
  unfold markV
  rw [List.set_append_right _ _ (by simp [marks_length]), List.length_map, marks_length, Nat.sub_self, List.drop_eq_getElem_cons hlt, List.map_cons, List.set_cons_zero, marks_succ]
  simp

def Marked (w : World) (base : Nat) (a : Option Addr) (n cap k0 : Nat) (e : Ending) (w' : World) : Prop :=
  e = .returned (.int .i64 ((k0 + n : Nat) : Int)) ∧ OwnS w' base (.slice a n cap) (marksL k0 n) ∧ w.grownBy w' (Value.slice a n cap).ownBlock

theorem grown_trans' {a b d : World} {r : Option Nat} (h1 : a.grownBy b r) (h2 : b.grownBy d r) : a.grownBy d r :=
  ⟨h2.os.trans h1.os, h2.tape.trans h1.tape, h2.output.trans h1.output, Nat.le_trans h1.size h2.size, fun k hk hne => (h2.block k (Nat.lt_of_lt_of_le hk h1.size) hne).trans (h1.block k hk hne)⟩
theorem grown_of_below {w w' : World} (h : Below w.heap.size w w') (r : Option Nat) : w.grownBy w' r := ⟨h.os, h.tape, h.output, h.size, fun k hk _ => h.block k hk⟩

set_option maxRecDepth 100000 in
theorem mark_any (base : Nat) (a : Option Addr) (cap : Nat) (l : List Str) (k0 : Nat) (w : World) (hl : l.length ≤ 4000000) (hk0 : 0 < k0) (hk1 : k0 ≤ 4000000) (hown : OwnS w base (.slice a l.length cap) l) :
    Calls Try.prog 14 #[.slice a l.length cap, .int .i64 k0] w (Marked w base a l.length cap k0) := by
  have HOWN := Lib.hid hown
  clear hown
  go_enter Try.func14, Try.ntmps14
  go_wp2
  go_loopw [1, 5] (fun kk i wr => ∃ k : Nat, k ≤ l.length ∧ i = .int .i64 k ∧ kk = .int .i64 ((k0 + k : Nat) : Int) ∧ wr.ownsRow base 9 1 (.slice a l.length cap) l.length (markV l k0 k) ∧ w.grownBy wr (Value.slice a l.length cap).ownBlock) (fun _ i _ => l.length - (intOf i).toNat)
  case atStart => exact ⟨0, Nat.zero_le _, rfl, by go_num, by rw [markV_zero]; exact HOWN.out, World.grownBy.refl _ _⟩
  case round =>
    obtain ⟨k, hk, rfl, rfl, hrow, hg⟩ := hrel
    have HROW := Lib.hid hrow
    have HG := Lib.hid hg
    clear hrow hg
    by_cases hlt : k < l.length
    · obtain ⟨g, rfl, hgl⟩ := own_at HROW.out (by omega)
      have HGL := Lib.hid hgl
      clear hgl
      go_wp2_with (go_at_call 37; (refine (mark_text (k0 + k) _ (by omega) (by omega)).mono ?_); rintro e w1 ⟨rfl, hb1⟩; refine Hid.out ?_)
      refine Lib.hid ?_
      have HB1 := Lib.hid hb1
      have hrow1 : w1.ownsRow base 9 1 (.slice (some ⟨g, 0, none⟩) l.length cap) l.length (markV l k0 k) :=
        World.ownsRow.kept HROW.out (row := none) (grown_of_below hb1 none) (.inr (by simp [Value.ownBlock]))
      have hold : w1.cell? ⟨g, k, none⟩ = some (encStr l[k]) := by rw [hrow1.cellAt k (by omega)]; exact markV_at (List.getElem?_eq_getElem hlt)
      have hfz : w1.frozen? ⟨g, k, none⟩ = false := hrow1.frozenAt k
      have HN := Lib.hid (hrow1.stored k (encStr (markL (k0 + k))))
      clear hb1 hrow1
      go_wp2
      go_roundw
      case rel =>
        refine ⟨k + 1, by omega, by go_num, by go_num, ?_, ?_⟩
        · rw [← markV_set hlt]
          exact HN.out.1
        · exact grown_trans' (grown_trans' HG.out (grown_of_below HB1.out _)) HN.out.2
      case measure => simp [intOf]; omega
    · obtain rfl : k = l.length := by omega
      go_wp2
      go_ret
      refine ⟨rfl, ?_, HG.out⟩
      have h := HROW.out
      rw [markV_all] at h
      unfold OwnS
      rw [marks_length]
      exact h

end Go.Proofs.Ythjbekgognfiiaa
