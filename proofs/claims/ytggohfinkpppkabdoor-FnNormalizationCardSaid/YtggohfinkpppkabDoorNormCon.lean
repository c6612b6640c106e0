/-
  What laws.FnNormalization calls, each with the answer named by a variable. By an AI agent.
-/
import Derived.Test.YtggohfinkpppkabDoorDraw3
import Derived.Test.YtggohfinkpppkabDoorNIsNormal
import Derived.Test.YtggohfinkpppkabDoorInit
import Derived.Test.YtggohfinkpppkabDoorToks
import Derived.Test.YtggohfinkpppkabDoorTokSet
import Derived.Test.YtggohfinkpppkabDoorCmGrams
import Derived.Test.YtggohfinkpppkabDoorEqTokS
import Derived.Test.YtggohfinkpppkabDoorPlainIdem
namespace Go.Proofs.YtggohfinkpppkabDoor
open Go.RowKit
set_option linter.unusedVariables false

def RetV (w : World) (v : Value) (e : Ending) (w' : World) : Prop := e = .returned v ∧ Below w.heap.size w w'
def RetS (w : World) (l : List Str) (e : Ending) (w' : World) : Prop := ∃ a c, e = .returned (.slice a l.length c) ∧ Sm w' a l c ∧ Below w.heap.size w w'

theorem GivesS.small {w w' : World} {l : List Str} {e : Ending} (h1 : l.length ≤ 201) (h2 : ∀ x ∈ l, x.length ≤ 200) (h : GivesS w l e w') : RetS w l e w' := by
  obtain ⟨a, c, he, ho, hb⟩ := h
  exact ⟨a, c, he, ho.sm (by omega) (fun x hx => by have := h2 x hx; omega), hb⟩

theorem list_size (s : ByteArray) : s.data.toList.length = s.size := Array.length_toList

/-! Normalize -/
theorem n_small {s n : ByteArray} (hs : s.size ≤ 100) (hn : n = nstr (normL s.data.toList)) : n.size ≤ 200 := by rw [hn]; exact norm_small hs
theorem kNi {s n : ByteArray} (hs : s.size ≤ 100) (hn : n = nstr (normL s.data.toList)) (w : World) : Calls Tryd.prog 14 #[.string s] w (RetV w (.string n)) := by rw [hn]; exact impl_no s w (by omega)
theorem kNs {s n : ByteArray} (hs : s.size ≤ 100) (hn : n = nstr (normL s.data.toList)) (w : World) : Calls Tryd.prog 15 #[.string s] w (RetV w (.string n)) := by rw [hn]; exact spec_no s w (by omega)
theorem kNi2 {s n : ByteArray} (hs : s.size ≤ 100) (hn : n = nstr (normL s.data.toList)) (w : World) : Calls Tryd.prog 14 #[.string n] w (RetV w (.string n)) := by
  have h := impl_no n w (by have := n_small hs hn; omega)
  have e : nstr (normL n.data.toList) = n := by rw [hn, nstr_list, norm_twice]
  rw [e] at h
  exact h
/-! IsText, IsNormal -/
theorem kIi {s : ByteArray} {b : Bool} (hs : s.size ≤ 100) (hb : isTextB s.data.toList = b) (w : World) : Calls Tryd.prog 16 #[.string s] w (RetV w (.bool b)) := impl_it s w (by omega) b hb
theorem kIs {s : ByteArray} {b : Bool} (hs : s.size ≤ 100) (hb : isTextB s.data.toList = b) (w : World) : Calls Tryd.prog 17 #[.string s] w (RetV w (.bool b)) :=
  (spec_it s w (by omega) b hb).mono fun e w' ⟨he, hw⟩ => ⟨he, by rw [hw]; exact Below.refl _ _⟩
theorem kMi {s : ByteArray} {b : Bool} (hs : s.size ≤ 100) (hb : isNormalB s.data.toList = b) (w : World) : Calls Tryd.prog 18 #[.string s] w (RetV w (.bool b)) := impl_in s w (by omega) b hb
theorem kMs {s : ByteArray} {b : Bool} (hs : s.size ≤ 100) (hb : isNormalB s.data.toList = b) (w : World) : Calls Tryd.prog 19 #[.string s] w (RetV w (.bool b)) := spec_in s w (by omega) b hb
/-! Initials -/
theorem sp32 : Lib.asciiSpaceTab.getD 32 0 = 1 := by decide +kernel
theorem spWordT : ∀ i : Fin 256, isWordI (i.val : Int) = true → Lib.asciiSpaceTab.getD i.val 0 = 0 := by decide +kernel
theorem SpT.sp {w : World} (h : SpT w) : SpTab w := by
  have h32 := Lib.TabIs.cell h gSpT 32 (by rw [Lib.asciiSpaceTab_length]; decide)
  rw [sp32] at h32
  refine ⟨h32, fun c hc => ?_⟩
  have hc2 := Lib.TabIs.cell h gSpT c.toNat (by rw [Lib.asciiSpaceTab_length]; exact c.toNat_lt)
  rw [spWordT ⟨c.toNat, c.toNat_lt⟩ hc] at hc2
  exact hc2
theorem kAi {s i : ByteArray} (hs : s.size ≤ 100) (hi : i = nstr (headsL (wordsL (normL s.data.toList)))) (w : World) (hT : SpT w) : Calls Tryd.prog 20 #[.string s] w (RetV w (.string i)) := by rw [hi]; exact impl_ini s w (by omega) (spT_of hT) hT.sp
theorem kAs {s i : ByteArray} (hs : s.size ≤ 100) (hi : i = nstr (headsL (wordsL (normL s.data.toList)))) (w : World) : Calls Tryd.prog 21 #[.string s] w (RetV w (.string i)) := by rw [hi]; exact spec_ini s w (by omega)
/-! FoldCase, StripMarks, CollapseSpaces -/
theorem kFi {s f : ByteArray} (hs : s.size ≤ 100) (hf : f = nstr (foldL s.data.toList)) (w : World) : Calls Tryd.prog 22 #[.string s] w (RetV w (.string f)) := by rw [hf]; exact impl_fc s w (by omega)
theorem kFs {s f : ByteArray} (hs : s.size ≤ 100) (hf : f = nstr (foldL s.data.toList)) (w : World) : Calls Tryd.prog 23 #[.string s] w (RetV w (.string f)) := by rw [hf]; exact spec_fc s w (by omega)
theorem kFi2 {s f : ByteArray} (hs : s.size ≤ 100) (hf : f = nstr (foldL s.data.toList)) (w : World) : Calls Tryd.prog 22 #[.string f] w (RetV w (.string f)) := by
  have hz : f.size ≤ 1048576 := by rw [hf, nstr_size, foldL_length, list_size]; omega
  have h := impl_fc f w hz
  have e : nstr (foldL f.data.toList) = f := by rw [hf, nstr_list, fold_twice]
  rw [e] at h
  exact h
theorem kSi {s f : ByteArray} (hs : s.size ≤ 100) (hf : f = nstr (stripL s.data.toList)) (w : World) : Calls Tryd.prog 24 #[.string s] w (RetV w (.string f)) := by rw [hf]; exact impl_sm s w (by omega)
theorem kSs {s f : ByteArray} (hs : s.size ≤ 100) (hf : f = nstr (stripL s.data.toList)) (w : World) : Calls Tryd.prog 25 #[.string s] w (RetV w (.string f)) := by rw [hf]; exact spec_sm s w (by omega)
theorem kSi2 {s f : ByteArray} (hs : s.size ≤ 100) (hf : f = nstr (stripL s.data.toList)) (w : World) : Calls Tryd.prog 24 #[.string f] w (RetV w (.string f)) := by
  have hz : f.size ≤ 1048576 := by
    rw [hf, nstr_size]
    have h1 := stripL_length s.data.toList
    rw [list_size] at h1
    omega
  have h := impl_sm f w hz
  have e : nstr (stripL f.data.toList) = f := by rw [hf, nstr_list, strip_twice]
  rw [e] at h
  exact h
theorem kCi {s f : ByteArray} (hs : s.size ≤ 100) (hf : f = nstr (collL s.data.toList)) (w : World) : Calls Tryd.prog 26 #[.string s] w (RetV w (.string f)) := by rw [hf]; exact impl_cs s w (by omega)
theorem kCs {s f : ByteArray} (hs : s.size ≤ 100) (hf : f = nstr (collL s.data.toList)) (w : World) : Calls Tryd.prog 27 #[.string s] w (RetV w (.string f)) := by rw [hf]; exact spec_cs s w (by omega)
theorem kCi2 {s f : ByteArray} (hs : s.size ≤ 100) (hf : f = nstr (collL s.data.toList)) (w : World) : Calls Tryd.prog 26 #[.string f] w (RetV w (.string f)) := by
  have hz : f.size ≤ 1048576 := by
    rw [hf, nstr_size]
    have h1 := collL_length s.data.toList
    rw [list_size] at h1
    omega
  have h := impl_cs f w hz
  have e : nstr (collL f.data.toList) = f := by rw [hf, nstr_list, coll_twice]
  rw [e] at h
  exact h
/-! Tokens -/
theorem toks_few {s : ByteArray} {T : List Str} (hs : s.size ≤ 100) (hT : T = toksL s.data.toList) : T.length ≤ 201 ∧ ∀ x ∈ T, x.length ≤ 200 := by
  have h1 := norm_len s.data.toList
  rw [list_size] at h1
  subst hT
  refine ⟨?_, fun x hx => ?_⟩
  · have h2 := setL_length (wordsL (normL s.data.toList))
    have h3 := words_len (normL s.data.toList)
    unfold toksL
    omega
  · unfold toksL at hx
    have h2 := words_short (normL s.data.toList) x ((setL_mem _ _).1 hx)
    omega
theorem kTi {s : ByteArray} {T : List Str} (hs : s.size ≤ 100) (hT : T = toksL s.data.toList) (w : World) (ht : SpT w) : Calls Tryd.prog 8 #[.string s] w (RetS w T) := by
  obtain ⟨h1, h2⟩ := toks_few hs hT
  have h := tokens_impl0 s w (by omega) ht
  rw [show tokensR s.data.toList = T from hT.symm] at h
  exact h.mono fun e w' h => h.small h1 h2
theorem kTs {s : ByteArray} {T : List Str} (hs : s.size ≤ 100) (hT : T = toksL s.data.toList) (w : World) : Calls Tryd.prog 7 #[.string s] w (RetS w T) := by
  obtain ⟨h1, h2⟩ := toks_few hs hT
  have h := tokens_spec0 s w (by omega)
  rw [show tokensR s.data.toList = T from hT.symm] at h
  exact h.mono fun e w' h => h.small h1 h2
theorem kTn {s n : ByteArray} {T : List Str} (hs : s.size ≤ 100) (hn : n = nstr (normL s.data.toList)) (hT : T = toksL s.data.toList) (w : World) (ht : SpT w) : Calls Tryd.prog 8 #[.string n] w (RetS w T) := by
  obtain ⟨h1, h2⟩ := toks_few hs hT
  have h := tokens_impl0 n w (by have := n_small hs hn; omega) ht
  have e : tokensR n.data.toList = T := by rw [hT, hn, nstr_list]; exact toks_norm _
  rw [e] at h
  exact h.mono fun e w' h => h.small h1 h2
theorem join_size {s u : ByteArray} {T : List Str} {k : Nat} (hs : s.size ≤ 100) (hT : T = toksL s.data.toList) (hu : u.data.toList = joinL ((T.drop k).reverse)) : u.size ≤ 40401 := by
  obtain ⟨h1, h2⟩ := toks_few hs hT
  have h3 := joinL_len ((T.drop k).reverse) 200 fun x hx => h2 x (List.mem_of_mem_drop (List.mem_reverse.1 hx))
  rw [← hu, list_size, List.length_reverse, List.length_drop] at h3
  have h4 : (T.length - k) * 201 ≤ 201 * 201 := Nat.mul_le_mul_right _ (by omega)
  omega
theorem kTu {s u : ByteArray} {T : List Str} (hs : s.size ≤ 100) (hT : T = toksL s.data.toList) (hu : u.data.toList = joinL T.reverse) (w : World) (ht : SpT w) : Calls Tryd.prog 8 #[.string u] w (RetS w T) := by
  obtain ⟨h1, h2⟩ := toks_few hs hT
  have h := tokens_impl0 u w (by have := join_size (k := 0) hs hT hu; omega) ht
  have e : tokensR u.data.toList = T := by rw [hu]; exact toks_join (by rw [hT]; exact toks_tok _)
  rw [e] at h
  exact h.mono fun e w' h => h.small h1 h2
theorem kE {T : List Str} (a1 a2 : Option Addr) (c1 c2 : Nat) (w : World) (h1 : Sm w a1 T c1) (h2 : Sm w a2 T c2) : Calls Tryd.prog 28 #[.slice a1 T.length c1, .slice a2 T.length c2] w (RetV w (.bool true)) := by
  have h := spec_eq a1 a2 c1 c2 T T w h1.ml h2.ml h1.1 h2.1
  rw [eqB_same rfl (fun j _ => rfl)] at h
  exact h
theorem kZ {s : ByteArray} {T : List Str} (hT : T = toksL s.data.toList) (a : Option Addr) (c : Nat) (w : World) (h : Sm w a T c) : Calls Tryd.prog 29 #[.slice a T.length c] w (RetV w (.bool true)) := by
  have h := tset_impl a c T w h
  rw [show tsetR T = true from tsB_yes (by rw [hT]; exact toks_tok _)] at h
  exact h
/-! QGrams, CommonGrams -/
theorem grams_few {u : ByteArray} {q : Int} {G : List Str} (hu : u.size ≤ 200) (hG : G = qgR u.data.toList q) : G.length ≤ 201 ∧ ∀ x ∈ G, x.length ≤ 200 := by
  subst hG
  exact ⟨by have := qgR_small (q := q) hu; omega, fun x hx => by have := qgR_mem hx; omega⟩
theorem kQi {u : ByteArray} {q : Int} {G : List Str} (hu : u.size ≤ 200) (hq0 : -9223372036854775808 ≤ q) (hq1 : q ≤ 9223372036854775807) (hG : G = qgR u.data.toList q) (w : World) : Calls Tryd.prog 31 #[.string u, .int .i64 q] w (RetS w G) := by
  obtain ⟨h1, h2⟩ := grams_few hu hG
  have h := qg_impl u q w (by omega) hq0 hq1
  rw [← hG] at h
  exact h.mono fun e w' h => h.small h1 h2
theorem kQs {u : ByteArray} {q : Int} {G : List Str} (hu : u.size ≤ 200) (hq0 : -9223372036854775808 ≤ q) (hq1 : q ≤ 9223372036854775807) (hG : G = qgR u.data.toList q) (w : World) : Calls Tryd.prog 33 #[.string u, .int .i64 q] w (RetS w G) := by
  obtain ⟨h1, h2⟩ := grams_few hu hG
  have h := qg_spec u q w (by omega) hq0 hq1
  rw [← hG] at h
  exact h.mono fun e w' h => h.small h1 h2
theorem kGi {l m : List Str} {N : Nat} (hN : N = cgL l m) (a1 a2 : Option Addr) (c1 c2 : Nat) (w : World) (h1 : Sm w a1 l c1) (h2 : Sm w a2 m c2) : Calls Tryd.prog 34 #[.slice a1 l.length c1, .slice a2 m.length c2] w (RetV w (.int .i64 N)) := by
  rw [hN]; exact cgrams_impl a1 a2 c1 c2 l m w h1 h2
theorem kGs {l m : List Str} {N : Nat} (hN : N = cgL l m) (a1 a2 : Option Addr) (c1 c2 : Nat) (w : World) (h1 : Sm w a1 l c1) (h2 : Sm w a2 m c2) : Calls Tryd.prog 35 #[.slice a1 l.length c1, .slice a2 m.length c2] w (RetV w (.int .i64 N)) := by
  rw [hN]; exact cgrams_spec a1 a2 c1 c2 l m w h1 h2
theorem kGr {l m : List Str} {N : Nat} (hN : N = cgL l m) (a1 a2 : Option Addr) (c1 c2 : Nat) (w : World) (h1 : Sm w a1 m c1) (h2 : Sm w a2 l c2) : Calls Tryd.prog 34 #[.slice a1 m.length c1, .slice a2 l.length c2] w (RetV w (.int .i64 N)) :=
  kGi (by rw [hN, cg_comm]) a1 a2 c1 c2 w h1 h2
theorem kGg {l : List Str} (a1 a2 : Option Addr) (c1 c2 : Nat) (w : World) (h1 : Sm w a1 l c1) (h2 : Sm w a2 l c2) : Calls Tryd.prog 34 #[.slice a1 l.length c1, .slice a2 l.length c2] w (RetV w (.int .i64 l.length)) :=
  kGi (cg_self l).symm a1 a2 c1 c2 w h1 h2
theorem grams_count {u : ByteArray} {q : Int} {G : List Str} (hG : G = qgR u.data.toList q) (h : G.length ≠ 0) : 1 ≤ q ∧ q ≤ 3 ∧ (G.length : Int) = (u.size : Int) - q + 1 := by
  by_cases hq : 1 ≤ q ∧ q ≤ 3
  · obtain ⟨m, rfl⟩ := Int.eq_ofNat_of_zero_le (show 0 ≤ q by omega)
    rw [qgR_yes (by omega) (by omega)] at hG
    have h1 : G.length = u.size + 1 - m := by rw [hG, sortL_length, grams_len, list_size]
    refine ⟨hq.1, hq.2, ?_⟩
    omega
  · rw [qgR_no hq] at hG
    rw [hG] at h
    exact absurd rfl h

end Go.Proofs.YtggohfinkpppkabDoor
