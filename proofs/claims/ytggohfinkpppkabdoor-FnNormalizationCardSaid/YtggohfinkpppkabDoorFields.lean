/-
  What strings.FieldsSeq gives, at a text of letters, digits and spaces. By an AI agent.
-/
import Derived.RangeFuncNested
import Derived.RangeFuncBound
import Derived.RangeFuncCalls
import Derived.RangeFuncLeaves
import Derived.RangeFuncBox
import Derived.Shelf.Abstract
import Derived.Shelf.RegionOpen
import Derived.WalkKit
import Derived.OwnWalkIn
import Derived.TacticsInMore
import Derived.LoopNIn
import Derived.LoopIn
import Derived.Test.YtggohfinkpppkabDoorNFold
import Derived.Test.YtggohfinkpppkabDoorPlainWords
namespace Go.Proofs.YtggohfinkpppkabDoor
open Go.RowKit Go.Shelf
attribute [local go_sem] Oper.semAt_some
set_option linter.unusedVariables false

/-- strings.asciiSpace at the bytes that come -/
def SpTab (W : World) : Prop := W.cell? ⟨0, 32, none⟩ = some (.int .u8 1) ∧ ∀ c : UInt8, isWordI c.toNat = true → W.cell? ⟨0, c.toNat, none⟩ = some (.int .u8 0)

theorem SpTab.below {n₀ : Nat} {W W' : World} (h : SpTab W) (hb : Below n₀ W W') (hg : 0 < n₀) : SpTab W' :=
  ⟨(hb.cell (p := ⟨0, 32, none⟩) hg).trans h.1, fun c hc => (hb.cell (p := ⟨0, c.toNat, none⟩) hg).trans (h.2 c hc)⟩

abbrev Word := { b : ByteArray // 0 < b.size }
def wtexts (ws : List Word) : List (List UInt8) := ws.map fun x => x.1.data.toList

/-- what a round keeps: what lay below n₀, and the text's box -/
def KeptF (n₀ Bn : Nat) (W W' : World) : Prop := Below n₀ W W' ∧ W'.cell? ⟨Bn, 0, none⟩ = W.cell? ⟨Bn, 0, none⟩

theorem wS_len (l : List UInt8) : (wS l).1.length ≤ l.length := by
  induction l using snoc_ind with
  | h0 => simp [wS]
  | h1 l c ih =>
    rw [wS_snoc]
    unfold wStep
    rw [List.length_append, List.length_singleton]
    split
    · split
      · omega
      · simp; omega
    · simp; omega

/-- where the word under way began -/
def StartAt (t : ByteArray) (i : Nat) (cur : List UInt8) (st : Int) : Prop :=
  (cur = [] ∧ st = -1) ∨ (∃ a : Nat, st = a ∧ a < i ∧ i ≤ t.size ∧ cur = (t.extract a i).data.toList)

theorem extract_list (t : ByteArray) (a b : Nat) : (t.extract a b).data.toList = (t.data.toList.drop a).take (b - a) := by
  rw [Lib.extract_data]

theorem extract_snoc (t : ByteArray) (a i : Nat) (h : a ≤ i) (hi : i < t.size) : (t.extract a (i + 1)).data.toList = (t.extract a i).data.toList ++ [t[i]] := by
  rw [extract_list, extract_list, show i + 1 - a = (i - a) + 1 by omega, List.take_succ_eq_append_getElem (by simp; omega)]
  congr 2
  rw [List.getElem_drop]
  have e : a + (i - a) = i := by omega
  simp only [e]
  try rfl

theorem extract_size' (t : ByteArray) (a b : Nat) (h : b ≤ t.size) : (t.extract a b).size = b - a := by
  rw [ByteArray.size_extract]
  omega

theorem extract_ne {t : ByteArray} {a i : Nat} (h : a < i) (hi : i ≤ t.size) : (t.extract a i).data.toList ≠ [] := by
  intro e
  have h1 := congrArg List.length e
  have h2 := extract_size' t a i hi
  have h3 : (t.extract a i).data.toList.length = (t.extract a i).size := Array.length_toList
  rw [h3, h2] at h1
  simp at h1
  omega

/-- the place in the text, as the loop has it -/
structure At (t : ByteArray) (i : Nat) (pre : List Word) (st : Int) : Prop where
  texts : wtexts pre = (wS (t.data.toList.take i)).1
  start : StartAt t i (wS (t.data.toList.take i)).2 st

theorem at_zero (t : ByteArray) : At t 0 [] (-1) := ⟨by simp [wtexts, wS], .inl ⟨by simp [wS], rfl⟩⟩

theorem At.len {t : ByteArray} {i : Nat} {pre : List Word} {st : Int} (h : At t i pre st) (hi : i ≤ t.size) : pre.length < t.size + 1 := by
  have h1 := congrArg List.length h.texts
  have h2 := wS_len (t.data.toList.take i)
  have h3 : (t.data.toList.take i).length ≤ i := List.length_take_le _ _
  simp [wtexts] at h1
  omega

/-- a space between two words, or at the head -/
theorem At.skip {t : ByteArray} {i : Nat} {pre : List Word} (h : At t i pre (-1)) (hi : i < t.size) (hc : t[i] = 32) : At t (i + 1) pre (-1) := by
  have h2 : (wS (t.data.toList.take i)).2 = [] := by
    rcases h.start with ⟨e, _⟩ | ⟨a, e, _⟩
    · exact e
    · omega
  constructor
  · rw [h.texts, ftake_snoc t i hi, wS_snoc, hc]
    simp [wStep, h2]
  · rw [ftake_snoc t i hi, wS_snoc, hc]
    exact .inl ⟨by simp [wStep, h2], rfl⟩

/-- a space behind a word -/
theorem At.stop {t : ByteArray} {i a : Nat} {pre : List Word} (h : At t i pre a) (hi : i < t.size) (hc : t[i] = 32) (x : Word) (hx : x.1 = t.extract a i) : At t (i + 1) (pre ++ [x]) (-1) := by
  have h2 : a < i ∧ (wS (t.data.toList.take i)).2 = (t.extract a i).data.toList := by
    rcases h.start with ⟨_, e⟩ | ⟨b, e, h1, _, h3⟩
    · omega
    · obtain rfl : a = b := by omega
      exact ⟨h1, h3⟩
  have hne : (wS (t.data.toList.take i)).2 ≠ [] := by rw [h2.2]; exact extract_ne h2.1 (by omega)
  constructor
  · have e : wtexts (pre ++ [x]) = wtexts pre ++ [x.1.data.toList] := by simp [wtexts]
    rw [e, h.texts, ftake_snoc t i hi, wS_snoc, hc, hx, ← h2.2]
    simp [wStep, hne]
  · rw [ftake_snoc t i hi, wS_snoc, hc]
    exact .inl ⟨by simp [wStep, hne], rfl⟩

/-- the first byte of a word -/
theorem At.begin_ {t : ByteArray} {i : Nat} {pre : List Word} (h : At t i pre (-1)) (hi : i < t.size) (hc : t[i] ≠ 32) : At t (i + 1) pre i := by
  have h2 : (wS (t.data.toList.take i)).2 = [] := by
    rcases h.start with ⟨e, _⟩ | ⟨a, e, _⟩
    · exact e
    · omega
  constructor
  · rw [h.texts, ftake_snoc t i hi, wS_snoc]
    simp [wStep, hc]
  · rw [ftake_snoc t i hi, wS_snoc]
    refine .inr ⟨i, rfl, by omega, by omega, ?_⟩
    rw [extract_snoc t i i (Nat.le_refl _) hi]
    have e : (t.extract i i).data.toList = [] := by
      rw [extract_list]; simp
    rw [e]
    simp [wStep, hc, h2]

/-- a byte more of a word -/
theorem At.more {t : ByteArray} {i a : Nat} {pre : List Word} (h : At t i pre a) (hi : i < t.size) (hc : t[i] ≠ 32) : At t (i + 1) pre a := by
  have h2 : a < i ∧ (wS (t.data.toList.take i)).2 = (t.extract a i).data.toList := by
    rcases h.start with ⟨_, e⟩ | ⟨b, e, h1, _, h3⟩
    · omega
    · obtain rfl : a = b := by omega
      exact ⟨h1, h3⟩
  constructor
  · rw [h.texts, ftake_snoc t i hi, wS_snoc]
    simp [wStep, hc]
  · rw [ftake_snoc t i hi, wS_snoc]
    refine .inr ⟨a, rfl, by omega, by omega, ?_⟩
    rw [extract_snoc t a i (by omega) hi, ← h2.2]
    simp [wStep, hc]

theorem At.end_none {t : ByteArray} {pre : List Word} (h : At t t.size pre (-1)) : wtexts pre = wordsL t.data.toList := by
  have h1 := h.texts
  have h2 : (wS (t.data.toList.take t.size)).2 = [] := by
    rcases h.start with ⟨e, _⟩ | ⟨a, e, _⟩
    · exact e
    · omega
  rw [ftake_all] at h1 h2
  unfold wordsL
  rw [if_pos h2, h1]

theorem At.end_word {t : ByteArray} {a : Nat} {pre : List Word} (h : At t t.size pre a) (x : Word) (hx : x.1 = t.extract a t.size) : wtexts (pre ++ [x]) = wordsL t.data.toList := by
  have h1 := h.texts
  have h2 : a < t.size ∧ (wS (t.data.toList.take t.size)).2 = (t.extract a t.size).data.toList := by
    rcases h.start with ⟨_, e⟩ | ⟨b, e, h1, _, h3⟩
    · omega
    · obtain rfl : a = b := by omega
      exact ⟨h1, h3⟩
  have hne : (t.extract a t.size).data.toList ≠ [] := extract_ne h2.1 (Nat.le_refl _)
  rw [ftake_all] at h1 h2
  have e : wtexts (pre ++ [x]) = wtexts pre ++ [x.1.data.toList] := by simp [wtexts]
  unfold wordsL
  rw [e, h1, h2.2, if_neg hne, hx]

theorem At.word_lt {t : ByteArray} {i a : Nat} {pre : List Word} (h : At t i pre a) : a < i := by
  rcases h.start with ⟨_, e⟩ | ⟨b, e, h1, _, h3⟩
  · omega
  · omega

set_option maxRecDepth 100000 in
set_option maxHeartbeats 1000000 in
/-- the function that FieldsSeq gives, for every loop body that keeps what lay below n₀ and the text's box -/
theorem fields1_in (F : Fence) (n : Nat) (hF : F.fn 73) (hro : F.round = none) (hn : 1 ≤ n) (l Bn n₀ : Nat) (hg : 0 < n₀) (t : ByteArray) (ht : t.size ≤ 2097152) (hws : AllWS t.data.toList) (J Jx : List Word → World → Prop)
    (hY : ∀ pre x W, J pre W → pre.length < t.size + 1 → YieldAt F (n - 1) Tryd.prog l #[.string x.1] W fun e W' =>
      (e = .returned (.bool true) ∧ J (pre ++ [x]) W' ∧ KeptF n₀ Bn W W') ∨ (e = .returned (.bool false) ∧ Jx (pre ++ [x]) W'))
    (W : World) (hBn : W.cell? ⟨Bn, 0, none⟩ = some (.string t)) (hT : SpTab W) (h0 : J [] W) :
    CallsIn F n Tryd.prog 73 #[.func (.yield l) #[] #[], .pointer (some ⟨Bn, 0, none⟩)] W fun e W' => (∃ v, e = .returned v) ∧
      ((∃ ys, wtexts ys = wordsL t.data.toList ∧ J ys W') ∨ (∃ pre, True ∧ Jx pre W')) := by
  refine callsIn_of_wp Tryd.func73 rfl hF ?_ hro
  simp only [Tryd.ntmps73, List.size_toArray, List.length_cons, List.length_nil, Nat.reduceAdd, Nat.reduceSub, Array.replicate_succ, Array.replicate_zero, List.push_toArray, List.append_toArray, List.nil_append, List.cons_append]
  gi_wp2
  gi_loopw [3, 4] (fun p q wr => ∃ (i : Nat) (pre : List Word) (st : Int), i ≤ t.size ∧ p = .int .i64 st ∧ q = .int .i64 i ∧ At t i pre st ∧ J pre wr ∧ wr.cell? ⟨Bn, 0, none⟩ = some (.string t) ∧ SpTab wr)
    (fun _ q _ => t.size - (intOf q).toNat)
  case atStart => exact ⟨0, [], -1, Nat.zero_le _, rfl, rfl, at_zero t, h0, hBn, hT⟩
  case round =>
    obtain ⟨i, pre, st, hi, rfl, rfl, hat, hJ, hbox, htab⟩ := hrel
    have HJ := Lib.hid hJ
    have HAT := Lib.hid hat
    have HTAB := Lib.hid htab
    clear hJ hat htab
    by_cases hlt : i < t.size
    · have hmem : t[i] ∈ t.data.toList := List.mem_of_getElem? (fbyte_at? t i hlt)
      by_cases hsp : t[i] = 32
      · have hnat : t[i].toNat = 32 := by rw [hsp]; rfl
        have hcell : wr.cell? ⟨0, t[i].toNat, none⟩ = some (.int .u8 1) := by rw [hnat]; exact HTAB.out.1
        have hb1 : t[i].toNat < 128 := by omega
        have HSP := Lib.hid hsp
        clear hnat hmem hsp
        by_cases hst : st < 0
        · have hm1 : st = -1 := by
            rcases HAT.out.start with ⟨_, e⟩ | ⟨a, e, _⟩ <;> omega
          subst hm1
          clear hst
          gi_wp2
          go_roundw
          case rel => exact ⟨i + 1, pre, -1, by omega, rfl, by go_num, HAT.out.skip hlt HSP.out, HJ.out, hbox, HTAB.out⟩
          case measure => simp [intOf]; omega
        · obtain ⟨a, rfl⟩ := Int.eq_ofNat_of_zero_le (show 0 ≤ st by omega)
          clear hst
          have hai := HAT.out.word_lt
          have hxs : 0 < (t.extract a i).size := by rw [extract_size' t a i hi]; omega
          obtain ⟨fn, tmps, assign, body, hy, hR⟩ := hY pre ⟨t.extract a i, hxs⟩ wr HJ.out (HAT.out.len hi)
          dsimp only at hy
          have HR := Lib.hid hR
          clear hR
          have h1 : (0 : Int) ≤ (a : Int) := by omega
          have h2 : (a : Int) ≤ (i : Int) := by omega
          have h3 : (i : Int) ≤ (t.size : Int) := by omega
          gi_wp2
          refine HR.out.mono ?_
          rintro e W3 (⟨rfl, hJ3, hk3⟩ | ⟨rfl, hJx3⟩)
          · have HJ3 := Lib.hid hJ3
            have HB3 := Lib.hid (show W3.cell? ⟨Bn, 0, none⟩ = some (.string t) from hk3.2.trans hbox)
            have HT3 := Lib.hid (HTAB.out.below hk3.1 hg)
            clear hJ3 hk3
            gi_wp2
            go_roundw
            case rel => exact ⟨i + 1, pre ++ [⟨t.extract a i, hxs⟩], -1, by omega, rfl, by go_num, HAT.out.stop hlt HSP.out ⟨t.extract a i, hxs⟩ rfl, HJ3.out, HB3.out, HT3.out⟩
            case measure => simp [intOf]; omega
          · gi_wp2
            refine bodyPost_ret (results_none rfl _ _ _) rfl ?_
            exact ⟨⟨_, rfl⟩, .inr ⟨pre ++ [⟨t.extract a i, hxs⟩], trivial, hJx3⟩⟩
      · have hw : isWordI t[i].toNat = true := by
          rcases hws _ hmem with h | h
          · exact h
          · exact absurd h hsp
        have hcell : wr.cell? ⟨0, t[i].toNat, none⟩ = some (.int .u8 0) := HTAB.out.2 _ hw
        have hb1 : t[i].toNat < 128 := by have := of_wordI hw; omega
        have HSP := Lib.hid hsp
        clear hw hmem hsp
        by_cases hst : st < 0
        · have hm1 : st = -1 := by
            rcases HAT.out.start with ⟨_, e⟩ | ⟨a, e, _⟩ <;> omega
          subst hm1
          clear hst
          gi_wp2
          go_roundw
          case rel => exact ⟨i + 1, pre, i, by omega, rfl, by go_num, HAT.out.begin_ hlt HSP.out, HJ.out, hbox, HTAB.out⟩
          case measure => simp [intOf]; omega
        · obtain ⟨a, rfl⟩ := Int.eq_ofNat_of_zero_le (show 0 ≤ st by omega)
          clear hst
          have h1 : (0 : Int) ≤ (a : Int) := by omega
          gi_wp2
          go_roundw
          case rel => exact ⟨i + 1, pre, a, by omega, rfl, by go_num, HAT.out.more hlt HSP.out, HJ.out, hbox, HTAB.out⟩
          case measure => simp [intOf]; omega
    · obtain rfl : i = t.size := by omega
      by_cases hst : st < 0
      · have hm1 : st = -1 := by
          rcases HAT.out.start with ⟨_, e⟩ | ⟨a, e, _⟩ <;> omega
        subst hm1
        clear hst
        gi_wp2
        go_end0
        exact ⟨⟨_, rfl⟩, .inl ⟨pre, HAT.out.end_none, HJ.out⟩⟩
      · obtain ⟨a, rfl⟩ := Int.eq_ofNat_of_zero_le (show 0 ≤ st by omega)
        clear hst
        have hai := HAT.out.word_lt
        have hxs : 0 < (t.extract a t.size).size := by rw [extract_size' t a t.size (Nat.le_refl _)]; omega
        obtain ⟨fn, tmps, assign, body, hy, hR⟩ := hY pre ⟨t.extract a t.size, hxs⟩ wr HJ.out (HAT.out.len (Nat.le_refl _))
        dsimp only at hy
        have HR := Lib.hid hR
        clear hR
        have h1 : (0 : Int) ≤ (a : Int) := by omega
        have h2 : (a : Int) ≤ (t.size : Int) := by omega
        gi_wp2
        refine HR.out.mono ?_
        rintro e W3 (⟨rfl, hJ3, hk3⟩ | ⟨rfl, hJx3⟩)
        · gi_wp2
          go_end0
          exact ⟨⟨_, rfl⟩, .inl ⟨pre ++ [⟨t.extract a t.size, hxs⟩], HAT.out.end_word ⟨t.extract a t.size, hxs⟩ rfl, hJ3⟩⟩
        · gi_wp2
          go_end0
          exact ⟨⟨_, rfl⟩, .inr ⟨pre ++ [⟨t.extract a t.size, hxs⟩], trivial, hJx3⟩⟩

theorem fields_in (F : Fence) (n : Nat) (hF : F.fn 56) (hro : F.round = none) (t : ByteArray) (w : World) :
    CallsIn F n Tryd.prog 56 #[.string t] w fun e w' => e = .returned (.func (.func 73) #[] #[.pointer (some ⟨w.heap.size, 0, none⟩)]) ∧ w' = w.alloc (.cells #[.string t] 9) := by
  refine callsIn_of_wp Tryd.func56 rfl hF ?_ hro
  simp only [Tryd.ntmps56, List.size_toArray, List.length_cons, List.length_nil, Nat.reduceAdd, Nat.reduceSub, Array.replicate_succ, Array.replicate_zero, List.push_toArray, List.append_toArray, List.nil_append, List.cons_append]
  gi_wp2
  go_ret
  exact ⟨rfl, rfl⟩

theorem fields_stops (F : Fence) (n : Nat) (hF : F.fn 73) (hro : F.round = none) (hn : 1 ≤ n) (Bn n₀ : Nat) (hg : 0 < n₀) (hn₀ : n₀ ≤ Bn) (t : ByteArray) (ht : t.size ≤ 2097152) (hws : AllWS t.data.toList) (w : World)
    (hb : Bn < w.heap.size) (hBn : w.cell? ⟨Bn, 0, none⟩ = some (.string t)) (hT : SpTab w) :
    SeqStopsK F n Tryd.prog 73 #[.pointer (some ⟨Bn, 0, none⟩)] (fun x : Word => #[Value.string x.1]) (KeptF n₀ Bn) (fun ys => wtexts ys = wordsL t.data.toList) (fun _ => True) (t.size + 1) w := fun l J Jx W hW _ _ hY h0 =>
  fields1_in F n hF hro hn l Bn n₀ hg t ht hws J Jx hY W ((hW.cell (p := ⟨Bn, 0, none⟩) hb).trans hBn) (hT.below hW (by omega)) h0

end Go.Proofs.YtggohfinkpppkabDoor
