/-
  Texts laid together: MapS, SetOf, Put, Put2, Unite, Common. By an AI agent.
-/
import Derived.Test.YtebddnjccmaimaaGreatDoorGMem
import Derived.Test.YtebddnjccmaimaaGreatDoorShelf
import Derived.Maps.OwnOps
import Derived.Maps.OwnSet
import Derived.Maps.RangeWalk
import Derived.Sort.KeysCollected
import Derived.Sort.OwnSorted
import Derived.WalkLawsBesides
import Derived.Deep.RegionLaw
import Derived.Lib.AppendZeros
/-
  Maps of the call's own, keyed by strings: a set (map[string]bool) and a count (map[string]int); what impl.setOf and impl.sortedMembers do. By an AI agent.
-/
namespace Go.Proofs.YtebddnjccmaimaaGreatDoor
open Go.RowKit Go.Maps Go.Sort
set_option linter.unusedVariables false

theorem keyS : Keyed Tryz.prog 9 := string_keyed Tryz.underlying9
theorem keyOf_s {s : ByteArray} {x : Str} (hs : s.data.toList = x) (hl : s.size ≤ maxLen) : keyOf Tryz.prog 9 (.string s) = some (.string x) := by
  subst hs
  exact Go.WideMaps.keyOf_string_mk Tryz.underlying9 hl
theorem lit_ne {x y : Str} (h : y ≠ x) : (Lit.string y) ≠ .string x := fun e => h (by injection e)

theorem size_own {H : Type} {P : Program} {k : TypeId} {R : Value → Option (DataW H × List MemPlace)} {w : World} {b n : Nat} {D : DataW H} (h : w.ownsMap P k R b n D) : Maps.size D ≤ n := by
  obtain ⟨es, clock, _, _, hs, rfl⟩ := h
  show ((es.toList.map (Go.WideElems.rg P k R)).foldr DataW.insert []).length ≤ n
  rw [length_sorted]
  simpa using hs

theorem plainElem_bool_inv {H : Type} {P : Program} {e : TypeId} (he : P.underlying e = some .bool) {v : Value} {z : DataW H × List MemPlace} (h : plainElem P e v = some z) : ∃ a, v = .bool a ∧ z = (.lit (.bool a), []) := by
  unfold plainElem at h
  rw [he] at h
  cases v <;> simp at h
  subst h
  exact ⟨_, rfl, rfl⟩

/-- block b is a map[string]bool whose keys are the strings of the list, each with true -/
def SetM (w : World) (b n : Nat) (ls : List Str) : Prop :=
  ∃ D : DataW Unit, w.ownsMap Tryz.prog 9 (plainElem Tryz.prog 4) b n D ∧ (∀ x : Str, Maps.has D (.string x) = decide (x ∈ ls)) ∧ (∀ x : Str, D.atKey (.string x) (.lit (.bool false)) = .lit (.bool (decide (x ∈ ls))))

theorem zeroB (w : World) : (zeroValue 4).run Tryz.prog w = .ok (.bool false) w := by kernel_rfl

theorem SetM.made (w : World) : SetM (w.alloc (.map #[] 0)) w.heap.size 0 [] :=
  ⟨.map [], World.ownsMap_made _ _ _ _, fun x => by simp [Maps.has], fun x => by simp [DataW.atKey]⟩
theorem SetM.kept {w w' : World} {b n : Nat} {ls : List Str} {row : Option Nat} (h : SetM w b n ls) (hg : w.grownBy w' row) (hne : some b ≠ row) : SetM w' b n ls := by
  obtain ⟨D, h1, h2, h3⟩ := h
  exact ⟨D, h1.kept hg hne, h2, h3⟩
theorem SetM.lt {w : World} {b n : Nat} {ls : List Str} (h : SetM w b n ls) : b < w.heap.size := by obtain ⟨D, h1, _⟩ := h; exact h1.lt
theorem SetM.below {w w' : World} {b n : Nat} {ls : List Str} (h : SetM w b n ls) (hb : Below w.heap.size w w') : SetM w' b n ls :=
  h.kept (row := none) ⟨hb.os, hb.tape, hb.output, hb.size, fun i hi _ => hb.block i hi⟩ (by simp)
theorem SetM.alloc {w : World} {b n : Nat} {ls : List Str} (h : SetM w b n ls) (o : Obj) : SetM (w.alloc o) b n ls := h.below ((Below.refl _ _).alloc (Nat.le_refl _) o)
theorem SetM.mono {w : World} {b n n' : Nat} {ls : List Str} (h : SetM w b n ls) (hn : n ≤ n') : SetM w b n' ls := by
  obtain ⟨D, h1, h2, h3⟩ := h
  exact ⟨D, h1.mono hn, h2, h3⟩

theorem wpList_set_lookup (w : World) {ops : Array Oper} {rest : List Oper} {o : Oper} {a : Act} {Q : Exit → Act → World → Prop}
    (hg : o.guard = none) (m x : Operand) (hop : o.op = Op.lookup 80 m x false) (b n : Nat) (ls : List Str) (hset : SetM w b n ls)
    (hm : a.eval m = .map (some b)) (s : ByteArray) (y : Str) (hx : a.eval x = .string s) (hs : s.data.toList = y) (hl : s.size ≤ maxLen) (c : Bool) (hc : decide (y ∈ ls) = c)
    (hK : wpList Tryz.prog ops Q rest (a.put o.dst (.bool c)) w) :
    wpList Tryz.prog ops Q (o :: rest) a w := by
  obtain ⟨D, hown, _, hat⟩ := hset
  refine wpList_plain hg fun K' hK' => ?_
  obtain ⟨v, ps, hrun, hv⟩ := hown.lookup keyS Tryz.underlying80 (zeroB w) (plainElem_bool Tryz.underlying4 false) (keyOf_s hs hl)
  obtain ⟨c', rfl, hc'⟩ := plainElem_bool_inv Tryz.underlying4 hv
  rw [hat y] at hc'
  obtain rfl : c' = c := by simp at hc'; rw [← hc, hc'.1]
  unfold Oper.wp
  simp [execOp, hop, hm, hx, hrun, Result.andThen]
  exact hK' _ _ hK

theorem wpList_set_store (w : World) {ops : Array Oper} {rest : List Oper} {o : Oper} {a : Act} {Q : Exit → Act → World → Prop}
    (hg : o.guard = none) (m x v : Operand) (hop : o.op = Op.mapUpdate 80 m x v) (b n : Nat) (ls : List Str) (hset : SetM w b n ls)
    (hm : a.eval m = .map (some b)) (hn : n < maxLen) (s : ByteArray) (y : Str) (hx : a.eval x = .string s) (hv : a.eval v = .bool true) (hs : s.data.toList = y) (hl : s.size ≤ maxLen)
    (hK : ∀ w', SetM w' b (n + 1) (ls ++ [y]) → w.grownBy w' (some b) → wpList Tryz.prog ops Q rest (a.put o.dst undef) w') :
    wpList Tryz.prog ops Q (o :: rest) a w := by
  obtain ⟨D, hown, hhas, hat⟩ := hset
  refine wpList_mapUpdate_own w hg m x v 80 hop 9 4 keyS Tryz.underlying80 _ b n D hm hown hn _ _ _ hx hv (keyOf_s hs hl) _ [] (plainElem_bool Tryz.underlying4 true) fun w' h1 h2 => hK w' ⟨_, h1, ?_, ?_⟩ h2
  all_goals
    have hD : Maps.IsMap D := by obtain ⟨es, _, _, _, _, e⟩ := hown; exact ⟨_, e⟩
    intro z
    by_cases e : z = y
    · subst e
      first
        | (rw [Maps.has_put_same hD (k := .string _) trivial]; simp)
        | (rw [Maps.atKey_put_same hD (k := .string _) trivial]; simp)
    · first
        | (rw [Maps.has_put_other (lit_ne e), hhas z]; simp [e])
        | (rw [Maps.atKey_put_other (lit_ne e), hat z]; simp [e])

/-- block b is a map[string]int that gives f -/
def CntM (w : World) (b n : Nat) (f : Str → Nat) : Prop :=
  ∃ D : DataW Unit, w.ownsMap Tryz.prog 9 (plainElem Tryz.prog 3) b n D ∧ ∀ x : Str, D.atKey (.string x) (.lit (.int .i64 0)) = .lit (.int .i64 (f x : Int))

theorem zeroI (w : World) : (zeroValue 3).run Tryz.prog w = .ok (.int .i64 0) w := by kernel_rfl

theorem CntM.made (w : World) : CntM (w.alloc (.map #[] 0)) w.heap.size 0 (fun _ => 0) :=
  ⟨.map [], World.ownsMap_made _ _ _ _, fun x => by simp [DataW.atKey]⟩
theorem CntM.kept {w w' : World} {b n : Nat} {f : Str → Nat} {row : Option Nat} (h : CntM w b n f) (hg : w.grownBy w' row) (hne : some b ≠ row) : CntM w' b n f := by
  obtain ⟨D, h1, h2⟩ := h
  exact ⟨D, h1.kept hg hne, h2⟩
theorem CntM.mono {w : World} {b n n' : Nat} {f : Str → Nat} (h : CntM w b n f) (hn : n ≤ n') : CntM w b n' f := by
  obtain ⟨D, h1, h2⟩ := h
  exact ⟨D, h1.mono hn, h2⟩
theorem CntM.congr {w : World} {b n : Nat} {f g : Str → Nat} (h : CntM w b n f) (hf : ∀ x, f x = g x) : CntM w b n g := by
  obtain ⟨D, h1, h2⟩ := h
  exact ⟨D, h1, fun x => by rw [h2 x, hf x]⟩

end Go.Proofs.YtebddnjccmaimaaGreatDoor

/-
  What impl.setOf and impl.sortedMembers do. By an AI agent.
-/
namespace Go.Proofs.YtebddnjccmaimaaGreatDoor
open Go.RowKit Go.Maps Go.Sort
set_option linter.unusedVariables false

theorem run_makeMap_hint {P : Program} (t k e : TypeId) (ht : P.underlying t = some (.map k e)) (q : IntKind) (n : Int) (w : World) : (Instr.makeMap t (some (.int q n))).run P w = .ok (.map (some w.heap.size)) (w.alloc (.map #[] 0)) := by
  simp [Instr.makeMap, run_underlying ht, asInt, asIntOf, Result.andThen]

def GivesM (w : World) (n : Nat) (ls : List Str) (e : Ending) (w' : World) : Prop := ∃ b, e = .returned (.map (some b)) ∧ SetM w' b n ls ∧ w.heap.size ≤ b ∧ Below w.heap.size w w'

set_option maxRecDepth 100000 in
theorem set_of (a : Option Addr) (cap : Nat) (l : List Str) (w : World) (hl : l.length ≤ 9000000) (hx : ∀ x ∈ l, x.length ≤ 9000000) (hin : InS w a l) :
    Calls Tryz.prog 59 #[.slice a l.length cap] w (GivesM w l.length l) := by
  have HIN := Lib.hid hin
  have HX := Lib.hid hx
  clear hin hx
  have hmm := fun (w : World) (n : Int) => run_makeMap_hint (P := Tryz.prog) 80 _ _ Tryz.underlying80 .i64 n w
  go_enter Tryz.func59, Tryz.ntmps59
  go_wp2
  go_loopw [11] (fun i wr => ∃ k : Nat, k ≤ l.length ∧ i = .int .i64 k ∧ SetM wr w.heap.size k (l.take k) ∧ Below w.heap.size w wr) (fun i _ => l.length - (intOf i).toNat)
  case atStart => exact ⟨0, Nat.zero_le _, rfl, SetM.made w, (Below.refl _ _).alloc (Nat.le_refl _) _⟩
  case round =>
    obtain ⟨k, hk, rfl, hset, hb⟩ := hrel
    have HSET := Lib.hid hset
    have HB := Lib.hid hb
    clear hset hb
    by_cases hlt : k < l.length
    · obtain ⟨b, off, rfl, hbw, hc⟩ := HIN.out (by omega)
      obtain ⟨x, s, hx1, hx2, hx3, hx4⟩ := str_at hlt
      have hcell : wr.cell? ⟨b, off + k, none⟩ = some (.string s) := by
        rw [HB.out.cell (p := ⟨b, off + k, none⟩) hbw, ← hx3]
        exact hc k x hx1
      have HSZ := Lib.hid (show s.size ≤ maxLen by rw [hx4]; have := HX.out x (List.mem_of_getElem? hx1); unfold maxLen; omega)
      have H1 := Lib.hid hx1
      have H2 := Lib.hid hx2
      clear hc hx1 hx2 hx3 hx4 hbw
      go_wp2_with (at_mapUpdate; refine wpList_set_store _ rfl _ _ _ rfl w.heap.size k (l.take k) HSET.out rfl (by unfold maxLen; omega) s x rfl rfl H2.out HSZ.out ?_; intro w1 hset1 hg1; have HS1 := Lib.hid hset1; have HG1 := Lib.hid hg1; clear hset1 hg1)
      go_roundw
      case rel =>
        refine ⟨k + 1, by omega, by go_num, by rw [take_snoc' H1.out]; exact HS1.out, HB.out.grown HG1.out HB.out.size (fun j hj => by cases hj; exact Nat.le_refl _)⟩
      case measure => simp [intOf]; omega
    · obtain rfl : k = l.length := by omega
      go_wp2
      go_ret
      refine ⟨_, rfl, ?_, Nat.le_refl _, HB.out⟩
      have h := HSET.out
      rw [List.take_length] at h
      exact h

set_option maxRecDepth 100000 in
set_option maxHeartbeats 1000000 in
theorem sorted_members (b n : Nat) (ls : List Str) (w : World) (hn : n ≤ 9000000) (hset : SetM w b n ls) :
    Calls Tryz.prog 58 #[.map (some b)] w (GivesS w (setL ls)) := by
  obtain ⟨D, hown, hhas, hat0⟩ := hset
  clear hat0
  obtain ⟨i0, hi, hz0, hz1, hz2⟩ := info_parts info_str
  have hbl := hown.lt
  have hsz := size_own hown
  have HHAS := Lib.hid hhas
  clear hhas
  go_enter Tryz.func58, Tryz.ntmps58
  go_wp2_with (first
    | (at_len; refine wpList_len_own _ rfl _ 80 rfl 9 4 Tryz.underlying80 _ b n _ rfl hown ?_)
    | (at_make; refine wpList_make_own _ rfl _ _ 31 rfl w.heap.size 9 i0 (.string ⟨#[]⟩) 1 Tryz.underlying31 hi hz0 hz1 _ _ _ (Maps.size D) rfl rfl rfl (by rw [hz2]; omega) (by unfold maxLen; omega) (Nat.le_refl _) ?_; intro w1 hrow1 hg1)
    | (at_range; refine wpList_range_own _ rfl _ 80 rfl 9 4 keyS Tryz.underlying80 _ b n _ rfl (hown.kept hg1 (by simp)) ?_; intro w0 hrg0 hg0 hs0)
    | go_in)
  go_frame
  go_loopw [3] (fun v wr => ∃ (left : Lit → Bool) (cnt : Nat) (ss : List (List UInt8)), wr.ranges Tryz.prog 9 (plainElem Tryz.prog 4) b w1.heap.size n D left cnt ∧ ss.length + cnt ≤ Maps.size D ∧
      wr.ownsRow w.heap.size 9 1 v ss.length (ss.map encStr) ∧ v ≠ .slice none 0 0 ∧ Collected D left ss ∧ Below w.heap.size w wr)
    (fun _ wr => wr.rangeLeft b w1.heap.size)
  case atStart =>
    exact ⟨_, _, [], hrg0, by simp, hrow1.kept hg0 (Or.inr (by simp [Value.ownBlock])), by simp, Collected.start D,
      ((Below.refl _ _).grown hg1 (Nat.le_refl _) (fun j hj => by cases hj)).grown hg0 hg1.size (fun j hj => by cases hj)⟩
  case round =>
    obtain ⟨left, cnt, ss, hrg, hcs, hrow, hnn, hC, hnx⟩ := hrel
    go_wp2_with (first
      | (at_next; refine wpList_next_ranges _ rfl _ rfl 9 keyS (plainElem Tryz.prog 4) encStr (fun v : Value => v) (fun key kl hk => by obtain ⟨x, hx, _⟩ := Maps.keyOf_str Tryz.underlying9 hk; exact ⟨x, hx⟩) (fun v y hv => ⟨v, rfl⟩) b w1.heap.size n _ _ _ rfl hrg ?_ ?_)
      | go_in)
    · -- nothing is left: the slice is sorted and handed back
      intro hc0 hl0
      rcases hrow.2 with ⟨hnil, _⟩ | ⟨g, cap, cur, rfl, hbase, hb, h1, h2, h3, h4⟩
      · exact absurd hnil hnn
      have hH : Holds encStr wr g 0 ss.toArray := holds_of_block hb (by simpa using h4)
      have hgl : g < wr.heap.size := (Array.getElem?_eq_some_iff.1 hb).1
      have hc := Tryz.slices_Sort_string g 0 cap ss wr hH hgl (by omega)
      have HC := Lib.hid hC
      have HN := Lib.hid hnx
      have HB := Lib.hid hb
      have HP := Lib.hid (And.intro hbase (And.intro h1 (And.intro h2 h3)))
      go_wp2_with (go_at_call 87; refine hc.mono ?_; rintro e w' ⟨rfl, nn, os, rfl⟩)
      go_ret
      have e1 : ss.mergeSort leB = setL ls := ms_set HC.out.1 (fun x => by
        rw [HC.out.2 x, hl0, HHAS.out x]
        simp)
      have e2 : ss.length = (setL ls).length := by rw [← e1]; simp
      have ho := ownsRow_sorted (n := nn) (os := os) (ts := ss.mergeSort leB) (by simp) HP.out.1 HB.out HP.out.2.1 HP.out.2.2.1 HP.out.2.2.2
      rw [e1, e2] at ho
      rw [e2]
      have e3 : ss.mergeSort (fun x y => decide (x ≤ y)) = setL ls := e1
      rw [e3]
      exact ⟨_, cap, rfl, ho, HN.out.grown (grownBy_sorted _) HN.out.size (fun j hj => by cases hj; exact HP.out.1)⟩
    · -- an entry has come: its key goes to the slice's end
      intro x c kl yd yp w2 cnt2 hkey hlk hv hat hrg2 hlt hg2 hs2 hen
      obtain ⟨x', ex, rfl, _⟩ := Maps.keyOf_str Tryz.underlying9 hkey
      obtain rfl : x = x' := encStr_inj ex
      have hrow2 := hrow.kept hg2 (Or.inr (row_ne_iter hrow hrg).symm)
      clear hs2
      go_wp2_with (first
        | (at_builtin; refine wpList_append_own _ rfl _ _ 31 rfl w.heap.size 9 i0 (.string ⟨#[]⟩) 1 16 Tryz.underlying31 hi hz0 hz1 hz2 rfl (by decide) _ _ _ rfl (hrow2.alloc _) ⟨w2.heap.size, 0, none⟩ 1 1 [encStr x] rfl rfl (cell_one_new _ _ _) (by simp [Value.oneCell', encStr]) (by unfold maxLen at *; omega) (by omega) (by have := hnx.size; have := hg2.size; simp; omega) ?_; intro v' w3 hown' hg3 hnil3; go_frame)
        | go_in)
      have hrg3 := (hrg2.alloc _).kept hg3 (row_ne_low hrow2 hbl) (row_ne_iter hrow2 hrg2)
      go_roundw
      case rel =>
        refine ⟨_, cnt2, ss ++ [x], hrg3, by simp; omega, by simpa using hown', fun hv' => by have := (hnil3.1 hv').2; omega, hC.step hlk hat, ?_⟩
        exact ((hnx.grown hg2 hnx.size (fun j hj => by cases hj; exact hg1.size)).alloc (by have := hnx.size; have := hg2.size; omega) _).grown hg3 (by have := hnx.size; have := hg2.size; simp; omega) (fun j hj => (hrow2.lt j hj).1)
      case measure => rw [hrg3.left_eq, hrg.left_eq]; exact hlt

end Go.Proofs.YtebddnjccmaimaaGreatDoor

/-
  What spec.l3Put does: one string more in an ascending list of the call's own. By an AI agent.
-/
namespace Go.Proofs.YtebddnjccmaimaaGreatDoor
open Go.RowKit
set_option linter.unusedVariables false

theorem less_is : ∀ (x y : List UInt8), Op.bytesLess x y = decide (x < y)
  | [], [] => by simp [Op.bytesLess]
  | _ :: _, [] => by simp [Op.bytesLess]
  | [], _ :: _ => by simp [Op.bytesLess]
  | a :: x, b :: y => by
    rw [Op.bytesLess, less_is x y]
    simp only [List.cons_lt_cons_iff]
    by_cases h1 : a < b <;> by_cases h2 : a = b <;> by_cases h3 : x < y <;> simp [h1, h2, h3]
theorem less_yes {x y : Str} {s t : ByteArray} (hs : s.data.toList = x) (ht : t.data.toList = y) (h : x < y) : Op.bytesLess s.toList t.toList = true := by
  rw [less_is, ByteArray.toList_eq, ByteArray.toList_eq, hs, ht]
  exact decide_eq_true h
theorem less_no {x y : Str} {s t : ByteArray} (hs : s.data.toList = x) (ht : t.data.toList = y) (h : ¬ x < y) : Op.bytesLess s.toList t.toList = false := by
  rw [less_is, ByteArray.toList_eq, ByteArray.toList_eq, hs, ht]
  exact decide_eq_false h
theorem str_ne3 {x y : Str} {s t : ByteArray} (hs : s.data.toList = x) (ht : t.data.toList = y) (h : x ≠ y) : (s.toList == t.toList) = false := by
  rw [ByteArray.toList_eq, ByteArray.toList_eq, hs, ht]
  simpa using h
theorem str_eq3 {x y : Str} {s t : ByteArray} (hs : s.data.toList = x) (ht : t.data.toList = y) (h : x = y) : s = t := by
  have h2 : s.data.toList = t.data.toList := by rw [hs, ht, h]
  exact ByteArray.ext (Array.toList_inj.1 h2)

/-- append of a slice that reads as a list to a slice of the call's own -/
theorem run_app (ty : TypeId) (base : Nat) (v : Value) (l : List Str) (w : World) (hown : OwnS w base v l) (a : Option Addr) (c : Nat) (ms : List Str) (hin : InS w a ms) (hn : a = none → c = 0) (hsz : l.length + ms.length ≤ 9000000) (hbase : base ≤ w.heap.size) :
    ∃ v' w', (Builtin.append_ #[31, 31] ty #[v, .slice a ms.length c]).run Tryz.prog w = .ok v' w' ∧ OwnS w' base v' (l ++ ms) ∧ w.grownBy w' v.ownBlock := by
  obtain ⟨i0, hi, hz0, hz1, hz2⟩ := info_parts info_str
  have e1 : (l ++ ms).length = l.length + ms.length := by simp
  have e2 : (l ++ ms).map encStr = l.map encStr ++ ms.map encStr := by simp
  cases a with
  | none =>
    obtain rfl : ms = [] := by
      rcases Nat.eq_zero_or_pos ms.length with h | h
      · exact List.eq_nil_of_length_eq_zero h
      · obtain ⟨_, _, h2, _⟩ := hin h
        cases h2
    rw [hn rfl]
    refine ⟨v, w, run_append_owned_none (P := Tryz.prog) (w := w) base 31 ty 9 i0 1 Tryz.underlying31 hi v l.length (l.map encStr) hown, ?_, World.grownBy.refl _ _⟩
    rw [List.append_nil]
    exact hown
  | some ad =>
    obtain ⟨v', w', h1, h2, h3, -⟩ := run_append_own (P := Tryz.prog) w base 31 ty 9 i0 (.string ⟨#[]⟩) 1 16 Tryz.underlying31 hi hz0 hz1 hz2 rfl (by decide) v l.length (l.map encStr) hown
      ad ms.length c (ms.map encStr) (by simp) (fun j u hj => by
        rw [List.getElem?_map] at hj
        cases hx : ms[j]? with
        | none => rw [hx] at hj; cases hj
        | some x =>
          rw [hx] at hj
          have hlt := (List.getElem?_eq_some_iff.1 hx).1
          obtain ⟨b, off, e, _, hc⟩ := hin (by omega)
          obtain rfl : ad = ⟨b, off, none⟩ := Option.some.inj e
          have h2 : (⟨b, off, none⟩ : Addr).add j = ⟨b, off + j, none⟩ := by unfold Addr.add; split <;> simp_all
          rw [h2, hc j x hx]
          exact hj) (by intro u hu; obtain ⟨x, _, rfl⟩ := List.mem_map.1 hu; rfl) (by unfold maxLen; omega) (by omega) hbase
    refine ⟨v', w', h1, ?_, h3⟩
    unfold OwnS
    rw [e1, e2]
    exact h2

theorem step_app {ops : Array Oper} {o : Oper} {a : Act} {w : World} {K : Act → World → Prop} {Q : Exit → Act → World → Prop} {E : Prop}
    (hg : o.guard = none) (s x : Operand) (hop : o.op = Op.call { callee := Callee.builtin Builtin.append, args := #[s, x], argTypes := #[31, 31] })
    (base : Nat) (v : Value) (l : List Str) (hs : a.eval s = v) (ad : Option Addr) (m c : Nat) (ms : List Str) (hx : a.eval x = .slice ad m c) (hm : m = ms.length)
    (hown : OwnS w base v l) (hin : InS w ad ms) (hn : ad = none → c = 0) (hsz : l.length + ms.length ≤ 9000000) (hbase : base ≤ w.heap.size)
    (hK : ∀ v' w', OwnS w' base v' (l ++ ms) → w.grownBy w' v.ownBlock → K (a.put o.dst v') w') :
    if Region.wanted o (yielded ops a.tmps) = true then Oper.wp Tryz.prog o a w K Q else E := by
  subst hm
  rw [if_pos (by simp [Region.wanted, hg])]
  obtain ⟨v', w', hrun, h1, h2⟩ := run_app o.type base v l w hown ad c ms hin hn hsz hbase
  unfold Oper.wp
  simp [execOp, hop, resolve, invoke, builtin, hs, hx, hrun, Result.andThen]
  exact hK v' w' h1 h2

theorem own_new (w : World) (base g : Nat) (hg : w.heap.size = g) (hb : base ≤ g) : OwnS (w.alloc (.cells #[] 9)) base (.slice (some ⟨g, 0, none⟩) 0 0) [] := by
  subst hg
  exact OwnS.made w base #[] 0 hb (Nat.zero_le _) rfl
theorem in_one (w : World) (g : Nat) (t : ByteArray) (y : Str) (hg : w.heap.size = g) (ht : t.data.toList = y) : InS (w.alloc (.cells #[.string t] 9)) (some ⟨g, 0, none⟩) [y] := by
  subst hg
  intro _
  refine ⟨w.heap.size, 0, rfl, by simp, fun j x hj => ?_⟩
  cases j with
  | zero =>
    simp at hj
    subst hj
    rw [World.cell?_alloc_at _ _ _ _ rfl]
    subst ht
    rfl
  | succ j => simp at hj
theorem InS.grown {w w' : World} {a : Option Addr} {l : List Str} {r : Option Nat} (h : InS w a l) (hg : w.grownBy w' r) (hne : ∀ b off, a = some ⟨b, off, none⟩ → some b ≠ r) : InS w' a l :=
  h.keep hg.size fun b off ha hb => hg.block b hb (hne b off ha)
theorem InS.take' {w : World} {a : Option Addr} {l : List Str} (h : InS w a l) (k : Nat) : InS w a (l.take k) := by
  intro h0
  obtain ⟨b', off', e, hb, hc⟩ := h (by rw [List.length_take] at h0; omega)
  refine ⟨b', off', e, hb, fun j x hj => hc j x ?_⟩
  rw [List.getElem?_take] at hj
  split at hj
  · exact hj
  · cases hj
theorem InS.drop {w : World} {b off : Nat} {l : List Str} (h : InS w (some ⟨b, off, none⟩) l) (k : Nat) : InS w (some ⟨b, off + k, none⟩) (l.drop k) := by
  intro h0
  obtain ⟨b', off', e, hb, hc⟩ := h (by rw [List.length_drop] at h0; omega)
  obtain ⟨rfl, rfl⟩ : b = b' ∧ off = off' := by simpa using e
  refine ⟨b, off + k, rfl, hb, fun j x hj => ?_⟩
  rw [List.getElem?_drop] at hj
  rw [Nat.add_assoc]
  exact hc (k + j) x hj

theorem InS.drop0 {w : World} {b : Nat} {l : List Str} (h : InS w (some ⟨b, 0, none⟩) l) (k : Nat) : InS w (some ⟨b, k, none⟩) (l.drop k) := by
  have h2 := h.drop k
  rw [Nat.zero_add] at h2
  exact h2

/-- what is handed back: a slice of the caller's own -/
def PutsS (w : World) (base : Nat) (l : List Str) (e : Ending) (w' : World) : Prop :=
  ∃ a cap, e = .returned (.slice a l.length cap) ∧ OwnS w' base (.slice a l.length cap) l ∧ Below w.heap.size w w'
theorem PutsS.mk {w w' : World} {base : Nat} {v : Value} {l : List Str} (h : OwnS w' base v l) (hb : Below w.heap.size w w') : PutsS w base l (.returned v) w' := by
  obtain ⟨a, cap, rfl⟩ := h.shape
  exact ⟨a, cap, rfl, h, hb⟩
theorem grown_old {w0 w w' : World} {v : Value} {l : List Str} (hb : Below w0.heap.size w0 w) (hg : w.grownBy w' v.ownBlock) (ho : OwnS w w0.heap.size v l) : Below w0.heap.size w0 w' :=
  hb.grown hg hb.size fun k hk => (World.ownsRow.lt ho k hk).1

end Go.Proofs.YtebddnjccmaimaaGreatDoor

/-
  What spec.l3Put does, at any ascending list of the call's own. By an AI agent.
-/
namespace Go.Proofs.YtebddnjccmaimaaGreatDoor
open Go.RowKit
set_option linter.unusedVariables false
set_option linter.unusedSimpArgs false

theorem InS.empty (w : World) (a : Option Addr) {l : List Str} (h : l.length = 0) : InS w a l := fun h0 => absurd h0 (by omega)

set_option maxRecDepth 100000 in
set_option maxHeartbeats 4000000 in
theorem put_nil_true (base : Nat) (t : ByteArray) (y : Str) (w : World) (hbase : base ≤ w.heap.size) (ht : t.data.toList = y) :
    Calls Tryz.prog 66 #[.slice none 0 0, .string t, .bool true] w (PutsS w base (putL true [] y)) := by
  have HB0 := Lib.hid hbase
  have HT := Lib.hid ht
  have HE := Lib.hid (show putL true [] y = ([] : List Str) ++ y :: ([] : List Str) from rfl)
  clear ht hbase
  go_enter Tryz.func66, Tryz.ntmps66
  go_wp2
  refine wp_loop_rounds 1 ?_
  rw [rounds_succ]
  have hmin : ([] : List Str).length = 0 := rfl
  have hdr : ([] : List Str).length = 0 := rfl
  have O1 : Hid (OwnS (w.alloc (.cells #[] 9)).drew w.heap.size (.slice (some ⟨w.heap.size, 0, none⟩) 0 0) []) := Lib.hid (own_new w w.heap.size w.heap.size rfl (Nat.le_refl _))
  have B1 := Lib.hid ((Below.refl w.heap.size w).alloc (Nat.le_refl _) (.cells #[] 9)).drew
  have O2 : Hid (OwnS ((w.alloc (.cells #[] 9)).alloc (.cells #[.string t] 9)).drew w.heap.size (.slice (some ⟨w.heap.size, 0, none⟩) 0 0) []) := Lib.hid ((own_new w w.heap.size w.heap.size rfl (Nat.le_refl _)).alloc (.cells #[.string t] 9))
  have B2 := Lib.hid (((Below.refl w.heap.size w).alloc (Nat.le_refl _) (.cells #[] 9)).alloc (by simp) (.cells #[.string t] 9)).drew
  have S2 : Hid (InS ((w.alloc (.cells #[] 9)).alloc (.cells #[.string t] 9)).drew (some ⟨w.heap.size + 1, 0, none⟩) [y]) := Lib.hid (in_one (w.alloc (.cells #[] 9)) (w.heap.size + 1) t y (by simp) HT.out)
  have O3 : Hid (OwnS ((w.alloc (.cells #[.string t] 9)).alloc (.cells #[] 9)).drew w.heap.size (.slice (some ⟨w.heap.size + 1, 0, none⟩) 0 0) []) := Lib.hid (own_new (w.alloc (.cells #[.string t] 9)) w.heap.size (w.heap.size + 1) (by simp) (by omega))
  have B3 := Lib.hid (((Below.refl w.heap.size w).alloc (Nat.le_refl _) (.cells #[.string t] 9)).alloc (by simp) (.cells #[] 9)).drew
  have S3 : Hid (InS ((w.alloc (.cells #[.string t] 9)).alloc (.cells #[] 9)).drew (some ⟨w.heap.size, 0, none⟩) [y]) := Lib.hid ((in_one w w.heap.size t y rfl HT.out).alloc (.cells #[] 9))
  have HM := Lib.hid hmin
  have HD := Lib.hid hdr
  clear hmin hdr
  go_wp2
  go_region_law (first
    | (refine step_app (by rfl) (.tmp 39) (.tmp 42) (by rfl) w.heap.size (.slice (some ⟨w.heap.size, 0, none⟩) 0 0) [] (by rfl) none 0 0 ([] : List Str) (by rfl) HM.out.symm O1.out (InS.empty _ _ rfl) (fun _ => rfl) (by have e1 := HM.out; have e2 := HD.out; simp only [List.length_append, List.length_cons, List.length_nil] at e1 e2 ⊢; omega) B1.out.size ?_; intro v1 w1 ho1 hg1; have hb1 : Below w.heap.size w w1 := grown_old B1.out hg1 O1.out)
    | (refine step_app (by rfl) (.tmp 39) (.tmp 42) (by rfl) w.heap.size (.slice (some ⟨w.heap.size, 0, none⟩) 0 0) [] (by rfl) none 0 0 ([] : List Str) (by rfl) HM.out.symm O2.out (InS.empty _ _ rfl) (fun _ => rfl) (by have e1 := HM.out; have e2 := HD.out; simp only [List.length_append, List.length_cons, List.length_nil] at e1 e2 ⊢; omega) B2.out.size ?_; intro v1 w1 ho1 hg1; have hb1 : Below w.heap.size w w1 := grown_old B2.out hg1 O2.out; have hs1 := S2.out.grown hg1 (by intro b off e; cases e; simp [Value.ownBlock]))
    | (refine step_app (by rfl) (.tmp 39) (.tmp 42) (by rfl) w.heap.size (.slice (some ⟨w.heap.size + 1, 0, none⟩) 0 0) [] (by rfl) none 0 0 ([] : List Str) (by rfl) HM.out.symm O3.out (InS.empty _ _ rfl) (fun _ => rfl) (by have e1 := HM.out; have e2 := HD.out; simp only [List.length_append, List.length_cons, List.length_nil] at e1 e2 ⊢; omega) B3.out.size ?_; intro v1 w1 ho1 hg1; have hb1 : Below w.heap.size w w1 := grown_old B3.out hg1 O3.out; have hs1 := S3.out.grown hg1 (by intro b off e; cases e; simp [Value.ownBlock]))
    | (refine step_app (by rfl) (.tmp 43) (.tmp 45) (by rfl) w.heap.size v1 ([] ++ ([] : List Str)) (by rfl) (some ⟨w.heap.size + 1, 0, none⟩) 1 1 [y] (by rfl) rfl ho1 hs1 nofun (by have e1 := HM.out; have e2 := HD.out; simp only [List.length_append, List.length_cons, List.length_nil] at e1 e2 ⊢; omega) hb1.size ?_; intro v2 w2 ho2 hg2; have hb2 : Below w.heap.size w w2 := grown_old hb1 hg2 ho1)
    | (refine step_app (by rfl) (.tmp 43) (.tmp 45) (by rfl) w.heap.size v1 ([] ++ ([] : List Str)) (by rfl) (some ⟨w.heap.size, 0, none⟩) 1 1 [y] (by rfl) rfl ho1 hs1 nofun (by have e1 := HM.out; have e2 := HD.out; simp only [List.length_append, List.length_cons, List.length_nil] at e1 e2 ⊢; omega) hb1.size ?_; intro v2 w2 ho2 hg2; have hb2 : Below w.heap.size w w2 := grown_old hb1 hg2 ho1)
    | (refine step_app (by rfl) (.tmp 43) (.tmp 45) (by rfl) w.heap.size v1 ([] ++ ([] : List Str)) (by rfl) (some ⟨w1.heap.size, 0, none⟩) 1 1 [y] (by rfl) rfl (ho1.alloc _) (in_one w1 w1.heap.size t y rfl HT.out) nofun (by have e1 := HM.out; have e2 := HD.out; simp only [List.length_append, List.length_cons, List.length_nil] at e1 e2 ⊢; omega) (hb1.alloc hb1.size _).size ?_; intro v2 w2 ho2 hg2; have hb2 : Below w.heap.size w w2 := grown_old (hb1.alloc hb1.size _) hg2 (ho1.alloc _))
    | (refine step_app (by rfl) (.tmp 46) (.tmp 49) (by rfl) w.heap.size v2 ([] ++ ([] : List Str) ++ [y]) (by rfl) none 0 0 ([] : List Str) (by rfl) HD.out.symm ho2 (InS.empty _ _ rfl) (fun _ => rfl) (by have e1 := HM.out; have e2 := HD.out; simp only [List.length_append, List.length_cons, List.length_nil] at e1 e2 ⊢; omega) hb2.size ?_; intro v3 w3 ho3 hg3; have hb3 : Below w.heap.size w w3 := grown_old hb2 hg3 ho2))
  all_goals go_wp2
  all_goals go_ret
  all_goals
    have hfin : OwnS w3 base v3 (putL true [] y) := by
      rw [HE.out]
      have h := ho3.mono HB0.out
      simpa using h
    exact PutsS.mk hfin hb3

set_option maxRecDepth 100000 in
set_option maxHeartbeats 8000000 in
theorem put_some_true (base b cap : Nat) (l : List Str) (t : ByteArray) (y : Str) (w : World) (hl : l.length ≤ 8500000) (hown : OwnS w base (.slice (some ⟨b, 0, none⟩) l.length cap) l) (hbase : base ≤ w.heap.size) (ht : t.data.toList = y) :
    Calls Tryz.prog 66 #[.slice (some ⟨b, 0, none⟩) l.length cap, .string t, .bool true] w (PutsS w base (putL true l y)) := by
  have hlc := hown.cap_ge
  have HIN := Lib.hid hown.inS
  have HB0 := Lib.hid hbase
  have HT := Lib.hid ht
  have HOWN := Lib.hid hown
  clear hown ht hbase
  go_enter Tryz.func66, Tryz.ntmps66
  go_wp2
  go_loop [7] (fun i => ∃ k : Nat, k ≤ l.length ∧ i = .int .i64 k ∧ ∀ j x, l[j]? = some x → j < k → x < y) (fun i => l.length - (intOf i).toNat)
  case atStart => exact ⟨0, Nat.zero_le _, rfl, fun j x _ hj => absurd hj (Nat.not_lt_zero _)⟩
  case round =>
    obtain ⟨k, hk, rfl, hall⟩ := hrel
    have HALL := Lib.hid hall
    clear hall
    have h1 : (0 : Int) ≤ (k : Int) := by omega
    have h2 : (k : Int) ≤ (cap : Int) := by omega
    have h3 : (k : Int) ≤ (l.length : Int) := by omega
    by_cases hlt : k < l.length
    · obtain ⟨b', off', e', hbw, hc⟩ := HIN.out (by omega)
      obtain ⟨rfl, rfl⟩ : b = b' ∧ 0 = off' := by simpa using e'
      obtain ⟨x, s, hx1, hx2, hx3, hx4⟩ := str_at hlt
      have hcell : w.cell? ⟨b, 0 + k, none⟩ = some (.string s) := by rw [← hx3]; exact hc k x hx1
      rw [Nat.zero_add] at hcell
      have hkc : ¬ cap = k := by omega
      have hkc2 : ¬ (cap : Int) = (k : Int) := by omega
      clear hc e'
      by_cases hxy : x < y
      · have hls := less_yes hx2 HT.out hxy
        have HX := Lib.hid hx1
        have HXY := Lib.hid hxy
        clear hx1 hx2 hx3 hx4 hxy
        go_wp2
        go_round
        case rel =>
          refine ⟨k + 1, by omega, by go_num, fun j z hz hj => ?_⟩
          by_cases e : j = k
          · rw [e, HX.out] at hz
            cases hz
            exact HXY.out
          · exact HALL.out j z hz (by omega)
        case measure => simp [intOf]; omega
      · have hls := less_no hx2 HT.out hxy
        have HE := Lib.hid (putL_new (tw := true) HALL.out (fun z hz => by rw [hx1] at hz; cases hz; exact ⟨hxy, .inl rfl⟩))
        clear hx1 hx2 hx3 hx4 hxy
        have hmin : (l.take k).length = k := by rw [List.length_take]; omega
        have hdr : (l.drop k).length = (l.length - k) := List.length_drop
        have O1 : Hid (OwnS (w.alloc (.cells #[] 9)).drew w.heap.size (.slice (some ⟨w.heap.size, 0, none⟩) 0 0) []) := Lib.hid (own_new w w.heap.size w.heap.size rfl (Nat.le_refl _))
        have B1 := Lib.hid ((Below.refl w.heap.size w).alloc (Nat.le_refl _) (.cells #[] 9)).drew
        have O2 : Hid (OwnS ((w.alloc (.cells #[] 9)).alloc (.cells #[.string t] 9)).drew w.heap.size (.slice (some ⟨w.heap.size, 0, none⟩) 0 0) []) := Lib.hid ((own_new w w.heap.size w.heap.size rfl (Nat.le_refl _)).alloc (.cells #[.string t] 9))
        have B2 := Lib.hid (((Below.refl w.heap.size w).alloc (Nat.le_refl _) (.cells #[] 9)).alloc (by simp) (.cells #[.string t] 9)).drew
        have S2 : Hid (InS ((w.alloc (.cells #[] 9)).alloc (.cells #[.string t] 9)).drew (some ⟨w.heap.size + 1, 0, none⟩) [y]) := Lib.hid (in_one (w.alloc (.cells #[] 9)) (w.heap.size + 1) t y (by simp) HT.out)
        have O3 : Hid (OwnS ((w.alloc (.cells #[.string t] 9)).alloc (.cells #[] 9)).drew w.heap.size (.slice (some ⟨w.heap.size + 1, 0, none⟩) 0 0) []) := Lib.hid (own_new (w.alloc (.cells #[.string t] 9)) w.heap.size (w.heap.size + 1) (by simp) (by omega))
        have B3 := Lib.hid (((Below.refl w.heap.size w).alloc (Nat.le_refl _) (.cells #[.string t] 9)).alloc (by simp) (.cells #[] 9)).drew
        have S3 : Hid (InS ((w.alloc (.cells #[.string t] 9)).alloc (.cells #[] 9)).drew (some ⟨w.heap.size, 0, none⟩) [y]) := Lib.hid ((in_one w w.heap.size t y rfl HT.out).alloc (.cells #[] 9))
        have HM := Lib.hid hmin
        have HD := Lib.hid hdr
        clear hmin hdr
        go_wp2
        go_region_law (first
          | (refine step_app (by rfl) (.tmp 39) (.tmp 42) (by rfl) w.heap.size (.slice (some ⟨w.heap.size, 0, none⟩) 0 0) [] (by rfl) (some ⟨b, 0, none⟩) k cap (l.take k) (by rfl) HM.out.symm O1.out ((HIN.out.below B1.out).take' k) nofun (by have e1 := HM.out; have e2 := HD.out; simp only [List.length_append, List.length_cons, List.length_nil] at e1 e2 ⊢; omega) B1.out.size ?_; intro v1 w1 ho1 hg1; have hb1 : Below w.heap.size w w1 := grown_old B1.out hg1 O1.out)
          | (refine step_app (by rfl) (.tmp 39) (.tmp 42) (by rfl) w.heap.size (.slice (some ⟨w.heap.size, 0, none⟩) 0 0) [] (by rfl) (some ⟨b, 0, none⟩) k cap (l.take k) (by rfl) HM.out.symm O2.out ((HIN.out.below B2.out).take' k) nofun (by have e1 := HM.out; have e2 := HD.out; simp only [List.length_append, List.length_cons, List.length_nil] at e1 e2 ⊢; omega) B2.out.size ?_; intro v1 w1 ho1 hg1; have hb1 : Below w.heap.size w w1 := grown_old B2.out hg1 O2.out; have hs1 := S2.out.grown hg1 (by intro b off e; cases e; simp [Value.ownBlock]))
          | (refine step_app (by rfl) (.tmp 39) (.tmp 42) (by rfl) w.heap.size (.slice (some ⟨w.heap.size + 1, 0, none⟩) 0 0) [] (by rfl) (some ⟨b, 0, none⟩) k cap (l.take k) (by rfl) HM.out.symm O3.out ((HIN.out.below B3.out).take' k) nofun (by have e1 := HM.out; have e2 := HD.out; simp only [List.length_append, List.length_cons, List.length_nil] at e1 e2 ⊢; omega) B3.out.size ?_; intro v1 w1 ho1 hg1; have hb1 : Below w.heap.size w w1 := grown_old B3.out hg1 O3.out; have hs1 := S3.out.grown hg1 (by intro b off e; cases e; simp [Value.ownBlock]))
          | (refine step_app (by rfl) (.tmp 43) (.tmp 45) (by rfl) w.heap.size v1 ([] ++ (l.take k)) (by rfl) (some ⟨w.heap.size + 1, 0, none⟩) 1 1 [y] (by rfl) rfl ho1 hs1 nofun (by have e1 := HM.out; have e2 := HD.out; simp only [List.length_append, List.length_cons, List.length_nil] at e1 e2 ⊢; omega) hb1.size ?_; intro v2 w2 ho2 hg2; have hb2 : Below w.heap.size w w2 := grown_old hb1 hg2 ho1)
          | (refine step_app (by rfl) (.tmp 43) (.tmp 45) (by rfl) w.heap.size v1 ([] ++ (l.take k)) (by rfl) (some ⟨w.heap.size, 0, none⟩) 1 1 [y] (by rfl) rfl ho1 hs1 nofun (by have e1 := HM.out; have e2 := HD.out; simp only [List.length_append, List.length_cons, List.length_nil] at e1 e2 ⊢; omega) hb1.size ?_; intro v2 w2 ho2 hg2; have hb2 : Below w.heap.size w w2 := grown_old hb1 hg2 ho1)
          | (refine step_app (by rfl) (.tmp 43) (.tmp 45) (by rfl) w.heap.size v1 ([] ++ (l.take k)) (by rfl) (some ⟨w1.heap.size, 0, none⟩) 1 1 [y] (by rfl) rfl (ho1.alloc _) (in_one w1 w1.heap.size t y rfl HT.out) nofun (by have e1 := HM.out; have e2 := HD.out; simp only [List.length_append, List.length_cons, List.length_nil] at e1 e2 ⊢; omega) (hb1.alloc hb1.size _).size ?_; intro v2 w2 ho2 hg2; have hb2 : Below w.heap.size w w2 := grown_old (hb1.alloc hb1.size _) hg2 (ho1.alloc _))
          | (refine step_app (by rfl) (.tmp 46) (.tmp 49) (by rfl) w.heap.size v2 ([] ++ (l.take k) ++ [y]) (by rfl) (some ⟨b, k, none⟩) (l.length - k) (cap - k) (l.drop k) (by rfl) HD.out.symm ho2 ((HIN.out.below hb2).drop0 k) nofun (by have e1 := HM.out; have e2 := HD.out; simp only [List.length_append, List.length_cons, List.length_nil] at e1 e2 ⊢; omega) hb2.size ?_; intro v3 w3 ho3 hg3; have hb3 : Below w.heap.size w w3 := grown_old hb2 hg3 ho2))
        all_goals go_wp2
        all_goals go_ret
        all_goals
          have hfin : OwnS w3 base v3 (putL true l y) := by
            rw [HE.out]
            have h := ho3.mono HB0.out
            simpa using h
          exact PutsS.mk hfin hb3
    · have HE := Lib.hid (putL_new (tw := true) HALL.out (fun z hz => absurd (List.getElem?_eq_some_iff.1 hz).1 hlt))
      by_cases hkc : cap = k
      · subst hkc
        have hmin : (l.take cap).length = cap := by rw [List.length_take]; omega
        have hdr : (l.drop cap).length = 0 := by rw [List.length_drop]; omega
        have O1 : Hid (OwnS (w.alloc (.cells #[] 9)).drew w.heap.size (.slice (some ⟨w.heap.size, 0, none⟩) 0 0) []) := Lib.hid (own_new w w.heap.size w.heap.size rfl (Nat.le_refl _))
        have B1 := Lib.hid ((Below.refl w.heap.size w).alloc (Nat.le_refl _) (.cells #[] 9)).drew
        have O2 : Hid (OwnS ((w.alloc (.cells #[] 9)).alloc (.cells #[.string t] 9)).drew w.heap.size (.slice (some ⟨w.heap.size, 0, none⟩) 0 0) []) := Lib.hid ((own_new w w.heap.size w.heap.size rfl (Nat.le_refl _)).alloc (.cells #[.string t] 9))
        have B2 := Lib.hid (((Below.refl w.heap.size w).alloc (Nat.le_refl _) (.cells #[] 9)).alloc (by simp) (.cells #[.string t] 9)).drew
        have S2 : Hid (InS ((w.alloc (.cells #[] 9)).alloc (.cells #[.string t] 9)).drew (some ⟨w.heap.size + 1, 0, none⟩) [y]) := Lib.hid (in_one (w.alloc (.cells #[] 9)) (w.heap.size + 1) t y (by simp) HT.out)
        have O3 : Hid (OwnS ((w.alloc (.cells #[.string t] 9)).alloc (.cells #[] 9)).drew w.heap.size (.slice (some ⟨w.heap.size + 1, 0, none⟩) 0 0) []) := Lib.hid (own_new (w.alloc (.cells #[.string t] 9)) w.heap.size (w.heap.size + 1) (by simp) (by omega))
        have B3 := Lib.hid (((Below.refl w.heap.size w).alloc (Nat.le_refl _) (.cells #[.string t] 9)).alloc (by simp) (.cells #[] 9)).drew
        have S3 : Hid (InS ((w.alloc (.cells #[.string t] 9)).alloc (.cells #[] 9)).drew (some ⟨w.heap.size, 0, none⟩) [y]) := Lib.hid ((in_one w w.heap.size t y rfl HT.out).alloc (.cells #[] 9))
        have HM := Lib.hid hmin
        have HD := Lib.hid hdr
        clear hmin hdr
        go_wp2
        go_region_law (first
          | (refine step_app (by rfl) (.tmp 39) (.tmp 42) (by rfl) w.heap.size (.slice (some ⟨w.heap.size, 0, none⟩) 0 0) [] (by rfl) (some ⟨b, 0, none⟩) cap cap (l.take cap) (by rfl) HM.out.symm O1.out ((HIN.out.below B1.out).take' cap) nofun (by have e1 := HM.out; have e2 := HD.out; simp only [List.length_append, List.length_cons, List.length_nil] at e1 e2 ⊢; omega) B1.out.size ?_; intro v1 w1 ho1 hg1; have hb1 : Below w.heap.size w w1 := grown_old B1.out hg1 O1.out)
          | (refine step_app (by rfl) (.tmp 39) (.tmp 42) (by rfl) w.heap.size (.slice (some ⟨w.heap.size, 0, none⟩) 0 0) [] (by rfl) (some ⟨b, 0, none⟩) cap cap (l.take cap) (by rfl) HM.out.symm O2.out ((HIN.out.below B2.out).take' cap) nofun (by have e1 := HM.out; have e2 := HD.out; simp only [List.length_append, List.length_cons, List.length_nil] at e1 e2 ⊢; omega) B2.out.size ?_; intro v1 w1 ho1 hg1; have hb1 : Below w.heap.size w w1 := grown_old B2.out hg1 O2.out; have hs1 := S2.out.grown hg1 (by intro b off e; cases e; simp [Value.ownBlock]))
          | (refine step_app (by rfl) (.tmp 39) (.tmp 42) (by rfl) w.heap.size (.slice (some ⟨w.heap.size + 1, 0, none⟩) 0 0) [] (by rfl) (some ⟨b, 0, none⟩) cap cap (l.take cap) (by rfl) HM.out.symm O3.out ((HIN.out.below B3.out).take' cap) nofun (by have e1 := HM.out; have e2 := HD.out; simp only [List.length_append, List.length_cons, List.length_nil] at e1 e2 ⊢; omega) B3.out.size ?_; intro v1 w1 ho1 hg1; have hb1 : Below w.heap.size w w1 := grown_old B3.out hg1 O3.out; have hs1 := S3.out.grown hg1 (by intro b off e; cases e; simp [Value.ownBlock]))
          | (refine step_app (by rfl) (.tmp 43) (.tmp 45) (by rfl) w.heap.size v1 ([] ++ (l.take cap)) (by rfl) (some ⟨w.heap.size + 1, 0, none⟩) 1 1 [y] (by rfl) rfl ho1 hs1 nofun (by have e1 := HM.out; have e2 := HD.out; simp only [List.length_append, List.length_cons, List.length_nil] at e1 e2 ⊢; omega) hb1.size ?_; intro v2 w2 ho2 hg2; have hb2 : Below w.heap.size w w2 := grown_old hb1 hg2 ho1)
          | (refine step_app (by rfl) (.tmp 43) (.tmp 45) (by rfl) w.heap.size v1 ([] ++ (l.take cap)) (by rfl) (some ⟨w.heap.size, 0, none⟩) 1 1 [y] (by rfl) rfl ho1 hs1 nofun (by have e1 := HM.out; have e2 := HD.out; simp only [List.length_append, List.length_cons, List.length_nil] at e1 e2 ⊢; omega) hb1.size ?_; intro v2 w2 ho2 hg2; have hb2 : Below w.heap.size w w2 := grown_old hb1 hg2 ho1)
          | (refine step_app (by rfl) (.tmp 43) (.tmp 45) (by rfl) w.heap.size v1 ([] ++ (l.take cap)) (by rfl) (some ⟨w1.heap.size, 0, none⟩) 1 1 [y] (by rfl) rfl (ho1.alloc _) (in_one w1 w1.heap.size t y rfl HT.out) nofun (by have e1 := HM.out; have e2 := HD.out; simp only [List.length_append, List.length_cons, List.length_nil] at e1 e2 ⊢; omega) (hb1.alloc hb1.size _).size ?_; intro v2 w2 ho2 hg2; have hb2 : Below w.heap.size w w2 := grown_old (hb1.alloc hb1.size _) hg2 (ho1.alloc _))
          | (refine step_app (by rfl) (.tmp 46) (.tmp 49) (by rfl) w.heap.size v2 ([] ++ (l.take cap) ++ [y]) (by rfl) (some ⟨b, 0, none⟩) 0 0 (l.drop cap) (by rfl) HD.out.symm ho2 (InS.empty _ _ (by rw [List.length_drop]; omega)) nofun (by have e1 := HM.out; have e2 := HD.out; simp only [List.length_append, List.length_cons, List.length_nil] at e1 e2 ⊢; omega) hb2.size ?_; intro v3 w3 ho3 hg3; have hb3 : Below w.heap.size w w3 := grown_old hb2 hg3 ho2))
        all_goals go_wp2
        all_goals go_ret
        all_goals
          have hfin : OwnS w3 base v3 (putL true l y) := by
            rw [HE.out]
            have h := ho3.mono HB0.out
            simpa using h
          exact PutsS.mk hfin hb3
      · have hkc2 : ¬ (cap : Int) = (k : Int) := by omega
        have hmin : (l.take k).length = k := by rw [List.length_take]; omega
        have hdr : (l.drop k).length = (l.length - k) := List.length_drop
        have O1 : Hid (OwnS (w.alloc (.cells #[] 9)).drew w.heap.size (.slice (some ⟨w.heap.size, 0, none⟩) 0 0) []) := Lib.hid (own_new w w.heap.size w.heap.size rfl (Nat.le_refl _))
        have B1 := Lib.hid ((Below.refl w.heap.size w).alloc (Nat.le_refl _) (.cells #[] 9)).drew
        have O2 : Hid (OwnS ((w.alloc (.cells #[] 9)).alloc (.cells #[.string t] 9)).drew w.heap.size (.slice (some ⟨w.heap.size, 0, none⟩) 0 0) []) := Lib.hid ((own_new w w.heap.size w.heap.size rfl (Nat.le_refl _)).alloc (.cells #[.string t] 9))
        have B2 := Lib.hid (((Below.refl w.heap.size w).alloc (Nat.le_refl _) (.cells #[] 9)).alloc (by simp) (.cells #[.string t] 9)).drew
        have S2 : Hid (InS ((w.alloc (.cells #[] 9)).alloc (.cells #[.string t] 9)).drew (some ⟨w.heap.size + 1, 0, none⟩) [y]) := Lib.hid (in_one (w.alloc (.cells #[] 9)) (w.heap.size + 1) t y (by simp) HT.out)
        have O3 : Hid (OwnS ((w.alloc (.cells #[.string t] 9)).alloc (.cells #[] 9)).drew w.heap.size (.slice (some ⟨w.heap.size + 1, 0, none⟩) 0 0) []) := Lib.hid (own_new (w.alloc (.cells #[.string t] 9)) w.heap.size (w.heap.size + 1) (by simp) (by omega))
        have B3 := Lib.hid (((Below.refl w.heap.size w).alloc (Nat.le_refl _) (.cells #[.string t] 9)).alloc (by simp) (.cells #[] 9)).drew
        have S3 : Hid (InS ((w.alloc (.cells #[.string t] 9)).alloc (.cells #[] 9)).drew (some ⟨w.heap.size, 0, none⟩) [y]) := Lib.hid ((in_one w w.heap.size t y rfl HT.out).alloc (.cells #[] 9))
        have HM := Lib.hid hmin
        have HD := Lib.hid hdr
        clear hmin hdr
        go_wp2
        go_region_law (first
          | (refine step_app (by rfl) (.tmp 39) (.tmp 42) (by rfl) w.heap.size (.slice (some ⟨w.heap.size, 0, none⟩) 0 0) [] (by rfl) (some ⟨b, 0, none⟩) k cap (l.take k) (by rfl) HM.out.symm O1.out ((HIN.out.below B1.out).take' k) nofun (by have e1 := HM.out; have e2 := HD.out; simp only [List.length_append, List.length_cons, List.length_nil] at e1 e2 ⊢; omega) B1.out.size ?_; intro v1 w1 ho1 hg1; have hb1 : Below w.heap.size w w1 := grown_old B1.out hg1 O1.out)
          | (refine step_app (by rfl) (.tmp 39) (.tmp 42) (by rfl) w.heap.size (.slice (some ⟨w.heap.size, 0, none⟩) 0 0) [] (by rfl) (some ⟨b, 0, none⟩) k cap (l.take k) (by rfl) HM.out.symm O2.out ((HIN.out.below B2.out).take' k) nofun (by have e1 := HM.out; have e2 := HD.out; simp only [List.length_append, List.length_cons, List.length_nil] at e1 e2 ⊢; omega) B2.out.size ?_; intro v1 w1 ho1 hg1; have hb1 : Below w.heap.size w w1 := grown_old B2.out hg1 O2.out; have hs1 := S2.out.grown hg1 (by intro b off e; cases e; simp [Value.ownBlock]))
          | (refine step_app (by rfl) (.tmp 39) (.tmp 42) (by rfl) w.heap.size (.slice (some ⟨w.heap.size + 1, 0, none⟩) 0 0) [] (by rfl) (some ⟨b, 0, none⟩) k cap (l.take k) (by rfl) HM.out.symm O3.out ((HIN.out.below B3.out).take' k) nofun (by have e1 := HM.out; have e2 := HD.out; simp only [List.length_append, List.length_cons, List.length_nil] at e1 e2 ⊢; omega) B3.out.size ?_; intro v1 w1 ho1 hg1; have hb1 : Below w.heap.size w w1 := grown_old B3.out hg1 O3.out; have hs1 := S3.out.grown hg1 (by intro b off e; cases e; simp [Value.ownBlock]))
          | (refine step_app (by rfl) (.tmp 43) (.tmp 45) (by rfl) w.heap.size v1 ([] ++ (l.take k)) (by rfl) (some ⟨w.heap.size + 1, 0, none⟩) 1 1 [y] (by rfl) rfl ho1 hs1 nofun (by have e1 := HM.out; have e2 := HD.out; simp only [List.length_append, List.length_cons, List.length_nil] at e1 e2 ⊢; omega) hb1.size ?_; intro v2 w2 ho2 hg2; have hb2 : Below w.heap.size w w2 := grown_old hb1 hg2 ho1)
          | (refine step_app (by rfl) (.tmp 43) (.tmp 45) (by rfl) w.heap.size v1 ([] ++ (l.take k)) (by rfl) (some ⟨w.heap.size, 0, none⟩) 1 1 [y] (by rfl) rfl ho1 hs1 nofun (by have e1 := HM.out; have e2 := HD.out; simp only [List.length_append, List.length_cons, List.length_nil] at e1 e2 ⊢; omega) hb1.size ?_; intro v2 w2 ho2 hg2; have hb2 : Below w.heap.size w w2 := grown_old hb1 hg2 ho1)
          | (refine step_app (by rfl) (.tmp 43) (.tmp 45) (by rfl) w.heap.size v1 ([] ++ (l.take k)) (by rfl) (some ⟨w1.heap.size, 0, none⟩) 1 1 [y] (by rfl) rfl (ho1.alloc _) (in_one w1 w1.heap.size t y rfl HT.out) nofun (by have e1 := HM.out; have e2 := HD.out; simp only [List.length_append, List.length_cons, List.length_nil] at e1 e2 ⊢; omega) (hb1.alloc hb1.size _).size ?_; intro v2 w2 ho2 hg2; have hb2 : Below w.heap.size w w2 := grown_old (hb1.alloc hb1.size _) hg2 (ho1.alloc _))
          | (refine step_app (by rfl) (.tmp 46) (.tmp 49) (by rfl) w.heap.size v2 ([] ++ (l.take k) ++ [y]) (by rfl) (some ⟨b, k, none⟩) (l.length - k) (cap - k) (l.drop k) (by rfl) HD.out.symm ho2 ((HIN.out.below hb2).drop0 k) nofun (by have e1 := HM.out; have e2 := HD.out; simp only [List.length_append, List.length_cons, List.length_nil] at e1 e2 ⊢; omega) hb2.size ?_; intro v3 w3 ho3 hg3; have hb3 : Below w.heap.size w w3 := grown_old hb2 hg3 ho2))
        all_goals go_wp2
        all_goals go_ret
        all_goals
          have hfin : OwnS w3 base v3 (putL true l y) := by
            rw [HE.out]
            have h := ho3.mono HB0.out
            simpa using h
          exact PutsS.mk hfin hb3

set_option maxRecDepth 100000 in
set_option maxHeartbeats 4000000 in
theorem put_nil_false (base : Nat) (t : ByteArray) (y : Str) (w : World) (hbase : base ≤ w.heap.size) (ht : t.data.toList = y) :
    Calls Tryz.prog 66 #[.slice none 0 0, .string t, .bool false] w (PutsS w base (putL false [] y)) := by
  have HB0 := Lib.hid hbase
  have HT := Lib.hid ht
  have HE := Lib.hid (show putL false [] y = ([] : List Str) ++ y :: ([] : List Str) from rfl)
  clear ht hbase
  go_enter Tryz.func66, Tryz.ntmps66
  go_wp2
  refine wp_loop_rounds 1 ?_
  rw [rounds_succ]
  have hmin : ([] : List Str).length = 0 := rfl
  have hdr : ([] : List Str).length = 0 := rfl
  have O1 : Hid (OwnS (w.alloc (.cells #[] 9)).drew w.heap.size (.slice (some ⟨w.heap.size, 0, none⟩) 0 0) []) := Lib.hid (own_new w w.heap.size w.heap.size rfl (Nat.le_refl _))
  have B1 := Lib.hid ((Below.refl w.heap.size w).alloc (Nat.le_refl _) (.cells #[] 9)).drew
  have O2 : Hid (OwnS ((w.alloc (.cells #[] 9)).alloc (.cells #[.string t] 9)).drew w.heap.size (.slice (some ⟨w.heap.size, 0, none⟩) 0 0) []) := Lib.hid ((own_new w w.heap.size w.heap.size rfl (Nat.le_refl _)).alloc (.cells #[.string t] 9))
  have B2 := Lib.hid (((Below.refl w.heap.size w).alloc (Nat.le_refl _) (.cells #[] 9)).alloc (by simp) (.cells #[.string t] 9)).drew
  have S2 : Hid (InS ((w.alloc (.cells #[] 9)).alloc (.cells #[.string t] 9)).drew (some ⟨w.heap.size + 1, 0, none⟩) [y]) := Lib.hid (in_one (w.alloc (.cells #[] 9)) (w.heap.size + 1) t y (by simp) HT.out)
  have O3 : Hid (OwnS ((w.alloc (.cells #[.string t] 9)).alloc (.cells #[] 9)).drew w.heap.size (.slice (some ⟨w.heap.size + 1, 0, none⟩) 0 0) []) := Lib.hid (own_new (w.alloc (.cells #[.string t] 9)) w.heap.size (w.heap.size + 1) (by simp) (by omega))
  have B3 := Lib.hid (((Below.refl w.heap.size w).alloc (Nat.le_refl _) (.cells #[.string t] 9)).alloc (by simp) (.cells #[] 9)).drew
  have S3 : Hid (InS ((w.alloc (.cells #[.string t] 9)).alloc (.cells #[] 9)).drew (some ⟨w.heap.size, 0, none⟩) [y]) := Lib.hid ((in_one w w.heap.size t y rfl HT.out).alloc (.cells #[] 9))
  have HM := Lib.hid hmin
  have HD := Lib.hid hdr
  clear hmin hdr
  go_wp2
  go_region_law (first
    | (refine step_app (by rfl) (.tmp 39) (.tmp 42) (by rfl) w.heap.size (.slice (some ⟨w.heap.size, 0, none⟩) 0 0) [] (by rfl) none 0 0 ([] : List Str) (by rfl) HM.out.symm O1.out (InS.empty _ _ rfl) (fun _ => rfl) (by have e1 := HM.out; have e2 := HD.out; simp only [List.length_append, List.length_cons, List.length_nil] at e1 e2 ⊢; omega) B1.out.size ?_; intro v1 w1 ho1 hg1; have hb1 : Below w.heap.size w w1 := grown_old B1.out hg1 O1.out)
    | (refine step_app (by rfl) (.tmp 39) (.tmp 42) (by rfl) w.heap.size (.slice (some ⟨w.heap.size, 0, none⟩) 0 0) [] (by rfl) none 0 0 ([] : List Str) (by rfl) HM.out.symm O2.out (InS.empty _ _ rfl) (fun _ => rfl) (by have e1 := HM.out; have e2 := HD.out; simp only [List.length_append, List.length_cons, List.length_nil] at e1 e2 ⊢; omega) B2.out.size ?_; intro v1 w1 ho1 hg1; have hb1 : Below w.heap.size w w1 := grown_old B2.out hg1 O2.out; have hs1 := S2.out.grown hg1 (by intro b off e; cases e; simp [Value.ownBlock]))
    | (refine step_app (by rfl) (.tmp 39) (.tmp 42) (by rfl) w.heap.size (.slice (some ⟨w.heap.size + 1, 0, none⟩) 0 0) [] (by rfl) none 0 0 ([] : List Str) (by rfl) HM.out.symm O3.out (InS.empty _ _ rfl) (fun _ => rfl) (by have e1 := HM.out; have e2 := HD.out; simp only [List.length_append, List.length_cons, List.length_nil] at e1 e2 ⊢; omega) B3.out.size ?_; intro v1 w1 ho1 hg1; have hb1 : Below w.heap.size w w1 := grown_old B3.out hg1 O3.out; have hs1 := S3.out.grown hg1 (by intro b off e; cases e; simp [Value.ownBlock]))
    | (refine step_app (by rfl) (.tmp 43) (.tmp 45) (by rfl) w.heap.size v1 ([] ++ ([] : List Str)) (by rfl) (some ⟨w.heap.size + 1, 0, none⟩) 1 1 [y] (by rfl) rfl ho1 hs1 nofun (by have e1 := HM.out; have e2 := HD.out; simp only [List.length_append, List.length_cons, List.length_nil] at e1 e2 ⊢; omega) hb1.size ?_; intro v2 w2 ho2 hg2; have hb2 : Below w.heap.size w w2 := grown_old hb1 hg2 ho1)
    | (refine step_app (by rfl) (.tmp 43) (.tmp 45) (by rfl) w.heap.size v1 ([] ++ ([] : List Str)) (by rfl) (some ⟨w.heap.size, 0, none⟩) 1 1 [y] (by rfl) rfl ho1 hs1 nofun (by have e1 := HM.out; have e2 := HD.out; simp only [List.length_append, List.length_cons, List.length_nil] at e1 e2 ⊢; omega) hb1.size ?_; intro v2 w2 ho2 hg2; have hb2 : Below w.heap.size w w2 := grown_old hb1 hg2 ho1)
    | (refine step_app (by rfl) (.tmp 43) (.tmp 45) (by rfl) w.heap.size v1 ([] ++ ([] : List Str)) (by rfl) (some ⟨w1.heap.size, 0, none⟩) 1 1 [y] (by rfl) rfl (ho1.alloc _) (in_one w1 w1.heap.size t y rfl HT.out) nofun (by have e1 := HM.out; have e2 := HD.out; simp only [List.length_append, List.length_cons, List.length_nil] at e1 e2 ⊢; omega) (hb1.alloc hb1.size _).size ?_; intro v2 w2 ho2 hg2; have hb2 : Below w.heap.size w w2 := grown_old (hb1.alloc hb1.size _) hg2 (ho1.alloc _))
    | (refine step_app (by rfl) (.tmp 46) (.tmp 49) (by rfl) w.heap.size v2 ([] ++ ([] : List Str) ++ [y]) (by rfl) none 0 0 ([] : List Str) (by rfl) HD.out.symm ho2 (InS.empty _ _ rfl) (fun _ => rfl) (by have e1 := HM.out; have e2 := HD.out; simp only [List.length_append, List.length_cons, List.length_nil] at e1 e2 ⊢; omega) hb2.size ?_; intro v3 w3 ho3 hg3; have hb3 : Below w.heap.size w w3 := grown_old hb2 hg3 ho2))
  all_goals go_wp2
  all_goals go_ret
  all_goals
    have hfin : OwnS w3 base v3 (putL false [] y) := by
      rw [HE.out]
      have h := ho3.mono HB0.out
      simpa using h
    exact PutsS.mk hfin hb3

set_option maxRecDepth 100000 in
set_option maxHeartbeats 8000000 in
theorem put_some_false (base b cap : Nat) (l : List Str) (t : ByteArray) (y : Str) (w : World) (hl : l.length ≤ 8500000) (hown : OwnS w base (.slice (some ⟨b, 0, none⟩) l.length cap) l) (hbase : base ≤ w.heap.size) (ht : t.data.toList = y) :
    Calls Tryz.prog 66 #[.slice (some ⟨b, 0, none⟩) l.length cap, .string t, .bool false] w (PutsS w base (putL false l y)) := by
  have hlc := hown.cap_ge
  have HIN := Lib.hid hown.inS
  have HB0 := Lib.hid hbase
  have HT := Lib.hid ht
  have HOWN := Lib.hid hown
  clear hown ht hbase
  go_enter Tryz.func66, Tryz.ntmps66
  go_wp2
  go_loop [7] (fun i => ∃ k : Nat, k ≤ l.length ∧ i = .int .i64 k ∧ ∀ j x, l[j]? = some x → j < k → x < y) (fun i => l.length - (intOf i).toNat)
  case atStart => exact ⟨0, Nat.zero_le _, rfl, fun j x _ hj => absurd hj (Nat.not_lt_zero _)⟩
  case round =>
    obtain ⟨k, hk, rfl, hall⟩ := hrel
    have HALL := Lib.hid hall
    clear hall
    have h1 : (0 : Int) ≤ (k : Int) := by omega
    have h2 : (k : Int) ≤ (cap : Int) := by omega
    have h3 : (k : Int) ≤ (l.length : Int) := by omega
    by_cases hlt : k < l.length
    · obtain ⟨b', off', e', hbw, hc⟩ := HIN.out (by omega)
      obtain ⟨rfl, rfl⟩ : b = b' ∧ 0 = off' := by simpa using e'
      obtain ⟨x, s, hx1, hx2, hx3, hx4⟩ := str_at hlt
      have hcell : w.cell? ⟨b, 0 + k, none⟩ = some (.string s) := by rw [← hx3]; exact hc k x hx1
      rw [Nat.zero_add] at hcell
      have hkc : ¬ cap = k := by omega
      have hkc2 : ¬ (cap : Int) = (k : Int) := by omega
      clear hc e'
      by_cases hxy : x < y
      · have hls := less_yes hx2 HT.out hxy
        have HX := Lib.hid hx1
        have HXY := Lib.hid hxy
        clear hx1 hx2 hx3 hx4 hxy
        go_wp2
        go_round
        case rel =>
          refine ⟨k + 1, by omega, by go_num, fun j z hz hj => ?_⟩
          by_cases e : j = k
          · rw [e, HX.out] at hz
            cases hz
            exact HXY.out
          · exact HALL.out j z hz (by omega)
        case measure => simp [intOf]; omega
      · have hls := less_no hx2 HT.out hxy
        by_cases hq : x = y
        · have HE := Lib.hid (putL_same HALL.out (by rw [hx1, hq]))
          obtain rfl := str_eq3 hx2 HT.out hq
          clear hx1 hx2 hx3 hx4 hxy hq
          go_wp2
          go_ret
          refine PutsS.mk ?_ (Below.refl _ _)
          rw [HE.out]
          exact HOWN.out
        · have HE := Lib.hid (putL_new (tw := false) HALL.out (fun z hz => by rw [hx1] at hz; cases hz; exact ⟨hxy, .inr hq⟩))
          have hse := str_ne3 hx2 HT.out hq
          clear hx1 hx2 hx3 hx4 hxy hq
          have hmin : (l.take k).length = k := by rw [List.length_take]; omega
          have hdr : (l.drop k).length = (l.length - k) := List.length_drop
          have O1 : Hid (OwnS (w.alloc (.cells #[] 9)).drew w.heap.size (.slice (some ⟨w.heap.size, 0, none⟩) 0 0) []) := Lib.hid (own_new w w.heap.size w.heap.size rfl (Nat.le_refl _))
          have B1 := Lib.hid ((Below.refl w.heap.size w).alloc (Nat.le_refl _) (.cells #[] 9)).drew
          have O2 : Hid (OwnS ((w.alloc (.cells #[] 9)).alloc (.cells #[.string t] 9)).drew w.heap.size (.slice (some ⟨w.heap.size, 0, none⟩) 0 0) []) := Lib.hid ((own_new w w.heap.size w.heap.size rfl (Nat.le_refl _)).alloc (.cells #[.string t] 9))
          have B2 := Lib.hid (((Below.refl w.heap.size w).alloc (Nat.le_refl _) (.cells #[] 9)).alloc (by simp) (.cells #[.string t] 9)).drew
          have S2 : Hid (InS ((w.alloc (.cells #[] 9)).alloc (.cells #[.string t] 9)).drew (some ⟨w.heap.size + 1, 0, none⟩) [y]) := Lib.hid (in_one (w.alloc (.cells #[] 9)) (w.heap.size + 1) t y (by simp) HT.out)
          have O3 : Hid (OwnS ((w.alloc (.cells #[.string t] 9)).alloc (.cells #[] 9)).drew w.heap.size (.slice (some ⟨w.heap.size + 1, 0, none⟩) 0 0) []) := Lib.hid (own_new (w.alloc (.cells #[.string t] 9)) w.heap.size (w.heap.size + 1) (by simp) (by omega))
          have B3 := Lib.hid (((Below.refl w.heap.size w).alloc (Nat.le_refl _) (.cells #[.string t] 9)).alloc (by simp) (.cells #[] 9)).drew
          have S3 : Hid (InS ((w.alloc (.cells #[.string t] 9)).alloc (.cells #[] 9)).drew (some ⟨w.heap.size, 0, none⟩) [y]) := Lib.hid ((in_one w w.heap.size t y rfl HT.out).alloc (.cells #[] 9))
          have HM := Lib.hid hmin
          have HD := Lib.hid hdr
          clear hmin hdr
          go_wp2
          go_region_law (first
            | (refine step_app (by rfl) (.tmp 39) (.tmp 42) (by rfl) w.heap.size (.slice (some ⟨w.heap.size, 0, none⟩) 0 0) [] (by rfl) (some ⟨b, 0, none⟩) k cap (l.take k) (by rfl) HM.out.symm O1.out ((HIN.out.below B1.out).take' k) nofun (by have e1 := HM.out; have e2 := HD.out; simp only [List.length_append, List.length_cons, List.length_nil] at e1 e2 ⊢; omega) B1.out.size ?_; intro v1 w1 ho1 hg1; have hb1 : Below w.heap.size w w1 := grown_old B1.out hg1 O1.out)
            | (refine step_app (by rfl) (.tmp 39) (.tmp 42) (by rfl) w.heap.size (.slice (some ⟨w.heap.size, 0, none⟩) 0 0) [] (by rfl) (some ⟨b, 0, none⟩) k cap (l.take k) (by rfl) HM.out.symm O2.out ((HIN.out.below B2.out).take' k) nofun (by have e1 := HM.out; have e2 := HD.out; simp only [List.length_append, List.length_cons, List.length_nil] at e1 e2 ⊢; omega) B2.out.size ?_; intro v1 w1 ho1 hg1; have hb1 : Below w.heap.size w w1 := grown_old B2.out hg1 O2.out; have hs1 := S2.out.grown hg1 (by intro b off e; cases e; simp [Value.ownBlock]))
            | (refine step_app (by rfl) (.tmp 39) (.tmp 42) (by rfl) w.heap.size (.slice (some ⟨w.heap.size + 1, 0, none⟩) 0 0) [] (by rfl) (some ⟨b, 0, none⟩) k cap (l.take k) (by rfl) HM.out.symm O3.out ((HIN.out.below B3.out).take' k) nofun (by have e1 := HM.out; have e2 := HD.out; simp only [List.length_append, List.length_cons, List.length_nil] at e1 e2 ⊢; omega) B3.out.size ?_; intro v1 w1 ho1 hg1; have hb1 : Below w.heap.size w w1 := grown_old B3.out hg1 O3.out; have hs1 := S3.out.grown hg1 (by intro b off e; cases e; simp [Value.ownBlock]))
            | (refine step_app (by rfl) (.tmp 43) (.tmp 45) (by rfl) w.heap.size v1 ([] ++ (l.take k)) (by rfl) (some ⟨w.heap.size + 1, 0, none⟩) 1 1 [y] (by rfl) rfl ho1 hs1 nofun (by have e1 := HM.out; have e2 := HD.out; simp only [List.length_append, List.length_cons, List.length_nil] at e1 e2 ⊢; omega) hb1.size ?_; intro v2 w2 ho2 hg2; have hb2 : Below w.heap.size w w2 := grown_old hb1 hg2 ho1)
            | (refine step_app (by rfl) (.tmp 43) (.tmp 45) (by rfl) w.heap.size v1 ([] ++ (l.take k)) (by rfl) (some ⟨w.heap.size, 0, none⟩) 1 1 [y] (by rfl) rfl ho1 hs1 nofun (by have e1 := HM.out; have e2 := HD.out; simp only [List.length_append, List.length_cons, List.length_nil] at e1 e2 ⊢; omega) hb1.size ?_; intro v2 w2 ho2 hg2; have hb2 : Below w.heap.size w w2 := grown_old hb1 hg2 ho1)
            | (refine step_app (by rfl) (.tmp 43) (.tmp 45) (by rfl) w.heap.size v1 ([] ++ (l.take k)) (by rfl) (some ⟨w1.heap.size, 0, none⟩) 1 1 [y] (by rfl) rfl (ho1.alloc _) (in_one w1 w1.heap.size t y rfl HT.out) nofun (by have e1 := HM.out; have e2 := HD.out; simp only [List.length_append, List.length_cons, List.length_nil] at e1 e2 ⊢; omega) (hb1.alloc hb1.size _).size ?_; intro v2 w2 ho2 hg2; have hb2 : Below w.heap.size w w2 := grown_old (hb1.alloc hb1.size _) hg2 (ho1.alloc _))
            | (refine step_app (by rfl) (.tmp 46) (.tmp 49) (by rfl) w.heap.size v2 ([] ++ (l.take k) ++ [y]) (by rfl) (some ⟨b, k, none⟩) (l.length - k) (cap - k) (l.drop k) (by rfl) HD.out.symm ho2 ((HIN.out.below hb2).drop0 k) nofun (by have e1 := HM.out; have e2 := HD.out; simp only [List.length_append, List.length_cons, List.length_nil] at e1 e2 ⊢; omega) hb2.size ?_; intro v3 w3 ho3 hg3; have hb3 : Below w.heap.size w w3 := grown_old hb2 hg3 ho2))
          all_goals go_wp2
          all_goals go_ret
          all_goals
            have hfin : OwnS w3 base v3 (putL false l y) := by
              rw [HE.out]
              have h := ho3.mono HB0.out
              simpa using h
            exact PutsS.mk hfin hb3
    · have HE := Lib.hid (putL_new (tw := false) HALL.out (fun z hz => absurd (List.getElem?_eq_some_iff.1 hz).1 hlt))
      by_cases hkc : cap = k
      · subst hkc
        have hmin : (l.take cap).length = cap := by rw [List.length_take]; omega
        have hdr : (l.drop cap).length = 0 := by rw [List.length_drop]; omega
        have O1 : Hid (OwnS (w.alloc (.cells #[] 9)).drew w.heap.size (.slice (some ⟨w.heap.size, 0, none⟩) 0 0) []) := Lib.hid (own_new w w.heap.size w.heap.size rfl (Nat.le_refl _))
        have B1 := Lib.hid ((Below.refl w.heap.size w).alloc (Nat.le_refl _) (.cells #[] 9)).drew
        have O2 : Hid (OwnS ((w.alloc (.cells #[] 9)).alloc (.cells #[.string t] 9)).drew w.heap.size (.slice (some ⟨w.heap.size, 0, none⟩) 0 0) []) := Lib.hid ((own_new w w.heap.size w.heap.size rfl (Nat.le_refl _)).alloc (.cells #[.string t] 9))
        have B2 := Lib.hid (((Below.refl w.heap.size w).alloc (Nat.le_refl _) (.cells #[] 9)).alloc (by simp) (.cells #[.string t] 9)).drew
        have S2 : Hid (InS ((w.alloc (.cells #[] 9)).alloc (.cells #[.string t] 9)).drew (some ⟨w.heap.size + 1, 0, none⟩) [y]) := Lib.hid (in_one (w.alloc (.cells #[] 9)) (w.heap.size + 1) t y (by simp) HT.out)
        have O3 : Hid (OwnS ((w.alloc (.cells #[.string t] 9)).alloc (.cells #[] 9)).drew w.heap.size (.slice (some ⟨w.heap.size + 1, 0, none⟩) 0 0) []) := Lib.hid (own_new (w.alloc (.cells #[.string t] 9)) w.heap.size (w.heap.size + 1) (by simp) (by omega))
        have B3 := Lib.hid (((Below.refl w.heap.size w).alloc (Nat.le_refl _) (.cells #[.string t] 9)).alloc (by simp) (.cells #[] 9)).drew
        have S3 : Hid (InS ((w.alloc (.cells #[.string t] 9)).alloc (.cells #[] 9)).drew (some ⟨w.heap.size, 0, none⟩) [y]) := Lib.hid ((in_one w w.heap.size t y rfl HT.out).alloc (.cells #[] 9))
        have HM := Lib.hid hmin
        have HD := Lib.hid hdr
        clear hmin hdr
        go_wp2
        go_region_law (first
          | (refine step_app (by rfl) (.tmp 39) (.tmp 42) (by rfl) w.heap.size (.slice (some ⟨w.heap.size, 0, none⟩) 0 0) [] (by rfl) (some ⟨b, 0, none⟩) cap cap (l.take cap) (by rfl) HM.out.symm O1.out ((HIN.out.below B1.out).take' cap) nofun (by have e1 := HM.out; have e2 := HD.out; simp only [List.length_append, List.length_cons, List.length_nil] at e1 e2 ⊢; omega) B1.out.size ?_; intro v1 w1 ho1 hg1; have hb1 : Below w.heap.size w w1 := grown_old B1.out hg1 O1.out)
          | (refine step_app (by rfl) (.tmp 39) (.tmp 42) (by rfl) w.heap.size (.slice (some ⟨w.heap.size, 0, none⟩) 0 0) [] (by rfl) (some ⟨b, 0, none⟩) cap cap (l.take cap) (by rfl) HM.out.symm O2.out ((HIN.out.below B2.out).take' cap) nofun (by have e1 := HM.out; have e2 := HD.out; simp only [List.length_append, List.length_cons, List.length_nil] at e1 e2 ⊢; omega) B2.out.size ?_; intro v1 w1 ho1 hg1; have hb1 : Below w.heap.size w w1 := grown_old B2.out hg1 O2.out; have hs1 := S2.out.grown hg1 (by intro b off e; cases e; simp [Value.ownBlock]))
          | (refine step_app (by rfl) (.tmp 39) (.tmp 42) (by rfl) w.heap.size (.slice (some ⟨w.heap.size + 1, 0, none⟩) 0 0) [] (by rfl) (some ⟨b, 0, none⟩) cap cap (l.take cap) (by rfl) HM.out.symm O3.out ((HIN.out.below B3.out).take' cap) nofun (by have e1 := HM.out; have e2 := HD.out; simp only [List.length_append, List.length_cons, List.length_nil] at e1 e2 ⊢; omega) B3.out.size ?_; intro v1 w1 ho1 hg1; have hb1 : Below w.heap.size w w1 := grown_old B3.out hg1 O3.out; have hs1 := S3.out.grown hg1 (by intro b off e; cases e; simp [Value.ownBlock]))
          | (refine step_app (by rfl) (.tmp 43) (.tmp 45) (by rfl) w.heap.size v1 ([] ++ (l.take cap)) (by rfl) (some ⟨w.heap.size + 1, 0, none⟩) 1 1 [y] (by rfl) rfl ho1 hs1 nofun (by have e1 := HM.out; have e2 := HD.out; simp only [List.length_append, List.length_cons, List.length_nil] at e1 e2 ⊢; omega) hb1.size ?_; intro v2 w2 ho2 hg2; have hb2 : Below w.heap.size w w2 := grown_old hb1 hg2 ho1)
          | (refine step_app (by rfl) (.tmp 43) (.tmp 45) (by rfl) w.heap.size v1 ([] ++ (l.take cap)) (by rfl) (some ⟨w.heap.size, 0, none⟩) 1 1 [y] (by rfl) rfl ho1 hs1 nofun (by have e1 := HM.out; have e2 := HD.out; simp only [List.length_append, List.length_cons, List.length_nil] at e1 e2 ⊢; omega) hb1.size ?_; intro v2 w2 ho2 hg2; have hb2 : Below w.heap.size w w2 := grown_old hb1 hg2 ho1)
          | (refine step_app (by rfl) (.tmp 43) (.tmp 45) (by rfl) w.heap.size v1 ([] ++ (l.take cap)) (by rfl) (some ⟨w1.heap.size, 0, none⟩) 1 1 [y] (by rfl) rfl (ho1.alloc _) (in_one w1 w1.heap.size t y rfl HT.out) nofun (by have e1 := HM.out; have e2 := HD.out; simp only [List.length_append, List.length_cons, List.length_nil] at e1 e2 ⊢; omega) (hb1.alloc hb1.size _).size ?_; intro v2 w2 ho2 hg2; have hb2 : Below w.heap.size w w2 := grown_old (hb1.alloc hb1.size _) hg2 (ho1.alloc _))
          | (refine step_app (by rfl) (.tmp 46) (.tmp 49) (by rfl) w.heap.size v2 ([] ++ (l.take cap) ++ [y]) (by rfl) (some ⟨b, 0, none⟩) 0 0 (l.drop cap) (by rfl) HD.out.symm ho2 (InS.empty _ _ (by rw [List.length_drop]; omega)) nofun (by have e1 := HM.out; have e2 := HD.out; simp only [List.length_append, List.length_cons, List.length_nil] at e1 e2 ⊢; omega) hb2.size ?_; intro v3 w3 ho3 hg3; have hb3 : Below w.heap.size w w3 := grown_old hb2 hg3 ho2))
        all_goals go_wp2
        all_goals go_ret
        all_goals
          have hfin : OwnS w3 base v3 (putL false l y) := by
            rw [HE.out]
            have h := ho3.mono HB0.out
            simpa using h
          exact PutsS.mk hfin hb3
      · have hkc2 : ¬ (cap : Int) = (k : Int) := by omega
        have hmin : (l.take k).length = k := by rw [List.length_take]; omega
        have hdr : (l.drop k).length = (l.length - k) := List.length_drop
        have O1 : Hid (OwnS (w.alloc (.cells #[] 9)).drew w.heap.size (.slice (some ⟨w.heap.size, 0, none⟩) 0 0) []) := Lib.hid (own_new w w.heap.size w.heap.size rfl (Nat.le_refl _))
        have B1 := Lib.hid ((Below.refl w.heap.size w).alloc (Nat.le_refl _) (.cells #[] 9)).drew
        have O2 : Hid (OwnS ((w.alloc (.cells #[] 9)).alloc (.cells #[.string t] 9)).drew w.heap.size (.slice (some ⟨w.heap.size, 0, none⟩) 0 0) []) := Lib.hid ((own_new w w.heap.size w.heap.size rfl (Nat.le_refl _)).alloc (.cells #[.string t] 9))
        have B2 := Lib.hid (((Below.refl w.heap.size w).alloc (Nat.le_refl _) (.cells #[] 9)).alloc (by simp) (.cells #[.string t] 9)).drew
        have S2 : Hid (InS ((w.alloc (.cells #[] 9)).alloc (.cells #[.string t] 9)).drew (some ⟨w.heap.size + 1, 0, none⟩) [y]) := Lib.hid (in_one (w.alloc (.cells #[] 9)) (w.heap.size + 1) t y (by simp) HT.out)
        have O3 : Hid (OwnS ((w.alloc (.cells #[.string t] 9)).alloc (.cells #[] 9)).drew w.heap.size (.slice (some ⟨w.heap.size + 1, 0, none⟩) 0 0) []) := Lib.hid (own_new (w.alloc (.cells #[.string t] 9)) w.heap.size (w.heap.size + 1) (by simp) (by omega))
        have B3 := Lib.hid (((Below.refl w.heap.size w).alloc (Nat.le_refl _) (.cells #[.string t] 9)).alloc (by simp) (.cells #[] 9)).drew
        have S3 : Hid (InS ((w.alloc (.cells #[.string t] 9)).alloc (.cells #[] 9)).drew (some ⟨w.heap.size, 0, none⟩) [y]) := Lib.hid ((in_one w w.heap.size t y rfl HT.out).alloc (.cells #[] 9))
        have HM := Lib.hid hmin
        have HD := Lib.hid hdr
        clear hmin hdr
        go_wp2
        go_region_law (first
          | (refine step_app (by rfl) (.tmp 39) (.tmp 42) (by rfl) w.heap.size (.slice (some ⟨w.heap.size, 0, none⟩) 0 0) [] (by rfl) (some ⟨b, 0, none⟩) k cap (l.take k) (by rfl) HM.out.symm O1.out ((HIN.out.below B1.out).take' k) nofun (by have e1 := HM.out; have e2 := HD.out; simp only [List.length_append, List.length_cons, List.length_nil] at e1 e2 ⊢; omega) B1.out.size ?_; intro v1 w1 ho1 hg1; have hb1 : Below w.heap.size w w1 := grown_old B1.out hg1 O1.out)
          | (refine step_app (by rfl) (.tmp 39) (.tmp 42) (by rfl) w.heap.size (.slice (some ⟨w.heap.size, 0, none⟩) 0 0) [] (by rfl) (some ⟨b, 0, none⟩) k cap (l.take k) (by rfl) HM.out.symm O2.out ((HIN.out.below B2.out).take' k) nofun (by have e1 := HM.out; have e2 := HD.out; simp only [List.length_append, List.length_cons, List.length_nil] at e1 e2 ⊢; omega) B2.out.size ?_; intro v1 w1 ho1 hg1; have hb1 : Below w.heap.size w w1 := grown_old B2.out hg1 O2.out; have hs1 := S2.out.grown hg1 (by intro b off e; cases e; simp [Value.ownBlock]))
          | (refine step_app (by rfl) (.tmp 39) (.tmp 42) (by rfl) w.heap.size (.slice (some ⟨w.heap.size + 1, 0, none⟩) 0 0) [] (by rfl) (some ⟨b, 0, none⟩) k cap (l.take k) (by rfl) HM.out.symm O3.out ((HIN.out.below B3.out).take' k) nofun (by have e1 := HM.out; have e2 := HD.out; simp only [List.length_append, List.length_cons, List.length_nil] at e1 e2 ⊢; omega) B3.out.size ?_; intro v1 w1 ho1 hg1; have hb1 : Below w.heap.size w w1 := grown_old B3.out hg1 O3.out; have hs1 := S3.out.grown hg1 (by intro b off e; cases e; simp [Value.ownBlock]))
          | (refine step_app (by rfl) (.tmp 43) (.tmp 45) (by rfl) w.heap.size v1 ([] ++ (l.take k)) (by rfl) (some ⟨w.heap.size + 1, 0, none⟩) 1 1 [y] (by rfl) rfl ho1 hs1 nofun (by have e1 := HM.out; have e2 := HD.out; simp only [List.length_append, List.length_cons, List.length_nil] at e1 e2 ⊢; omega) hb1.size ?_; intro v2 w2 ho2 hg2; have hb2 : Below w.heap.size w w2 := grown_old hb1 hg2 ho1)
          | (refine step_app (by rfl) (.tmp 43) (.tmp 45) (by rfl) w.heap.size v1 ([] ++ (l.take k)) (by rfl) (some ⟨w.heap.size, 0, none⟩) 1 1 [y] (by rfl) rfl ho1 hs1 nofun (by have e1 := HM.out; have e2 := HD.out; simp only [List.length_append, List.length_cons, List.length_nil] at e1 e2 ⊢; omega) hb1.size ?_; intro v2 w2 ho2 hg2; have hb2 : Below w.heap.size w w2 := grown_old hb1 hg2 ho1)
          | (refine step_app (by rfl) (.tmp 43) (.tmp 45) (by rfl) w.heap.size v1 ([] ++ (l.take k)) (by rfl) (some ⟨w1.heap.size, 0, none⟩) 1 1 [y] (by rfl) rfl (ho1.alloc _) (in_one w1 w1.heap.size t y rfl HT.out) nofun (by have e1 := HM.out; have e2 := HD.out; simp only [List.length_append, List.length_cons, List.length_nil] at e1 e2 ⊢; omega) (hb1.alloc hb1.size _).size ?_; intro v2 w2 ho2 hg2; have hb2 : Below w.heap.size w w2 := grown_old (hb1.alloc hb1.size _) hg2 (ho1.alloc _))
          | (refine step_app (by rfl) (.tmp 46) (.tmp 49) (by rfl) w.heap.size v2 ([] ++ (l.take k) ++ [y]) (by rfl) (some ⟨b, k, none⟩) (l.length - k) (cap - k) (l.drop k) (by rfl) HD.out.symm ho2 ((HIN.out.below hb2).drop0 k) nofun (by have e1 := HM.out; have e2 := HD.out; simp only [List.length_append, List.length_cons, List.length_nil] at e1 e2 ⊢; omega) hb2.size ?_; intro v3 w3 ho3 hg3; have hb3 : Below w.heap.size w w3 := grown_old hb2 hg3 ho2))
        all_goals go_wp2
        all_goals go_ret
        all_goals
          have hfin : OwnS w3 base v3 (putL false l y) := by
            rw [HE.out]
            have h := ho3.mono HB0.out
            simpa using h
          exact PutsS.mk hfin hb3

theorem put_any (tw : Bool) (base : Nat) (a : Option Addr) (cap : Nat) (l : List Str) (t : ByteArray) (y : Str) (w : World) (hl : l.length ≤ 8500000) (hown : OwnS w base (.slice a l.length cap) l) (hbase : base ≤ w.heap.size) (ht : t.data.toList = y) :
    Calls Tryz.prog 66 #[.slice a l.length cap, .string t, .bool tw] w (PutsS w base (putL tw l y)) := by
  have h2 := hown.2
  rcases h2 with ⟨hv, h0⟩ | ⟨g, cap', cur, hv, -⟩
  · obtain rfl : l = [] := List.eq_nil_of_length_eq_zero h0
    simp only [Value.slice.injEq] at hv
    obtain ⟨rfl, -, rfl⟩ := hv
    cases tw
    · exact put_nil_false base t y w hbase ht
    · exact put_nil_true base t y w hbase ht
  · simp only [Value.slice.injEq] at hv
    obtain ⟨rfl, -, rfl⟩ := hv
    cases tw
    · exact put_some_false base g cap l t y w hl hown hbase ht
    · exact put_some_true base g cap l t y w hl hown hbase ht

end Go.Proofs.YtebddnjccmaimaaGreatDoor

/-
  What slices.Grow and slices.Concat do at []string, spec.UniteTokens and impl.UniteTokens. By an AI agent.
-/
namespace Go.Proofs.YtebddnjccmaimaaGreatDoor
open Go.RowKit Go.Maps
set_option linter.unusedVariables false

set_option maxRecDepth 100000 in
theorem grow_nil (n : Nat) (w : World) (hn : n ≤ 9000000) :
    Calls Tryz.prog 90 #[.slice none 0 0, .int .i64 n] w (GivesS w []) := by
  obtain ⟨i0, hi, hz0, hz1, hz2⟩ := info_parts info_str
  by_cases h0 : n = 0
  · subst h0
    go_enter Tryz.func90, Tryz.ntmps90
    go_wp2
    go_ret
    exact ⟨none, 0, rfl, OwnS.nil _ _, Below.refl _ _⟩
  · have hr := Lib.run_append_nil_zeros (P := Tryz.prog) w 31 3 31 9 i0 (.string ⟨#[]⟩) .i64 .i64 Tryz.underlying31 Tryz.underlying3 hi hz0 n (by omega) (by omega) (by omega) (by rw [hz2]; omega)
    have hc1 := grownCap_ge w n 0 9
    have hc2 := grownCap_le_maxLen w n 0 9 (by unfold maxLen; omega)
    obtain ⟨cap, hcap⟩ : ∃ c, grownCap w n 0 9 = c := ⟨_, rfl⟩
    rw [hcap] at hr hc1 hc2
    have HOWN := Lib.hid (OwnS.made w.drew w.heap.size (Builtin.zeroCells (Value.string ⟨#[]⟩).cells n ++ Builtin.zeroCells (Value.string ⟨#[]⟩).cells (cap - n)) cap (Nat.le_refl _) hc2 (by rw [Array.size_append, size_zeroCells, size_zeroCells]; show n * 1 + (cap - n) * 1 = cap; omega))
    have HB := Lib.hid (((Below.refl w.heap.size w).drew).alloc (Nat.le_refl _) (.cells (Builtin.zeroCells (Value.string ⟨#[]⟩).cells n ++ Builtin.zeroCells (Value.string ⟨#[]⟩).cells (cap - n)) 9))
    obtain ⟨w1, hw1⟩ : ∃ w1, w1 = w.drew.alloc (.cells (Builtin.zeroCells (Value.string ⟨#[]⟩).cells n ++ Builtin.zeroCells (Value.string ⟨#[]⟩).cells (cap - n)) 9) := ⟨_, rfl⟩
    rw [← hw1] at hr HOWN HB
    have HR := Lib.hid hr
    clear hr hw1 hcap
    go_enter Tryz.func90, Tryz.ntmps90
    go_wp2_with (at_builtin; refine Lib.wpList_append_run _ rfl _ _ _ _ rfl _ _ rfl rfl _ _ HR.out ?_)
    go_ret
    exact ⟨_, cap, rfl, HOWN.out, HB.out⟩

set_option maxRecDepth 100000 in
set_option maxHeartbeats 1600000 in
theorem concat_two (g : Nat) (a0 a1 : Option Addr) (c0 c1 : Nat) (l0 l1 : List Str) (w : World) (h0 : Sm w a0 l0 c0) (h1 : Sm w a1 l1 c1) (hc0 : w.cell? ⟨g, 0, none⟩ = some (.slice a0 l0.length c0)) (hc1 : w.cell? ⟨g, 1, none⟩ = some (.slice a1 l1.length c1)) :
    Calls Tryz.prog 54 #[.slice (some ⟨g, 0, none⟩) 2 2] w (GivesS w (l0 ++ l1)) := by
  obtain ⟨hin0, hn0, -, hl0, -⟩ := h0
  obtain ⟨hin1, hn1, -, hl1, -⟩ := h1
  have H0 := Lib.hid hin0
  have H1 := Lib.hid hin1
  have N0 := Lib.hid hn0
  have N1 := Lib.hid hn1
  have hg := World.block_lt_of_cell? w _ hc0
  have C0 := Lib.hid hc0
  have C1 := Lib.hid hc1
  clear hin0 hin1 hn0 hn1
  go_enter Tryz.func54, Tryz.ntmps54
  go_wp2
  go_loop [3, 11] (fun s i => (i = .int .i64 (0 : Nat) ∧ s = .int .i64 (0 : Nat)) ∨ (i = .int .i64 (1 : Nat) ∧ s = .int .i64 l0.length) ∨ (i = .int .i64 (2 : Nat) ∧ s = .int .i64 ((l0.length + l1.length : Nat) : Int))) (fun _ i => 2 - (intOf i).toNat)
  case atStart => exact .inl ⟨rfl, rfl⟩
  case round =>
    rcases hrel with ⟨rfl, rfl⟩ | ⟨rfl, rfl⟩ | ⟨rfl, rfl⟩
    · go_wp2
      go_round
      case rel => exact .inr (.inl ⟨by go_num, by go_num⟩)
      case measure => simp [intOf]
    · go_wp2
      go_round
      case rel => exact .inr (.inr ⟨by go_num, by go_num⟩)
      case measure => simp [intOf]
    · clear hc0 hc1
      go_wp2_with (go_at_call 90; (refine (grow_nil (l0.length + l1.length) _ (by omega)).mono ?_); rintro e w1 ⟨ag, cg, rfl, ho1, hb1⟩; have HO1 := Lib.hid ho1; have HB1 := Lib.hid hb1; clear ho1 hb1)
      go_loopw [6, 27] (fun v i wr => ∃ (a : Option Addr) (c : Nat) (r : List Str), v = .slice a r.length c ∧ OwnS wr w.heap.size (.slice a r.length c) r ∧ Below w.heap.size w wr ∧ ((i = .int .i64 (0 : Nat) ∧ r = []) ∨ (i = .int .i64 (1 : Nat) ∧ r = l0) ∨ (i = .int .i64 (2 : Nat) ∧ r = l0 ++ l1))) (fun _ i _ => 2 - (intOf i).toNat)
      case atStart => exact ⟨ag, cg, [], rfl, HO1.out, HB1.out, .inl ⟨rfl, rfl⟩⟩
      case round =>
        obtain ⟨a, c, r, rfl, hown, hb, hrel⟩ := hrel
        have HOWN := Lib.hid hown
        have HB := Lib.hid hb
        have hcell0 : wr.cell? ⟨g, 0, none⟩ = some (.slice a0 l0.length c0) := by rw [HB.out.cell (p := ⟨g, 0, none⟩) hg]; exact C0.out
        have hcell1 : wr.cell? ⟨g, 1, none⟩ = some (.slice a1 l1.length c1) := by rw [HB.out.cell (p := ⟨g, 1, none⟩) hg]; exact C1.out
        clear hown hb
        rcases hrel with ⟨rfl, hr⟩ | ⟨rfl, hr⟩ | ⟨rfl, hr⟩
        · have HR := Lib.hid hr
          obtain ⟨v', w2, hrun, ho, hgr⟩ := run_app 31 w.heap.size (.slice a r.length c) r wr HOWN.out a0 c0 l0 (H0.out.below HB.out) N0.out (by rw [hr]; simp; omega) HB.out.size
          obtain ⟨a', c', rfl⟩ := ho.shape
          have HRUN := Lib.hid hrun
          have HO := Lib.hid ho
          have HG := Lib.hid (HB.out.grown hgr HB.out.size (fun k hk => (World.ownsRow.lt HOWN.out k hk).1))
          clear hrun ho hgr hr
          go_wp2_with (at_builtin; refine Lib.wpList_append_run _ rfl _ _ _ _ rfl _ _ rfl rfl _ _ HRUN.out ?_)
          go_roundw
          case rel =>
            exact ⟨a', c', r ++ l0, by simp, HO.out, HG.out, .inr (.inl ⟨by go_num, by rw [HR.out]; rfl⟩)⟩
          case measure => simp [intOf]
        · have HR := Lib.hid hr
          obtain ⟨v', w2, hrun, ho, hgr⟩ := run_app 31 w.heap.size (.slice a r.length c) r wr HOWN.out a1 c1 l1 (H1.out.below HB.out) N1.out (by rw [hr]; omega) HB.out.size
          obtain ⟨a', c', rfl⟩ := ho.shape
          have HRUN := Lib.hid hrun
          have HO := Lib.hid ho
          have HG := Lib.hid (HB.out.grown hgr HB.out.size (fun k hk => (World.ownsRow.lt HOWN.out k hk).1))
          clear hrun ho hgr hr
          go_wp2_with (at_builtin; refine Lib.wpList_append_run _ rfl _ _ _ _ rfl _ _ rfl rfl _ _ HRUN.out ?_)
          go_roundw
          case rel =>
            exact ⟨a', c', r ++ l1, by simp, HO.out, HG.out, .inr (.inr ⟨by go_num, by rw [HR.out]⟩)⟩
          case measure => simp [intOf]
        · have HR := Lib.hid hr
          clear hr
          go_wp2
          go_ret
          rw [← HR.out]
          exact ⟨a, c, rfl, HOWN.out, HB.out⟩

abbrev uniteR (l m : List Str) : List Str := setL (l ++ m)
theorem unite_len (l m : List Str) (h0 : szL l ≤ 1048576) (h1 : szL m ≤ 1048576) : (uniteR l m).length ≤ 4000000 := by
  have h2 := setL_length (l ++ m)
  have h3 := szL_len l
  have h4 := szL_len m
  rw [List.length_append] at h2
  show (setL (l ++ m)).length ≤ 4000000
  omega

set_option maxRecDepth 100000 in
set_option maxHeartbeats 1000000 in
theorem unite_spec (a0 a1 : Option Addr) (c0 c1 : Nat) (l0 l1 : List Str) (w : World) (h0 : Sm w a0 l0 c0) (h1 : Sm w a1 l1 c1) :
    Calls Tryz.prog 61 #[.slice a0 l0.length c0, .slice a1 l1.length c1] w (GivesS w (uniteR l0 l1)) := by
  obtain ⟨hin0, -, -, hl0, -⟩ := h0
  obtain ⟨hin1, -, -, hl1, -⟩ := h1
  have H0 := Lib.hid hin0
  have H1 := Lib.hid hin1
  clear hin0 hin1
  go_enter Tryz.func61, Tryz.ntmps61
  go_wp2
  go_loopw [5, 6] (fun v i wr => ∃ (k : Nat) (a : Option Addr) (c : Nat) (r : List Str), k ≤ l0.length ∧ i = .int .i64 k ∧ v = .slice a r.length c ∧ r = setL (l0.take k) ∧ OwnS wr w.heap.size (.slice a r.length c) r ∧ Below w.heap.size w wr) (fun _ i _ => l0.length - (intOf i).toNat)
  case atStart => exact ⟨0, _, _, [], Nat.zero_le _, rfl, rfl, rfl, own_new w w.heap.size w.heap.size rfl (Nat.le_refl _), (Below.refl _ _).alloc (Nat.le_refl _) _⟩
  case round =>
    obtain ⟨k, a, c, r, hk, rfl, rfl, hr, hown, hb⟩ := hrel
    have hrl : r.length ≤ k := by
      rw [hr]
      have h2 := setL_length (l0.take k)
      have h4 : (l0.take k).length ≤ k := List.length_take_le _ _
      omega
    have HR := Lib.hid hr
    have HOWN := Lib.hid hown
    have HB := Lib.hid hb
    clear hr hown hb
    by_cases hlt : k < l0.length
    · obtain ⟨b, off, rfl, hbw, hc⟩ := H0.out (by omega)
      obtain ⟨x, s, hx1, hx2, hx3, hx4⟩ := str_at hlt
      have hcell : wr.cell? ⟨b, off + k, none⟩ = some (.string s) := by
        rw [HB.out.cell (p := ⟨b, off + k, none⟩) hbw, ← hx3]
        exact hc k x hx1
      have HX1 := Lib.hid hx1
      have HX2 := Lib.hid hx2
      clear hc hx1 hx2 hx3 hx4 hbw
      go_wp2_with (go_at_call 66; (refine (put_any false w.heap.size a c r s x _ (by omega) HOWN.out HB.out.size HX2.out).mono ?_); rintro e w2 ⟨a2, c2, rfl, ho2, hb2⟩; have HO2 := Lib.hid ho2; have HB2 := Lib.hid hb2; clear ho2 hb2)
      go_roundw
      case rel =>
        refine ⟨k + 1, a2, c2, putL false r x, by omega, by go_num, rfl, ?_, HO2.out, HB.out.trans (HB2.out.mono HB.out.size)⟩
        rw [take_snoc' HX1.out, setL_snoc, ← HR.out]
      case measure => simp [intOf]; omega
    · obtain rfl : k = l0.length := by omega
      have HR0 := Lib.hid (show r = setL l0 by have h := HR.out; rwa [List.take_length] at h)
      go_wp2
      go_loopw [5, 7] (fun v i wr => ∃ (k : Nat) (a : Option Addr) (c : Nat) (r : List Str), k ≤ l1.length ∧ i = .int .i64 k ∧ v = .slice a r.length c ∧ r = setL (l0 ++ l1.take k) ∧ OwnS wr w.heap.size (.slice a r.length c) r ∧ Below w.heap.size w wr) (fun _ i _ => l1.length - (intOf i).toNat)
      case atStart => exact ⟨0, a, c, r, Nat.zero_le _, rfl, rfl, by rw [HR0.out]; simp, HOWN.out, HB.out⟩
      case round =>
        clear HR HOWN HB hrl HR0
        obtain ⟨k, a, c, r, hk, rfl, rfl, hr, hown, hb⟩ := hrel
        have hrl : r.length ≤ l0.length + k := by
          rw [hr]
          have h2 := setL_length (l0 ++ l1.take k)
          have h4 : (l1.take k).length ≤ k := List.length_take_le _ _
          rw [List.length_append] at h2
          omega
        have HR := Lib.hid hr
        have HOWN := Lib.hid hown
        have HB := Lib.hid hb
        clear hr hown hb
        by_cases hlt : k < l1.length
        · obtain ⟨b, off, rfl, hbw, hc⟩ := H1.out (by omega)
          obtain ⟨x, s, hx1, hx2, hx3, hx4⟩ := str_at hlt
          have hcell : wr.cell? ⟨b, off + k, none⟩ = some (.string s) := by
            rw [HB.out.cell (p := ⟨b, off + k, none⟩) hbw, ← hx3]
            exact hc k x hx1
          have HX1 := Lib.hid hx1
          have HX2 := Lib.hid hx2
          clear hc hx1 hx2 hx3 hx4 hbw
          go_wp2_with (go_at_call 66; (refine (put_any false w.heap.size a c r s x _ (by omega) HOWN.out HB.out.size HX2.out).mono ?_); rintro e w2 ⟨a2, c2, rfl, ho2, hb2⟩; have HO2 := Lib.hid ho2; have HB2 := Lib.hid hb2; clear ho2 hb2)
          go_roundw
          case rel =>
            refine ⟨k + 1, a2, c2, putL false r x, by omega, by go_num, rfl, ?_, HO2.out, HB.out.trans (HB2.out.mono HB.out.size)⟩
            rw [take_snoc' HX1.out, ← List.append_assoc, setL_snoc, ← HR.out]
          case measure => simp [intOf]; omega
        · obtain rfl : k = l1.length := by omega
          go_wp2
          go_ret
          have e : r = uniteR l0 l1 := by
            have h := HR.out
            rw [List.take_length] at h
            exact h
          rw [← e]
          exact ⟨a, c, rfl, HOWN.out, HB.out⟩

end Go.Proofs.YtebddnjccmaimaaGreatDoor

/-
  What spec.l3Has, spec.CommonTokens and impl.CommonTokens answer. By an AI agent.
-/
namespace Go.Proofs.YtebddnjccmaimaaGreatDoor
open Go.RowKit Go.Maps
set_option linter.unusedVariables false

set_option maxRecDepth 100000 in
theorem has_yes (a : Option Addr) (cap : Nat) (l : List Str) (t : ByteArray) (y : Str) (w : World) (hl : l.length ≤ 4000000) (hin : InS w a l) (ht : t.data.toList = y) (hy : y ∈ l) :
    Calls Tryz.prog 62 #[.slice a l.length cap, .string t] w fun e w' => e = .returned (.bool true) ∧ w' = w := by
  have HIN := Lib.hid hin
  have HT := Lib.hid ht
  have HY := Lib.hid hy
  clear hin ht hy
  go_enter Tryz.func62, Tryz.ntmps62
  go_wp2
  go_loop [5] (fun i => ∃ k : Nat, k ≤ l.length ∧ i = .int .i64 k ∧ y ∉ l.take k) (fun i => l.length - (intOf i).toNat)
  case atStart => exact ⟨0, Nat.zero_le _, rfl, by simp⟩
  case round =>
    obtain ⟨k, hk, rfl, hm⟩ := hrel
    have HM := Lib.hid hm
    clear hm
    by_cases hlt : k < l.length
    · obtain ⟨b, off, rfl, hbw, hc⟩ := HIN.out (by omega)
      obtain ⟨x, s, hx1, hx2, hx3, hx4⟩ := str_at hlt
      have hcell : w.cell? ⟨b, off + k, none⟩ = some (.string s) := by rw [← hx3]; exact hc k x hx1
      have H1 := Lib.hid hx1
      by_cases hxy : x = y
      · obtain rfl := str_eq3 hx2 HT.out hxy
        clear hc hx1 hx2 hx3 hx4 hbw hxy
        go_wp2
        go_ret
        exact ⟨rfl, rfl⟩
      · have HXY := Lib.hid hxy
        have hne := str_ne3 hx2 HT.out hxy
        clear hc hx1 hx2 hx3 hx4 hbw hxy
        go_wp2
        go_round
        case rel => exact ⟨k + 1, by omega, by go_num, by rw [take_snoc' H1.out, List.mem_append, List.mem_singleton]; exact fun h => h.elim HM.out (fun e => HXY.out e.symm)⟩
        case measure => simp [intOf]; omega
    · obtain rfl : k = l.length := by omega
      exact absurd HY.out (by have := HM.out; rwa [List.take_length] at this)

set_option maxRecDepth 100000 in
theorem has_no (a : Option Addr) (cap : Nat) (l : List Str) (t : ByteArray) (y : Str) (w : World) (hl : l.length ≤ 4000000) (hin : InS w a l) (ht : t.data.toList = y) (hy : y ∉ l) :
    Calls Tryz.prog 62 #[.slice a l.length cap, .string t] w fun e w' => e = .returned (.bool false) ∧ w' = w := by
  have HIN := Lib.hid hin
  have HT := Lib.hid ht
  have HY := Lib.hid hy
  clear hin ht hy
  go_enter Tryz.func62, Tryz.ntmps62
  go_wp2
  go_loop [5] (fun i => ∃ k : Nat, k ≤ l.length ∧ i = .int .i64 k) (fun i => l.length - (intOf i).toNat)
  case atStart => exact ⟨0, Nat.zero_le _, rfl⟩
  case round =>
    obtain ⟨k, hk, rfl⟩ := hrel
    by_cases hlt : k < l.length
    · obtain ⟨b, off, rfl, hbw, hc⟩ := HIN.out (by omega)
      obtain ⟨x, s, hx1, hx2, hx3, hx4⟩ := str_at hlt
      have hcell : w.cell? ⟨b, off + k, none⟩ = some (.string s) := by rw [← hx3]; exact hc k x hx1
      have hne := str_ne3 hx2 HT.out (fun e => HY.out (by rw [← e]; exact List.mem_of_getElem? hx1))
      clear hc hx1 hx2 hx3 hx4 hbw
      go_wp2
      go_round
      case rel => exact ⟨k + 1, by omega, by go_num⟩
      case measure => simp [intOf]; omega
    · obtain rfl : k = l.length := by omega
      go_wp2
      go_ret
      exact ⟨rfl, rfl⟩

/-- what both lists have -/
def bothL (l m : List Str) : List Str := l.filter fun x => decide (x ∈ m)
abbrev commonR (l m : List Str) : List Str := setL (bothL l m)
theorem both_yes {l m : List Str} {k : Nat} {x : Str} (h : l[k]? = some x) (hm : x ∈ m) : bothL (l.take (k + 1)) m = bothL (l.take k) m ++ [x] := by
  unfold bothL; rw [take_snoc' h, List.filter_append]; simp [hm]
theorem both_no {l m : List Str} {k : Nat} {x : Str} (h : l[k]? = some x) (hm : x ∉ m) : bothL (l.take (k + 1)) m = bothL (l.take k) m := by
  unfold bothL; rw [take_snoc' h, List.filter_append]; simp [hm]
theorem both_len (l m : List Str) : (bothL l m).length ≤ l.length := List.length_filter_le _ _
theorem common_len (l m : List Str) (h0 : szL l ≤ 1048576) (h1 : szL m ≤ 1048576) : (commonR l m).length ≤ 4000000 := by
  have h2 := setL_length (bothL l m)
  have h3 := both_len l m
  have h4 := szL_len l
  show (setL (bothL l m)).length ≤ 4000000
  omega

set_option maxRecDepth 100000 in
set_option maxHeartbeats 1000000 in
theorem common_spec (a0 a1 : Option Addr) (c0 c1 : Nat) (l0 l1 : List Str) (w : World) (h0 : Sm w a0 l0 c0) (h1 : Sm w a1 l1 c1) :
    Calls Tryz.prog 77 #[.slice a0 l0.length c0, .slice a1 l1.length c1] w (GivesS w (commonR l0 l1)) := by
  obtain ⟨hin0, -, -, hl0, -⟩ := h0
  obtain ⟨hin1, -, -, hl1, -⟩ := h1
  have H0 := Lib.hid hin0
  have H1 := Lib.hid hin1
  clear hin0 hin1
  go_enter Tryz.func77, Tryz.ntmps77
  go_wp2
  go_loopw [5, 6] (fun v i wr => ∃ (k : Nat) (a : Option Addr) (c : Nat) (r : List Str), k ≤ l0.length ∧ i = .int .i64 k ∧ v = .slice a r.length c ∧ r = setL (bothL (l0.take k) l1) ∧ OwnS wr w.heap.size (.slice a r.length c) r ∧ Below w.heap.size w wr) (fun _ i _ => l0.length - (intOf i).toNat)
  case atStart => exact ⟨0, _, _, [], Nat.zero_le _, rfl, rfl, rfl, own_new w w.heap.size w.heap.size rfl (Nat.le_refl _), (Below.refl _ _).alloc (Nat.le_refl _) _⟩
  case round =>
    obtain ⟨k, a, c, r, hk, rfl, rfl, hr, hown, hb⟩ := hrel
    have hrl : r.length ≤ k := by
      rw [hr]
      have h2 := setL_length (bothL (l0.take k) l1)
      have h3 := both_len (l0.take k) l1
      have h4 : (l0.take k).length ≤ k := List.length_take_le _ _
      omega
    have HR := Lib.hid hr
    have HOWN := Lib.hid hown
    have HB := Lib.hid hb
    clear hr hown hb
    by_cases hlt : k < l0.length
    · obtain ⟨b, off, rfl, hbw, hc⟩ := H0.out (by omega)
      obtain ⟨x, s, hx1, hx2, hx3, hx4⟩ := str_at hlt
      have hcell : wr.cell? ⟨b, off + k, none⟩ = some (.string s) := by
        rw [HB.out.cell (p := ⟨b, off + k, none⟩) hbw, ← hx3]
        exact hc k x hx1
      have HX1 := Lib.hid hx1
      have HX2 := Lib.hid hx2
      clear hc hx1 hx2 hx3 hx4 hbw
      by_cases hm : x ∈ l1
      · have HM := Lib.hid hm
        clear hm
        go_wp2_with (first
          | (go_at_call 62; (refine (has_yes a1 c1 l1 s x _ hl1 (H1.out.below HB.out) HX2.out HM.out).mono ?_); rintro e w' ⟨rfl, rfl⟩)
          | (go_at_call 66; (refine (put_any false w.heap.size a c r s x _ (by omega) HOWN.out HB.out.size HX2.out).mono ?_); rintro e w2 ⟨a2, c2, rfl, ho2, hb2⟩; have HO2 := Lib.hid ho2; have HB2 := Lib.hid hb2; clear ho2 hb2))
        go_roundw
        case rel =>
          refine ⟨k + 1, a2, c2, putL false r x, by omega, by go_num, rfl, ?_, HO2.out, HB.out.trans (HB2.out.mono HB.out.size)⟩
          rw [both_yes HX1.out HM.out, setL_snoc, ← HR.out]
        case measure => simp [intOf]; omega
      · have HM := Lib.hid hm
        clear hm
        go_wp2_with (go_at_call 62; (refine (has_no a1 c1 l1 s x _ hl1 (H1.out.below HB.out) HX2.out HM.out).mono ?_); rintro e w' ⟨rfl, rfl⟩)
        go_roundw
        case rel =>
          refine ⟨k + 1, a, c, r, by omega, by go_num, rfl, ?_, HOWN.out, HB.out⟩
          rw [both_no HX1.out HM.out]
          exact HR.out
        case measure => simp [intOf]; omega
    · obtain rfl : k = l0.length := by omega
      go_wp2
      go_ret
      have e : r = commonR l0 l1 := by
        have h := HR.out
        rw [List.take_length] at h
        exact h
      rw [← e]
      exact ⟨a, c, rfl, HOWN.out, HB.out⟩

set_option maxRecDepth 100000 in
set_option maxHeartbeats 1000000 in
theorem common_impl (a0 a1 : Option Addr) (c0 c1 : Nat) (l0 l1 : List Str) (w : World) (h0 : Sm w a0 l0 c0) (h1 : Sm w a1 l1 c1) :
    Calls Tryz.prog 52 #[.slice a0 l0.length c0, .slice a1 l1.length c1] w (GivesS w (commonR l0 l1)) := by
  obtain ⟨hin0, -, -, hl0, hx0⟩ := h0
  obtain ⟨hin1, -, -, hl1, hx1⟩ := h1
  have H0 := Lib.hid hin0
  have H1 := Lib.hid hin1
  have X0 := Lib.hid hx0
  have X1 := Lib.hid (show ∀ x ∈ l1, x.length ≤ 9000000 from fun x hx => by have := hx1 x hx; omega)
  clear hin0 hin1 hx0 hx1
  have hmm := @run_makeMap Tryz.prog
  go_enter Tryz.func52, Tryz.ntmps52
  go_wp2_with (go_at_call 59; (refine (set_of a1 c1 l1 _ (by omega) X1.out H1.out).mono ?_); rintro e w1 ⟨bI, rfl, hs1, hlo, hb1⟩; have HS1 := Lib.hid hs1; have HB1 := Lib.hid hb1; have HLT := Lib.hid hs1.lt; clear hs1 hb1)
  go_loopw [14] (fun i wr => ∃ k : Nat, k ≤ l0.length ∧ i = .int .i64 k ∧ SetM wr bI l1.length l1 ∧ SetM wr w1.heap.size k (bothL (l0.take k) l1) ∧ Below w.heap.size w wr) (fun i _ => l0.length - (intOf i).toNat)
  case atStart => exact ⟨0, Nat.zero_le _, rfl, HS1.out.alloc _, SetM.made w1, HB1.out.alloc HB1.out.size _⟩
  case round =>
    obtain ⟨k, hk, rfl, hsI, hsC, hb⟩ := hrel
    have HSI := Lib.hid hsI
    have HSC := Lib.hid hsC
    have HB := Lib.hid hb
    clear hsI hsC hb
    by_cases hlt : k < l0.length
    · obtain ⟨b, off, rfl, hbw, hc⟩ := H0.out (by omega)
      obtain ⟨x, s, hx1, hx2, hx3, hx4⟩ := str_at hlt
      have hcell : wr.cell? ⟨b, off + k, none⟩ = some (.string s) := by
        rw [HB.out.cell (p := ⟨b, off + k, none⟩) hbw, ← hx3]
        exact hc k x hx1
      have HSZ := Lib.hid (show s.size ≤ maxLen by rw [hx4]; have := X0.out x (List.mem_of_getElem? hx1); unfold maxLen; omega)
      have HX1 := Lib.hid hx1
      have HX2 := Lib.hid hx2
      clear hc hx1 hx2 hx3 hx4 hbw
      by_cases hm : x ∈ l1
      · have HM := Lib.hid hm
        clear hm
        go_wp2_with (first
          | (at_lookup; refine wpList_set_lookup _ rfl _ _ rfl bI l1.length l1 HSI.out rfl s x rfl HX2.out HSZ.out true (decide_eq_true HM.out) ?_)
          | (at_mapUpdate; refine wpList_set_store _ rfl _ _ _ rfl w1.heap.size k _ HSC.out rfl (by unfold maxLen; omega) s x rfl rfl HX2.out HSZ.out ?_; intro w2 hset1 hg1; have HS2 := Lib.hid hset1; have HG2 := Lib.hid hg1; clear hset1 hg1))
        go_roundw
        case rel =>
          refine ⟨k + 1, by omega, by go_num, HSI.out.kept HG2.out (by have := HLT.out; intro e; injection e; omega), ?_, HB.out.grown HG2.out HB.out.size (fun j hj => by cases hj; exact HB1.out.size)⟩
          rw [both_yes HX1.out HM.out]
          exact HS2.out
        case measure => simp [intOf]; omega
      · have HM := Lib.hid hm
        clear hm
        go_wp2_with (at_lookup; refine wpList_set_lookup _ rfl _ _ rfl bI l1.length l1 HSI.out rfl s x rfl HX2.out HSZ.out false (decide_eq_false HM.out) ?_)
        go_roundw
        case rel =>
          refine ⟨k + 1, by omega, by go_num, HSI.out, ?_, HB.out⟩
          rw [both_no HX1.out HM.out]
          exact HSC.out.mono (Nat.le_succ _)
        case measure => simp [intOf]; omega
    · obtain rfl : k = l0.length := by omega
      have HSC2 := Lib.hid (show SetM wr w1.heap.size l0.length (bothL l0 l1) by have h := HSC.out; rwa [List.take_length] at h)
      go_wp2_with (go_at_call 58; (refine (sorted_members w1.heap.size l0.length (bothL l0 l1) _ (by omega) HSC2.out).mono ?_); rintro e w3 ⟨a3, c3, rfl, ho3, hb3⟩; have HO3 := Lib.hid ho3; have HB3 := Lib.hid hb3; clear ho3 hb3)
      go_ret
      exact ⟨a3, c3, rfl, HO3.out.mono HB.out.size, HB.out.trans (HB3.out.mono HB.out.size)⟩

end Go.Proofs.YtebddnjccmaimaaGreatDoor

