/-
  Maps of the call's own, map[string]int, with their keys; what impl.sortedKeys does at such a map. By an AI agent.
-/
import Derived.Test.YtggohfinkpppkaaSetOf
namespace Go.Proofs.Ytggohfinkpppkaa
open Go.RowKit Go.Maps Go.Sort
set_option linter.unusedVariables false

/-- block b is a map[string]int that has the keys ks and gives f -/
def IMap (w : World) (b n : Nat) (ks : List Str) (f : Str → Int) : Prop :=
  ∃ D : DataW Unit, w.ownsMap Try.prog 9 (plainElem Try.prog 3) b n D ∧ (∀ x : Str, Maps.has D (.string x) = decide (x ∈ ks)) ∧ ∀ x : Str, D.atKey (.string x) (.lit (.int .i64 0)) = .lit (.int .i64 (f x))

theorem IMap.made (w : World) : IMap (w.alloc (.map #[] 0)) w.heap.size 0 [] (fun _ => 0) :=
  ⟨.map [], World.ownsMap_made _ _ _ _, fun x => by simp [Maps.has], fun x => by simp [DataW.atKey]⟩
theorem IMap.kept {w w' : World} {b n : Nat} {ks : List Str} {f : Str → Int} {row : Option Nat} (h : IMap w b n ks f) (hg : w.grownBy w' row) (hne : some b ≠ row) : IMap w' b n ks f := by
  obtain ⟨D, h1, h2, h3⟩ := h
  exact ⟨D, h1.kept hg hne, h2, h3⟩
theorem IMap.lt {w : World} {b n : Nat} {ks : List Str} {f : Str → Int} (h : IMap w b n ks f) : b < w.heap.size := by obtain ⟨D, h1, _⟩ := h; exact h1.lt
theorem IMap.below {w w' : World} {b n : Nat} {ks : List Str} {f : Str → Int} (h : IMap w b n ks f) (hb : Below w.heap.size w w') : IMap w' b n ks f :=
  h.kept (row := none) ⟨hb.os, hb.tape, hb.output, hb.size, fun i hi _ => hb.block i hi⟩ (by simp)
theorem IMap.alloc {w : World} {b n : Nat} {ks : List Str} {f : Str → Int} (h : IMap w b n ks f) (o : Obj) : IMap (w.alloc o) b n ks f := h.below ((Below.refl _ _).alloc (Nat.le_refl _) o)
theorem IMap.mono {w : World} {b n n' : Nat} {ks : List Str} {f : Str → Int} (h : IMap w b n ks f) (hn : n ≤ n') : IMap w b n' ks f := by
  obtain ⟨D, h1, h2, h3⟩ := h
  exact ⟨D, h1.mono hn, h2, h3⟩
theorem IMap.congr {w : World} {b n : Nat} {ks ks' : List Str} {f f' : Str → Int} (h : IMap w b n ks f) (hk : ∀ x, x ∈ ks ↔ x ∈ ks') (hf : ∀ x, f x = f' x) : IMap w b n ks' f' := by
  obtain ⟨D, h1, h2, h3⟩ := h
  exact ⟨D, h1, fun x => by rw [h2 x]; exact decide_eq_decide.2 (hk x), fun x => by rw [h3 x, hf x]⟩

theorem wpList_imap_lookup (w : World) {ops : Array Oper} {rest : List Oper} {o : Oper} {a : Act} {Q : Exit → Act → World → Prop}
    (T : TypeId) (hT : Try.prog.underlying T = some (.map 9 3))
    (hg : o.guard = none) (m x : Operand) (hop : o.op = Op.lookup T m x false) (b n : Nat) (ks : List Str) (f : Str → Int) (hmap : IMap w b n ks f)
    (hm : a.eval m = .map (some b)) (s : ByteArray) (y : Str) (hx : a.eval x = .string s) (hs : s.data.toList = y) (hl : s.size ≤ maxLen) (c : Int) (hc : f y = c)
    (hK : wpList Try.prog ops Q rest (a.put o.dst (.int .i64 c)) w) :
    wpList Try.prog ops Q (o :: rest) a w := by
  obtain ⟨D, hown, _, hat⟩ := hmap
  refine wpList_lookup_own_int w hg m x T hop 9 3 .i64 keyS hT Try.underlying3 (zeroI w) b n D hm hown _ _ hx (keyOf_s hs hl) fun c' h1 _ => ?_
  rw [hat y] at h1
  obtain rfl : c' = c := by simp at h1; rw [← hc, h1]
  exact hK

theorem wpList_imap_look_ok (w : World) {ops : Array Oper} {rest : List Oper} {o : Oper} {a : Act} {Q : Exit → Act → World → Prop}
    (T : TypeId) (hT : Try.prog.underlying T = some (.map 9 3))
    (hg : o.guard = none) (m x : Operand) (hop : o.op = Op.lookup T m x true) (b n : Nat) (ks : List Str) (f : Str → Int) (hmap : IMap w b n ks f)
    (hm : a.eval m = .map (some b)) (s : ByteArray) (y : Str) (hx : a.eval x = .string s) (hs : s.data.toList = y) (hl : s.size ≤ maxLen) (c : Int) (hc : f y = c) (r : Bool) (hr : decide (y ∈ ks) = r)
    (hK : wpList Try.prog ops Q rest (a.put o.dst (.tuple #[.int .i64 c, .bool r])) w) :
    wpList Try.prog ops Q (o :: rest) a w := by
  obtain ⟨D, hown, hhas, hat⟩ := hmap
  refine wpList_lookup_own_ok_int w hg m x T hop 9 3 .i64 keyS hT Try.underlying3 (zeroI w) b n D hm hown _ _ hx (keyOf_s hs hl) fun c' h1 _ => ?_
  rw [hat y] at h1
  obtain rfl : c' = c := by simp at h1; rw [← hc, h1]
  rw [hhas y, hr]
  exact hK

theorem wpList_imap_store (w : World) {ops : Array Oper} {rest : List Oper} {o : Oper} {a : Act} {Q : Exit → Act → World → Prop}
    (T : TypeId) (hT : Try.prog.underlying T = some (.map 9 3))
    (hg : o.guard = none) (m x v : Operand) (hop : o.op = Op.mapUpdate T m x v) (b n : Nat) (ks : List Str) (f : Str → Int) (hmap : IMap w b n ks f)
    (hm : a.eval m = .map (some b)) (hn : n < maxLen) (s : ByteArray) (y : Str) (hx : a.eval x = .string s) (z : Int) (hv : a.eval v = .int .i64 z) (hz : (Lit.int .i64 z).wf = true) (hs : s.data.toList = y) (hl : s.size ≤ maxLen)
    (hK : ∀ w', IMap w' b (n + 1) (ks ++ [y]) (fun u => if u = y then z else f u) → w.grownBy w' (some b) → wpList Try.prog ops Q rest (a.put o.dst undef) w') :
    wpList Try.prog ops Q (o :: rest) a w := by
  obtain ⟨D, hown, hhas, hat⟩ := hmap
  refine wpList_mapUpdate_own w hg m x v T hop 9 3 keyS hT _ b n D hm hown hn _ _ _ hx hv (keyOf_s hs hl) _ [] (plainElem_int Try.underlying3 hz) fun w' h1 h2 => hK w' ⟨_, h1, ?_, ?_⟩ h2
  all_goals
    have hD : Maps.IsMap D := by obtain ⟨es, _, _, _, _, e⟩ := hown; exact ⟨_, e⟩
    intro u
    by_cases e : u = y
    · subst e
      first
        | (rw [Maps.has_put_same hD (k := .string _) trivial]; simp)
        | (rw [Maps.atKey_put_same hD (k := .string _) trivial]; simp)
    · first
        | (rw [Maps.has_put_other (lit_ne e), hhas u]; simp [e])
        | (rw [Maps.atKey_put_other (lit_ne e), hat u]; simp [e])

set_option maxRecDepth 100000 in
set_option maxHeartbeats 1000000 in
theorem sorted_keys (b n : Nat) (ls : List Str) (f : Str → Int) (w : World) (hn : n ≤ 9000000) (hset : IMap w b n ls f) :
    Calls Try.prog 86 #[.map (some b)] w (GivesS w (setL ls)) := by
  obtain ⟨D, hown, hhas, hat0⟩ := hset
  clear hat0
  obtain ⟨i0, hi, hz0, hz1, hz2⟩ := info_parts info_str
  have hbl := hown.lt
  have hsz := size_own hown
  have HHAS := Lib.hid hhas
  clear hhas
  go_enter Try.func86, Try.ntmps86
  go_wp2_with (first
    | (at_len; refine wpList_len_own _ rfl _ 101 rfl 9 3 Try.underlying101 _ b n _ rfl hown ?_)
    | (at_make; refine wpList_make_own _ rfl _ _ 43 rfl w.heap.size 9 i0 (.string ⟨#[]⟩) 1 Try.underlying43 hi hz0 hz1 _ _ _ (Maps.size D) rfl rfl rfl (by rw [hz2]; omega) (by unfold maxLen; omega) (Nat.le_refl _) ?_; intro w1 hrow1 hg1)
    | (at_range; refine wpList_range_own _ rfl _ 101 rfl 9 3 keyS Try.underlying101 _ b n _ rfl (hown.kept hg1 (by simp)) ?_; intro w0 hrg0 hg0 hs0)
    | go_in)
  go_frame
  go_loopw [3] (fun v wr => ∃ (left : Lit → Bool) (cnt : Nat) (ss : List (List UInt8)), wr.ranges Try.prog 9 (plainElem Try.prog 3) b w1.heap.size n D left cnt ∧ ss.length + cnt ≤ Maps.size D ∧
      wr.ownsRow w.heap.size 9 1 v ss.length (ss.map encStr) ∧ v ≠ .slice none 0 0 ∧ Collected D left ss ∧ Below w.heap.size w wr)
    (fun _ wr => wr.rangeLeft b w1.heap.size)
  case atStart =>
    exact ⟨_, _, [], hrg0, by simp, hrow1.kept hg0 (Or.inr (by simp [Value.ownBlock])), by simp, Collected.start D,
      ((Below.refl _ _).grown hg1 (Nat.le_refl _) (fun j hj => by cases hj)).grown hg0 hg1.size (fun j hj => by cases hj)⟩
  case round =>
    obtain ⟨left, cnt, ss, hrg, hcs, hrow, hnn, hC, hnx⟩ := hrel
    go_wp2_with (first
      | (at_next; refine wpList_next_ranges _ rfl _ rfl 9 keyS (plainElem Try.prog 3) encStr (fun v : Value => v) (fun key kl hk => by obtain ⟨x, hx, _⟩ := Maps.keyOf_str Try.underlying9 hk; exact ⟨x, hx⟩) (fun v y hv => ⟨v, rfl⟩) b w1.heap.size n _ _ _ rfl hrg ?_ ?_)
      | go_in)
    · -- nothing is left: the slice is sorted and handed back
      intro hc0 hl0
      rcases hrow.2 with ⟨hnil, _⟩ | ⟨g, cap, cur, rfl, hbase, hb, h1, h2, h3, h4⟩
      · exact absurd hnil hnn
      have hH : Holds encStr wr g 0 ss.toArray := holds_of_block hb (by simpa using h4)
      have hgl : g < wr.heap.size := (Array.getElem?_eq_some_iff.1 hb).1
      have hc := Try.slices_Sort_string g 0 cap ss wr hH hgl (by omega)
      have HC := Lib.hid hC
      have HN := Lib.hid hnx
      have HB := Lib.hid hb
      have HP := Lib.hid (And.intro hbase (And.intro h1 (And.intro h2 h3)))
      go_wp2_with (go_at_call 118; refine hc.mono ?_; rintro e w' ⟨rfl, nn, os, rfl⟩)
      go_ret
      have e1 : ss.mergeSort leB = setL ls := ms_set HC.out.1 (fun x => by
        rw [HC.out.2 x, hl0, HHAS.out x]
        simp)
      have e2 : ss.length = (setL ls).length := by rw [← e1]; simp
      have ho := ownsRow_sorted (n := nn) (os := os) (ts := ss.mergeSort leB) (by simp) HP.out.1 HB.out HP.out.2.1 HP.out.2.2.1 HP.out.2.2.2
      rw [e1, e2] at ho
      rw [e2]
      have e3 : ss.mergeSort (fun x y => decide (x ≤ y)) = setL ls := e1
      rw [e3]
      exact ⟨_, cap, rfl, ho, HN.out.grown (grownBy_sorted _) HN.out.size (fun j hj => by cases hj; exact HP.out.1)⟩
    · -- an entry has come: its key goes to the slice's end
      intro x c kl yd yp w2 cnt2 hkey hlk hv hat hrg2 hlt hg2 hs2 hen
      obtain ⟨x', ex, rfl, _⟩ := Maps.keyOf_str Try.underlying9 hkey
      obtain rfl : x = x' := encStr_inj ex
      have hrow2 := hrow.kept hg2 (Or.inr (row_ne_iter hrow hrg).symm)
      clear hs2
      go_wp2_with (first
        | (at_builtin; refine wpList_append_own _ rfl _ _ 43 rfl w.heap.size 9 i0 (.string ⟨#[]⟩) 1 16 Try.underlying43 hi hz0 hz1 hz2 rfl (by decide) _ _ _ rfl (hrow2.alloc _) ⟨w2.heap.size, 0, none⟩ 1 1 [encStr x] rfl rfl (cell_one_new _ _ _) (by simp [Value.oneCell', encStr]) (by unfold maxLen at *; omega) (by omega) (by have := hnx.size; have := hg2.size; simp; omega) ?_; intro v' w3 hown' hg3 hnil3; go_frame)
        | go_in)
      have hrg3 := (hrg2.alloc _).kept hg3 (row_ne_low hrow2 hbl) (row_ne_iter hrow2 hrg2)
      go_roundw
      case rel =>
        refine ⟨_, cnt2, ss ++ [x], hrg3, by simp; omega, by simpa using hown', fun hv' => by have := (hnil3.1 hv').2; omega, hC.step hlk hat, ?_⟩
        exact ((hnx.grown hg2 hnx.size (fun j hj => by cases hj; exact hg1.size)).alloc (by have := hnx.size; have := hg2.size; omega) _).grown hg3 (by have := hnx.size; have := hg2.size; simp; omega) (fun j hj => (hrow2.lt j hj).1)
      case measure => rw [hrg3.left_eq, hrg.left_eq]; exact hlt

end Go.Proofs.Ytggohfinkpppkaa
