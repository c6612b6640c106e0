/-
  What impl.OrderTokens answers. By an AI agent.
-/
import Derived.Test.YtggohfinkpppkaaFrqT
import Derived.Test.YtggohfinkpppkaaOrdP
import Derived.Test.YtggohfinkpppkaaOrdCf
import Derived.Test.YtggohfinkpppkaaTcT
import Derived.Test.YtggohfinkpppkaaTcW
import Derived.Test.YtggohfinkpppkaaShelfF
namespace Go.Proofs.Ytggohfinkpppkaa
open Go.RowKit Go.Maps
set_option linter.unusedVariables false

/-- where frequencies come from -/
def Src (w : World) (v : Value) (tab : List TC) : Prop :=
  (∃ a c, v = .iface 135 (.slice a tab.length c) ∧ TokTab tab ∧ InT w a tab) ∨ (∃ b n, v = .iface 136 (.map (some b)) ∧ IMap w b n (tab.map (·.1)) (frqL tab))
theorem Src.below {w w' : World} {v : Value} {tab : List TC} (h : Src w v tab) (hb : Below w.heap.size w w') : Src w' v tab := by
  rcases h with ⟨a, c, h1, h2, h3⟩ | ⟨b, n, h1, h2⟩
  · exact .inl ⟨a, c, h1, h2, h3.below hb⟩
  · exact .inr ⟨b, n, h1, h2.below hb⟩

set_option maxRecDepth 100000 in
theorem src_of (a : Option Addr) (c : Nat) (tab : List TC) (w : World) (h : SmW w a tab c) :
    Calls Try.prog 90 #[.slice a tab.length c] w fun e w' => ∃ v, e = .returned v ∧ Src w' v tab ∧ Below w.heap.size w w' := by
  have HS := Lib.hid h
  have HIN := Lib.hid h.1.1
  clear h
  obtain ⟨b, hb⟩ : ∃ b, ttB tab = b := ⟨_, rfl⟩
  have HB := Lib.hid hb
  have HC := Lib.hid (fun W (hW : SmT W a tab c) => (ttab_impl a c tab W hW).mono fun e w' h => (show e = .returned (.bool b) ∧ Below W.heap.size W w' from ⟨by rw [← hb]; exact h.1, h.2⟩))
  clear hb
  cases b
  · go_enter Try.func90, Try.ntmps90
    go_wp2_with (first
      | (go_at_call 46; (refine (HC.out _ HS.out.1).mono ?_); rintro e w1 ⟨rfl, hb1⟩; have HB1 := Lib.hid hb1; clear hb1)
      | (go_at_call 122; (refine (first_counts a c tab _ (HS.out.1.below HB1.out) HS.out.2).mono ?_); rintro e w2 ⟨rfl, hm2, hb2⟩; have HM2 := Lib.hid hm2; have HB2 := Lib.hid hb2; clear hm2 hb2))
    go_ret
    exact ⟨_, rfl, .inr ⟨_, _, rfl, HM2.out⟩, HB1.out.trans (HB2.out.mono HB1.out.size)⟩
  · go_enter Try.func90, Try.ntmps90
    go_wp2_with (go_at_call 46; (refine (HC.out _ HS.out.1).mono ?_); rintro e w1 ⟨rfl, hb1⟩; have HB1 := Lib.hid hb1; clear hb1)
    go_ret
    exact ⟨_, rfl, .inl ⟨_, _, rfl, ttB_true.1 HB.out, HIN.out.below HB1.out⟩, HB1.out⟩

/-- the cells of a row of pairs, as the sort reads them -/
theorem holds_row {w : World} {base g n : Nat} {l : List TC} {cap : Nat} (h : w.ownsRow base 66 2 (.slice (some ⟨g, 0, none⟩) n cap) n (flatT l)) (hn : l.length = n) : Sort.HoldsK encT 2 w g 0 l.toArray := by
  intro j hj
  have hj2 : j < l.length * 2 := by simpa using hj
  have hc := h.cellAt j (by omega)
  have hf := h.frozenAt j
  have hi : j / 2 < l.length := by omega
  have hx := List.getElem?_eq_getElem hi
  obtain ⟨e0, e1⟩ := flat_at hx
  rw [Nat.zero_add]
  refine ⟨?_, hf⟩
  rw [hc, Sort.get_flatK _ _ _ _ (by simpa using hj2)]
  have hg : (l.toArray)[j / 2]! = l[j / 2] := by simp [hi]
  rw [hg]
  rcases Nat.mod_two_eq_zero_or_one j with h0 | h0
  · rw [h0]
    have ej : j / 2 * 2 = j := by omega
    rw [ej] at e0
    rw [e0]
    rfl
  · rw [h0]
    have ej : j / 2 * 2 + 1 = j := by omega
    rw [ej] at e1
    rw [e1]
    rfl
theorem grown_sortK {w : World} {g n : Nat} {os : Array Obj} (d : Array TC) : w.grownBy (sortWorldK encT 2 w g 0 n d os) (some g) := by
  unfold sortWorldK Sort.putRowK
  refine ⟨rfl, rfl, rfl, by simp, fun k hk hne => ?_⟩
  rw [Sort.heap_grow_old _ _ (by simpa using hk)]
  have : g ≠ k := fun e => hne (by rw [e])
  simp [Sort.putRow, Sort.mapBlock, Sort.ahead, Array.getElem?_modify, this]

theorem cmp_lays (blk off size : Nat) (w : World) : CmpLays Try.prog 92 #[] encT 2 cfR blk off size w :=
  fun _ _ _ _ x y => (cf_is ⟨x.1.toArray⟩ ⟨y.1.toArray⟩ x.2 y.2 (cfR x y) _ (by simp [cfR])).mono fun e w' h => h

set_option maxRecDepth 100000 in
set_option maxHeartbeats 1000000 in
theorem sort_prs (g : Nat) (tab : List TC) (l : List Str) (base cap : Nat) (w : World) (hl : l.length ≤ 4000000) (h : w.ownsRow base 66 2 (.slice (some ⟨g, 0, none⟩) l.length cap) l.length (flatT (prsL tab l))) :
    Calls Try.prog 91 #[.slice (some ⟨g, 0, none⟩) l.length cap, .func (.func 92) #[] #[]] w fun e w' =>
      e = .returned (.tuple #[]) ∧ w.grownBy w' (some g) ∧ ∃ d : List TC, d.length = l.length ∧ d.map (·.1) = ordR tab l ∧ InT w' (some ⟨g, 0, none⟩) d := by
  have eg : ∀ args w, (callFunc 92 args).run Try.prog w = .ok (.enter 92 args) w := enters_of Try.func92 (by kernel_rfl) rfl
  have hlt := (World.ownsRow.lt h g rfl).2
  have hH := holds_row h (prs_len tab l)
  have hsz : (prsL tab l).toArray.size = l.length := by simp [prsL]
  have hcon := Try.slices_SortFunc 2 (fun w => by kernel_rfl) (fun w => by kernel_rfl) encT (fun _ => rfl) encT_one cfR cf_swo 92 #[] g 0 cap (prsL tab l).toArray w eg (cmp_lays g 0 _ w) hH hlt (by rw [hsz]; omega)
  rw [hsz] at hcon
  refine hcon.mono ?_
  rintro e w' ⟨rfl, d, n, os, hp, hs, rfl⟩
  rw [← hsz] at hp hs
  obtain ⟨hd, hm⟩ := prs_sorted hp hs
  refine ⟨rfl, grown_sortK d, d.toList, by simpa using hd, hm, fun h0 => ?_⟩
  refine ⟨g, 0, rfl, Nat.lt_of_lt_of_le hlt (grown_sortK (os := os) (n := n) d).size, fun j x hj => ?_⟩
  have hjd : j < d.size := by simpa using (List.getElem?_eq_some_iff.1 hj).1
  have hK := holdsK_sortWorldK_c encT 2 w g 0 (prsL tab l).toArray d n os hH hlt hp.1
  have k0 := (Sort.HoldsK.cell hK hjd (show 0 < 2 by omega)).1
  have k1 := (Sort.HoldsK.cell hK hjd (show 1 < 2 by omega)).1
  have ex : d[j]! = x := by
    have := (List.getElem?_eq_some_iff.1 hj).2
    rw [getElem!_pos d j hjd]
    simpa using this
  rw [ex] at k0 k1
  exact ⟨k0, k1⟩

end Go.Proofs.Ytggohfinkpppkaa
