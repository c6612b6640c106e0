/-
  Texts laid together: RuC, RuD. By an AI agent.
-/
import Derived.Test.YtpmfabpnjacegaaGreatDoorGQ6
import Derived.Test.YtpmfabpnjacegaaGreatDoorGQ7
import Derived.Laws.EntriesVeiled
/-
  The conditions of tests and rules, as closures: what impl's condition and decision hand back, and what they answer. By an AI agent.
-/
namespace Go.Proofs.YtpmfabpnjacegaaGreatDoor
open Go.RowKit
set_option linter.unusedVariables false

abbrev funV (k : FuncId) : Value := .func (.func k) #[] #[]
abbrev closV (k : FuncId) (g : Nat) : Value := .func (.func k) #[] #[.pointer (some ⟨g, 0, none⟩)]
abbrev fc1 : FuncId := 109
abbrev fc2 : FuncId := 110
abbrev fc3 : FuncId := 111
abbrev fcA : FuncId := 108

/-- a function value that is the condition of a test -/
def CondT (w : World) (lo : Nat) (v : Value) (t : TS) : Prop :=
  (v = funV 109 ∧ featB t = false) ∨
  (featB t = true ∧ t.2 = true ∧ ∃ g, v = closV 110 g ∧ lo ≤ g ∧ g < w.heap.size ∧ w.cell? ⟨g, 0, none⟩ = some (.int .i64 t.1.1) ∧ w.cell? ⟨g, 1, none⟩ = some (.int .i64 t.1.2)) ∨
  (featB t = true ∧ t.2 = false ∧ ∃ g, v = closV 111 g ∧ lo ≤ g ∧ g < w.heap.size ∧ w.cell? ⟨g, 0, none⟩ = some (.int .i64 t.1.1) ∧ w.cell? ⟨g, 1, none⟩ = some (.int .i64 t.1.2))
theorem CondT.keep {w w' : World} {lo : Nat} {v : Value} {t : TS} (h : CondT w lo v t) (hs : w.heap.size ≤ w'.heap.size) (hk : ∀ g, lo ≤ g → g < w.heap.size → w'.heap[g]? = w.heap[g]?) : CondT w' lo v t := by
  rcases h with h | ⟨h1, h2, g, hv, hlo, hg, c0, c1⟩ | ⟨h1, h2, g, hv, hlo, hg, c0, c1⟩
  · exact .inl h
  · exact .inr (.inl ⟨h1, h2, g, hv, hlo, Nat.lt_of_lt_of_le hg hs, (World.cell?_of_block (hk g hlo hg)).trans c0, (World.cell?_of_block (hk g hlo hg)).trans c1⟩)
  · exact .inr (.inr ⟨h1, h2, g, hv, hlo, Nat.lt_of_lt_of_le hg hs, (World.cell?_of_block (hk g hlo hg)).trans c0, (World.cell?_of_block (hk g hlo hg)).trans c1⟩)
theorem CondT.below {w w' : World} {lo : Nat} {v : Value} {t : TS} (h : CondT w lo v t) (hb : Below w.heap.size w w') : CondT w' lo v t := h.keep hb.size fun g _ hg => hb.block g hg
theorem CondT.mono {w : World} {lo lo' : Nat} {v : Value} {t : TS} (h : CondT w lo v t) (hl : lo' ≤ lo) : CondT w lo' v t := by
  rcases h with h | ⟨h1, h2, g, hv, hlo, h3⟩ | ⟨h1, h2, g, hv, hlo, h3⟩
  · exact .inl h
  · exact .inr (.inl ⟨h1, h2, g, hv, Nat.le_trans hl hlo, h3⟩)
  · exact .inr (.inr ⟨h1, h2, g, hv, Nat.le_trans hl hlo, h3⟩)
/-- a slice whose elements are the conditions of the tests of a list -/
def InC (w : World) (lo : Nat) (a : Option Addr) (l : List TS) : Prop :=
  0 < l.length → ∃ b off, a = some ⟨b, off, none⟩ ∧ lo ≤ b ∧ b < w.heap.size ∧ ∀ j t, l[j]? = some t → ∃ v, w.cell? ⟨b, off + j, none⟩ = some v ∧ CondT w lo v t
theorem InC.keep {w w' : World} {lo : Nat} {a : Option Addr} {l : List TS} (h : InC w lo a l) (hs : w.heap.size ≤ w'.heap.size) (hk : ∀ g, lo ≤ g → g < w.heap.size → w'.heap[g]? = w.heap[g]?) : InC w' lo a l := by
  intro h0
  obtain ⟨b, off, ha, hlo, hb, hc⟩ := h h0
  refine ⟨b, off, ha, hlo, Nat.lt_of_lt_of_le hb hs, fun j t hj => ?_⟩
  obtain ⟨v, h1, h2⟩ := hc j t hj
  exact ⟨v, (World.cell?_of_block (hk b hlo hb)).trans h1, h2.keep hs hk⟩
theorem InC.below {w w' : World} {lo : Nat} {a : Option Addr} {l : List TS} (h : InC w lo a l) (hb : Below w.heap.size w w') : InC w' lo a l := h.keep hb.size fun g _ hg => hb.block g hg
theorem InC.mono {w : World} {lo lo' : Nat} {a : Option Addr} {l : List TS} (h : InC w lo a l) (hl : lo' ≤ lo) : InC w lo' a l := by
  intro h0
  obtain ⟨b, off, ha, hlo, hb, hc⟩ := h h0
  refine ⟨b, off, ha, Nat.le_trans hl hlo, hb, fun j t hj => ?_⟩
  obtain ⟨v, h1, h2⟩ := hc j t hj
  exact ⟨v, h1, h2.mono hl⟩
/-- a function value that is the condition of a rule -/
def CondR (w : World) (lo : Nat) (v : Value) (r : List TS) : Prop :=
  ∃ g a c, v = closV 108 g ∧ lo ≤ g ∧ g < w.heap.size ∧ w.cell? ⟨g, 0, none⟩ = some (.slice a r.length c) ∧ InC w lo a r ∧ r.length ≤ 4000000
theorem CondR.keep {w w' : World} {lo : Nat} {v : Value} {r : List TS} (h : CondR w lo v r) (hs : w.heap.size ≤ w'.heap.size) (hk : ∀ g, lo ≤ g → g < w.heap.size → w'.heap[g]? = w.heap[g]?) : CondR w' lo v r := by
  obtain ⟨g, a, c, hv, hlo, hg, c0, hi, hl⟩ := h
  exact ⟨g, a, c, hv, hlo, Nat.lt_of_lt_of_le hg hs, (World.cell?_of_block (hk g hlo hg)).trans c0, hi.keep hs hk, hl⟩
theorem CondR.below {w w' : World} {lo : Nat} {v : Value} {r : List TS} (h : CondR w lo v r) (hb : Below w.heap.size w w') : CondR w' lo v r := h.keep hb.size fun g _ hg => hb.block g hg
theorem CondR.mono {w : World} {lo lo' : Nat} {v : Value} {r : List TS} (h : CondR w lo v r) (hl : lo' ≤ lo) : CondR w lo' v r := by
  obtain ⟨g, a, c, hv, hlo, hg, c0, hi, hn⟩ := h
  exact ⟨g, a, c, hv, Nat.le_trans hl hlo, hg, c0, hi.mono hl, hn⟩
def InCR (w : World) (lo : Nat) (a : Option Addr) (R : List (List TS)) : Prop :=
  0 < R.length → ∃ b off, a = some ⟨b, off, none⟩ ∧ lo ≤ b ∧ b < w.heap.size ∧ ∀ j r, R[j]? = some r → ∃ v, w.cell? ⟨b, off + j, none⟩ = some v ∧ CondR w lo v r
theorem InCR.below {w w' : World} {lo : Nat} {a : Option Addr} {R : List (List TS)} (h : InCR w lo a R) (hb : Below w.heap.size w w') : InCR w' lo a R := by
  intro h0
  obtain ⟨b, off, ha, hlo, hb', hc⟩ := h h0
  refine ⟨b, off, ha, hlo, Nat.lt_of_lt_of_le hb' hb.size, fun j t hj => ?_⟩
  obtain ⟨v, h1, h2⟩ := hc j t hj
  exact ⟨v, (World.cell?_of_block (hb.block b hb')).trans h1, h2.below hb⟩
/-- a function value that is the decision of a rule set -/
def DecR (w : World) (v : Value) (R : List (List TS)) : Prop :=
  ∃ g lo a c, v = closV 64 g ∧ g < w.heap.size ∧ w.cell? ⟨g, 0, none⟩ = some (.slice a R.length c) ∧ InCR w lo a R ∧ R.length ≤ 4000000
theorem DecR.below {w w' : World} {v : Value} {R : List (List TS)} (h : DecR w v R) (hb : Below w.heap.size w w') : DecR w' v R := by
  obtain ⟨g, lo, a, c, hv, hg, c0, hi, hl⟩ := h
  exact ⟨g, lo, a, c, hv, Nat.lt_of_lt_of_le hg hb.size, (World.cell?_of_block (hb.block g hg)).trans c0, hi.below hb, hl⟩

theorem feat_nat {t : TS} (h : featB t = true) : ∃ j : Nat, t.1.1 = j ∧ j ≤ 5 := by
  have h := of_decide_eq_true h
  exact ⟨t.1.1.toNat, by omega, by omega⟩
theorem cond_lt {f : Nat} {t : Int} {l : List Int} (hf : f ≤ 5) : condT (((f : Int), t), true) l = decide (l.getD f 0 < t) := by
  unfold condT cmpT featB
  have : decide ((0 : Int) ≤ (f : Int) ∧ (f : Int) ≤ 5) = true := decide_eq_true (by omega)
  simp only [this]
  simp
theorem cond_ge {f : Nat} {t : Int} {l : List Int} (hf : f ≤ 5) : condT (((f : Int), t), false) l = decide (t ≤ l.getD f 0) := by
  unfold condT cmpT featB
  have : decide ((0 : Int) ≤ (f : Int) ∧ (f : Int) ≤ 5) = true := decide_eq_true (by omega)
  simp only [this]
  simp

set_option maxRecDepth 100000 in
theorem c1_any (V : Value) (w : World) :
    Calls Tryz.prog 109 #[V] w fun e w' => e = .returned (.bool false) ∧ Below w.heap.size w w' := by
  go_enter Tryz.func109, Tryz.ntmps109
  go_wp2
  go_ret
  exact ⟨rfl, Below.refl _ _⟩

set_option maxRecDepth 100000 in
theorem c2_any (g f : Nat) (t : Int) (a : Option Addr) (cap : Nat) (l : List Int) (w : World) (h6 : l.length = 6) (hf : f ≤ 5) (hin : InI w a l) (c0 : w.cell? ⟨g, 0, none⟩ = some (.int .i64 (f : Int))) (c1 : w.cell? ⟨g, 1, none⟩ = some (.int .i64 t)) :
    Calls Tryz.prog 110 #[.slice a l.length cap, .pointer (some ⟨g, 0, none⟩)] w fun e w' => e = .returned (.bool (decide (l.getD f 0 < t))) ∧ Below w.heap.size w w' := by
  obtain ⟨b, off, rfl, hb, hc⟩ := hin (by omega)
  have hlt : f < l.length := by omega
  obtain ⟨x, hx⟩ : ∃ x, l[f]? = some x := ⟨_, List.getElem?_eq_getElem hlt⟩
  have hcell : w.cell? ⟨b, off + f, none⟩ = some (.int .i64 x) := hc f x hx
  rw [getD_is hx]
  clear hc hx hb h6 hf hin
  obtain ⟨d, hd⟩ : ∃ d, decide (x < t) = d := ⟨_, rfl⟩
  rw [hd]
  go_enter Tryz.func110, Tryz.ntmps110
  go_wp2
  go_quiet (fail)
  go_wp2
  go_ret
  exact ⟨rfl, quiet_f _ _ _⟩

set_option maxRecDepth 100000 in
theorem c3_any (g f : Nat) (t : Int) (a : Option Addr) (cap : Nat) (l : List Int) (w : World) (h6 : l.length = 6) (hf : f ≤ 5) (hin : InI w a l) (c0 : w.cell? ⟨g, 0, none⟩ = some (.int .i64 (f : Int))) (c1 : w.cell? ⟨g, 1, none⟩ = some (.int .i64 t)) :
    Calls Tryz.prog 111 #[.slice a l.length cap, .pointer (some ⟨g, 0, none⟩)] w fun e w' => e = .returned (.bool (decide (t ≤ l.getD f 0))) ∧ Below w.heap.size w w' := by
  obtain ⟨b, off, rfl, hb, hc⟩ := hin (by omega)
  have hlt : f < l.length := by omega
  obtain ⟨x, hx⟩ : ∃ x, l[f]? = some x := ⟨_, List.getElem?_eq_getElem hlt⟩
  have hcell : w.cell? ⟨b, off + f, none⟩ = some (.int .i64 x) := hc f x hx
  rw [getD_is hx]
  clear hc hx hb h6 hf hin
  obtain ⟨d, hd⟩ : ∃ d, decide (t ≤ x) = d := ⟨_, rfl⟩
  rw [hd]
  go_enter Tryz.func111, Tryz.ntmps111
  go_wp2
  go_quiet (fail)
  go_wp2
  go_ret
  exact ⟨rfl, quiet_f _ _ _⟩

/-- what a condition's call answers, in one form for the three kinds: a statement on the walk of the call -/
theorem condT_cases {w : World} {lo : Nat} {v : Value} {t : TS} (h : CondT w lo v t) (l : List Int) (h6 : l.length = 6) :
    (v = funV 109 ∧ condT t l = false) ∨
    (∃ g, v = closV 110 g ∧ ∀ (a : Option Addr) (cap : Nat) (W : World), Below w.heap.size w W → InI W a l → Calls Tryz.prog 110 #[.slice a l.length cap, .pointer (some ⟨g, 0, none⟩)] W fun e w' => e = .returned (.bool (condT t l)) ∧ Below W.heap.size W w') ∨
    (∃ g, v = closV 111 g ∧ ∀ (a : Option Addr) (cap : Nat) (W : World), Below w.heap.size w W → InI W a l → Calls Tryz.prog 111 #[.slice a l.length cap, .pointer (some ⟨g, 0, none⟩)] W fun e w' => e = .returned (.bool (condT t l)) ∧ Below W.heap.size W w') := by
  obtain ⟨⟨f, th⟩, u⟩ := t
  rcases h with ⟨h1, h2⟩ | ⟨h1, h2, g, hv, hlo, hg, c0, c1⟩ | ⟨h1, h2, g, hv, hlo, hg, c0, c1⟩
  · exact .inl ⟨h1, by unfold condT; rw [h2]; rfl⟩
  · obtain ⟨j, hj, hj5⟩ := feat_nat h1
    simp only at hj h2 c0 c1
    subst hj h2
    refine .inr (.inl ⟨g, hv, fun a cap W hW hin => ?_⟩)
    rw [cond_lt hj5]
    exact c2_any g j th a cap l W h6 hj5 hin ((hW.cell (p := ⟨g, 0, none⟩) hg).trans c0) ((hW.cell (p := ⟨g, 1, none⟩) hg).trans c1)
  · obtain ⟨j, hj, hj5⟩ := feat_nat h1
    simp only at hj h2 c0 c1
    subst hj h2
    refine .inr (.inr ⟨g, hv, fun a cap W hW hin => ?_⟩)
    rw [cond_ge hj5]
    exact c3_any g j th a cap l W h6 hj5 hin ((hW.cell (p := ⟨g, 0, none⟩) hg).trans c0) ((hW.cell (p := ⟨g, 1, none⟩) hg).trans c1)

set_option maxRecDepth 100000 in
set_option maxHeartbeats 1000000 in
/-- all tests of a rule -/
theorem all_any (g lo : Nat) (a2 : Option Addr) (c2 : Nat) (q : List TS) (a : Option Addr) (cap : Nat) (l : List Int) (r : Bool) (w : World) (h6 : l.length = 6) (hin : InI w a l) (hg : g < w.heap.size) (hc : w.cell? ⟨g, 0, none⟩ = some (.slice a2 q.length c2)) (hi : InC w lo a2 q) (hq : q.length ≤ 4000000) (hr : (q.all fun t => condT t l) = r) :
    Calls Tryz.prog 108 #[.slice a l.length cap, .pointer (some ⟨g, 0, none⟩)] w fun e w' => e = .returned (.bool r) ∧ Below w.heap.size w w' := by
  have HR := Lib.hid hr
  have HI := Lib.hid hi
  have HIN := Lib.hid hin
  have H6 := Lib.hid h6
  clear hr hi hin h6
  go_enter Tryz.func108, Tryz.ntmps108
  go_wp2
  go_loopw [8] (fun i wr => ∃ k : Nat, k ≤ q.length ∧ i = .int .i64 k ∧ ((q.take k).all fun t => condT t l) = true ∧ Below w.heap.size w wr) (fun i _ => q.length - (intOf i).toNat)
  case atStart => exact ⟨0, Nat.zero_le _, rfl, rfl, Below.refl _ _⟩
  case round =>
    obtain ⟨k, hk, rfl, hall, hb⟩ := hrel
    have HALL := Lib.hid hall
    have HB := Lib.hid hb
    clear hall hb
    by_cases hlt : k < q.length
    · obtain ⟨b, off, rfl, hlo, hbw, hcs⟩ := (HI.out.below HB.out) (by omega)
      have hx := List.getElem?_eq_getElem hlt
      obtain ⟨v, hcell, hct⟩ := hcs k _ hx
      have HX := Lib.hid hx
      have HIR := Lib.hid (HIN.out.below HB.out)
      obtain ⟨d, hd⟩ : ∃ d, condT q[k] l = d := ⟨_, rfl⟩
      have HD := Lib.hid hd
      have hcc := condT_cases hct l H6.out
      rw [hd] at hcc
      clear hx hct hcs hd hlo hbw
      rcases hcc with ⟨rfl, rfl⟩ | ⟨g2, rfl, hcl⟩ | ⟨g2, rfl, hcl⟩
      · obtain rfl : false = r := by rw [← HR.out, all_no (p := fun t => condT t l) HX.out HD.out]
        go_wp2_with (go_at_call 109; ((with_reducible refine (c1_any _ _).mono ?_); rintro e w2 ⟨rfl, hb2⟩; have HB2 := Lib.hid hb2; clear hb2))
        go_ret
        exact ⟨rfl, HB.out.trans (HB2.out.mono HB.out.size)⟩
      · have HCL := Lib.hid (hcl (a) cap _ (Below.refl _ _) HIR.out)
        clear hcl
        cases d
        · obtain rfl : false = r := by rw [← HR.out, all_no (p := fun t => condT t l) HX.out HD.out]
          go_wp2_with (go_at_call 110; ((with_reducible refine HCL.out.mono ?_); rintro e w2 ⟨rfl, hb2⟩; have HB2 := Lib.hid hb2; clear hb2))
          go_ret
          exact ⟨rfl, HB.out.trans (HB2.out.mono HB.out.size)⟩
        · go_wp2_with (go_at_call 110; ((with_reducible refine HCL.out.mono ?_); rintro e w2 ⟨rfl, hb2⟩; have HB2 := Lib.hid hb2; clear hb2))
          go_roundw
          case rel => exact ⟨k + 1, by omega, by go_num, all_take (p := fun t => condT t l) HALL.out HX.out HD.out, HB.out.trans (HB2.out.mono HB.out.size)⟩
          case measure => simp [intOf]; omega
      · have HCL := Lib.hid (hcl (a) cap _ (Below.refl _ _) HIR.out)
        clear hcl
        cases d
        · obtain rfl : false = r := by rw [← HR.out, all_no (p := fun t => condT t l) HX.out HD.out]
          go_wp2_with (go_at_call 111; ((with_reducible refine HCL.out.mono ?_); rintro e w2 ⟨rfl, hb2⟩; have HB2 := Lib.hid hb2; clear hb2))
          go_ret
          exact ⟨rfl, HB.out.trans (HB2.out.mono HB.out.size)⟩
        · go_wp2_with (go_at_call 111; ((with_reducible refine HCL.out.mono ?_); rintro e w2 ⟨rfl, hb2⟩; have HB2 := Lib.hid hb2; clear hb2))
          go_roundw
          case rel => exact ⟨k + 1, by omega, by go_num, all_take (p := fun t => condT t l) HALL.out HX.out HD.out, HB.out.trans (HB2.out.mono HB.out.size)⟩
          case measure => simp [intOf]; omega
    · obtain rfl : k = q.length := by omega
      obtain rfl : true = r := by
        rw [← HR.out]
        have h := HALL.out
        rw [List.take_length] at h
        exact h.symm
      go_wp2
      go_ret
      exact ⟨rfl, HB.out⟩

end Go.Proofs.YtpmfabpnjacegaaGreatDoor

/-
  The conditions of tests and of rules are made: impl's Test.condition, Rule.condition; TestHolds and RuleHolds. By an AI agent.
-/
namespace Go.Proofs.YtpmfabpnjacegaaGreatDoor
open Go.RowKit
set_option linter.unusedVariables false

theorem hmf2 : ∀ (fn : Fn) (first cap : Array Value) (w : World), (Instr.makeFunc fn first cap).run Tryz.prog w = .ok (.func fn first cap) w := fun _ _ _ _ => rfl
/-- a test's condition is made -/
def MadeT (w : World) (t : TS) (e : Ending) (w' : World) : Prop := ∃ v, e = .returned v ∧ CondT w' w.heap.size v t ∧ Below w.heap.size w w'

set_option maxRecDepth 100000 in
theorem tc_impl (f t : Int) (u : Bool) (w : World) :
    Calls Tryz.prog 88 #[.agg #[.int .i64 f, .int .i64 t, .bool u]] w (MadeT w ((f, t), u)) := by
  have hmf := hmf2
  obtain ⟨w1, hw1⟩ : ∃ w1, w1 = w.alloc (.cells #[.int .i64 f, .int .i64 t, .bool u] 86) := ⟨_, rfl⟩
  have HW := Lib.hid hw1
  have HB1 := Lib.hid (show Below w.heap.size w w1 by rw [hw1]; exact (Below.refl w.heap.size w).alloc (Nat.le_refl _) _)
  have HT4 := Lib.hid (show BlkV w1 w.heap.size 86 #[.int .i64 f, .int .i64 t, .bool u] by rw [hw1]; exact BlkV.new _ _ _)
  have HGL := Lib.hid (show w.heap.size < w1.heap.size by rw [hw1]; simp)
  clear hw1
  obtain ⟨fb, hfb⟩ : ∃ fb, decide (0 ≤ f ∧ f ≤ 5) = fb := ⟨_, rfl⟩
  have HFB := Lib.hid hfb
  clear hfb
  cases fb
  · go_enter Tryz.func88, Tryz.ntmps88
    go_wp2_with (go_at_call 72; rw [← HW.out]; ((with_reducible refine (feat_is _ _ _ HFB.out).mono ?_); rintro e w2 ⟨rfl, hb2⟩; have HB2 := Lib.hid hb2; clear hb2))
    go_ret
    exact ⟨_, rfl, .inl ⟨rfl, HFB.out⟩, HB1.out.trans (HB2.out.mono HB1.out.size)⟩
  · cases u
    · go_enter Tryz.func88, Tryz.ntmps88
      go_wp2_with (go_at_call 72; rw [← HW.out]; ((with_reducible refine (feat_is _ _ _ HFB.out).mono ?_); rintro e w2 ⟨rfl, hb2⟩; have x2 := (HT4.out.below hb2).three2; have HB2 := Lib.hid hb2; clear hb2))
      go_ret
      exact ⟨_, rfl, .inr (.inr ⟨HFB.out, rfl, _, rfl, Nat.le_refl _, Nat.lt_of_lt_of_le HGL.out HB2.out.size, (HT4.out.below HB2.out).three0, (HT4.out.below HB2.out).three1⟩), HB1.out.trans (HB2.out.mono HB1.out.size)⟩
    · go_enter Tryz.func88, Tryz.ntmps88
      go_wp2_with (go_at_call 72; rw [← HW.out]; ((with_reducible refine (feat_is _ _ _ HFB.out).mono ?_); rintro e w2 ⟨rfl, hb2⟩; have x2 := (HT4.out.below hb2).three2; have HB2 := Lib.hid hb2; clear hb2))
      go_ret
      exact ⟨_, rfl, .inr (.inl ⟨HFB.out, rfl, _, rfl, Nat.le_refl _, Nat.lt_of_lt_of_le HGL.out HB2.out.size, (HT4.out.below HB2.out).three0, (HT4.out.below HB2.out).three1⟩), HB1.out.trans (HB2.out.mono HB1.out.size)⟩

theorem info_cond : (Tryz.prog.info? 105).map (fun i => (i.zero, i.size, i.bytes)) = some (some .nilFunc, 1, 8) := by kernel_rfl
/-- a slice of conditions of the call's own -/
structure OwnC (w : World) (b : Nat) (n : Nat) (l : List TS) (vs rest : List Value) : Prop where
  row : w.ownsRow b 105 1 (.slice (some ⟨b, 0, none⟩) n n) n (vs ++ rest)
  len : vs.length = l.length
  cond : ∀ (j : Nat) (v : Value) (t : TS), vs[j]? = some v → l[j]? = some t → CondT w (b + 1) v t
theorem OwnC.inC {w : World} {b n : Nat} {l : List TS} {vs : List Value} (h : OwnC w b n l vs []) (hn : n = l.length) : InC w b (some ⟨b, 0, none⟩) l := by
  intro h0
  obtain ⟨g, e, _, hg, hc⟩ := cell_own h.row (by omega)
  injection e with e
  injection e with e
  subst e
  refine ⟨b, 0, rfl, Nat.le_refl _, hg, fun j t hj => ?_⟩
  have hlt := (List.getElem?_eq_some_iff.1 hj).1
  have hv : vs[j]? = some (vs[j]'(by rw [h.len]; exact hlt)) := List.getElem?_eq_getElem _
  exact ⟨_, hc j _ (by rw [List.append_nil]; exact hv), (h.cond j _ t hv hj).mono (by omega)⟩
theorem OwnC.step {w w2 w3 : World} {b n k : Nat} {l : List TS} {vs r2 : List Value} {v y : Value} {t : TS} (h : OwnC w b n (l.take k) vs (y :: r2)) (hk : k ≤ l.length) (hb : Below w.heap.size w w2) (hbw : b < w.heap.size) (ht : l[k]? = some t) (hc : CondT w2 w.heap.size v t)
    (hrow : w3.ownsRow b 105 1 (.slice (some ⟨b, 0, none⟩) n n) n ((vs ++ [v]) ++ r2)) (hg : w2.grownBy w3 (some b)) : OwnC w3 b n (l.take (k + 1)) (vs ++ [v]) r2 := by
  have hkeep : ∀ g, b + 1 ≤ g → g < w2.heap.size → w3.heap[g]? = w2.heap[g]? := fun g h1 h2 => hg.block g h2 (fun e => by injection e with e; omega)
  refine ⟨hrow, by rw [take_one ht]; simp [h.len], fun j x s hx hs => ?_⟩
  rw [take_one ht] at hs
  rcases snoc_at hx with hx | ⟨rfl, rfl⟩
  · have hlt := (List.getElem?_eq_some_iff.1 hx).1
    rw [List.getElem?_append_left (by rw [← h.len]; exact hlt)] at hs
    exact ((h.cond j x s hx hs).below hb).keep hg.size hkeep
  · rw [List.getElem?_append_right (by rw [h.len]; exact Nat.le_refl _), h.len, Nat.sub_self] at hs
    simp at hs
    subst hs
    exact (hc.mono (by omega)).keep hg.size hkeep

set_option maxRecDepth 100000 in
set_option maxHeartbeats 2000000 in
theorem cva_any (a : Option Addr) (c : Nat) (l : List TS) (w : World) (h : SmTs w a l c) :
    Calls Tryz.prog 87 #[.slice a l.length c, .func (.func 88) #[] #[]] w fun e w' => ∃ a' c', e = .returned (.slice a' l.length c') ∧ InC w' w.heap.size a' l ∧ Below w.heap.size w w' := by
  obtain ⟨i0, hi, hz0, hz1, hz2⟩ := info_get info_cond
  have HIN := Lib.hid h.inTs
  have hl := h.len
  clear h
  go_enter Tryz.func87, Tryz.ntmps87
  go_wp2_with (at_make; refine wpList_make_full _ rfl _ _ 103 rfl w.heap.size 105 i0 _ 1 Tryz.underlying103 hi hz0 hz1 .i64 .i64 _ _ l.length rfl rfl rfl rfl (by rw [hz2]; omega) (by unfold maxLen; omega) (Nat.le_refl _) ?_; intro w1 hrow hg)
  have HROW := Lib.hid hrow
  have HB1 := Lib.hid ((Below.refl w.heap.size w).grown hg (Nat.le_refl _) (fun k hk => by cases hk))
  have HLT := Lib.hid (World.ownsRow.lt hrow w.heap.size rfl).2
  clear hrow hg
  go_loopw [13] (fun i wr => ∃ (k : Nat) (vs rest : List Value), k ≤ l.length ∧ i = .int .i64 k ∧ OwnC wr w.heap.size l.length (l.take k) vs rest ∧ Below w.heap.size w wr ∧ w.heap.size < wr.heap.size) (fun i _ => l.length - (intOf i).toNat)
  case atStart => exact ⟨0, [], _, Nat.zero_le _, rfl, ⟨HROW.out, rfl, fun j v t h => by simp at h⟩, HB1.out, HLT.out⟩
  case round =>
    obtain ⟨k, vs, rest, hk, rfl, hown, hb, hws⟩ := hrel
    by_cases hlt : k < l.length
    · obtain ⟨b, off, f, t, u, rfl, hbw, hx, c0, c1, c2⟩ := (HIN.out.below hb).at_ hlt
      have HX := Lib.hid hx
      have HOWN := Lib.hid hown
      have HB := Lib.hid hb
      have HWS := Lib.hid hws
      have HVL := Lib.hid (show vs.length = k by rw [hown.len, List.length_take]; omega)
      have HA1 := Lib.hid ((Below.refl wr.heap.size wr).alloc (Nat.le_refl _) (.cells #[.int .i64 f, .int .i64 t, .bool u] 86))
      clear hx hown hb hws hbw
      go_wp2_with (go_at_call 88; ((with_reducible refine (tc_impl f t u _).mono ?_); rintro e w2 ⟨v, rfl, hc, hb2⟩; refine Hid.out ?_))
      refine Lib.hid ?_
      have hbb : Below wr.heap.size wr w2 := HA1.out.trans (hb2.mono HA1.out.size)
      have hrow2 := World.ownsRow.kept HOWN.out.row (row := none) ⟨hbb.os, hbb.tape, hbb.output, hbb.size, fun i hi _ => hbb.block i hi⟩ (by simp [Value.ownBlock])
      obtain ⟨y, r2, rfl, hy, hset⟩ := ss_row_at hrow2.1 HVL.out (by omega)
      have q0 := hrow2.cellAt k (by omega)
      rw [hy] at q0
      have f0 := hrow2.frozenAt k
      have HN := Lib.hid (hrow2.stored k v)
      rw [hset] at HN
      have HC := Lib.hid (hc.mono HA1.out.size)
      have HBB := Lib.hid hbb
      have hv : v = funV 109 ∨ (∃ g, v = closV 110 g) ∨ ∃ g, v = closV 111 g := by
        rcases hc with h | ⟨_, _, g, h, _⟩ | ⟨_, _, g, h, _⟩
        · exact .inl h.1
        · exact .inr (.inl ⟨g, h⟩)
        · exact .inr (.inr ⟨g, h⟩)
      clear hb2 hrow2 hy hset hc hbb
      rcases hv with rfl | ⟨g, rfl⟩ | ⟨g, rfl⟩
      all_goals
        go_wp2
        go_roundw
        case rel =>
          exact ⟨k + 1, _, r2, by omega, by go_num, HOWN.out.step hk HBB.out HWS.out HX.out HC.out HN.out.1 HN.out.2, (HB.out.trans (HBB.out.mono HB.out.size)).grown HN.out.2 (Nat.le_trans HB.out.size HBB.out.size) (fun j hj => by cases hj; exact Nat.le_refl _), Nat.lt_of_lt_of_le HWS.out (Nat.le_trans HBB.out.size HN.out.2.size)⟩
        case measure => simp [intOf]; omega
    · obtain rfl : k = l.length := by omega
      have HOWN := Lib.hid hown
      clear hown
      go_wp2
      go_ret
      have h := HOWN.out
      rw [List.take_length] at h
      have h1 := h.row.1
      rw [List.length_append, h.len] at h1
      obtain rfl : rest = [] := List.eq_nil_of_length_eq_zero (by omega)
      exact ⟨_, _, rfl, h.inC rfl, hb⟩

/-- a rule's condition is made -/
def MadeR (w : World) (r : List TS) (e : Ending) (w' : World) : Prop := ∃ v, e = .returned v ∧ CondR w' w.heap.size v r ∧ Below w.heap.size w w'

set_option maxRecDepth 100000 in
theorem allOf_any (a : Option Addr) (n c : Nat) (w : World) :
    Calls Tryz.prog 86 #[.slice a n c] w fun e w' => e = .returned (closV 108 w.heap.size) ∧ w' = w.alloc (.cells #[.slice a n c] 103) := by
  have hmf := hmf2
  go_enter Tryz.func86, Tryz.ntmps86
  go_wp2
  go_ret
  exact ⟨rfl, rfl⟩

set_option maxRecDepth 100000 in
theorem rc_impl (a : Option Addr) (c : Nat) (l : List TS) (w : World) (h : SmTs w a l c) :
    Calls Tryz.prog 63 #[.agg #[.slice a l.length c]] w (MadeR w l) := by
  have HA1 := Lib.hid ((Below.refl w.heap.size w).alloc (Nat.le_refl _) (.cells #[.slice a l.length c] 66))
  have HC := Lib.hid (fun (W : World) (hW : Below w.heap.size w W) => cva_any a c l W (h.below hW))
  have HL := Lib.hid h.len
  clear h
  go_enter Tryz.func63, Tryz.ntmps63
  go_wp2_with (first
    | (go_at_call 87; ((with_reducible refine (HC.out _ HA1.out).mono ?_); rintro e w2 ⟨a', c', rfl, hc, hb2⟩; have HIC := Lib.hid (hc.mono HA1.out.size); have HB2 := Lib.hid (HA1.out.trans (hb2.mono HA1.out.size)); clear hc hb2))
    | (go_at_call 86; ((with_reducible refine (allOf_any _ _ _ _).mono ?_); rintro e w3 ⟨rfl, hw3⟩; have HW3 := Lib.hid hw3; clear hw3)))
  go_ret
  have hb3 : Below w2.heap.size w2 w3 := by rw [HW3.out]; exact (Below.refl _ _).alloc (Nat.le_refl _) _
  have hblk : BlkV w3 w2.heap.size 103 #[.slice a' l.length c'] := by rw [HW3.out]; exact BlkV.new _ _ _
  exact ⟨_, rfl, ⟨_, a', c', rfl, HB2.out.size, by rw [HW3.out]; simp, hblk.one0, HIC.out.below hb3, HL.out⟩, HB2.out.trans (hb3.mono HB2.out.size)⟩

end Go.Proofs.YtpmfabpnjacegaaGreatDoor

