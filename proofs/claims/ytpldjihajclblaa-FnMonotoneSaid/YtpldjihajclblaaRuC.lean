/-
  The conditions of tests and rules, as closures: what impl's condition and decision hand back, and what they answer. By an AI agent.
-/
import Derived.Test.YtpldjihajclblaaGRul
import Derived.Laws.EntriesVeiled
namespace Go.Proofs.Ytpldjihajclblaa
open Go.RowKit
set_option linter.unusedVariables false

abbrev funV (k : FuncId) : Value := .func (.func k) #[] #[]
abbrev closV (k : FuncId) (g : Nat) : Value := .func (.func k) #[] #[.pointer (some ⟨g, 0, none⟩)]
abbrev fc1 : FuncId := 73
abbrev fc2 : FuncId := 74
abbrev fc3 : FuncId := 75
abbrev fcA : FuncId := 72

/-- a function value that is the condition of a test -/
def CondT (w : World) (lo : Nat) (v : Value) (t : TS) : Prop :=
  (v = funV 73 ∧ featB t = false) ∨
  (featB t = true ∧ t.2 = true ∧ ∃ g, v = closV 74 g ∧ lo ≤ g ∧ g < w.heap.size ∧ w.cell? ⟨g, 0, none⟩ = some (.int .i64 t.1.1) ∧ w.cell? ⟨g, 1, none⟩ = some (.int .i64 t.1.2)) ∨
  (featB t = true ∧ t.2 = false ∧ ∃ g, v = closV 75 g ∧ lo ≤ g ∧ g < w.heap.size ∧ w.cell? ⟨g, 0, none⟩ = some (.int .i64 t.1.1) ∧ w.cell? ⟨g, 1, none⟩ = some (.int .i64 t.1.2))
theorem CondT.keep {w w' : World} {lo : Nat} {v : Value} {t : TS} (h : CondT w lo v t) (hs : w.heap.size ≤ w'.heap.size) (hk : ∀ g, lo ≤ g → g < w.heap.size → w'.heap[g]? = w.heap[g]?) : CondT w' lo v t := by
  rcases h with h | ⟨h1, h2, g, hv, hlo, hg, c0, c1⟩ | ⟨h1, h2, g, hv, hlo, hg, c0, c1⟩
  · exact .inl h
  · exact .inr (.inl ⟨h1, h2, g, hv, hlo, Nat.lt_of_lt_of_le hg hs, (World.cell?_of_block (hk g hlo hg)).trans c0, (World.cell?_of_block (hk g hlo hg)).trans c1⟩)
  · exact .inr (.inr ⟨h1, h2, g, hv, hlo, Nat.lt_of_lt_of_le hg hs, (World.cell?_of_block (hk g hlo hg)).trans c0, (World.cell?_of_block (hk g hlo hg)).trans c1⟩)
theorem CondT.below {w w' : World} {lo : Nat} {v : Value} {t : TS} (h : CondT w lo v t) (hb : Below w.heap.size w w') : CondT w' lo v t := h.keep hb.size fun g _ hg => hb.block g hg
theorem CondT.mono {w : World} {lo lo' : Nat} {v : Value} {t : TS} (h : CondT w lo v t) (hl : lo' ≤ lo) : CondT w lo' v t := by
  rcases h with h | ⟨h1, h2, g, hv, hlo, h3⟩ | ⟨h1, h2, g, hv, hlo, h3⟩
  · exact .inl h
  · exact .inr (.inl ⟨h1, h2, g, hv, Nat.le_trans hl hlo, h3⟩)
  · exact .inr (.inr ⟨h1, h2, g, hv, Nat.le_trans hl hlo, h3⟩)
/-- a slice whose elements are the conditions of the tests of a list -/
def InC (w : World) (lo : Nat) (a : Option Addr) (l : List TS) : Prop :=
  0 < l.length → ∃ b off, a = some ⟨b, off, none⟩ ∧ lo ≤ b ∧ b < w.heap.size ∧ ∀ j t, l[j]? = some t → ∃ v, w.cell? ⟨b, off + j, none⟩ = some v ∧ CondT w lo v t
theorem InC.keep {w w' : World} {lo : Nat} {a : Option Addr} {l : List TS} (h : InC w lo a l) (hs : w.heap.size ≤ w'.heap.size) (hk : ∀ g, lo ≤ g → g < w.heap.size → w'.heap[g]? = w.heap[g]?) : InC w' lo a l := by
  intro h0
  obtain ⟨b, off, ha, hlo, hb, hc⟩ := h h0
  refine ⟨b, off, ha, hlo, Nat.lt_of_lt_of_le hb hs, fun j t hj => ?_⟩
  obtain ⟨v, h1, h2⟩ := hc j t hj
  exact ⟨v, (World.cell?_of_block (hk b hlo hb)).trans h1, h2.keep hs hk⟩
theorem InC.below {w w' : World} {lo : Nat} {a : Option Addr} {l : List TS} (h : InC w lo a l) (hb : Below w.heap.size w w') : InC w' lo a l := h.keep hb.size fun g _ hg => hb.block g hg
theorem InC.mono {w : World} {lo lo' : Nat} {a : Option Addr} {l : List TS} (h : InC w lo a l) (hl : lo' ≤ lo) : InC w lo' a l := by
  intro h0
  obtain ⟨b, off, ha, hlo, hb, hc⟩ := h h0
  refine ⟨b, off, ha, Nat.le_trans hl hlo, hb, fun j t hj => ?_⟩
  obtain ⟨v, h1, h2⟩ := hc j t hj
  exact ⟨v, h1, h2.mono hl⟩
/-- a function value that is the condition of a rule -/
def CondR (w : World) (lo : Nat) (v : Value) (r : List TS) : Prop :=
  ∃ g a c, v = closV 72 g ∧ lo ≤ g ∧ g < w.heap.size ∧ w.cell? ⟨g, 0, none⟩ = some (.slice a r.length c) ∧ InC w lo a r ∧ r.length ≤ 4000000
theorem CondR.keep {w w' : World} {lo : Nat} {v : Value} {r : List TS} (h : CondR w lo v r) (hs : w.heap.size ≤ w'.heap.size) (hk : ∀ g, lo ≤ g → g < w.heap.size → w'.heap[g]? = w.heap[g]?) : CondR w' lo v r := by
  obtain ⟨g, a, c, hv, hlo, hg, c0, hi, hl⟩ := h
  exact ⟨g, a, c, hv, hlo, Nat.lt_of_lt_of_le hg hs, (World.cell?_of_block (hk g hlo hg)).trans c0, hi.keep hs hk, hl⟩
theorem CondR.below {w w' : World} {lo : Nat} {v : Value} {r : List TS} (h : CondR w lo v r) (hb : Below w.heap.size w w') : CondR w' lo v r := h.keep hb.size fun g _ hg => hb.block g hg
theorem CondR.mono {w : World} {lo lo' : Nat} {v : Value} {r : List TS} (h : CondR w lo v r) (hl : lo' ≤ lo) : CondR w lo' v r := by
  obtain ⟨g, a, c, hv, hlo, hg, c0, hi, hn⟩ := h
  exact ⟨g, a, c, hv, Nat.le_trans hl hlo, hg, c0, hi.mono hl, hn⟩
def InCR (w : World) (lo : Nat) (a : Option Addr) (R : List (List TS)) : Prop :=
  0 < R.length → ∃ b off, a = some ⟨b, off, none⟩ ∧ lo ≤ b ∧ b < w.heap.size ∧ ∀ j r, R[j]? = some r → ∃ v, w.cell? ⟨b, off + j, none⟩ = some v ∧ CondR w lo v r
theorem InCR.below {w w' : World} {lo : Nat} {a : Option Addr} {R : List (List TS)} (h : InCR w lo a R) (hb : Below w.heap.size w w') : InCR w' lo a R := by
  intro h0
  obtain ⟨b, off, ha, hlo, hb', hc⟩ := h h0
  refine ⟨b, off, ha, hlo, Nat.lt_of_lt_of_le hb' hb.size, fun j t hj => ?_⟩
  obtain ⟨v, h1, h2⟩ := hc j t hj
  exact ⟨v, (World.cell?_of_block (hb.block b hb')).trans h1, h2.below hb⟩
/-- a function value that is the decision of a rule set -/
def DecR (w : World) (v : Value) (R : List (List TS)) : Prop :=
  ∃ g lo a c, v = closV 40 g ∧ g < w.heap.size ∧ w.cell? ⟨g, 0, none⟩ = some (.slice a R.length c) ∧ InCR w lo a R ∧ R.length ≤ 4000000
theorem DecR.below {w w' : World} {v : Value} {R : List (List TS)} (h : DecR w v R) (hb : Below w.heap.size w w') : DecR w' v R := by
  obtain ⟨g, lo, a, c, hv, hg, c0, hi, hl⟩ := h
  exact ⟨g, lo, a, c, hv, Nat.lt_of_lt_of_le hg hb.size, (World.cell?_of_block (hb.block g hg)).trans c0, hi.below hb, hl⟩

theorem feat_nat {t : TS} (h : featB t = true) : ∃ j : Nat, t.1.1 = j ∧ j ≤ 5 := by
  have h := of_decide_eq_true h
  exact ⟨t.1.1.toNat, by omega, by omega⟩
theorem cond_lt {f : Nat} {t : Int} {l : List Int} (hf : f ≤ 5) : condT (((f : Int), t), true) l = decide (l.getD f 0 < t) := by
  unfold condT cmpT featB
  have : decide ((0 : Int) ≤ (f : Int) ∧ (f : Int) ≤ 5) = true := decide_eq_true (by omega)
  simp only [this]
  simp
theorem cond_ge {f : Nat} {t : Int} {l : List Int} (hf : f ≤ 5) : condT (((f : Int), t), false) l = decide (t ≤ l.getD f 0) := by
  unfold condT cmpT featB
  have : decide ((0 : Int) ≤ (f : Int) ∧ (f : Int) ≤ 5) = true := decide_eq_true (by omega)
  simp only [this]
  simp

set_option maxRecDepth 100000 in
theorem c1_any (V : Value) (w : World) :
    Calls Try.prog 73 #[V] w fun e w' => e = .returned (.bool false) ∧ Below w.heap.size w w' := by
  go_enter Try.func73, Try.ntmps73
  go_wp2
  go_ret
  exact ⟨rfl, Below.refl _ _⟩

set_option maxRecDepth 100000 in
theorem c2_any (g f : Nat) (t : Int) (a : Option Addr) (cap : Nat) (l : List Int) (w : World) (h6 : l.length = 6) (hf : f ≤ 5) (hin : InI w a l) (c0 : w.cell? ⟨g, 0, none⟩ = some (.int .i64 (f : Int))) (c1 : w.cell? ⟨g, 1, none⟩ = some (.int .i64 t)) :
    Calls Try.prog 74 #[.slice a l.length cap, .pointer (some ⟨g, 0, none⟩)] w fun e w' => e = .returned (.bool (decide (l.getD f 0 < t))) ∧ Below w.heap.size w w' := by
  obtain ⟨b, off, rfl, hb, hc⟩ := hin (by omega)
  have hlt : f < l.length := by omega
  obtain ⟨x, hx⟩ : ∃ x, l[f]? = some x := ⟨_, List.getElem?_eq_getElem hlt⟩
  have hcell : w.cell? ⟨b, off + f, none⟩ = some (.int .i64 x) := hc f x hx
  rw [getD_is hx]
  clear hc hx hb h6 hf hin
  obtain ⟨d, hd⟩ : ∃ d, decide (x < t) = d := ⟨_, rfl⟩
  rw [hd]
  go_enter Try.func74, Try.ntmps74
  go_wp2
  go_quiet (fail)
  go_wp2
  go_ret
  exact ⟨rfl, quiet_f _ _ _⟩

set_option maxRecDepth 100000 in
theorem c3_any (g f : Nat) (t : Int) (a : Option Addr) (cap : Nat) (l : List Int) (w : World) (h6 : l.length = 6) (hf : f ≤ 5) (hin : InI w a l) (c0 : w.cell? ⟨g, 0, none⟩ = some (.int .i64 (f : Int))) (c1 : w.cell? ⟨g, 1, none⟩ = some (.int .i64 t)) :
    Calls Try.prog 75 #[.slice a l.length cap, .pointer (some ⟨g, 0, none⟩)] w fun e w' => e = .returned (.bool (decide (t ≤ l.getD f 0))) ∧ Below w.heap.size w w' := by
  obtain ⟨b, off, rfl, hb, hc⟩ := hin (by omega)
  have hlt : f < l.length := by omega
  obtain ⟨x, hx⟩ : ∃ x, l[f]? = some x := ⟨_, List.getElem?_eq_getElem hlt⟩
  have hcell : w.cell? ⟨b, off + f, none⟩ = some (.int .i64 x) := hc f x hx
  rw [getD_is hx]
  clear hc hx hb h6 hf hin
  obtain ⟨d, hd⟩ : ∃ d, decide (t ≤ x) = d := ⟨_, rfl⟩
  rw [hd]
  go_enter Try.func75, Try.ntmps75
  go_wp2
  go_quiet (fail)
  go_wp2
  go_ret
  exact ⟨rfl, quiet_f _ _ _⟩

/-- what a condition's call answers, in one form for the three kinds: a statement on the walk of the call -/
theorem condT_cases {w : World} {lo : Nat} {v : Value} {t : TS} (h : CondT w lo v t) (l : List Int) (h6 : l.length = 6) :
    (v = funV 73 ∧ condT t l = false) ∨
    (∃ g, v = closV 74 g ∧ ∀ (a : Option Addr) (cap : Nat) (W : World), Below w.heap.size w W → InI W a l → Calls Try.prog 74 #[.slice a l.length cap, .pointer (some ⟨g, 0, none⟩)] W fun e w' => e = .returned (.bool (condT t l)) ∧ Below W.heap.size W w') ∨
    (∃ g, v = closV 75 g ∧ ∀ (a : Option Addr) (cap : Nat) (W : World), Below w.heap.size w W → InI W a l → Calls Try.prog 75 #[.slice a l.length cap, .pointer (some ⟨g, 0, none⟩)] W fun e w' => e = .returned (.bool (condT t l)) ∧ Below W.heap.size W w') := by
  obtain ⟨⟨f, th⟩, u⟩ := t
  rcases h with ⟨h1, h2⟩ | ⟨h1, h2, g, hv, hlo, hg, c0, c1⟩ | ⟨h1, h2, g, hv, hlo, hg, c0, c1⟩
  · exact .inl ⟨h1, by unfold condT; rw [h2]; rfl⟩
  · obtain ⟨j, hj, hj5⟩ := feat_nat h1
    simp only at hj h2 c0 c1
    subst hj h2
    refine .inr (.inl ⟨g, hv, fun a cap W hW hin => ?_⟩)
    rw [cond_lt hj5]
    exact c2_any g j th a cap l W h6 hj5 hin ((hW.cell (p := ⟨g, 0, none⟩) hg).trans c0) ((hW.cell (p := ⟨g, 1, none⟩) hg).trans c1)
  · obtain ⟨j, hj, hj5⟩ := feat_nat h1
    simp only at hj h2 c0 c1
    subst hj h2
    refine .inr (.inr ⟨g, hv, fun a cap W hW hin => ?_⟩)
    rw [cond_ge hj5]
    exact c3_any g j th a cap l W h6 hj5 hin ((hW.cell (p := ⟨g, 0, none⟩) hg).trans c0) ((hW.cell (p := ⟨g, 1, none⟩) hg).trans c1)

set_option maxRecDepth 100000 in
set_option maxHeartbeats 1000000 in
/-- all tests of a rule -/
theorem all_any (g lo : Nat) (a2 : Option Addr) (c2 : Nat) (q : List TS) (a : Option Addr) (cap : Nat) (l : List Int) (r : Bool) (w : World) (h6 : l.length = 6) (hin : InI w a l) (hg : g < w.heap.size) (hc : w.cell? ⟨g, 0, none⟩ = some (.slice a2 q.length c2)) (hi : InC w lo a2 q) (hq : q.length ≤ 4000000) (hr : (q.all fun t => condT t l) = r) :
    Calls Try.prog 72 #[.slice a l.length cap, .pointer (some ⟨g, 0, none⟩)] w fun e w' => e = .returned (.bool r) ∧ Below w.heap.size w w' := by
  have HR := Lib.hid hr
  have HI := Lib.hid hi
  have HIN := Lib.hid hin
  have H6 := Lib.hid h6
  clear hr hi hin h6
  go_enter Try.func72, Try.ntmps72
  go_wp2
  go_loopw [8] (fun i wr => ∃ k : Nat, k ≤ q.length ∧ i = .int .i64 k ∧ ((q.take k).all fun t => condT t l) = true ∧ Below w.heap.size w wr) (fun i _ => q.length - (intOf i).toNat)
  case atStart => exact ⟨0, Nat.zero_le _, rfl, rfl, Below.refl _ _⟩
  case round =>
    obtain ⟨k, hk, rfl, hall, hb⟩ := hrel
    have HALL := Lib.hid hall
    have HB := Lib.hid hb
    clear hall hb
    by_cases hlt : k < q.length
    · obtain ⟨b, off, rfl, hlo, hbw, hcs⟩ := (HI.out.below HB.out) (by omega)
      have hx := List.getElem?_eq_getElem hlt
      obtain ⟨v, hcell, hct⟩ := hcs k _ hx
      have HX := Lib.hid hx
      have HIR := Lib.hid (HIN.out.below HB.out)
      obtain ⟨d, hd⟩ : ∃ d, condT q[k] l = d := ⟨_, rfl⟩
      have HD := Lib.hid hd
      have hcc := condT_cases hct l H6.out
      rw [hd] at hcc
      clear hx hct hcs hd hlo hbw
      rcases hcc with ⟨rfl, rfl⟩ | ⟨g2, rfl, hcl⟩ | ⟨g2, rfl, hcl⟩
      · obtain rfl : false = r := by rw [← HR.out, all_no (p := fun t => condT t l) HX.out HD.out]
        go_wp2_with (go_at_call 73; ((with_reducible refine (c1_any _ _).mono ?_); rintro e w2 ⟨rfl, hb2⟩; have HB2 := Lib.hid hb2; clear hb2))
        go_ret
        exact ⟨rfl, HB.out.trans (HB2.out.mono HB.out.size)⟩
      · have HCL := Lib.hid (hcl (a) cap _ (Below.refl _ _) HIR.out)
        clear hcl
        cases d
        · obtain rfl : false = r := by rw [← HR.out, all_no (p := fun t => condT t l) HX.out HD.out]
          go_wp2_with (go_at_call 74; ((with_reducible refine HCL.out.mono ?_); rintro e w2 ⟨rfl, hb2⟩; have HB2 := Lib.hid hb2; clear hb2))
          go_ret
          exact ⟨rfl, HB.out.trans (HB2.out.mono HB.out.size)⟩
        · go_wp2_with (go_at_call 74; ((with_reducible refine HCL.out.mono ?_); rintro e w2 ⟨rfl, hb2⟩; have HB2 := Lib.hid hb2; clear hb2))
          go_roundw
          case rel => exact ⟨k + 1, by omega, by go_num, all_take (p := fun t => condT t l) HALL.out HX.out HD.out, HB.out.trans (HB2.out.mono HB.out.size)⟩
          case measure => simp [intOf]; omega
      · have HCL := Lib.hid (hcl (a) cap _ (Below.refl _ _) HIR.out)
        clear hcl
        cases d
        · obtain rfl : false = r := by rw [← HR.out, all_no (p := fun t => condT t l) HX.out HD.out]
          go_wp2_with (go_at_call 75; ((with_reducible refine HCL.out.mono ?_); rintro e w2 ⟨rfl, hb2⟩; have HB2 := Lib.hid hb2; clear hb2))
          go_ret
          exact ⟨rfl, HB.out.trans (HB2.out.mono HB.out.size)⟩
        · go_wp2_with (go_at_call 75; ((with_reducible refine HCL.out.mono ?_); rintro e w2 ⟨rfl, hb2⟩; have HB2 := Lib.hid hb2; clear hb2))
          go_roundw
          case rel => exact ⟨k + 1, by omega, by go_num, all_take (p := fun t => condT t l) HALL.out HX.out HD.out, HB.out.trans (HB2.out.mono HB.out.size)⟩
          case measure => simp [intOf]; omega
    · obtain rfl : k = q.length := by omega
      obtain rfl : true = r := by
        rw [← HR.out]
        have h := HALL.out
        rw [List.take_length] at h
        exact h.symm
      go_wp2
      go_ret
      exact ⟨rfl, HB.out⟩

end Go.Proofs.Ytpldjihajclblaa
