/-
  PROVED HERE: 'laws.FnExactRemoveSet' answers true for every input, and every argument reads afterwards as before: 'Rows.FnExactRemoveSetSaid'.
  CONDITIONS: none besides those of the form itself (the row narrows nothing).
  By an AI agent; no person has read it.
-/
import Derived.Test.YthjbekgognfiiaaRows
import Derived.SliceStrings
import Derived.Deep.SlicePairs
import Derived.Lib.SmallJoins
import Derived.WalkKit
import Derived.ProofKit
import Derived.OpenShut
import Derived.ShutString
import Derived.ChangeOld
import Derived.Below
import Derived.Test.YthjbekgognfiiaaFnExactRemoveSetWalk
namespace Go.Proofs.Ythjbekgognfiiaa.fnExactRemoveSet
open Go.ChangeShapes Go.WideShapes Go.ChangeAt Go.RowKit
open Go.ChangeMaps (open_string shut_string)
set_option linter.unusedVariables false

theorem own : ownKnob Try.prog.godebug = none := by kernel_rfl
theorem laidOut : laidOutB Try.prog = true := by kernel_rfl

set_option maxRecDepth 100000 in
set_option maxHeartbeats 1600000 in
theorem lifted (os : Os) (started : os.Started) (H : Type) (enc : TypeId × Value → H) :
    ReturnsInHanded {} Try.checked os 4 .any (Rows.fnExactRemoveSetSpec.pre6 enc Try.prog Try.f4 Rows.fnExactRemoveSetRow.domain false) (Rows.fnExactRemoveSetSpec.post enc Try.prog Try.f4 false true false false) := by
  refine returnsInHanded_of_change (C := Try.checked) own started (by kernel_rfl) Try.func4
    (ChangeSpec.witness6 (enc := enc) (C := Try.checked) false ⟨#[], #[.agg #[.int .i64 0, .slice none 0 0, .slice none 0 0], .int .i64 0], []⟩ 8 (by kernel_rfl) (by kernel_rfl) (by kernel_rfl) (by kernel_rfl)) ?_
  intro W base args ds gs before hval0 hW hcnd _
  have hval : ∀ (j : Nat) t v, Try.f4.params[j]? = some t → args[j]? = some v → Value.okWide Try.prog W .any base t v := hval0
  have hW' := hW
  obtain ⟨p, q, hA0, hV, rfl, hfz, hnd⟩ := hW
  have hA : DataW.TrodAll enc Try.prog W 0 (fun _ => true) true Try.f4.params.toList args.toList ds p := hA0
  rw [Try.params4] at hA hval
  obtain ⟨v0, vs0, d0, ds0, p0, q0, hargs, rfl, rfl, h0, r0⟩ := trodAll_cons hA
  obtain ⟨v1, vs1, d1, ds1, p1, q1, rfl, rfl, rfl, h1, r1⟩ := trodAll_cons r0
  obtain ⟨rfl, rfl, rfl⟩ := trodAll_nil r1
  obtain rfl : args = #[v0, v1] := by cases args; simp_all
  obtain ⟨rfl, rfl⟩ := trodVars_none hV
  have K0 := h0
  have lt0 : ∀ x ∈ p0, x.block < W.heap.size := by obtain ⟨m, hm⟩ := K0; exact DataW.trod_lt m _ _ _ hm
  obtain ⟨u00, u01, u02, y00, y01, y02, m0, rfl, rfl, rfl, g00, g01, g02⟩ := Go.Joins.open_agg3 Try.underlying25 (by kernel_rfl) (by kernel_rfl) (hval 0 25 v0 rfl rfl) h0
  obtain ⟨t0, e00, rfl, f00⟩ := DataW.trod_int Try.underlying3 g00
  simp at e00
  subst e00
  obtain ⟨ta0, T0, tc0, rfl, wt0⟩ : ∃ (a : Option Addr) (l : List TC) (c : Nat), u01 = .slice a l.length c ∧ ArgW W a l := by
    rcases Go.Deep.open_slice_pairs Try.underlying22 Try.underlying65 (by kernel_rfl) rfl rfl (by kernel_rfl) (by kernel_rfl) g01 with ⟨hcs, _⟩ | ⟨x, l, c, m, n, V0, V1, D0, D1, P0, P1, hcs, _, hl, hm, hmm, _, hcell⟩
    · simp at hcs
      exact ⟨none, [], 0, hcs, ⟨fun h => absurd h (Nat.lt_irrefl 0), Nat.zero_le _, fun x hx => by cases hx⟩, fun x hx => by cases hx⟩
    · simp at hcs
      obtain ⟨L, rfl, hL⟩ := argW_of hl hm fun i hi => by
        obtain ⟨e0, e1, t0, t1⟩ := hcell i (by rw [hmm]; simp; omega)
        obtain ⟨s, es, _, hs⟩ := DataW.trod_string Try.underlying9 t0
        obtain ⟨z, ez, _, hz⟩ := DataW.trod_int Try.underlying3 t1
        simp at es ez
        exact ⟨s, z, by rw [e0, es], by rw [e1, ez], hs, hz⟩
      exact ⟨some x, L, c, hcs, hL⟩
  obtain ⟨xa0, S0, xc0, rfl, wx0⟩ : ∃ (a : Option Addr) (l : List IS) (c : Nat), u02 = .slice a l.length c ∧ ArgX W a l := by
    rcases Go.Deep.open_slice_pairs Try.underlying23 Try.underlying67 (by kernel_rfl) rfl rfl (by kernel_rfl) (by kernel_rfl) g02 with ⟨hcs, _⟩ | ⟨x, l, c, m, n, V0, V1, D0, D1, P0, P1, hcs, _, hl, hm, hmm, _, hcell⟩
    · simp at hcs
      exact ⟨none, [], 0, hcs, fun h => absurd h (Nat.lt_irrefl 0), Nat.zero_le _, fun x hx => by cases hx⟩
    · simp at hcs
      obtain ⟨L, rfl, hL⟩ := argX_of hl hm fun i hi => by
        obtain ⟨e0, e1, t0, t1⟩ := hcell i (by rw [hmm]; simp; omega)
        obtain ⟨z, ez, _, hz⟩ := DataW.trod_int Try.underlying3 t0
        simp at ez
        rcases open_strings Try.underlying26 Try.underlying9 (by kernel_rfl) t1 with ⟨hcs2, _⟩ | ⟨x2, l2, c2, ss2, hcs2, _, hl2, hm2, hz2, _, hcell2, hw2⟩
        · simp at hcs2
          exact ⟨z, none, [], 0, by rw [e0, ez], by rw [e1, hcs2]; rfl, fun _ => rfl, Nat.le_refl _, fun h => absurd h (Nat.lt_irrefl 0), Nat.zero_le _, fun x hx => by cases hx⟩
        · simp at hcs2
          obtain ⟨L2, rfl, hL2⟩ := argS_of hl2 hm2 (by simpa using hz2) hcell2 hw2
          exact ⟨z, some x2, L2, c2, by rw [e0, ez], by rw [e1, hcs2], (fun h => by cases h), hl2, hL2⟩
      exact ⟨some x, L, c, hcs, hL⟩
  obtain ⟨a1, rfl, rfl, rfl, w1⟩ := open_int Try.underlying3 (hval 1 3 v1 rfl rfl) h1
  clear hA0 hval0
  refine (FnExactRemoveSet_walk t0 ta0 tc0 T0 xa0 xc0 S0 a1 W ⟨wt0, wx0⟩).mono fun e W' ⟨he, bel⟩ => ?_
  subst he
  exact ⟨_, rfl, _, _, _, [], _, [], hW', trodAll_mk1 (shut_bool Try.underlying4 _), (trodAll_cons_mk (Below.trod laidOut (by kernel_rfl) (of_decide_eq_true (by kernel_rfl)) K0 bel lt0) (trodAll_cons_mk (shut_int Try.underlying3 w1) trodAll_mk0)), rfl, bel.frame _, fun h => by cases h⟩

theorem over : Rows.fnExactRemoveSetRow.holds Try.pinned (OpenSpec.ofChange Rows.fnExactRemoveSetSpec) :=
  OpenClaim.holds_of_wide 4 Try.f4 rfl rfl rfl rfl rfl rfl rfl ⟨rfl, rfl, rfl, rfl, rfl⟩ rfl rfl rfl rfl rfl (by kernel_rfl) Try.func4 (by kernel_rfl)
    (of_decide_eq_true (by kernel_rfl)) (by unfold Func.isWrapper; first | (rw [if_pos (by decide +kernel)]; kernel_rfl) | (rw [if_neg (by decide +kernel)]; exact ⟨rfl, rfl⟩))
    (fun os started H enc _ => lifted os started H enc)

theorem proved : Rows.FnExactRemoveSetSaid :=
  over
end Go.Proofs.Ythjbekgognfiiaa.fnExactRemoveSet
