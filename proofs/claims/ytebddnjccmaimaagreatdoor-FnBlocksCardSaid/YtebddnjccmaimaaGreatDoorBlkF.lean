/-
  Plain facts of blocks for laws.FnBlocks. By an AI agent.
-/
import Derived.Test.YtebddnjccmaimaaGreatDoorBpS
import Derived.Test.YtebddnjccmaimaaGreatDoorEqTokS
namespace Go.Proofs.YtebddnjccmaimaaGreatDoor
open Go.RowKit
set_option linter.unusedVariables false

theorem kb_at {S : List RC} {i : Nat} {l : List Str} (h : (kbR S)[i]? = some l) : ∃ x, S[i]? = some x ∧ l = bkR x := by
  unfold kbR at h
  split at h
  · rw [List.getElem?_map] at h
    cases hx : S[i]? with
    | none => rw [hx] at h; cases h
    | some x => rw [hx] at h; exact ⟨x, rfl, (Option.some.inj h).symm⟩
  · cases h
theorem mem_at {S : List RC} {x : Str} {z : Int} (h : z ∈ memN (kbR S) x) : ∃ (i : Nat) (y : RC), z = (i : Int) ∧ S[i]? = some y ∧ x ∈ bkR y := by
  obtain ⟨i, l, h1, h2, h3⟩ := mem_memN.1 h
  obtain ⟨y, h4, rfl⟩ := kb_at h1
  exact ⟨i, y, h3, h4, h2⟩
theorem share_yes {x y : RC} (h : ∃ z, z ∈ bkR x ∧ z ∈ bkR y) : shareR x.1.1 x.1.2.1 x.1.2.2 y.1.1 y.1.2.1 y.1.2.2 x.2 y.2 = true :=
  decide_eq_true ((share_iff x y).2 h)
theorem pair_share {S : List RC} {most : Int} {p : IQ} (h : p ∈ bpR (kbR S) most) : ∃ (i j : Nat) (x y : RC), p = ((i : Int), (j : Int)) ∧ S[i]? = some x ∧ S[j]? = some y ∧
    shareR x.1.1 x.1.2.1 x.1.2.2 y.1.1 y.1.2.1 y.1.2.2 x.2 y.2 = true ∧ shareR y.1.1 y.1.2.1 y.1.2.2 x.1.1 x.1.2.1 x.1.2.2 y.2 x.2 = true := by
  obtain ⟨k, _, _, h1, h2, _⟩ := mem_bpR.1 h
  obtain ⟨i, x, e1, hx, kx⟩ := mem_at h1
  obtain ⟨j, y, e2, hy, ky⟩ := mem_at h2
  exact ⟨i, j, x, y, Prod.ext e1 e2, hx, hy, share_yes ⟨k, kx, ky⟩, share_yes ⟨k, ky, kx⟩⟩
theorem nodup_le {α : Type} [BEq α] [LawfulBEq α] : ∀ (a b : List α), a.Nodup → (∀ x ∈ a, x ∈ b) → a.length ≤ b.length
  | [], _, _, _ => Nat.zero_le _
  | x :: a, b, hn, h => by
    have hc := List.nodup_cons.1 hn
    have hx := h x (List.mem_cons_self ..)
    have ih := nodup_le a (b.erase x) hc.2 fun y hy => (List.mem_erase_of_ne (fun e => hc.1 (by rw [← e]; exact hy))).2 (h y (List.mem_cons_of_mem _ hy))
    rw [List.length_erase_of_mem hx] at ih
    have := List.length_pos_of_mem hx
    simp only [List.length_cons]
    omega
theorem bp_le (S : List RC) (most : Int) : (bpR (kbR S) most).length ≤ (bpR (kbR S) 12).length := by
  refine nodup_le _ _ ((setP_asc _).imp fun h => plt_ne h) fun p hp => ?_
  obtain ⟨x, h1, _, h3⟩ := mem_bpR.1 hp
  refine mem_bpR.2 ⟨x, h1, ?_, h3⟩
  have h4 := memN_len (kbR S) x
  have h5 := kb_len S
  omega
theorem blk_at {S : List RC} {k : Nat} {b : BK} (h : (blkL (kbR S))[k]? = some b) : b.2 = memN (kbR S) b.1 := by
  have hm := List.mem_of_getElem? h
  obtain ⟨x, _, rfl⟩ := List.mem_map.1 hm
  rfl
/-- the greatest number of members of the first blocks -/
def topB (B : List BK) (k : Nat) : Nat := (B.take k).foldl (fun n b => max n b.2.length) 0
theorem topB_succ {B : List BK} {k : Nat} {b : BK} (h : B[k]? = some b) : topB B (k + 1) = max (topB B k) b.2.length := by
  obtain ⟨hlt, he⟩ := List.getElem?_eq_some_iff.1 h
  unfold topB
  rw [List.take_succ_eq_append_getElem hlt, he, List.foldl_append]
  rfl
theorem topB_all (S : List RC) : topB (blkL (kbR S)) (blkL (kbR S)).length = lbR (kbR S) := by
  unfold topB lbR
  rw [List.take_length]
theorem eqB_refl (l : List Str) : eqB l l = true := eqB_same rfl fun _ _ => rfl
theorem eqt_same (a1 a2 : Option Addr) (c1 c2 : Nat) (l : List Str) (w : World) (hl : l.length ≤ maxLen) (h1 : InS w a1 l) (h2 : InS w a2 l) :
    Calls Tryz.prog 16 #[.slice a1 l.length c1, .slice a2 l.length c2] w fun e w' => e = .returned (.bool true) ∧ Below w.heap.size w w' :=
  (spec_eq a1 a2 c1 c2 l l w hl hl h1 h2).mono fun e w' h => ⟨by rw [h.1, eqB_refl], h.2⟩
/-- twelve cells that are read between calls -/
theorem cells12 {w : World} {a0 a1 a2 a3 b0 b1 b2 b3 c0 c1 c2 c3 : Addr} {u0 u1 u2 u3 v0 v1 v2 v3 z0 z1 z2 z3 : Value} (h0 : w.cell? a0 = some u0) (h1 : w.cell? a1 = some u1) (h2 : w.cell? a2 = some u2) (h3 : w.cell? a3 = some u3)
    (g0 : w.cell? b0 = some v0) (g1 : w.cell? b1 = some v1) (g2 : w.cell? b2 = some v2) (g3 : w.cell? b3 = some v3) (k0 : w.cell? c0 = some z0) (k1 : w.cell? c1 = some z1) (k2 : w.cell? c2 = some z2) (k3 : w.cell? c3 = some z3) :
    w.cell? a0 = some u0 ∧ w.cell? a1 = some u1 ∧ w.cell? a2 = some u2 ∧ w.cell? a3 = some u3 ∧ w.cell? b0 = some v0 ∧ w.cell? b1 = some v1 ∧ w.cell? b2 = some v2 ∧ w.cell? b3 = some v3 ∧ w.cell? c0 = some z0 ∧ w.cell? c1 = some z1 ∧ w.cell? c2 = some z2 ∧ w.cell? c3 = some z3 :=
  ⟨h0, h1, h2, h3, g0, g1, g2, g3, k0, k1, k2, k3⟩
theorem cells12_below {w w' : World} {a0 a1 a2 a3 b0 b1 b2 b3 c0 c1 c2 c3 : Addr} {u0 u1 u2 u3 v0 v1 v2 v3 z0 z1 z2 z3 : Value} (h : w.cell? a0 = some u0 ∧ w.cell? a1 = some u1 ∧ w.cell? a2 = some u2 ∧ w.cell? a3 = some u3 ∧ w.cell? b0 = some v0 ∧ w.cell? b1 = some v1 ∧ w.cell? b2 = some v2 ∧ w.cell? b3 = some v3 ∧ w.cell? c0 = some z0 ∧ w.cell? c1 = some z1 ∧ w.cell? c2 = some z2 ∧ w.cell? c3 = some z3) (hb : Below w.heap.size w w') :
    w'.cell? a0 = some u0 ∧ w'.cell? a1 = some u1 ∧ w'.cell? a2 = some u2 ∧ w'.cell? a3 = some u3 ∧ w'.cell? b0 = some v0 ∧ w'.cell? b1 = some v1 ∧ w'.cell? b2 = some v2 ∧ w'.cell? b3 = some v3 ∧ w'.cell? c0 = some z0 ∧ w'.cell? c1 = some z1 ∧ w'.cell? c2 = some z2 ∧ w'.cell? c3 = some z3 := by
  have k : ∀ {p : Addr} {v : Value}, w.cell? p = some v → w'.cell? p = some v := fun {p v} hc => (hb.cell (World.block_lt_of_cell? w _ hc)).trans hc
  obtain ⟨h0, h1, h2, h3, g0, g1, g2, g3, k0, k1, k2, k3⟩ := h
  exact ⟨k h0, k h1, k h2, k h3, k g0, k g1, k g2, k g3, k k0, k k1, k k2, k k3⟩

end Go.Proofs.YtebddnjccmaimaaGreatDoor
