/-
  What impl.levelsOf answers. By an AI agent.
-/
import Derived.Test.YtpldjihajclblaaLevO
import Derived.Test.YtpldjihajclblaaLevS
import Derived.Test.YtpldjihajclblaaSrtC
import Derived.Test.YtpldjihajclblaaGMem
import Derived.Deep.AppendLies
namespace Go.Proofs.Ytpldjihajclblaa
open Go.RowKit
set_option linter.unusedVariables false
set_option linter.unusedSimpArgs false
set_option linter.unnecessarySimpa false

/-- append of one integer, which lies in a new block of one cell: where the new slice lies -/
theorem step_oneL {ops : Array Oper} {o : Oper} {a : Act} {W : World} {K : Act → World → Prop} {Q : Exit → Act → World → Prop} {E : Prop} (hgd : o.guard = none) (s x : Operand)
    (hop : o.op = .call { callee := .builtin .append, args := #[s, x], argTypes := #[28, 28] })
    (base : Nat) (v : Value) (l F : List Int) (n : Nat) (y : Int) (hown : OwnI W base v l) (hs : a.eval s = v) (ad : Addr) (hx : a.eval x = .slice (some ad) 1 1) (hF : l ++ [y] = F) (hn : F.length = n)
    (hin : InI W (some ad) [y]) (hlen : l.length ≤ 4000000) (hbase : base ≤ W.heap.size)
    (h : ∀ g cap w', OwnI w' base (.slice (some ⟨g, 0, none⟩) n cap) F → W.grownBy w' v.ownBlock → (v.ownBlock = some g ∨ g = W.heap.size) → K (a.put o.dst (.slice (some ⟨g, 0, none⟩) n cap)) w') :
    if Region.wanted o (yielded ops a.tmps) = true then Oper.wp Try.prog o a W K Q else E := by
  obtain ⟨i0, hi, hz0, hz1, hz2⟩ := info_parts info_i64
  obtain ⟨b, off, e, _, hc⟩ := hin (by simp)
  injection e with e
  subst e
  refine step_append_lies _ hgd s x 28 hop base 3 i0 _ 1 8 Try.underlying28 hi hz0 hz1 hz2 rfl (by decide) v l.length (l.map encI) hs hown
    ⟨b, off, none⟩ 1 1 [.int .i64 y] hx rfl (fun j z hj => by
      match j, hj with
      | 0, hj => simp at hj; subst hj; simpa [Addr.add] using hc 0 y rfl) (fun z hz => by simp at hz; subst hz; rfl)
    (by omega) (by unfold maxLen; omega) (by omega) hbase W.heap.size rfl ?_
  intro g cap w' h2 h3 h4 _
  have hnn : l.length + 1 = n := by rw [← hn, ← hF]; simp
  rw [hnn] at h2 ⊢
  refine h g cap w' ?_ h3 h4
  unfold OwnI
  rw [hn, ← hF, List.map_append]
  exact h2

theorem levo_start {w : World} {b : Nat} (h : w.ownsRow b 28 1 (.slice (some ⟨b, 0, none⟩) 6 6) 6 (List.replicate 6 (.slice none 0 0))) : LevO w b (List.replicate 6 (.slice none 0 0)) (startL 0) := by
  refine ⟨by simp [startL], by simp [startL], h, fun j u l hu hl => ?_, fun i j u z k _ hu hz hk => ?_⟩
  · rw [List.getElem?_replicate] at hu
    split at hu
    · rename_i hj
      injection hu with hu
      subst hu
      rw [startL, six_at _ hj, if_neg (by omega)] at hl
      injection hl with hl
      subst hl
      exact OwnI.nil _ _
    · cases hu
  · rw [List.getElem?_replicate] at hu
    split at hu
    · injection hu with hu
      subst hu
      simp [Value.ownBlock] at hk
    · cases hu

set_option maxRecDepth 100000 in
set_option maxHeartbeats 8000000 in
theorem lev_impl (a : Option Addr) (c : Nat) (R : List (List TS)) (w : World) (h : SmRu w a R c) (hv : vsB R = true) :
    Calls Try.prog 19 #[.agg #[.slice a R.length c]] w (GivesII w (levs R)) := by
  obtain ⟨i0, hi, hz0, hz1, hz2⟩ := info_parts info_row
  obtain ⟨w1, hw1⟩ : ∃ w1, w.alloc (.cells #[.slice a R.length c] 26) = w1 := ⟨_, rfl⟩
  have HB1 := Lib.hid (show Below w.heap.size w w1 by rw [← hw1]; exact (Below.refl w.heap.size w).alloc (Nat.le_refl _) _)
  have HBX := Lib.hid (show BlkV w1 w.heap.size 26 #[.slice a R.length c] by rw [← hw1]; exact BlkV.new _ _ _)
  have HS := Lib.hid (h.below HB1.out)
  have HV := Lib.hid hv
  have hRl := h.len
  obtain ⟨b, hb⟩ : ∃ b, w1.heap.size = b := ⟨_, rfl⟩
  have HBB := Lib.hid (show w1.heap.size ≤ b by omega)
  clear h hv
  go_enter Try.func19, Try.ntmps19
  go_wp2_with (at_make; refine wpList_make_full _ rfl _ _ 39 rfl w1.heap.size 28 i0 _ 1 Try.underlying39 hi hz0 hz1 .i64 .i64 _ _ 6 rfl rfl rfl rfl (by rw [hz2]; omega) (by unfold maxLen; omega) (Nat.le_refl _) ?_; intro w2 hrow hg; rw [Nat.mul_one, show (Value.slice none 0 0).cells = #[.slice none 0 0] from rfl, toList_madeCells_one] at hrow; rw [hb] at hrow ⊢; refine Hid.out ?_)
  have HL0 := Lib.hid (levo_start hrow)
  have HB2 := Lib.hid ((Below.refl w1.heap.size w1).grown hg (Nat.le_refl _) (fun k hk => by cases hk))
  clear hrow hg
  have HBE := Lib.hid hb
  clear hb
  refine Lib.hid ?_
  go_wp2
  go_loopw [14] (fun i wr => ∃ (k : Nat) (vs : List Value), k ≤ 6 ∧ i = .int .i64 k ∧ LevO wr b vs (startL k) ∧ Below w1.heap.size w1 wr) (fun i _ => 6 - (intOf i).toNat)
  case atStart => exact ⟨0, _, Nat.zero_le _, rfl, HL0.out, HB2.out⟩
  case round =>
    obtain ⟨k, vs, hk, rfl, hlev, hb⟩ := hrel
    have HLV := Lib.hid hlev
    have HB := Lib.hid hb
    clear hlev hb HL0
    by_cases hlt : k < 6
    · obtain ⟨W, hW⟩ : ∃ W, wr.alloc (.cells #[.int .i64 0] 3) = W := ⟨_, rfl⟩
      have HA := Lib.hid (show Below wr.heap.size wr W by rw [← hW]; exact (Below.refl _ _).alloc (Nat.le_refl _) _)
      obtain ⟨au, cu, hvj, -, -, -⟩ := HLV.out.at_ (startL_at hlt)
      obtain ⟨a9, c9, hvj9, q0, f0, -⟩ := (HLV.out.below HA.out).at_ (startL_at hlt)
      have hown : OwnI W (b + 1) (.slice (some ⟨wr.heap.size, 0, none⟩) 1 1) [0] := by
        rw [← hW]
        exact ⟨rfl, .inr ⟨wr.heap.size, 1, #[.int .i64 0], rfl, by have := HLV.out.lt; omega, heap_alloc_new wr _, by decide, by unfold maxLen; decide, by simp, by simp [encI]⟩⟩
      have HG := Lib.hid (show ∀ r, wr.grownBy W r by intro r; rw [← hW]; exact World.grownBy_alloc wr _ _)
      have HPUT := Lib.hid (HLV.out.put hvj (HG.out _) hown (fun q hq => by simp [Value.ownBlock] at hq; omega))
      have hb0 : b < W.heap.size := by have := HLV.out.lt; have := HA.out.size; omega
      have HWE := Lib.hid hW
      rw [← hW] at q0 f0
      clear hvj hvj9 hown hW
      go_wp2
      rw [HWE.out]
      go_roundw
      case rel =>
        refine ⟨k + 1, vs.set k (.slice (some ⟨wr.heap.size, 0, none⟩) 1 1), by omega, by go_num, ?_, ?_⟩
        · rw [← startL_set]
          exact HPUT.out.1
        · exact (HB.out.trans (HA.out.mono HB.out.size)).grown HPUT.out.2 (Nat.le_trans HB.out.size HA.out.size) (fun q hq => by cases hq; exact HBB.out)
      case measure => simp [intOf]; omega
    · obtain rfl : k = 6 := by omega
      rw [startL_all] at HLV
      rw [show (((6 : Nat) : Int)) = 6 from rfl]
      have q0 := (HBX.out.below HB.out).one0
      go_wp2
      go_loopw [25] (fun i wr => ∃ (k : Nat) (vs : List Value), k ≤ R.length ∧ i = .int .i64 k ∧ LevO wr b vs (rawL (R.take k).flatten) ∧ Below w1.heap.size w1 wr) (fun i _ => R.length - (intOf i).toNat)
      case atStart => exact ⟨0, vs, Nat.zero_le _, rfl, HLV.out, HB.out⟩
      case round =>
        clear HLV HB q0
        obtain ⟨k, vs, hk, rfl, hlev, hb⟩ := hrel
        obtain ⟨wo, rfl⟩ : ∃ wo, wo = wr := ⟨_, rfl⟩
        have HLV := Lib.hid hlev
        have HB := Lib.hid hb
        clear hlev hb
        by_cases hlt : k < R.length
        · obtain ⟨bR, off, l, al, cl, rfl, hbw, hx, hc0, hsm⟩ := HS.out.at_ hlt
          have c0 := (HB.out.cell (p := ⟨bR, off + k, none⟩) hbw).trans hc0
          have HX := Lib.hid hx
          have HSM := Lib.hid hsm
          have HVR := Lib.hid (vs_rule HV.out (List.mem_of_getElem? hx))
          have hll := hsm.len
          have HA := Lib.hid ((Below.refl wo.heap.size wo).alloc (Nat.le_refl _) (.cells #[.slice al l.length cl] 50))
          have HL1 := Lib.hid (HLV.out.below HA.out)
          have HB3 := Lib.hid (HB.out.trans (HA.out.mono HB.out.size))
          clear hx hsm hbw hc0
          go_wp2
          go_loopw [32] (fun i wr => ∃ (j : Nat) (vs : List Value), j ≤ l.length ∧ i = .int .i64 j ∧ LevO wr b vs (rawL ((R.take k).flatten ++ l.take j)) ∧ Below w1.heap.size w1 wr) (fun i _ => l.length - (intOf i).toNat)
          case atStart => exact ⟨0, vs, Nat.zero_le _, rfl, by rw [List.take_zero, List.append_nil]; exact HL1.out, HB3.out⟩
          case round =>
            clear HLV HB HL1 HB3 c0
            obtain ⟨j, vs, hj, rfl, hlev, hb⟩ := hrel
            have HLV := Lib.hid hlev
            have HB := Lib.hid hb
            clear hlev hb
            by_cases hjt : j < l.length
            · obtain ⟨b1, o1, f, t, u, rfl, hbw, hy, e0, e1, e2⟩ := (HSM.out.inTs.below HB.out).at_ hjt
              have hvt := vt_of (vr_test HVR.out (List.mem_of_getElem? hy))
              obtain ⟨n, rfl⟩ : ∃ n : Nat, f = n := ⟨f.toNat, by have := hvt.1; simp only at this; omega⟩
              have hn5 : n ≤ 5 := by have := hvt.1; simp only at this; omega
              have hn6 : (n : Int) < 6 := by omega
              have HY := Lib.hid hy
              obtain ⟨T, hT⟩ : ∃ T, rawF ((R.take k).flatten ++ l.take j) n = T := ⟨_, rfl⟩
              have HTT := Lib.hid hT
              have HTL := Lib.hid (show T.length ≤ 4000000 by rw [← hT]; have h1 := rawF_len ((R.take k).flatten ++ l.take j) n; have h2 := flat_take_le HX.out j; have h3 := flat_le HV.out; omega)
              obtain ⟨W, hW⟩ : ∃ W, wr.alloc (.cells #[.int .i64 (n : Int), .int .i64 t, .bool u] 53) = W := ⟨_, rfl⟩
              have HA1 := Lib.hid (show Below wr.heap.size wr W by rw [← hW]; exact (Below.refl _ _).alloc (Nat.le_refl _) _)
              have HT4 := Lib.hid (show BlkV W wr.heap.size 53 #[.int .i64 (n : Int), .int .i64 t, .bool u] by rw [← hW]; exact BlkV.new _ _ _)
              have HWS := Lib.hid (show wr.heap.size < W.heap.size by rw [← hW]; simp)
              have HA2 := Lib.hid ((Below.refl W.heap.size W).alloc (Nat.le_refl _) (.cells #[.int .i64 t] 3))
              obtain ⟨a2, c2, hvj, -, -, how⟩ := HLV.out.at_ (by rw [rawL_at _ (show n < 6 by omega), hT])
              have HOW := Lib.hid how
              have HVJ := Lib.hid hvj
              have HOA := Lib.hid ((how.below HA1.out).below HA2.out)
              have HLA := Lib.hid ((HLV.out.below HA1.out).below HA2.out)
              have HBW := Lib.hid (show b + 1 ≤ W.heap.size by have := HLV.out.lt; have := HA1.out.size; omega)
              have HOLT := Lib.hid (fun q (hq : (Value.slice a2 T.length c2).ownBlock = some q) => (show b + 1 ≤ q from (World.ownsRow.lt how q hq).1))
              have hblw := HLV.out.lt
              obtain ⟨a9, c9, hv9, y9, -, -⟩ := (HLV.out.below HA1.out).at_ (by rw [rawL_at _ (show n < 6 by omega), hT])
              have y0 : W.cell? ⟨b, n, none⟩ = some (.slice a2 T.length c2) := by rw [hvj] at hv9; injection hv9 with e9; rw [e9]; exact y9
              have x0 := HT4.out.three0
              have x1 := HT4.out.three1
              have ya : (W.alloc (.cells #[.int .i64 t] 3)).cell? ⟨wr.heap.size, 0, none⟩ = some (.int .i64 (n : Int)) ∧ (W.alloc (.cells #[.int .i64 t] 3)).cell? ⟨wr.heap.size, 1, none⟩ = some (.int .i64 t) ∧ (W.alloc (.cells #[.int .i64 t] 3)).cell? ⟨b, n, none⟩ = some (.slice a2 T.length c2) := ⟨(HT4.out.below HA2.out).three0, (HT4.out.below HA2.out).three1, (HA2.out.cell (p := ⟨b, n, none⟩) (by have := HA1.out.size; show b < W.heap.size; omega)).trans y0⟩
              obtain ⟨F, hF⟩ : ∃ F, T ++ [t] = F := ⟨_, rfl⟩
              obtain ⟨nF, hnF⟩ : ∃ n, F.length = n := ⟨_, rfl⟩
              have HFF := Lib.hid hF
              have HNF := Lib.hid hnF
              have HWE := Lib.hid hW
              clear hy hbw hvt hT how hvj hv9 y9 hF hnF hW hblw
              go_wp2
              rw [HWE.out]
              refine wp_region_noPanic ?_
              refine wp_region_E (S := fun w' => w'.cell? ⟨wr.heap.size, 0, none⟩ = some (.int .i64 (n : Int)) ∧ w'.cell? ⟨wr.heap.size, 1, none⟩ = some (.int .i64 t) ∧ w'.cell? ⟨b, n, none⟩ = some (.slice a2 T.length c2)) 13 (by kernel_rfl) (⟨x0, x1, y0⟩) (fun hHeld => ?_)
              refine anyE_take (i := 0) (v := ?vz1) rfl (by kernel_rfl) (by kernel_rfl) (by kernel_rfl) (by kernel_rfl) (by kernel_rfl) (fun _ _ _ h => h) (Or.inl ⟨by kernel_rfl, ?yz1⟩) (by assumption) ?rz1
              case yz1 => (intro w' hSw; (try dsimp only at hSw); go_simp; (try rw [if_pos hn6]); (try with_reducible rfl))
              (try simp only [Act.put, List.getElem_toArray, List.getElem_cons_succ, List.getElem_cons_zero, List.setIfInBounds_toArray, List.set_cons_zero, List.set_cons_succ])
              refine anyE_take (i := 1) (v := ?vz2) rfl (by kernel_rfl) (by kernel_rfl) (by kernel_rfl) (by kernel_rfl) (by kernel_rfl) (fun _ _ _ h => h) (Or.inl ⟨by kernel_rfl, ?yz2⟩) (by assumption) ?rz2
              case yz2 => (intro w' hSw; (try dsimp only at hSw); go_simp; (try rw [if_pos hn6]); (try with_reducible rfl))
              (try simp only [Act.put, List.getElem_toArray, List.getElem_cons_succ, List.getElem_cons_zero, List.setIfInBounds_toArray, List.set_cons_zero, List.set_cons_succ])
              refine anyE_take (i := 2) (v := ?vz3) rfl (by kernel_rfl) (by kernel_rfl) (by kernel_rfl) (by kernel_rfl) (by kernel_rfl) (fun _ _ _ h => h) (Or.inl ⟨by kernel_rfl, ?yz3⟩) (by assumption) ?rz3
              case yz3 => (intro w' hSw; (try dsimp only at hSw); go_simp; (try rw [if_pos hn6]); (try with_reducible rfl))
              (try simp only [Act.put, List.getElem_toArray, List.getElem_cons_succ, List.getElem_cons_zero, List.setIfInBounds_toArray, List.set_cons_zero, List.set_cons_succ])
              refine anyE_take (i := 3) (v := ?vz4) rfl (by kernel_rfl) (by kernel_rfl) (by kernel_rfl) (by kernel_rfl) (by kernel_rfl) (fun _ _ _ h => h) (Or.inl ⟨by kernel_rfl, ?yz4⟩) (by assumption) ?rz4
              case yz4 => (intro w' hSw; (try dsimp only at hSw); go_simp; (try rw [if_pos hn6]); (try with_reducible rfl))
              (try simp only [Act.put, List.getElem_toArray, List.getElem_cons_succ, List.getElem_cons_zero, List.setIfInBounds_toArray, List.set_cons_zero, List.set_cons_succ])
              refine anyE_take (i := 4) (v := ?vz5) rfl (by kernel_rfl) (by kernel_rfl) (by kernel_rfl) (by kernel_rfl) (by kernel_rfl) (fun _ _ _ h => h) (Or.inl ⟨by kernel_rfl, ?yz5⟩) (by assumption) ?rz5
              case yz5 => (intro w' hSw; (try dsimp only at hSw); go_simp; (try rw [if_pos hn6]); (try with_reducible rfl))
              (try simp only [Act.put, List.getElem_toArray, List.getElem_cons_succ, List.getElem_cons_zero, List.setIfInBounds_toArray, List.set_cons_zero, List.set_cons_succ])
              refine anyE_take (i := 5) (v := ?vz6) rfl (by kernel_rfl) (by kernel_rfl) (by kernel_rfl) (by kernel_rfl) (by kernel_rfl) (fun _ _ _ h => h) (Or.inl ⟨by kernel_rfl, ?yz6⟩) (by assumption) ?rz6
              case yz6 => (intro w' hSw; (try dsimp only at hSw); go_simp; (try rw [if_pos hn6]); (try with_reducible rfl))
              (try simp only [Act.put, List.getElem_toArray, List.getElem_cons_succ, List.getElem_cons_zero, List.setIfInBounds_toArray, List.set_cons_zero, List.set_cons_succ])
              refine anyE_take (i := 6) (v := ?vz7) rfl (by kernel_rfl) (by kernel_rfl) (by kernel_rfl) (by kernel_rfl) (by kernel_rfl) (fun _ _ _ h => h) (Or.inl ⟨by kernel_rfl, ?yz7⟩) (by assumption) ?rz7
              case yz7 => (intro w' hSw; (try dsimp only at hSw); go_simp; (try rw [if_pos hn6]); (try with_reducible rfl))
              (try simp only [Act.put, List.getElem_toArray, List.getElem_cons_succ, List.getElem_cons_zero, List.setIfInBounds_toArray, List.set_cons_zero, List.set_cons_succ])
              refine anyE_take (i := 7) (v := ?vz8) rfl (by kernel_rfl) (by kernel_rfl) (by kernel_rfl) (by kernel_rfl) (by kernel_rfl) (fun _ _ _ h => h) (Or.inl ⟨by kernel_rfl, ?yz8⟩) (by assumption) ?rz8
              case yz8 => (intro w' hSw; (try dsimp only at hSw); go_simp; (try rw [if_pos hn6]); (try with_reducible rfl))
              (try simp only [Act.put, List.getElem_toArray, List.getElem_cons_succ, List.getElem_cons_zero, List.setIfInBounds_toArray, List.set_cons_zero, List.set_cons_succ])
              refine anyE_take (i := 8) (v := ?vz9) rfl (by kernel_rfl) (by kernel_rfl) (by kernel_rfl) (by kernel_rfl) (by kernel_rfl) (fun _ _ _ h => h) (Or.inl ⟨by kernel_rfl, ?yz9⟩) (by assumption) ?rz9
              case yz9 => (intro w' hSw; (try dsimp only at hSw); go_simp; (try rw [if_pos hn6]); (try with_reducible rfl))
              (try simp only [Act.put, List.getElem_toArray, List.getElem_cons_succ, List.getElem_cons_zero, List.setIfInBounds_toArray, List.set_cons_zero, List.set_cons_succ])
              refine anyE_take (i := 9) (v := ?vz10) rfl (by kernel_rfl) (by kernel_rfl) (by kernel_rfl) (by kernel_rfl) (by kernel_rfl) (fun _ _ _ h => h) (Or.inl ⟨by kernel_rfl, ?yz10⟩) (by assumption) ?rz10
              case yz10 => (intro w' hSw; (try dsimp only at hSw); go_simp; (try rw [if_pos hn6]); (try with_reducible rfl))
              (try simp only [Act.put, List.getElem_toArray, List.getElem_cons_succ, List.getElem_cons_zero, List.setIfInBounds_toArray, List.set_cons_zero, List.set_cons_succ])
              refine anyE_one (i := 10) (by kernel_rfl) (anyE_step rfl (fun K hK => ?_))
              go_simp
              refine hK.out _ _ (fun _ => ya) (fun hH => ?_)
              have hHeld := hH (by decide)
              clear hH
              clear hK K
              (try simp only [Act.put, List.getElem_toArray, List.getElem_cons_succ, List.getElem_cons_zero, List.setIfInBounds_toArray, List.set_cons_zero, List.set_cons_succ])
              refine anyE_one (i := 11) (by kernel_rfl) (anyE_step rfl (fun K hK => ?_))
              refine step_oneL rfl (.tmp 43) (.tmp 46) rfl (b + 1) (.slice a2 T.length c2) T F nF t HOA.out rfl _ rfl HFF.out HNF.out (in_oneI W W.heap.size t rfl) (by have := HTL.out; omega) (Nat.le_trans HBW.out (by simp)) ?_
              intro g3 c3 w3 ho hgd hat
              have hg : (W.alloc (.cells #[.int .i64 t] 3)).grownBy w3 (Value.slice a2 T.length c2).ownBlock := ⟨hgd.os, hgd.tape, hgd.output, hgd.size, hgd.block⟩
              have hkw := fun k hk => World.ownsRow.lt HOW.out k hk
              have hne : ∀ q, (Value.slice a2 T.length c2).ownBlock = some q → q ≠ wr.heap.size ∧ q ≠ b := fun q hq => by have h1 := hkw q hq; have h2 := HOLT.out q hq; omega
              have hbl : b < (W.alloc (.cells #[.int .i64 t] 3)).heap.size := by have := HBW.out; simp; omega
              have htl : wr.heap.size < (W.alloc (.cells #[.int .i64 t] 3)).heap.size := by have := HWS.out; simp; omega
              have r0 : w3.cell? ⟨wr.heap.size, 0, none⟩ = some (.int .i64 (n : Int)) := (World.cell?_of_block (hg.block wr.heap.size htl (fun e => (hne _ e.symm).1 rfl))).trans ya.1
              have r1 : w3.cell? ⟨wr.heap.size, 1, none⟩ = some (.int .i64 t) := (World.cell?_of_block (hg.block wr.heap.size htl (fun e => (hne _ e.symm).1 rfl))).trans ya.2.1
              have r2 : w3.cell? ⟨b, n, none⟩ = some (.slice a2 T.length c2) := (World.cell?_of_block (hg.block b hbl (fun e => (hne _ e.symm).2 rfl))).trans ya.2.2
              have rf := (row_keptO HLA.out.out hg (fun k hk e => by simp [Value.ownBlock] at e; exact (hne k hk).2 e.symm)).frozenAt n
              have HPUT := Lib.hid (HLA.out.put HVJ.out hg ho (fun k hk => by simp only [Value.ownBlock, Option.map_some, Option.some.injEq] at hk; rcases hat with e | e; exact .inl (by rw [e, hk]); exact .inr (by rw [← hk, e]; exact Nat.le_refl _)))
              have HG3 := Lib.hid (show (wr.alloc (.cells #[.int .i64 (n : Int), .int .i64 t, .bool u] 53)).alloc (.cells #[.int .i64 t] 3) |>.grownBy w3 (Value.slice a2 T.length c2).ownBlock by rw [HWE.out]; exact hg)
              have hsz : wr.heap.size + 2 ≤ w3.heap.size := by have h1 := hg.size; rw [← HWE.out] at h1; simp at h1; omega
              have HSZ := Lib.hid hsz
              have HBW1 := Lib.hid (show w1.heap.size ≤ wr.heap.size from HB.out.size)
              refine hK.out _ _ (fun _ => ⟨r0, r1, r2⟩) (fun hH => ?_)
              have hHeld := hH (by decide)
              clear hH
              clear hK K
              (try simp only [Act.put, List.getElem_toArray, List.getElem_cons_succ, List.getElem_cons_zero, List.setIfInBounds_toArray, List.set_cons_zero, List.set_cons_succ])
              refine anyE_take (i := 12) (v := ?vz11) rfl (by kernel_rfl) (by kernel_rfl) (by kernel_rfl) (by kernel_rfl) (by kernel_rfl) (fun _ _ _ h => h) (Or.inl ⟨by kernel_rfl, ?yz11⟩) (by assumption) ?rz11
              case yz11 => (intro w' hSw; (try dsimp only at hSw); go_simp; (try rw [if_pos hn6]); (try with_reducible rfl))
              (try simp only [Act.put, List.getElem_toArray, List.getElem_cons_succ, List.getElem_cons_zero, List.setIfInBounds_toArray, List.set_cons_zero, List.set_cons_succ])
              refine anyE_one (i := 13) (by kernel_rfl) (anyE_step rfl (fun K hK => ?_))
              go_simp
              refine hK.out _ _ (fun h => absurd rfl h) (fun _ => ?_)
              clear hK K
              (try simp only [Act.put, List.getElem_toArray, List.getElem_cons_succ, List.getElem_cons_zero, List.setIfInBounds_toArray, List.set_cons_zero, List.set_cons_succ])
              refine anyE_done (by kernel_rfl) ?_ _
              refine NoPanic.normal ?_
              go_wp2
              go_roundw
              case rel =>
                refine ⟨j + 1, vs.set n (.slice (some ⟨g3, 0, none⟩) nF c3), by omega, by go_num, ?_, ?_⟩
                · rw [test_next HY.out, ← rawL_set (n := n) rfl, show rawF ((R.take k).flatten ++ l.take j) n ++ [((((n : Int), t), u) : TS).1.2] = F by rw [HTT.out]; exact HFF.out]
                  exact HPUT.out.1
                · exact ((HB.out.trans ((((Below.refl wr.heap.size wr).alloc (Nat.le_refl _) _).alloc (by simp) _).mono HB.out.size)).grown HG3.out (by have := HB.out.size; simp; omega) (fun q hq => by have := HOLT.out q hq; have := HBB.out; omega)).grown HPUT.out.2 (by have := HSZ.out; have := HBW1.out; omega) (fun q hq => by cases hq; exact HBB.out)
              case measure => simp [intOf]; omega
            · obtain rfl : j = l.length := by omega
              go_wp2
              go_roundw
              case rel => exact ⟨k + 1, vs, by omega, by go_num, by rw [← flat_next HX.out]; exact HLV.out, HB.out⟩
              case measure => simp [intOf]; omega
        · obtain rfl : k = R.length := by omega
          rw [List.take_length, ← mixL_zero] at HLV
          go_wp2
          go_loopw [53] (fun i wr => ∃ (k : Nat) (vs : List Value), k ≤ 6 ∧ i = .int .i64 k ∧ LevO wr b vs (mixL R k) ∧ Below w1.heap.size w1 wr) (fun i _ => 6 - (intOf i).toNat)
          case atStart => exact ⟨0, vs, Nat.zero_le _, rfl, HLV.out, HB.out⟩
          case round =>
            clear HLV HB
            obtain ⟨k, vs, hk, rfl, hlev, hb⟩ := hrel
            have HLV := Lib.hid hlev
            have HB := Lib.hid hb
            clear hlev hb
            by_cases hlt6 : k < 6
            · obtain ⟨T, hT⟩ : ∃ T, rawF R.flatten k = T := ⟨_, rfl⟩
              have hT0 : 0 < T.length := by rw [← hT]; simp [rawF]
              have hT9 : T.length ≤ 9000000 := by rw [← hT]; have h1 := rawF_len R.flatten k; have h2 := flat_le HV.out; omega
              obtain ⟨al, cl, hvj, q0, f0, hown⟩ := HLV.out.at_ (by rw [mixL_at R hlt6, hT])
              obtain ⟨⟨g, rfl⟩, hcl⟩ := owni_some hown hT0
              have hgb := (World.ownsRow.lt hown g rfl)
              obtain ⟨U, hU⟩ : ∃ U, (T.mergeSort fun x y => decide (x ≤ y)) = U := ⟨_, rfl⟩
              have hUL : U.length = T.length := by rw [← hU]; simp
              obtain ⟨mC, hmC⟩ : ∃ m, (Lib.compact U).length = m := ⟨_, rfl⟩
              have HCU := Lib.hid (show Lib.compact U = levR R k by rw [← hU, ← hT]; exact levF_same R.flatten k)
              have HC1 := Lib.hid (sort_own (b + 1) g T.length cl T wr hown rfl hT9)
              rw [hU] at HC1
              have HC2 := Lib.hid (fun (W : World) (hW : OwnI W (b + 1) (.slice (some ⟨g, 0, none⟩) T.length cl) U) => compact_own (b + 1) g T.length mC cl U W hW hUL (by omega) hmC)
              have HVJ := Lib.hid hvj
              have HGB := Lib.hid hgb
              have HQ0 := Lib.hid q0
              have hgr : wr.grownBy wr (some g) := World.grownBy.refl _ _
              clear hT hU hUL hmC hvj hown hgb f0 hgr
              go_wp2_with (first
                | (go_at_call 36; ((with_reducible refine HC1.out.mono ?_); rintro e w3 ⟨rfl, ho3, hg3⟩; have HO3 := Lib.hid ho3; have HG3 := Lib.hid hg3; clear ho3 hg3))
                | (go_at_call 37; ((with_reducible refine (HC2.out _ HO3.out).mono ?_); rintro e w4 ⟨rfl, ho4, hg4⟩; have HO4 := Lib.hid ho4; have HG4 := Lib.hid (grown_3 HG3.out hg4); clear ho4 hg4; refine Hid.out ?_)))
              have hkeep := row_keptO HLV.out.out HG4.out (fun k hk e => by cases hk; simp [Value.ownBlock] at e; have := HGB.out.1; omega)
              have r0 : w4.cell? ⟨b, k, none⟩ = some (.slice (some ⟨g, 0, none⟩) T.length cl) := by rw [hkeep.cellAt k (by omega)]; exact HVJ.out
              have rf := hkeep.frozenAt k
              have HPUT := Lib.hid (HLV.out.put HVJ.out HG4.out HO4.out (fun q hq => .inl hq))
              clear hkeep
              refine Lib.hid ?_
              go_wp2
              go_roundw
              case rel =>
                refine ⟨k + 1, vs.set k (.slice (some ⟨g, 0, none⟩) mC cl), by omega, by go_num, ?_, ?_⟩
                · rw [← mixL_set, ← HCU.out]
                  exact HPUT.out.1
                · exact (HB.out.grown HG4.out HB.out.size (fun q hq => by cases hq; have := HGB.out.1; have := HBB.out; omega)).grown HPUT.out.2 (Nat.le_trans HB.out.size HG4.out.size) (fun q hq => by cases hq; exact HBB.out)
              case measure => simp [intOf]; omega
            · obtain rfl : k = 6 := by omega
              rw [mixL_all] at HLV
              go_wp2
              go_ret
              exact ⟨some ⟨b, 0, none⟩, 6, vs, by rw [levs_len]; rfl, HLV.out.rows (by have := HB1.out.size; have := HBE.out; omega), HB1.out.trans (HB.out.mono HB1.out.size)⟩

end Go.Proofs.Ytpldjihajclblaa
