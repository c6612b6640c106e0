/-
  What spec.l14Put does, at any ascending list of the call's own. By an AI agent.
-/
import Derived.Test.YtookcggmapldeaaIntM
import Derived.Test.YtookcggmapldeaaPlainMon
import Derived.WalkLawsBesides
import Derived.Deep.RegionLaw
namespace Go.Proofs.Ytookcggmapldeaa
open Go.RowKit
set_option linter.unusedVariables false
set_option linter.unusedSimpArgs false

/-- append of a slice that reads as a list of integers to a slice of the call's own -/
theorem run_appI (ty : TypeId) (base : Nat) (v : Value) (l : List Int) (w : World) (hown : OwnI w base v l) (a : Option Addr) (c : Nat) (ms : List Int) (hin : InI w a ms) (hn : a = none → c = 0) (hsz : l.length + ms.length ≤ 9000000) (hbase : base ≤ w.heap.size) :
    ∃ v' w', (Builtin.append_ #[51, 51] ty #[v, .slice a ms.length c]).run Try.prog w = .ok v' w' ∧ OwnI w' base v' (l ++ ms) ∧ w.grownBy w' v.ownBlock := by
  obtain ⟨i0, hi, hz0, hz1, hz2⟩ := info_parts info_i64
  have e1 : (l ++ ms).length = l.length + ms.length := by simp
  have e2 : (l ++ ms).map encI = l.map encI ++ ms.map encI := by simp
  cases a with
  | none =>
    obtain rfl : ms = [] := by
      rcases Nat.eq_zero_or_pos ms.length with h | h
      · exact List.eq_nil_of_length_eq_zero h
      · obtain ⟨_, _, h2, _⟩ := hin h
        cases h2
    rw [hn rfl]
    refine ⟨v, w, run_append_owned_none (P := Try.prog) (w := w) base 51 ty 3 i0 1 Try.underlying51 hi v l.length (l.map encI) hown, ?_, World.grownBy.refl _ _⟩
    rw [List.append_nil]
    exact hown
  | some ad =>
    obtain ⟨v', w', h1, h2, h3, -⟩ := run_append_own (P := Try.prog) w base 51 ty 3 i0 (.int .i64 0) 1 8 Try.underlying51 hi hz0 hz1 hz2 rfl (by decide) v l.length (l.map encI) hown
      ad ms.length c (ms.map encI) (by simp) (fun j u hj => by
        rw [List.getElem?_map] at hj
        cases hx : ms[j]? with
        | none => rw [hx] at hj; cases hj
        | some x =>
          rw [hx] at hj
          have hlt := (List.getElem?_eq_some_iff.1 hx).1
          obtain ⟨b, off, e, _, hc⟩ := hin (by omega)
          obtain rfl : ad = ⟨b, off, none⟩ := Option.some.inj e
          have h2 : (⟨b, off, none⟩ : Addr).add j = ⟨b, off + j, none⟩ := by unfold Addr.add; split <;> simp_all
          rw [h2, hc j x hx]
          exact hj) (by intro u hu; obtain ⟨x, _, rfl⟩ := List.mem_map.1 hu; rfl) (by unfold maxLen; omega) (by omega) hbase
    refine ⟨v', w', h1, ?_, h3⟩
    unfold OwnI
    rw [e1, e2]
    exact h2

theorem step_appI {ops : Array Oper} {o : Oper} {a : Act} {w : World} {K : Act → World → Prop} {Q : Exit → Act → World → Prop} {E : Prop}
    (hg : o.guard = none) (s x : Operand) (hop : o.op = Op.call { callee := Callee.builtin Builtin.append, args := #[s, x], argTypes := #[51, 51] })
    (base : Nat) (v : Value) (l : List Int) (hs : a.eval s = v) (ad : Option Addr) (m c : Nat) (ms : List Int) (hx : a.eval x = .slice ad m c) (hm : m = ms.length)
    (hown : OwnI w base v l) (hin : InI w ad ms) (hn : ad = none → c = 0) (hsz : l.length + ms.length ≤ 9000000) (hbase : base ≤ w.heap.size)
    (hK : ∀ v' w', OwnI w' base v' (l ++ ms) → w.grownBy w' v.ownBlock → K (a.put o.dst v') w') :
    if Region.wanted o (yielded ops a.tmps) = true then Oper.wp Try.prog o a w K Q else E := by
  subst hm
  rw [if_pos (by simp [Region.wanted, hg])]
  obtain ⟨v', w', hrun, h1, h2⟩ := run_appI o.type base v l w hown ad c ms hin hn hsz hbase
  unfold Oper.wp
  simp [execOp, hop, resolve, invoke, builtin, hs, hx, hrun, Result.andThen]
  exact hK v' w' h1 h2

theorem own_newI (w : World) (base g : Nat) (hg : w.heap.size = g) (hb : base ≤ g) : OwnI (w.alloc (.cells #[] 3)) base (.slice (some ⟨g, 0, none⟩) 0 0) [] := by
  subst hg
  exact OwnI.made w base #[] 0 hb (Nat.zero_le _) rfl
theorem in_oneI (w : World) (g : Nat) (y : Int) (hg : w.heap.size = g) : InI (w.alloc (.cells #[.int .i64 y] 3)) (some ⟨g, 0, none⟩) [y] := by
  subst hg
  exact InI.new w [y]
theorem InI.grown {w w' : World} {a : Option Addr} {l : List Int} {r : Option Nat} (h : InI w a l) (hg : w.grownBy w' r) (hne : ∀ b off, a = some ⟨b, off, none⟩ → some b ≠ r) : InI w' a l :=
  h.keep hg.size fun b off ha hb => hg.block b hb (hne b off ha)
theorem InI.take' {w : World} {a : Option Addr} {l : List Int} (h : InI w a l) (k : Nat) : InI w a (l.take k) := by
  intro h0
  obtain ⟨b', off', e, hb, hc⟩ := h (by rw [List.length_take] at h0; omega)
  refine ⟨b', off', e, hb, fun j x hj => hc j x ?_⟩
  rw [List.getElem?_take] at hj
  split at hj
  · exact hj
  · cases hj
theorem InI.drop0 {w : World} {b : Nat} {l : List Int} (h : InI w (some ⟨b, 0, none⟩) l) (k : Nat) : InI w (some ⟨b, k, none⟩) (l.drop k) := by
  intro h0
  obtain ⟨b', off', e, hb, hc⟩ := h (by rw [List.length_drop] at h0; omega)
  obtain ⟨rfl, rfl⟩ : b = b' ∧ 0 = off' := by simpa using e
  refine ⟨b, k, rfl, hb, fun j x hj => ?_⟩
  rw [List.getElem?_drop] at hj
  have h2 := hc (k + j) x hj
  rwa [Nat.zero_add] at h2
theorem InI.empty (w : World) (a : Option Addr) {l : List Int} (h : l.length = 0) : InI w a l := fun h0 => absurd h0 (by omega)

/-- what is handed back: a slice of the caller's own -/
def PutsI (w : World) (base : Nat) (l : List Int) (e : Ending) (w' : World) : Prop :=
  ∃ a cap, e = .returned (.slice a l.length cap) ∧ OwnI w' base (.slice a l.length cap) l ∧ Below w.heap.size w w'
theorem PutsI.mk {w w' : World} {base : Nat} {v : Value} {l : List Int} (h : OwnI w' base v l) (hb : Below w.heap.size w w') : PutsI w base l (.returned v) w' := by
  obtain ⟨a, cap, rfl⟩ := h.shape
  exact ⟨a, cap, rfl, h, hb⟩
theorem grown_oldI {w0 w w' : World} {v : Value} {l : List Int} (hb : Below w0.heap.size w0 w) (hg : w.grownBy w' v.ownBlock) (ho : OwnI w w0.heap.size v l) : Below w0.heap.size w0 w' :=
  hb.grown hg hb.size fun k hk => (World.ownsRow.lt ho k hk).1
theorem owni_some {w : World} {base : Nat} {a : Option Addr} {n cap : Nat} {l : List Int} (h : OwnI w base (.slice a n cap) l) (h0 : 0 < l.length) : (∃ b, a = some ⟨b, 0, none⟩) ∧ l.length ≤ cap := by
  rcases h.2 with ⟨_, h1⟩ | ⟨g, cap', cur, hv, _, _, h2, _⟩
  · omega
  · simp only [Value.slice.injEq] at hv
    exact ⟨⟨g, hv.1⟩, by omega⟩

set_option maxRecDepth 100000 in
set_option maxHeartbeats 8000000 in
theorem puti_some (base b cap : Nat) (l : List Int) (y : Int) (w : World) (hl : l.length ≤ 8500000) (hown : OwnI w base (.slice (some ⟨b, 0, none⟩) l.length cap) l) (hlc : l.length ≤ cap) (hbase : base ≤ w.heap.size) :
    Calls Try.prog 63 #[.slice (some ⟨b, 0, none⟩) l.length cap, .int .i64 y] w (PutsI w base (putI l y)) := by
  have HIN := Lib.hid hown.inI
  have HB0 := Lib.hid hbase
  have HOWN := Lib.hid hown
  clear hown hbase
  go_enter Try.func63, Try.ntmps63
  go_wp2
  go_loop [5] (fun i => ∃ k : Nat, k ≤ l.length ∧ i = .int .i64 k ∧ ∀ (j : Nat) (x : Int), l[j]? = some x → j < k → x < y) (fun i => l.length - (intOf i).toNat)
  case atStart => exact ⟨0, Nat.zero_le _, rfl, fun j x _ hj => absurd hj (Nat.not_lt_zero _)⟩
  case round =>
    obtain ⟨k, hk, rfl, hall⟩ := hrel
    have HALL := Lib.hid hall
    clear hall
    have h1 : (0 : Int) ≤ (k : Int) := by omega
    have h2 : (k : Int) ≤ (cap : Int) := by omega
    have h3 : (k : Int) ≤ (l.length : Int) := by omega
    by_cases hlt : k < l.length
    · obtain ⟨b', off', e', hbw, hc⟩ := HIN.out (by omega)
      obtain ⟨rfl, rfl⟩ : b = b' ∧ 0 = off' := by simpa using e'
      obtain ⟨x, hx1⟩ : ∃ x, l[k]? = some x := ⟨_, List.getElem?_eq_getElem hlt⟩
      have hcell : w.cell? ⟨b, 0 + k, none⟩ = some (.int .i64 x) := hc k x hx1
      rw [Nat.zero_add] at hcell
      have hkc : ¬ cap = k := by omega
      have hkc2 : ¬ (cap : Int) = (k : Int) := by omega
      clear hc e'
      by_cases hxy : x < y
      · have HX := Lib.hid hx1
        have HXY := Lib.hid hxy
        clear hx1
        go_wp2
        go_round
        case rel =>
          refine ⟨k + 1, by omega, by go_num, fun j z hz hj => ?_⟩
          by_cases e : j = k
          · rw [e, HX.out] at hz
            cases hz
            exact HXY.out
          · exact HALL.out j z hz (by omega)
        case measure => simp [intOf]; omega
      · by_cases hq : x = y
        · have HE := Lib.hid (putI_same HALL.out (by rw [hx1, hq]))
          subst hq
          clear hx1
          go_wp2
          go_ret
          refine PutsI.mk ?_ (Below.refl _ _)
          rw [HE.out]
          exact HOWN.out
        · have HE := Lib.hid (putI_new HALL.out (fun z hz => by rw [hx1] at hz; cases hz; exact ⟨hxy, hq⟩) hk)
          have hse : (x == y) = false := by simpa using hq
          clear hx1
          have hmin : (l.take k).length = k := by rw [List.length_take]; omega
          have hdr : (l.drop k).length = (l.length - k) := List.length_drop
          have O1 : Hid (OwnI (w.alloc (.cells #[] 3)).drew w.heap.size (.slice (some ⟨w.heap.size, 0, none⟩) 0 0) []) := Lib.hid (own_newI w w.heap.size w.heap.size rfl (Nat.le_refl _))
          have B1 := Lib.hid ((Below.refl w.heap.size w).alloc (Nat.le_refl _) (.cells #[] 3)).drew
          have O2 : Hid (OwnI ((w.alloc (.cells #[] 3)).alloc (.cells #[.int .i64 y] 3)).drew w.heap.size (.slice (some ⟨w.heap.size, 0, none⟩) 0 0) []) := Lib.hid ((own_newI w w.heap.size w.heap.size rfl (Nat.le_refl _)).alloc (.cells #[.int .i64 y] 3))
          have B2 := Lib.hid (((Below.refl w.heap.size w).alloc (Nat.le_refl _) (.cells #[] 3)).alloc (by simp) (.cells #[.int .i64 y] 3)).drew
          have S2 : Hid (InI ((w.alloc (.cells #[] 3)).alloc (.cells #[.int .i64 y] 3)).drew (some ⟨w.heap.size + 1, 0, none⟩) [y]) := Lib.hid (in_oneI (w.alloc (.cells #[] 3)) (w.heap.size + 1) y (by simp))
          have O3 : Hid (OwnI ((w.alloc (.cells #[.int .i64 y] 3)).alloc (.cells #[] 3)).drew w.heap.size (.slice (some ⟨w.heap.size + 1, 0, none⟩) 0 0) []) := Lib.hid (own_newI (w.alloc (.cells #[.int .i64 y] 3)) w.heap.size (w.heap.size + 1) (by simp) (by omega))
          have B3 := Lib.hid (((Below.refl w.heap.size w).alloc (Nat.le_refl _) (.cells #[.int .i64 y] 3)).alloc (by simp) (.cells #[] 3)).drew
          have S3 : Hid (InI ((w.alloc (.cells #[.int .i64 y] 3)).alloc (.cells #[] 3)).drew (some ⟨w.heap.size, 0, none⟩) [y]) := Lib.hid ((in_oneI w w.heap.size y rfl).alloc (.cells #[] 3))
          have HM := Lib.hid hmin
          have HD := Lib.hid hdr
          clear hmin hdr
          go_wp2
          go_region_law (first
            | (refine step_appI (by rfl) (.tmp 33) (.tmp 36) (by rfl) w.heap.size (.slice (some ⟨w.heap.size, 0, none⟩) 0 0) [] (by rfl) (some ⟨b, 0, none⟩) k cap (l.take k) (by rfl) HM.out.symm O1.out ((HIN.out.below B1.out).take' k) nofun (by have e1 := HM.out; have e2 := HD.out; simp only [List.length_append, List.length_cons, List.length_nil] at e1 e2 ⊢; omega) B1.out.size ?_; intro v1 w1 ho1 hg1; have hb1 : Below w.heap.size w w1 := grown_oldI B1.out hg1 O1.out)
            | (refine step_appI (by rfl) (.tmp 33) (.tmp 36) (by rfl) w.heap.size (.slice (some ⟨w.heap.size, 0, none⟩) 0 0) [] (by rfl) (some ⟨b, 0, none⟩) k cap (l.take k) (by rfl) HM.out.symm O2.out ((HIN.out.below B2.out).take' k) nofun (by have e1 := HM.out; have e2 := HD.out; simp only [List.length_append, List.length_cons, List.length_nil] at e1 e2 ⊢; omega) B2.out.size ?_; intro v1 w1 ho1 hg1; have hb1 : Below w.heap.size w w1 := grown_oldI B2.out hg1 O2.out; have hs1 := S2.out.grown hg1 (by intro b off e; cases e; simp [Value.ownBlock]))
            | (refine step_appI (by rfl) (.tmp 33) (.tmp 36) (by rfl) w.heap.size (.slice (some ⟨w.heap.size + 1, 0, none⟩) 0 0) [] (by rfl) (some ⟨b, 0, none⟩) k cap (l.take k) (by rfl) HM.out.symm O3.out ((HIN.out.below B3.out).take' k) nofun (by have e1 := HM.out; have e2 := HD.out; simp only [List.length_append, List.length_cons, List.length_nil] at e1 e2 ⊢; omega) B3.out.size ?_; intro v1 w1 ho1 hg1; have hb1 : Below w.heap.size w w1 := grown_oldI B3.out hg1 O3.out; have hs1 := S3.out.grown hg1 (by intro b off e; cases e; simp [Value.ownBlock]))
            | (refine step_appI (by rfl) (.tmp 37) (.tmp 39) (by rfl) w.heap.size v1 ([] ++ (l.take k)) (by rfl) (some ⟨w.heap.size + 1, 0, none⟩) 1 1 [y] (by rfl) rfl ho1 hs1 nofun (by have e1 := HM.out; have e2 := HD.out; simp only [List.length_append, List.length_cons, List.length_nil] at e1 e2 ⊢; omega) hb1.size ?_; intro v2 w2 ho2 hg2; have hb2 : Below w.heap.size w w2 := grown_oldI hb1 hg2 ho1)
            | (refine step_appI (by rfl) (.tmp 37) (.tmp 39) (by rfl) w.heap.size v1 ([] ++ (l.take k)) (by rfl) (some ⟨w.heap.size, 0, none⟩) 1 1 [y] (by rfl) rfl ho1 hs1 nofun (by have e1 := HM.out; have e2 := HD.out; simp only [List.length_append, List.length_cons, List.length_nil] at e1 e2 ⊢; omega) hb1.size ?_; intro v2 w2 ho2 hg2; have hb2 : Below w.heap.size w w2 := grown_oldI hb1 hg2 ho1)
            | (refine step_appI (by rfl) (.tmp 37) (.tmp 39) (by rfl) w.heap.size v1 ([] ++ (l.take k)) (by rfl) (some ⟨w1.heap.size, 0, none⟩) 1 1 [y] (by rfl) rfl (ho1.alloc _) (in_oneI w1 w1.heap.size y rfl) nofun (by have e1 := HM.out; have e2 := HD.out; simp only [List.length_append, List.length_cons, List.length_nil] at e1 e2 ⊢; omega) (hb1.alloc hb1.size _).size ?_; intro v2 w2 ho2 hg2; have hb2 : Below w.heap.size w w2 := grown_oldI (hb1.alloc hb1.size _) hg2 (ho1.alloc _))
            | (refine step_appI (by rfl) (.tmp 40) (.tmp 43) (by rfl) w.heap.size v2 ([] ++ (l.take k) ++ [y]) (by rfl) (some ⟨b, k, none⟩) (l.length - k) (cap - k) (l.drop k) (by rfl) HD.out.symm ho2 ((HIN.out.below hb2).drop0 k) nofun (by have e1 := HM.out; have e2 := HD.out; simp only [List.length_append, List.length_cons, List.length_nil] at e1 e2 ⊢; omega) hb2.size ?_; intro v3 w3 ho3 hg3; have hb3 : Below w.heap.size w w3 := grown_oldI hb2 hg3 ho2))
          all_goals go_wp2
          all_goals go_ret
          all_goals
            have hfin : OwnI w3 base v3 (putI l y) := by
              rw [HE.out]
              have h := ho3.mono HB0.out
              simpa using h
            exact PutsI.mk hfin hb3
    · have HE := Lib.hid (putI_new HALL.out (fun z hz => absurd (List.getElem?_eq_some_iff.1 hz).1 hlt) hk)
      by_cases hkc : cap = k
      · subst hkc
        have hmin : (l.take cap).length = cap := by rw [List.length_take]; omega
        have hdr : (l.drop cap).length = 0 := by rw [List.length_drop]; omega
        have O1 : Hid (OwnI (w.alloc (.cells #[] 3)).drew w.heap.size (.slice (some ⟨w.heap.size, 0, none⟩) 0 0) []) := Lib.hid (own_newI w w.heap.size w.heap.size rfl (Nat.le_refl _))
        have B1 := Lib.hid ((Below.refl w.heap.size w).alloc (Nat.le_refl _) (.cells #[] 3)).drew
        have O2 : Hid (OwnI ((w.alloc (.cells #[] 3)).alloc (.cells #[.int .i64 y] 3)).drew w.heap.size (.slice (some ⟨w.heap.size, 0, none⟩) 0 0) []) := Lib.hid ((own_newI w w.heap.size w.heap.size rfl (Nat.le_refl _)).alloc (.cells #[.int .i64 y] 3))
        have B2 := Lib.hid (((Below.refl w.heap.size w).alloc (Nat.le_refl _) (.cells #[] 3)).alloc (by simp) (.cells #[.int .i64 y] 3)).drew
        have S2 : Hid (InI ((w.alloc (.cells #[] 3)).alloc (.cells #[.int .i64 y] 3)).drew (some ⟨w.heap.size + 1, 0, none⟩) [y]) := Lib.hid (in_oneI (w.alloc (.cells #[] 3)) (w.heap.size + 1) y (by simp))
        have O3 : Hid (OwnI ((w.alloc (.cells #[.int .i64 y] 3)).alloc (.cells #[] 3)).drew w.heap.size (.slice (some ⟨w.heap.size + 1, 0, none⟩) 0 0) []) := Lib.hid (own_newI (w.alloc (.cells #[.int .i64 y] 3)) w.heap.size (w.heap.size + 1) (by simp) (by omega))
        have B3 := Lib.hid (((Below.refl w.heap.size w).alloc (Nat.le_refl _) (.cells #[.int .i64 y] 3)).alloc (by simp) (.cells #[] 3)).drew
        have S3 : Hid (InI ((w.alloc (.cells #[.int .i64 y] 3)).alloc (.cells #[] 3)).drew (some ⟨w.heap.size, 0, none⟩) [y]) := Lib.hid ((in_oneI w w.heap.size y rfl).alloc (.cells #[] 3))
        have HM := Lib.hid hmin
        have HD := Lib.hid hdr
        clear hmin hdr
        go_wp2
        go_region_law (first
          | (refine step_appI (by rfl) (.tmp 33) (.tmp 36) (by rfl) w.heap.size (.slice (some ⟨w.heap.size, 0, none⟩) 0 0) [] (by rfl) (some ⟨b, 0, none⟩) cap cap (l.take cap) (by rfl) HM.out.symm O1.out ((HIN.out.below B1.out).take' cap) nofun (by have e1 := HM.out; have e2 := HD.out; simp only [List.length_append, List.length_cons, List.length_nil] at e1 e2 ⊢; omega) B1.out.size ?_; intro v1 w1 ho1 hg1; have hb1 : Below w.heap.size w w1 := grown_oldI B1.out hg1 O1.out)
          | (refine step_appI (by rfl) (.tmp 33) (.tmp 36) (by rfl) w.heap.size (.slice (some ⟨w.heap.size, 0, none⟩) 0 0) [] (by rfl) (some ⟨b, 0, none⟩) cap cap (l.take cap) (by rfl) HM.out.symm O2.out ((HIN.out.below B2.out).take' cap) nofun (by have e1 := HM.out; have e2 := HD.out; simp only [List.length_append, List.length_cons, List.length_nil] at e1 e2 ⊢; omega) B2.out.size ?_; intro v1 w1 ho1 hg1; have hb1 : Below w.heap.size w w1 := grown_oldI B2.out hg1 O2.out; have hs1 := S2.out.grown hg1 (by intro b off e; cases e; simp [Value.ownBlock]))
          | (refine step_appI (by rfl) (.tmp 33) (.tmp 36) (by rfl) w.heap.size (.slice (some ⟨w.heap.size + 1, 0, none⟩) 0 0) [] (by rfl) (some ⟨b, 0, none⟩) cap cap (l.take cap) (by rfl) HM.out.symm O3.out ((HIN.out.below B3.out).take' cap) nofun (by have e1 := HM.out; have e2 := HD.out; simp only [List.length_append, List.length_cons, List.length_nil] at e1 e2 ⊢; omega) B3.out.size ?_; intro v1 w1 ho1 hg1; have hb1 : Below w.heap.size w w1 := grown_oldI B3.out hg1 O3.out; have hs1 := S3.out.grown hg1 (by intro b off e; cases e; simp [Value.ownBlock]))
          | (refine step_appI (by rfl) (.tmp 37) (.tmp 39) (by rfl) w.heap.size v1 ([] ++ (l.take cap)) (by rfl) (some ⟨w.heap.size + 1, 0, none⟩) 1 1 [y] (by rfl) rfl ho1 hs1 nofun (by have e1 := HM.out; have e2 := HD.out; simp only [List.length_append, List.length_cons, List.length_nil] at e1 e2 ⊢; omega) hb1.size ?_; intro v2 w2 ho2 hg2; have hb2 : Below w.heap.size w w2 := grown_oldI hb1 hg2 ho1)
          | (refine step_appI (by rfl) (.tmp 37) (.tmp 39) (by rfl) w.heap.size v1 ([] ++ (l.take cap)) (by rfl) (some ⟨w.heap.size, 0, none⟩) 1 1 [y] (by rfl) rfl ho1 hs1 nofun (by have e1 := HM.out; have e2 := HD.out; simp only [List.length_append, List.length_cons, List.length_nil] at e1 e2 ⊢; omega) hb1.size ?_; intro v2 w2 ho2 hg2; have hb2 : Below w.heap.size w w2 := grown_oldI hb1 hg2 ho1)
          | (refine step_appI (by rfl) (.tmp 37) (.tmp 39) (by rfl) w.heap.size v1 ([] ++ (l.take cap)) (by rfl) (some ⟨w1.heap.size, 0, none⟩) 1 1 [y] (by rfl) rfl (ho1.alloc _) (in_oneI w1 w1.heap.size y rfl) nofun (by have e1 := HM.out; have e2 := HD.out; simp only [List.length_append, List.length_cons, List.length_nil] at e1 e2 ⊢; omega) (hb1.alloc hb1.size _).size ?_; intro v2 w2 ho2 hg2; have hb2 : Below w.heap.size w w2 := grown_oldI (hb1.alloc hb1.size _) hg2 (ho1.alloc _))
          | (refine step_appI (by rfl) (.tmp 40) (.tmp 43) (by rfl) w.heap.size v2 ([] ++ (l.take cap) ++ [y]) (by rfl) (some ⟨b, 0, none⟩) 0 0 (l.drop cap) (by rfl) HD.out.symm ho2 (InI.empty _ _ (by rw [List.length_drop]; omega)) nofun (by have e1 := HM.out; have e2 := HD.out; simp only [List.length_append, List.length_cons, List.length_nil] at e1 e2 ⊢; omega) hb2.size ?_; intro v3 w3 ho3 hg3; have hb3 : Below w.heap.size w w3 := grown_oldI hb2 hg3 ho2))
        all_goals go_wp2
        all_goals go_ret
        all_goals
          have hfin : OwnI w3 base v3 (putI l y) := by
            rw [HE.out]
            have h := ho3.mono HB0.out
            simpa using h
          exact PutsI.mk hfin hb3
      · have hkc2 : ¬ (cap : Int) = (k : Int) := by omega
        have hmin : (l.take k).length = k := by rw [List.length_take]; omega
        have hdr : (l.drop k).length = (l.length - k) := List.length_drop
        have O1 : Hid (OwnI (w.alloc (.cells #[] 3)).drew w.heap.size (.slice (some ⟨w.heap.size, 0, none⟩) 0 0) []) := Lib.hid (own_newI w w.heap.size w.heap.size rfl (Nat.le_refl _))
        have B1 := Lib.hid ((Below.refl w.heap.size w).alloc (Nat.le_refl _) (.cells #[] 3)).drew
        have O2 : Hid (OwnI ((w.alloc (.cells #[] 3)).alloc (.cells #[.int .i64 y] 3)).drew w.heap.size (.slice (some ⟨w.heap.size, 0, none⟩) 0 0) []) := Lib.hid ((own_newI w w.heap.size w.heap.size rfl (Nat.le_refl _)).alloc (.cells #[.int .i64 y] 3))
        have B2 := Lib.hid (((Below.refl w.heap.size w).alloc (Nat.le_refl _) (.cells #[] 3)).alloc (by simp) (.cells #[.int .i64 y] 3)).drew
        have S2 : Hid (InI ((w.alloc (.cells #[] 3)).alloc (.cells #[.int .i64 y] 3)).drew (some ⟨w.heap.size + 1, 0, none⟩) [y]) := Lib.hid (in_oneI (w.alloc (.cells #[] 3)) (w.heap.size + 1) y (by simp))
        have O3 : Hid (OwnI ((w.alloc (.cells #[.int .i64 y] 3)).alloc (.cells #[] 3)).drew w.heap.size (.slice (some ⟨w.heap.size + 1, 0, none⟩) 0 0) []) := Lib.hid (own_newI (w.alloc (.cells #[.int .i64 y] 3)) w.heap.size (w.heap.size + 1) (by simp) (by omega))
        have B3 := Lib.hid (((Below.refl w.heap.size w).alloc (Nat.le_refl _) (.cells #[.int .i64 y] 3)).alloc (by simp) (.cells #[] 3)).drew
        have S3 : Hid (InI ((w.alloc (.cells #[.int .i64 y] 3)).alloc (.cells #[] 3)).drew (some ⟨w.heap.size, 0, none⟩) [y]) := Lib.hid ((in_oneI w w.heap.size y rfl).alloc (.cells #[] 3))
        have HM := Lib.hid hmin
        have HD := Lib.hid hdr
        clear hmin hdr
        go_wp2
        go_region_law (first
          | (refine step_appI (by rfl) (.tmp 33) (.tmp 36) (by rfl) w.heap.size (.slice (some ⟨w.heap.size, 0, none⟩) 0 0) [] (by rfl) (some ⟨b, 0, none⟩) k cap (l.take k) (by rfl) HM.out.symm O1.out ((HIN.out.below B1.out).take' k) nofun (by have e1 := HM.out; have e2 := HD.out; simp only [List.length_append, List.length_cons, List.length_nil] at e1 e2 ⊢; omega) B1.out.size ?_; intro v1 w1 ho1 hg1; have hb1 : Below w.heap.size w w1 := grown_oldI B1.out hg1 O1.out)
          | (refine step_appI (by rfl) (.tmp 33) (.tmp 36) (by rfl) w.heap.size (.slice (some ⟨w.heap.size, 0, none⟩) 0 0) [] (by rfl) (some ⟨b, 0, none⟩) k cap (l.take k) (by rfl) HM.out.symm O2.out ((HIN.out.below B2.out).take' k) nofun (by have e1 := HM.out; have e2 := HD.out; simp only [List.length_append, List.length_cons, List.length_nil] at e1 e2 ⊢; omega) B2.out.size ?_; intro v1 w1 ho1 hg1; have hb1 : Below w.heap.size w w1 := grown_oldI B2.out hg1 O2.out; have hs1 := S2.out.grown hg1 (by intro b off e; cases e; simp [Value.ownBlock]))
          | (refine step_appI (by rfl) (.tmp 33) (.tmp 36) (by rfl) w.heap.size (.slice (some ⟨w.heap.size + 1, 0, none⟩) 0 0) [] (by rfl) (some ⟨b, 0, none⟩) k cap (l.take k) (by rfl) HM.out.symm O3.out ((HIN.out.below B3.out).take' k) nofun (by have e1 := HM.out; have e2 := HD.out; simp only [List.length_append, List.length_cons, List.length_nil] at e1 e2 ⊢; omega) B3.out.size ?_; intro v1 w1 ho1 hg1; have hb1 : Below w.heap.size w w1 := grown_oldI B3.out hg1 O3.out; have hs1 := S3.out.grown hg1 (by intro b off e; cases e; simp [Value.ownBlock]))
          | (refine step_appI (by rfl) (.tmp 37) (.tmp 39) (by rfl) w.heap.size v1 ([] ++ (l.take k)) (by rfl) (some ⟨w.heap.size + 1, 0, none⟩) 1 1 [y] (by rfl) rfl ho1 hs1 nofun (by have e1 := HM.out; have e2 := HD.out; simp only [List.length_append, List.length_cons, List.length_nil] at e1 e2 ⊢; omega) hb1.size ?_; intro v2 w2 ho2 hg2; have hb2 : Below w.heap.size w w2 := grown_oldI hb1 hg2 ho1)
          | (refine step_appI (by rfl) (.tmp 37) (.tmp 39) (by rfl) w.heap.size v1 ([] ++ (l.take k)) (by rfl) (some ⟨w.heap.size, 0, none⟩) 1 1 [y] (by rfl) rfl ho1 hs1 nofun (by have e1 := HM.out; have e2 := HD.out; simp only [List.length_append, List.length_cons, List.length_nil] at e1 e2 ⊢; omega) hb1.size ?_; intro v2 w2 ho2 hg2; have hb2 : Below w.heap.size w w2 := grown_oldI hb1 hg2 ho1)
          | (refine step_appI (by rfl) (.tmp 37) (.tmp 39) (by rfl) w.heap.size v1 ([] ++ (l.take k)) (by rfl) (some ⟨w1.heap.size, 0, none⟩) 1 1 [y] (by rfl) rfl (ho1.alloc _) (in_oneI w1 w1.heap.size y rfl) nofun (by have e1 := HM.out; have e2 := HD.out; simp only [List.length_append, List.length_cons, List.length_nil] at e1 e2 ⊢; omega) (hb1.alloc hb1.size _).size ?_; intro v2 w2 ho2 hg2; have hb2 : Below w.heap.size w w2 := grown_oldI (hb1.alloc hb1.size _) hg2 (ho1.alloc _))
          | (refine step_appI (by rfl) (.tmp 40) (.tmp 43) (by rfl) w.heap.size v2 ([] ++ (l.take k) ++ [y]) (by rfl) (some ⟨b, k, none⟩) (l.length - k) (cap - k) (l.drop k) (by rfl) HD.out.symm ho2 ((HIN.out.below hb2).drop0 k) nofun (by have e1 := HM.out; have e2 := HD.out; simp only [List.length_append, List.length_cons, List.length_nil] at e1 e2 ⊢; omega) hb2.size ?_; intro v3 w3 ho3 hg3; have hb3 : Below w.heap.size w w3 := grown_oldI hb2 hg3 ho2))
        all_goals go_wp2
        all_goals go_ret
        all_goals
          have hfin : OwnI w3 base v3 (putI l y) := by
            rw [HE.out]
            have h := ho3.mono HB0.out
            simpa using h
          exact PutsI.mk hfin hb3

theorem puti_any (base : Nat) (a : Option Addr) (cap : Nat) (l : List Int) (y : Int) (w : World) (hl : l.length ≤ 8500000) (h0 : 0 < l.length) (hown : OwnI w base (.slice a l.length cap) l) (hbase : base ≤ w.heap.size) :
    Calls Try.prog 63 #[.slice a l.length cap, .int .i64 y] w (PutsI w base (putI l y)) := by
  obtain ⟨⟨b, rfl⟩, hc⟩ := owni_some hown h0
  exact puti_some base b cap l y w hl hown hc hbase

end Go.Proofs.Ytookcggmapldeaa
