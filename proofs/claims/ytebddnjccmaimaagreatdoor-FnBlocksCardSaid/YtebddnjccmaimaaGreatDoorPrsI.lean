/-
  What impl.pairsOf answers: every two of the members. By an AI agent.
-/
import Derived.Test.YtebddnjccmaimaaGreatDoorGPr
import Derived.Test.YtebddnjccmaimaaGreatDoorGMem
namespace Go.Proofs.YtebddnjccmaimaaGreatDoor
open Go.RowKit
set_option linter.unusedVariables false

theorem InI.from {w : World} {b off c k : Nat} {m : List Int} {A : Option Addr} (h : InI w (some ⟨b, off, none⟩) m) (hc : m.length ≤ c) (hk : k < m.length) (hA : (if c = k + 1 then some ⟨b, off, none⟩ else some ⟨b, off + (k + 1), none⟩ : Option Addr) = A) : InI w A (m.drop (k + 1)) := by
  intro h0
  rw [List.length_drop] at h0
  rw [if_neg (by omega)] at hA
  subst hA
  obtain ⟨b', off', e, hb, hx⟩ := h (by omega)
  injection e with e
  injection e with e1 e2
  subst e1 e2
  refine ⟨b, off + (k + 1), rfl, hb, fun j x hj => ?_⟩
  rw [List.getElem?_drop] at hj
  have h1 := hx _ _ hj
  rwa [← Nat.add_assoc] at h1

theorem wpList_appP {ops : Array Oper} {rest : List Oper} {o : Oper} {a : Act} {w : World} {Q : Exit → Act → World → Prop} (hgd : o.guard = none) (s x : Operand)
    (ho : o.op = .call { callee := .builtin .append, args := #[s, x], argTypes := #[27, 27] })
    (base : Nat) (v : Value) (l : List IP) (hs : a.eval s = v) (hown : OwnP w base v l) (ad : Option Addr) (m c : Nat) (ms : List IP) (hx : a.eval x = .slice ad m c) (hm : m = ms.length)
    (hin : InP w ad ms) (hn : ad = none → c = 0) (hsz : l.length + ms.length ≤ 4000000) (hbase : base ≤ w.heap.size)
    (h : ∀ v' w', OwnP w' base v' (l ++ ms) → w.grownBy w' v.ownBlock → wpList Tryz.prog ops Q rest (a.put o.dst v') w') :
    wpList Tryz.prog ops Q (o :: rest) a w := by
  subst hm
  refine wpList_plain hgd fun K hK => ?_
  obtain ⟨v', w', hr, h2, h3⟩ := run_appP o.type base v l w hown ad c ms hin hn hsz hbase
  unfold Oper.wp execOp
  simp only [ho, resolve, invoke, builtin, Sem.run_bind, Sem.run_pure, Result.andThen_ok, List.map_toArray, List.map_cons, List.map_nil, hs, hx, hr]
  exact hK _ _ (h v' w' h2 h3)
theorem InI.empty (w : World) (a : Option Addr) {l : List Int} (h : l.length = 0) : InI w a l := fun h0 => absurd h0 (by omega)
theorem OwnP.snoc {w : World} {base : Nat} {v : Value} {q : List IP} {x y : Int} (h : w.ownsRow base 34 2 v (q.length + 1) (flatP q ++ [.int .i64 x, .int .i64 y])) : OwnP w base v (q ++ [(x, y)]) := by
  unfold OwnP
  rw [List.length_append, flatP_app]
  exact h
theorem take_map_succ {L : List Int} {n : Nat} {x y : Int} (h : L[n]? = some y) : (L.take (n + 1)).map (fun z => (x, z)) = (L.take n).map (fun z => (x, z)) ++ [(x, y)] := by
  obtain ⟨hlt, he⟩ := List.getElem?_eq_some_iff.1 h
  rw [List.take_succ_eq_append_getElem hlt, he, List.map_append]
  rfl

set_option maxRecDepth 100000 in
set_option maxHeartbeats 2000000 in
theorem prs_of (a : Option Addr) (c : Nat) (m : List Int) (r : List IP) (w : World) (hr : prsN m = r) (h : InI w a m) (hc : m.length ≤ c) (hl : m.length ≤ 12) :
    Calls Tryz.prog 46 #[.slice a m.length c] w (GivesP w r) := by
  have HIN := Lib.hid h
  have HR := Lib.hid hr
  clear h hr
  obtain ⟨i1, hi1, hy0, hy1, hy2⟩ := info_parts info_ip
  go_enter Tryz.func46, Tryz.ntmps46
  go_wp2
  go_loopw [3, 10] (fun v i wr => ∃ (k : Nat) (av : Option Addr) (cv : Nat) (q : List IP), k ≤ m.length ∧ i = .int .i64 k ∧ v = .slice av q.length cv ∧ q = prsT m k ∧ OwnP wr w.heap.size (.slice av q.length cv) q ∧ Below w.heap.size w wr) (fun _ i _ => m.length - (intOf i).toNat)
  case atStart => exact ⟨0, _, _, [], Nat.zero_le _, rfl, rfl, rfl, OwnP.nil _ _, Below.refl _ _⟩
  case round =>
    obtain ⟨k, av, cv, q, hk, rfl, rfl, hq, hown, hb⟩ := hrel
    have HQ := Lib.hid hq
    have HOWN := Lib.hid hown
    have HB := Lib.hid hb
    clear hq hown hb
    by_cases hlt : k < m.length
    · obtain ⟨b, off, rfl, hbw, hx⟩ := HIN.out (by omega)
      have hmk := List.getElem?_eq_getElem hlt
      have g0 : wr.cell? ⟨b, off + k, none⟩ = some (.int .i64 m[k]) := by rw [HB.out.cell (p := ⟨b, off + k, none⟩) hbw]; exact hx k _ hmk
      have HMK := Lib.hid hmk
      generalize m[k] = x at g0 HMK
      obtain ⟨L, hL⟩ : ∃ L, m.drop (k + 1) = L := ⟨_, rfl⟩
      have hLl : m.length - (k + 1) = L.length := by rw [← hL, List.length_drop]
      have HL := Lib.hid hL
      have hql : q.length ≤ 144 := by
        rw [HQ.out]
        have h1 := prsT_len m k hk
        have h2 : k * m.length ≤ 12 * 12 := Nat.mul_le_mul (by omega) hl
        omega
      clear hx hmk hL
      by_cases hck : c = k + 1
      case' pos => have HAI := Lib.hid (InI.empty w (some ⟨b, off, none⟩) (l := L) (by omega))
      case' neg => have HAI := Lib.hid (show InI w (some ⟨b, off + (k + 1), none⟩) L by rw [← HL.out]; exact HIN.out.from hc hlt (if_neg hck))
      all_goals
        go_wp2
        try rw [hLl]
        go_loopw [3, 20] (fun v i wr' => ∃ (n : Nat) (av : Option Addr) (cv : Nat) (p : List IP), n ≤ L.length ∧ i = .int .i64 n ∧ v = .slice av p.length cv ∧ p = q ++ (L.take n).map (fun y => (x, y)) ∧ OwnP wr' w.heap.size (.slice av p.length cv) p ∧ Below w.heap.size w wr') (fun _ i _ => L.length - (intOf i).toNat)
        case atStart => exact ⟨0, _, _, q, Nat.zero_le _, rfl, rfl, by simp, HOWN.out, HB.out⟩
        case round =>
          obtain ⟨n, av', cv', p, hn, rfl, rfl, hp, hown, hb⟩ := hrel
          have HP := Lib.hid hp
          have HOWN2 := Lib.hid hown
          have HB2 := Lib.hid hb
          have hpl : p.length = q.length + n := by rw [hp, List.length_append, List.length_map, List.length_take]; omega
          clear hp hown hb
          by_cases hlt2 : n < L.length
          · first
            | (exfalso; omega)
            |
              obtain ⟨b2, o2, e, hb2, hx2⟩ := HAI.out (by omega)
              have hLn := List.getElem?_eq_getElem hlt2
              have g2 := hx2 n _ hLn
              have HLN := Lib.hid hLn
              generalize L[n] = y at g2 HLN
              rw [← HB2.out.cell hb2] at g2
              cases e
              have hsw := HB2.out.size
              clear hx2 hLn hb2
              go_wp2_with (at_builtin; refine wpList_append_own_at _ rfl _ _ 27 rfl w.heap.size 34 i1 _ 2 16 Tryz.underlying27 hi1 hy0 hy1 hy2 rfl (by decide) _ _ _ rfl (World.ownsRow.alloc HOWN2.out _) ⟨_, 0, none⟩ 1 1 [.int .i64 x, .int .i64 y] rfl rfl (two_cells _ _ _ _) (by simp [Value.oneCell']) (by unfold maxLen; omega) (by omega) (by simp; omega) ?_; intro v' w9 hown9 hg9 hnil9 hat9; refine Hid.out ?_)
              have HO9 := Lib.hid (OwnP.snoc hown9)
              have HB9 := Lib.hid ((HB2.out.alloc HB2.out.size _).grown hg9 (by simp; omega) (fun j hj => (World.ownsRow.lt HOWN2.out j hj).1))
              clear hown9 hg9 hnil9 hat9
              obtain ⟨a9, c9, rfl⟩ := HO9.out.shape
              refine Lib.hid ?_
              go_wp2
              go_roundw
              case rel => exact ⟨n + 1, a9, c9, _, by omega, rfl, rfl, by rw [take_map_succ HLN.out, ← List.append_assoc, ← HP.out], HO9.out, HB9.out⟩
              case measure => simp [intOf]; omega
          · have hn2 : n = L.length := by omega
            have HP2 := Lib.hid (show p = prsT m (k + 1) by rw [HP.out, prsT_succ HMK.out, HL.out, ← HQ.out, hn2, List.take_length])
            go_wp2
            go_roundw
            case rel => exact ⟨k + 1, av', cv', p, by omega, rfl, rfl, HP2.out, HOWN2.out, HB2.out⟩
            case measure => simp [intOf]; omega
    · have hk2 : k = m.length := by omega
      go_wp2
      go_ret
      have e : q = r := by rw [HQ.out, hk2, ← HR.out]; rfl
      subst e
      exact ⟨av, cv, rfl, HOWN.out, HB.out⟩

end Go.Proofs.YtebddnjccmaimaaGreatDoor
