/-
  Texts laid together: CmpI, OrdC, OrdP, OrdCf, TcT, OrdI, OrdI2. By an AI agent.
-/
import Derived.Test.YthjbekgognfiiaaGreatJ1
import Derived.Test.YthjbekgognfiiaaGreatJ2
import Derived.Test.YthjbekgognfiiaaGreatJ4
import Derived.Deep.RegionWith
import Derived.Shelf.SlSortCmp.WholeK
import Derived.StillTailTactics
import Derived.Test.YthjbekgognfiiaaGreatFrqT
import Derived.Test.YthjbekgognfiiaaGreatShelfF
/-
  cmp.Compare at int. By an AI agent.
-/
namespace Go.Proofs.YthjbekgognfiiaaGreat
open Go.RowKit
set_option linter.unusedVariables false

def cmpI (x y : Int) : Int := if x < y then -1 else if y < x then 1 else 0

set_option maxRecDepth 100000 in
theorem nanI_is (x : Int) (w : World) :
    Calls Tryz.prog 111 #[.int .i64 x] w fun e w' => e = .returned (.bool false) ∧ w' = w := by
  go_enter Tryz.func111, Tryz.ntmps111
  go_wp2
  go_ret
  exact ⟨by first | rfl | simp, rfl⟩

set_option maxRecDepth 100000 in
theorem cmpI_is (x y r : Int) (w : World) (h : cmpI x y = r) :
    Calls Tryz.prog 85 #[.int .i64 x, .int .i64 y] w fun e w' => e = .returned (.int .i64 r) ∧ w' = w := by
  by_cases h1 : x < y
  · obtain rfl : -1 = r := by rw [← h, cmpI, if_pos h1]
    clear h
    go_enter Tryz.func85, Tryz.ntmps85
    go_wp2_with (go_at_call 111; refine (nanI_is _ _).mono ?_; rintro e w' ⟨rfl, rfl⟩)
    go_ret
    exact ⟨rfl, rfl⟩
  · by_cases h2 : y < x
    · obtain rfl : 1 = r := by rw [← h, cmpI, if_neg h1, if_pos h2]
      clear h
      go_enter Tryz.func85, Tryz.ntmps85
      go_wp2_with (go_at_call 111; refine (nanI_is _ _).mono ?_; rintro e w' ⟨rfl, rfl⟩)
      go_ret
      exact ⟨rfl, rfl⟩
    · obtain rfl : 0 = r := by rw [← h, cmpI, if_neg h1, if_neg h2]
      clear h
      go_enter Tryz.func85, Tryz.ntmps85
      go_wp2_with (go_at_call 111; refine (nanI_is _ _).mono ?_; rintro e w' ⟨rfl, rfl⟩)
      go_ret
      exact ⟨rfl, rfl⟩

end Go.Proofs.YthjbekgognfiiaaGreat

/-
  The order of pairs by count and token: cmp.Compare at int, cmp.Or, impl.compareFrequencies. By an AI agent.
-/
namespace Go.Proofs.YthjbekgognfiiaaGreat
open Go.RowKit Go.Sort
set_option linter.unusedVariables false

def orI (x y : Int) : Int := if x = 0 then y else x

set_option maxRecDepth 100000 in
theorem or_is (g : Nat) (x y r : Int) (w : World) (h0 : w.cell? ⟨g, 0, none⟩ = some (.int .i64 x)) (h1 : w.cell? ⟨g, 1, none⟩ = some (.int .i64 y)) (h : orI x y = r) :
    Calls Tryz.prog 146 #[.slice (some ⟨g, 0, none⟩) 2 2] w fun e w' => e = .returned (.int .i64 r) ∧ w' = w := by
  by_cases hx : x = 0
  · subst hx
    obtain rfl : y = r := by rw [← h, orI, if_pos rfl]
    clear h
    go_enter Tryz.func146, Tryz.ntmps146
    go_wp2
    go_loop [8] (fun i => i = .int .i64 (0 : Nat) ∨ i = .int .i64 (1 : Nat) ∨ (i = .int .i64 (2 : Nat) ∧ y = 0)) (fun i => 2 - (intOf i).toNat)
    case atStart => exact .inl rfl
    case round =>
      rcases hrel with rfl | rfl | ⟨rfl, rfl⟩
      · go_wp2
        go_round
        case rel => exact .inr (.inl (by go_num))
        case measure => simp [intOf]
      · by_cases hy : y = 0
        · subst hy
          go_wp2
          go_round
          case rel => exact .inr (.inr ⟨by go_num, trivial⟩)
          case measure => simp [intOf]
        · go_wp2
          go_ret
          exact ⟨rfl, rfl⟩
      · go_wp2
        go_ret
        exact ⟨rfl, rfl⟩
  · obtain rfl : x = r := by rw [← h, orI, if_neg hx]
    clear h
    go_enter Tryz.func146, Tryz.ntmps146
    go_wp2
    go_loop [8] (fun i => i = .int .i64 (0 : Nat)) (fun i => 2 - (intOf i).toNat)
    case atStart => rfl
    case round =>
      subst hrel
      go_wp2
      go_ret
      exact ⟨rfl, rfl⟩

/-- by count, then by token -/
def cfR (x y : TC) : Int := orI (cmpI x.2 y.2) (cmpR x.1 y.1)

end Go.Proofs.YthjbekgognfiiaaGreat

/-
  The order of pairs by count and token: plain facts. By an AI agent.
-/
namespace Go.Proofs.YthjbekgognfiiaaGreat
open Go.RowKit Go.Sort Go.Shelf
set_option linter.unusedVariables false

theorem cf_neg (x y : TC) : cfR x y < 0 ↔ x.2 < y.2 ∨ (x.2 = y.2 ∧ x.1 < y.1) := by
  unfold cfR orI cmpI cmpR
  by_cases h1 : x.2 < y.2
  · rw [if_pos h1]
    simp [h1]
  · rw [if_neg h1]
    by_cases h2 : y.2 < x.2
    · rw [if_pos h2]
      simp
      omega
    · rw [if_neg h2]
      have e : x.2 = y.2 := by omega
      simp only [if_true, e, Int.lt_irrefl, true_and, false_or]
      by_cases h3 : x.1 = y.1
      · rw [if_pos h3, h3]
        exact ⟨fun h => absurd h (by omega), fun h => absurd h (List.lt_irrefl _)⟩
      · rw [if_neg h3]
        by_cases h4 : x.1 < y.1
        · rw [if_pos h4]
          exact ⟨fun _ => h4, fun _ => by omega⟩
        · rw [if_neg h4]
          exact ⟨fun h => absurd h (by omega), fun h => absurd h h4⟩
theorem lt_cf (x y : TC) : ltOf cfR x y = true ↔ x.2 < y.2 ∨ (x.2 = y.2 ∧ x.1 < y.1) := by
  unfold ltOf
  rw [decide_eq_true_eq]
  exact cf_neg x y
theorem lt_cf_no (x y : TC) : ltOf cfR x y = false ↔ y.2 < x.2 ∨ (y.2 = x.2 ∧ y.1 ≤ x.1) := by
  rw [← Bool.not_eq_true, lt_cf]
  constructor
  · intro h
    rcases Int.lt_trichotomy x.2 y.2 with h1 | h1 | h1
    · exact absurd (.inl h1) h
    · exact .inr ⟨h1.symm, List.not_lt.1 fun h2 => h (.inr ⟨h1, h2⟩)⟩
    · exact .inl h1
  · rintro (h | ⟨h1, h2⟩)
    · rintro (k | ⟨k1, k2⟩) <;> omega
    · rintro (k | ⟨k1, k2⟩)
      · omega
      · exact List.not_lt.2 h2 k2
theorem cf_swo : SWO (ltOf cfR) where
  irrefl x := (lt_cf_no x x).2 (.inr ⟨rfl, List.le_refl _⟩)
  trans x y z h1 h2 := by
    rw [lt_cf] at *
    rcases h1 with h1 | ⟨h1, h3⟩
    · rcases h2 with h2 | ⟨h2, h4⟩ <;> exact .inl (by omega)
    · rcases h2 with h2 | ⟨h2, h4⟩
      · exact .inl (by omega)
      · exact .inr ⟨by omega, str_lt_trans h3 h4⟩
  ntrans x y z h1 h2 := by
    rw [lt_cf_no] at *
    rcases h1 with h1 | ⟨h1, h3⟩
    · rcases h2 with h2 | ⟨h2, h4⟩ <;> exact .inl (by omega)
    · rcases h2 with h2 | ⟨h2, h4⟩
      · exact .inl (by omega)
      · exact .inr ⟨by omega, str_le_trans h4 h3⟩

/-- the tokens with their frequencies -/
def prsL (tab : List TC) (l : List Str) : List TC := l.map fun x => (x, frqL tab x)
theorem prs_len (tab : List TC) (l : List Str) : (prsL tab l).length = l.length := by simp [prsL]
theorem prs_at {tab : List TC} {l : List Str} {k : Nat} {x : Str} (h : l[k]? = some x) : (prsL tab l)[k]? = some (x, frqL tab x) := by simp [prsL, h]
theorem prs_fst (tab : List TC) (l : List Str) : (prsL tab l).map (·.1) = l := by
  unfold prsL
  rw [List.map_map]
  exact List.map_id' _

/-- a sorted permutation of the pairs has the tokens in order -/
theorem prs_sorted {tab : List TC} {l : List Str} {d : Array TC} (hp : PermIn 0 (prsL tab l).toArray.size (prsL tab l).toArray d) (hs : SortedIn (ltOf cfR) 0 (prsL tab l).toArray.size d) : d.size = l.length ∧ d.toList.map (·.1) = ordR tab l := by
  obtain ⟨hsz, _, hperm⟩ := hp
  have e1 : d.extract 0 (prsL tab l).toArray.size = d := by rw [← hsz]; exact Array.extract_size
  rw [e1, Array.extract_size] at hperm
  have hn : d.size = l.length := by rw [hsz]; simp [prsL]
  refine ⟨hn, ord_unique ?_ ?_⟩
  · have h := hperm.map (·.1)
    rwa [prs_fst] at h
  · rw [List.pairwise_map, List.pairwise_iff_getElem]
    intro i j hi hj hij
    have h1 := hs i j (Nat.zero_le _) hij (by rw [← hsz]; simpa using hj)
    rw [getElem!_pos d j (by simpa using hj), getElem!_pos d i (by simpa using hi)] at h1
    have m1 : d.toList[i] ∈ prsL tab l := hperm.mem_iff.1 (List.getElem_mem hi)
    have m2 : d.toList[j] ∈ prsL tab l := hperm.mem_iff.1 (List.getElem_mem hj)
    obtain ⟨x, hx, ex⟩ := List.mem_map.1 m1
    obtain ⟨y, hy, ey⟩ := List.mem_map.1 m2
    rw [lt_cf_no] at h1
    rw [show d[i]'(by simpa using hi) = d.toList[i] from rfl, show d[j]'(by simpa using hj) = d.toList[j] from rfl, ← ex, ← ey] at h1
    rw [← ex, ← ey]
    exact kle_iff.2 h1

end Go.Proofs.YthjbekgognfiiaaGreat

/-
  What impl.compareFrequencies answers. By an AI agent.
-/
namespace Go.Proofs.YthjbekgognfiiaaGreat
open Go.RowKit Go.Sort
set_option linter.unusedVariables false

theorem cf_world (W : World) (o1 o2 o3 : Obj) : (((W.alloc o1).alloc o2).alloc o3).drew = grow (W.drewN 1) #[o1, o2, o3] := by
  have h : ((W.alloc o1).alloc o2).alloc o3 = grow W #[o1, o2, o3] := by
    rw [alloc_eq_grow, alloc_eq_grow, alloc_eq_grow, grow_grow, grow_grow]
    rfl
  rw [h]
  rfl

/-- draws and new blocks alone -/
def Grew (W w' : World) : Prop := ∃ q os', w' = grow (W.drewN q) os'
theorem grew_cf (W : World) (o1 o2 o3 : Obj) : Grew W (((W.alloc o1).alloc o2).alloc o3).drew := ⟨1, _, cf_world W o1 o2 o3⟩

set_option maxRecDepth 100000 in
set_option maxHeartbeats 400000 in
theorem cf_is (s t : ByteArray) (x y r : Int) (W : World) (h : orI (cmpI x y) (cmpR s.data.toList t.data.toList) = r) :
    Calls Tryz.prog 140 #[.agg #[.string s, .int .i64 x], .agg #[.string t, .int .i64 y]] W fun e w' => e = .returned (.int .i64 r) ∧ Grew W w' := by
  obtain ⟨u, hu⟩ : ∃ u, cmpI x y = u := ⟨_, rfl⟩
  obtain ⟨v, hv⟩ : ∃ v, cmpR s.data.toList t.data.toList = v := ⟨_, rfl⟩
  rw [hu, hv] at h
  have HU := Lib.hid hu
  have HV := Lib.hid hv
  have HR := Lib.hid h
  clear hu hv h
  obtain ⟨W2, hW2⟩ : ∃ W2, W2 = (W.alloc (.cells #[.string s, .int .i64 x] 109)).alloc (.cells #[.string t, .int .i64 y] 109) := ⟨_, rfl⟩
  have c0 : W2.cell? ⟨W.heap.size, 0, none⟩ = some (.string s) := by rw [hW2]; simp [go_sem]
  have c1 : W2.cell? ⟨W.heap.size, 1, none⟩ = some (.int .i64 x) := by rw [hW2]; simp [go_sem]
  have c2 : W2.cell? ⟨W.heap.size + 1, 0, none⟩ = some (.string t) := by rw [hW2]; simp [go_sem]
  have c3 : W2.cell? ⟨W.heap.size + 1, 1, none⟩ = some (.int .i64 y) := by rw [hW2]; simp [go_sem]
  have HW2 := Lib.hid hW2
  go_enter Tryz.func140, Tryz.ntmps140
  go_wp2
  rw [← hW2]
  clear hW2
  refine wp_region_still_tail 10 (by kernel_rfl) (by kernel_rfl) ?_
  simp only [List.take_succ_cons, List.take_zero, List.drop_succ_cons, List.drop_zero]
  still_step
  still_step
  still_step
  still_step
  still_call (cmpI_is _ _ _ _ HU.out)
  still_step
  still_step
  still_step
  still_step
  still_call (cmp_is _ _ _ _ HV.out)
  refine wpStill_nil ?_
  change wpList _ _ _ _ _ W2.drew
  have hs : W2.heap.size = W.heap.size + 1 + 1 := by rw [HW2.out]; simp
  have HSZ := Lib.hid hs
  generalize hd : W2.drew = W3
  have HW3 := Lib.hid hd
  have h3 : W3.heap.size = W2.heap.size := by rw [← hd]; rfl
  have HO := Lib.hid (or_is W3.heap.size u v r (W3.alloc (.cells #[.int .i64 u, .int .i64 v] 3)) (by simp [go_sem]) (by simp [go_sem]) HR.out)
  clear hs hd h3 c0 c1 c2 c3
  go_wp2_with (go_at_call 146; (refine HO.out.mono ?_); rintro e w1 ⟨rfl, rfl⟩)
  go_ret
  refine ⟨rfl, ?_⟩
  rw [← HW3.out, HW2.out]
  exact grew_cf W _ _ _

end Go.Proofs.YthjbekgognfiiaaGreat

/-
  What the laws' own szTokenCountS, toTokenCountS and eqTokenCountS do. By an AI agent.
-/
namespace Go.Proofs.YthjbekgognfiiaaGreat
open Go.RowKit
set_option linter.unusedVariables false

set_option maxRecDepth 100000 in
theorem tz_one (s : ByteArray) (z : Int) (left : Nat) (w : World) (hs : s.size ≤ maxLen) (hl : left ≤ 1048576) (r : Int) (hr : (if s.size ≤ left then (left : Int) - s.size else -1) = r) :
    Calls Tryz.prog 88 #[.agg #[.string s, .int .i64 z], .int .i64 left] w fun e w' => e = .returned (.int .i64 r) ∧ Below w.heap.size w w' := by
  unfold maxLen at hs
  by_cases h : s.size ≤ left
  · rw [if_pos h] at hr
    subst hr
    go_enter Tryz.func88, Tryz.ntmps88
    go_wp2
    go_ret
    exact ⟨rfl, (Below.refl _ _).alloc (Nat.le_refl _) _⟩
  · rw [if_neg h] at hr
    subst hr
    go_enter Tryz.func88, Tryz.ntmps88
    go_wp2
    go_ret
    exact ⟨rfl, (Below.refl _ _).alloc (Nat.le_refl _) _⟩

set_option maxRecDepth 100000 in
theorem tz_any (a : Option Addr) (cap : Nat) (l : List TC) (left : Nat) (w : World) (hl : l.length ≤ maxLen) (hin : InT w a l) (hx : ∀ x ∈ l, x.1.length ≤ maxLen) (hleft : left ≤ 1048576) :
    Calls Tryz.prog 52 #[.slice a l.length cap, .int .i64 left] w fun e w' => e = .returned (.int .i64 (tzR l left)) ∧ Below w.heap.size w w' := by
  unfold maxLen at hl
  have HX := Lib.hid hx
  have HIN := Lib.hid hin
  clear hx hin
  by_cases h1 : l.length ≤ left
  · go_enter Tryz.func52, Tryz.ntmps52
    go_wp2
    go_loopw [1, 5] (fun r i wr => ∃ k m : Nat, k ≤ l.length ∧ i = .int .i64 k ∧ r = .int .i64 m ∧ m ≤ left ∧ m + tzT l k = left ∧ Below w.heap.size w wr) (fun _ i _ => l.length - (intOf i).toNat)
    case atStart => exact ⟨0, left - l.length, Nat.zero_le _, rfl, by rw [Int.ofNat_sub h1], by omega, by simp [tzT]; omega, Below.refl _ _⟩
    case round =>
      obtain ⟨k, m, hk, rfl, rfl, hm, hs, hb⟩ := hrel
      have HS := Lib.hid hs
      have HB := Lib.hid hb
      clear hs hb
      by_cases hlt : k < l.length
      · obtain ⟨b, off, rfl, hbw, hc⟩ := HIN.out (by omega)
        obtain ⟨x, s, hx1, hx2, hx3, hx4⟩ := tc_at hlt
        obtain ⟨hc0, hc1⟩ := hc k x hx1
        have hcell0 : wr.cell? ⟨b, off + k * 2, none⟩ = some (.string s) := by rw [HB.out.cell (p := ⟨b, off + k * 2, none⟩) hbw, ← hx3]; exact hc0
        have hcell1 : wr.cell? ⟨b, off + k * 2 + 1, none⟩ = some (.int .i64 x.2) := by rw [HB.out.cell (p := ⟨b, off + k * 2 + 1, none⟩) hbw]; exact hc1
        have HSZ := Lib.hid (show s.size ≤ maxLen by rw [hx4]; exact HX.out x (List.mem_of_getElem? hx1))
        have HT := Lib.hid (tzT_succ hx1)
        have HT2 := Lib.hid (tzT_le (l := l) (show k + 1 ≤ l.length from hlt))
        have HZ := Lib.hid hx4
        generalize x.2 = z at hcell1
        clear hc hc0 hc1 hx1 hx2 hx3 hx4
        by_cases hn : s.size ≤ m
        · go_wp2_with (go_at_call 88; (refine (tz_one s _ m _ HSZ.out (by omega) ((m - s.size : Nat) : Int) (by rw [if_pos hn]; omega)).mono ?_); rintro e w1 ⟨rfl, hb1⟩; have HB1 := Lib.hid hb1; clear hb1)
          go_roundw
          case rel => exact ⟨k + 1, m - s.size, by omega, by go_num, rfl, by omega, by have := HS.out; have := HT.out; have := HZ.out; omega, HB.out.trans (HB1.out.mono HB.out.size)⟩
          case measure => simp [intOf]; omega
        · go_wp2_with (go_at_call 88; (refine (tz_one s _ m _ HSZ.out (by omega) (-1) (by rw [if_neg hn])).mono ?_); rintro e w1 ⟨rfl, hb1⟩; have HB1 := Lib.hid hb1; clear hb1)
          go_ret
          exact ⟨ret_int (by rw [tzR_no (by have := HS.out; have := HT.out; have := HT2.out; have := HZ.out; unfold tzL; omega)]), HB.out.trans (HB1.out.mono HB.out.size)⟩
      · obtain rfl : k = l.length := by omega
        go_wp2
        go_ret
        exact ⟨ret_int (by rw [tzR_yes (by have := HS.out; unfold tzL; omega)]; have := HS.out; unfold tzL; omega), HB.out⟩
  · go_enter Tryz.func52, Tryz.ntmps52
    go_wp2
    go_ret
    exact ⟨ret_int (by rw [tzR_no (by have := tzL_len l; omega)]), Below.refl _ _⟩

theorem tz_no {w0 : World} (a : Option Addr) (cap : Nat) (l : List TC) (left : Nat) (w : World) (h : ArgT w0 a l) (hb : Below w0.heap.size w0 w) (hleft : left ≤ 1048576) (hn : ¬ tzL l ≤ left) :
    Calls Tryz.prog 52 #[.slice a l.length cap, .int .i64 left] w fun e w' => e = .returned (.int .i64 (-1)) ∧ Below w.heap.size w w' :=
  (tz_any a cap l left w h.2.1 (h.1.below hb) h.2.2 hleft).mono fun e w' ⟨he, hw⟩ => ⟨by rw [he, tzR_no hn], hw⟩
theorem tz_yes {w0 : World} (a : Option Addr) (cap : Nat) (l : List TC) (left r : Nat) (w : World) (h : ArgT w0 a l) (hb : Below w0.heap.size w0 w) (hleft : left ≤ 1048576) (hr : r + tzL l = left) :
    Calls Tryz.prog 52 #[.slice a l.length cap, .int .i64 left] w fun e w' => e = .returned (.int .i64 r) ∧ Below w.heap.size w w' :=
  (tz_any a cap l left w h.2.1 (h.1.below hb) h.2.2 hleft).mono fun e w' ⟨he, hw⟩ => ⟨by rw [he, tzR_yes (by omega)]; congr 3; omega, hw⟩

theorem two_new (w : World) (x y : Value) (T : TypeId) : ∀ j u, [x, y][j]? = some u → (w.alloc (.cells #[x, y] T)).cell? ((⟨w.heap.size, 0, none⟩ : Addr).add j) = some u := by
  intro j u hj
  match j, hj with
  | 0, hj => simp at hj; subst hj; simp [go_sem, Addr.add]
  | 1, hj => simp at hj; subst hj; simp [go_sem, Addr.add]

theorem grown_below_none {w w' : World} (h : Below w.heap.size w w') : w.grownBy w' none := ⟨h.os, h.tape, h.output, h.size, fun k hk _ => h.block k hk⟩
theorem rest_two {l : List TC} {k : Nat} {rest : List Value} (h : (flatT (l.take k) ++ rest).length = l.length * 2) (hk : k < l.length) : ∃ y0 y1 r, rest = y0 :: y1 :: r := by
  rw [List.length_append, flat_len, List.length_take] at h
  match rest, h with
  | [], h => simp at h; omega
  | [_], h => simp at h; omega
  | y0 :: y1 :: r, _ => exact ⟨y0, y1, r, rfl⟩
theorem flat_take_len {l : List TC} {k : Nat} (hk : k ≤ l.length) : (flatT (l.take k)).length = k * 2 := by rw [flat_len, List.length_take, Nat.min_eq_left hk]
theorem flat_gap {l : List TC} {k : Nat} {y0 y1 : Value} {r : List Value} (hk : k ≤ l.length) : (flatT (l.take k) ++ y0 :: y1 :: r)[k * 2]? = some y0 ∧ (flatT (l.take k) ++ y0 :: y1 :: r)[k * 2 + 1]? = some y1 := by
  have h := flat_take_len hk
  constructor
  · rw [List.getElem?_append_right (by omega), h, Nat.sub_self]; rfl
  · rw [List.getElem?_append_right (by omega), h, show k * 2 + 1 - k * 2 = 1 by omega]; rfl
theorem flat_fill {l : List TC} {k : Nat} {x : TC} {y0 y1 : Value} {r : List Value} (hx : l[k]? = some x) : ((flatT (l.take k) ++ y0 :: y1 :: r).set (k * 2) (encStr x.1)).set (k * 2 + 1) (.int .i64 x.2) = flatT (l.take (k + 1)) ++ r := by
  have hlt := (List.getElem?_eq_some_iff.1 hx).1
  have h := flat_take_len (l := l) (k := k) (by omega)
  rw [List.set_append_right _ _ (by omega), h, Nat.sub_self, List.set_append_right _ _ (by omega), h, show k * 2 + 1 - k * 2 = 1 by omega, tc_take hx, flat_snoc]
  simp [encT]

set_option maxRecDepth 100000 in
theorem tto_one (s : ByteArray) (z : Int) (w : World) :
    Calls Tryz.prog 90 #[.agg #[.string s, .int .i64 z]] w fun e w' => e = .returned (.agg #[.string s, .int .i64 z]) ∧ Below w.heap.size w w' := by
  go_enter Tryz.func90, Tryz.ntmps90
  go_wp2
  generalize hw : ((w.alloc (Obj.cells #[Value.string s, Value.int IntKind.i64 z] 116)).alloc (Obj.cells #[Value.string s, Value.int IntKind.i64 z] 109)) = w1
  have hB : Below w.heap.size w w1 := by rw [← hw]; exact ((Below.refl _ _).alloc (Nat.le_refl _) _).alloc (by simp) _
  have e0 : (w1.alloc (Obj.cells #[Value.string s, Value.int IntKind.i64 z] 109)).cell? ⟨w.heap.size + 1, 0, none⟩ = some (.string s) := by rw [← hw]; simp [go_sem]
  have e1 : (w1.alloc (Obj.cells #[Value.string s, Value.int IntKind.i64 z] 109)).cell? ⟨w.heap.size + 1, 1, none⟩ = some (.int .i64 z) := by rw [← hw]; simp [go_sem]
  refine bodyPost_ret (v := .agg #[.string s, .int .i64 z]) (by simp [results, Tryz.results90, go_sem, e0, e1]) rfl ⟨rfl, hB.alloc hB.size _⟩

set_option maxRecDepth 100000 in
theorem teq_one (s : ByteArray) (z : Int) (w : World) :
    Calls Tryz.prog 92 #[.agg #[.string s, .int .i64 z], .agg #[.string s, .int .i64 z]] w fun e w' => e = .returned (.bool true) ∧ Below w.heap.size w w' := by
  go_enter Tryz.func92, Tryz.ntmps92
  go_wp2
  go_ret
  exact ⟨rfl, ((Below.refl _ _).alloc (Nat.le_refl _) _).alloc (by simp) _⟩

set_option maxRecDepth 100000 in
theorem tto_any (a : Option Addr) (cap : Nat) (l : List TC) (w : World) (hl : l.length ≤ 4000000) (hin : InT w a l) :
    Calls Tryz.prog 54 #[.slice a l.length cap] w (GivesT w l) := by
  obtain ⟨i0, hi, hz0, hz1, hz2⟩ := info_parts info_tc
  have HIN := Lib.hid hin
  clear hin
  go_enter Tryz.func54, Tryz.ntmps54
  go_wp2_with (at_make; refine wpList_make_full _ rfl _ _ 24 rfl w.heap.size 109 i0 _ 2 Tryz.underlying24 hi hz0 hz1 .i64 .i64 _ _ l.length rfl rfl rfl rfl (by rw [hz2]; omega) (by unfold maxLen; omega) (Nat.le_refl _) ?_; intro w1 hrow hg)
  have HROW := Lib.hid hrow
  have HB1 := Lib.hid ((Below.refl w.heap.size w).grown hg (Nat.le_refl _) (fun k hk => by cases hk))
  clear hrow hg
  go_loopw [4] (fun i wr => ∃ (k : Nat) (rest : List Value), k ≤ l.length ∧ i = .int .i64 k ∧ wr.ownsRow w.heap.size 109 2 (.slice (some ⟨w.heap.size, 0, none⟩) l.length l.length) l.length (flatT (l.take k) ++ rest) ∧ Below w.heap.size w wr) (fun i _ => l.length - (intOf i).toNat)
  case atStart => exact ⟨0, _, Nat.zero_le _, rfl, HROW.out, HB1.out⟩
  case round =>
    obtain ⟨k, rest, hk, rfl, hrow, hb⟩ := hrel
    by_cases hlt : k < l.length
    · obtain ⟨b, off, rfl, hbw, hc⟩ := HIN.out (by omega)
      obtain ⟨x, s, hx1, hx2, hx3, hx4⟩ := tc_at hlt
      obtain ⟨hc0, hc1⟩ := hc k x hx1
      have hcell0 : wr.cell? ⟨b, off + k * 2, none⟩ = some (.string s) := by rw [hb.cell (p := ⟨b, off + k * 2, none⟩) hbw, ← hx3]; exact hc0
      have hcell1 : wr.cell? ⟨b, off + k * 2 + 1, none⟩ = some (.int .i64 x.2) := by rw [hb.cell (p := ⟨b, off + k * 2 + 1, none⟩) hbw]; exact hc1
      have HROW2 := Lib.hid hrow
      have HB := Lib.hid hb
      have H1 := Lib.hid hx1
      have H3 := Lib.hid hx3
      clear hc hc0 hc1 hx1 hx2 hx3 hx4 hrow hb
      go_wp2_with (go_at_call 90; (refine (tto_one s x.2 _).mono ?_); rintro e w2 ⟨rfl, hb2⟩; refine Hid.out ?_)
      refine Lib.hid ?_
      have hrow2 := World.ownsRow.kept HROW2.out (row := none) (grown_below_none hb2) (by simp [Value.ownBlock])
      obtain ⟨y0, y1, r2, hrest⟩ := rest_two hrow2.1 hlt
      subst hrest
      have q0 := hrow2.cellAt (k * 2) (by omega)
      have q1 := hrow2.cellAt (k * 2 + 1) (by omega)
      rw [(flat_gap (l := l) (k := k) (r := r2) (y0 := y0) (y1 := y1) (by omega)).1] at q0
      rw [(flat_gap (l := l) (k := k) (r := r2) (y0 := y0) (y1 := y1) (by omega)).2] at q1
      have f0 := hrow2.frozenAt (k * 2)
      have f1 := hrow2.frozenAt (k * 2 + 1)
      have HN := Lib.hid (hrow2.stored (k * 2) (.string s))
      have HN2 := Lib.hid (HN.out.1.stored (k * 2 + 1) (.int .i64 x.2))
      have HB2 := Lib.hid (HB.out.trans (hb2.mono HB.out.size))
      clear hb2 hrow2
      go_wp2
      go_roundw
      case rel =>
        refine ⟨k + 1, r2, by omega, by go_num, ?_, HB2.out.grown HN.out.2 HB2.out.size (fun j hj => by cases hj; exact Nat.le_refl _) |>.grown HN2.out.2 (Nat.le_trans HB2.out.size HN.out.2.size) (fun j hj => by cases hj; exact Nat.le_refl _)⟩
        rw [← flat_fill (y0 := y0) (y1 := y1) H1.out, H3.out]
        exact HN2.out.1
      case measure => simp [intOf]; omega
    · obtain rfl : k = l.length := by omega
      have HROW2 := Lib.hid hrow
      clear hrow
      go_wp2
      go_ret
      refine ⟨_, _, rfl, ?_, hb⟩
      have h := HROW2.out
      rw [List.take_length] at h
      have h1 := h.1
      rw [List.length_append, flat_len] at h1
      obtain rfl : rest = [] := List.eq_nil_of_length_eq_zero (by omega)
      rw [List.append_nil] at h
      exact h

set_option maxRecDepth 100000 in
theorem teq_same (a1 a2 : Option Addr) (c1 c2 : Nat) (l : List TC) (w : World) (hl : l.length ≤ maxLen) (h1 : InT w a1 l) (h2 : InT w a2 l) :
    Calls Tryz.prog 57 #[.slice a1 l.length c1, .slice a2 l.length c2] w fun e w' => e = .returned (.bool true) ∧ Below w.heap.size w w' := by
  unfold maxLen at hl
  have H1 := Lib.hid h1
  have H2 := Lib.hid h2
  clear h1 h2
  go_enter Tryz.func57, Tryz.ntmps57
  go_wp2
  go_loopw [5] (fun i wr => ∃ k : Nat, k ≤ l.length ∧ i = .int .i64 k ∧ Below w.heap.size w wr) (fun i _ => l.length - (intOf i).toNat)
  case atStart => exact ⟨0, Nat.zero_le _, rfl, Below.refl _ _⟩
  case round =>
    obtain ⟨k, hk, rfl, hb⟩ := hrel
    have HB := Lib.hid hb
    clear hb
    by_cases hlt : k < l.length
    · obtain ⟨b1, o1, rfl, hb1, hc1⟩ := H1.out (by omega)
      obtain ⟨b2, o2, rfl, hb2, hc2⟩ := H2.out (by omega)
      obtain ⟨x, s, hx1, hx2, hx3, hx4⟩ := tc_at hlt
      obtain ⟨p0, p1⟩ := hc1 k x hx1
      obtain ⟨q0, q1⟩ := hc2 k x hx1
      have g0 : wr.cell? ⟨b1, o1 + k * 2, none⟩ = some (.string s) := by rw [HB.out.cell (p := ⟨b1, o1 + k * 2, none⟩) hb1, ← hx3]; exact p0
      have g1 : wr.cell? ⟨b1, o1 + k * 2 + 1, none⟩ = some (.int .i64 x.2) := by rw [HB.out.cell (p := ⟨b1, o1 + k * 2 + 1, none⟩) hb1]; exact p1
      have g2 : wr.cell? ⟨b2, o2 + k * 2, none⟩ = some (.string s) := by rw [HB.out.cell (p := ⟨b2, o2 + k * 2, none⟩) hb2, ← hx3]; exact q0
      have g3 : wr.cell? ⟨b2, o2 + k * 2 + 1, none⟩ = some (.int .i64 x.2) := by rw [HB.out.cell (p := ⟨b2, o2 + k * 2 + 1, none⟩) hb2]; exact q1
      have HM := Lib.hid (fun W : World => teq_one s x.2 W)
      generalize x.2 = z at g1 g3 HM
      clear hc1 hc2 hx1 hx2 hx3 hx4 p0 p1 q0 q1 hb1 hb2
      go_wp2
      go_region_with (go_at_call 92; refine (HM.out _).mono ?_; rintro e w1 ⟨rfl, hb1⟩; have HB1 := Lib.hid hb1; clear hb1)
      all_goals go_wp2
      all_goals go_roundw
      all_goals first
        | (case rel => exact ⟨k + 1, by omega, by go_num, (HB.out.drew).trans (HB1.out.mono HB.out.size)⟩)
        | skip
      all_goals (simp [intOf]; omega)
    · obtain rfl : k = l.length := by omega
      go_wp2
      go_ret
      exact ⟨rfl, HB.out⟩

end Go.Proofs.YthjbekgognfiiaaGreat

/-
  What impl.OrderTokens answers. By an AI agent.
-/
namespace Go.Proofs.YthjbekgognfiiaaGreat
open Go.RowKit Go.Maps
set_option linter.unusedVariables false

/-- where frequencies come from -/
def Src (w : World) (v : Value) (tab : List TC) : Prop :=
  (∃ a c, v = .iface 167 (.slice a tab.length c) ∧ TokTab tab ∧ InT w a tab) ∨ (∃ b n, v = .iface 169 (.map (some b)) ∧ IMap w b n (tab.map (·.1)) (frqL tab))
theorem Src.below {w w' : World} {v : Value} {tab : List TC} (h : Src w v tab) (hb : Below w.heap.size w w') : Src w' v tab := by
  rcases h with ⟨a, c, h1, h2, h3⟩ | ⟨b, n, h1, h2⟩
  · exact .inl ⟨a, c, h1, h2, h3.below hb⟩
  · exact .inr ⟨b, n, h1, h2.below hb⟩

set_option maxRecDepth 100000 in
theorem src_of (a : Option Addr) (c : Nat) (tab : List TC) (w : World) (h : SmW w a tab c) :
    Calls Tryz.prog 138 #[.slice a tab.length c] w fun e w' => ∃ v, e = .returned v ∧ Src w' v tab ∧ Below w.heap.size w w' := by
  have HS := Lib.hid h
  have HIN := Lib.hid h.1.1
  clear h
  obtain ⟨b, hb⟩ : ∃ b, ttB tab = b := ⟨_, rfl⟩
  have HB := Lib.hid hb
  have HC := Lib.hid (fun W (hW : SmT W a tab c) => (ttab_impl a c tab W hW).mono fun e w' h => (show e = .returned (.bool b) ∧ Below W.heap.size W w' from ⟨by rw [← hb]; exact h.1, h.2⟩))
  clear hb
  cases b
  · go_enter Tryz.func138, Tryz.ntmps138
    go_wp2_with (first
      | (go_at_call 50; (refine (HC.out _ HS.out.1).mono ?_); rintro e w1 ⟨rfl, hb1⟩; have HB1 := Lib.hid hb1; clear hb1)
      | (go_at_call 144; (refine (first_counts a c tab _ (HS.out.1.below HB1.out) HS.out.2).mono ?_); rintro e w2 ⟨rfl, hm2, hb2⟩; have HM2 := Lib.hid hm2; have HB2 := Lib.hid hb2; clear hm2 hb2))
    go_ret
    exact ⟨_, rfl, .inr ⟨_, _, rfl, HM2.out⟩, HB1.out.trans (HB2.out.mono HB1.out.size)⟩
  · go_enter Tryz.func138, Tryz.ntmps138
    go_wp2_with (go_at_call 50; (refine (HC.out _ HS.out.1).mono ?_); rintro e w1 ⟨rfl, hb1⟩; have HB1 := Lib.hid hb1; clear hb1)
    go_ret
    exact ⟨_, rfl, .inl ⟨_, _, rfl, ttB_true.1 HB.out, HIN.out.below HB1.out⟩, HB1.out⟩

/-- the cells of a row of pairs, as the sort reads them -/
theorem holds_row {w : World} {base g n : Nat} {l : List TC} {cap : Nat} (h : w.ownsRow base 109 2 (.slice (some ⟨g, 0, none⟩) n cap) n (flatT l)) (hn : l.length = n) : Sort.HoldsK encT 2 w g 0 l.toArray := by
  intro j hj
  have hj2 : j < l.length * 2 := by simpa using hj
  have hc := h.cellAt j (by omega)
  have hf := h.frozenAt j
  have hi : j / 2 < l.length := by omega
  have hx := List.getElem?_eq_getElem hi
  obtain ⟨e0, e1⟩ := flat_at hx
  rw [Nat.zero_add]
  refine ⟨?_, hf⟩
  rw [hc, Sort.get_flatK _ _ _ _ (by simpa using hj2)]
  have hg : (l.toArray)[j / 2]! = l[j / 2] := by simp [hi]
  rw [hg]
  rcases Nat.mod_two_eq_zero_or_one j with h0 | h0
  · rw [h0]
    have ej : j / 2 * 2 = j := by omega
    rw [ej] at e0
    rw [e0]
    rfl
  · rw [h0]
    have ej : j / 2 * 2 + 1 = j := by omega
    rw [ej] at e1
    rw [e1]
    rfl
theorem grown_sortK {w : World} {g n : Nat} {os : Array Obj} (d : Array TC) : w.grownBy (sortWorldK encT 2 w g 0 n d os) (some g) := by
  unfold sortWorldK Sort.putRowK
  refine ⟨rfl, rfl, rfl, by simp, fun k hk hne => ?_⟩
  rw [Sort.heap_grow_old _ _ (by simpa using hk)]
  have : g ≠ k := fun e => hne (by rw [e])
  simp [Sort.putRow, Sort.mapBlock, Sort.ahead, Array.getElem?_modify, this]

theorem cmp_lays (blk off size : Nat) (w : World) : CmpLays Tryz.prog 140 #[] encT 2 cfR blk off size w :=
  fun _ _ _ _ x y => (cf_is ⟨x.1.toArray⟩ ⟨y.1.toArray⟩ x.2 y.2 (cfR x y) _ (by simp [cfR])).mono fun e w' h => h

set_option maxRecDepth 100000 in
set_option maxHeartbeats 1000000 in
theorem sort_prs (g : Nat) (tab : List TC) (l : List Str) (base cap : Nat) (w : World) (hl : l.length ≤ 4000000) (h : w.ownsRow base 109 2 (.slice (some ⟨g, 0, none⟩) l.length cap) l.length (flatT (prsL tab l))) :
    Calls Tryz.prog 139 #[.slice (some ⟨g, 0, none⟩) l.length cap, .func (.func 140) #[] #[]] w fun e w' =>
      e = .returned (.tuple #[]) ∧ w.grownBy w' (some g) ∧ ∃ d : List TC, d.length = l.length ∧ d.map (·.1) = ordR tab l ∧ InT w' (some ⟨g, 0, none⟩) d := by
  have eg : ∀ args w, (callFunc 140 args).run Tryz.prog w = .ok (.enter 140 args) w := enters_of Tryz.func140 (by kernel_rfl) rfl
  have hlt := (World.ownsRow.lt h g rfl).2
  have hH := holds_row h (prs_len tab l)
  have hsz : (prsL tab l).toArray.size = l.length := by simp [prsL]
  have hcon := Tryz.slices_SortFunc 2 (fun w => by kernel_rfl) (fun w => by kernel_rfl) encT (fun _ => rfl) encT_one cfR cf_swo 140 #[] g 0 cap (prsL tab l).toArray w eg (cmp_lays g 0 _ w) hH hlt (by rw [hsz]; omega)
  rw [hsz] at hcon
  refine hcon.mono ?_
  rintro e w' ⟨rfl, d, n, os, hp, hs, rfl⟩
  rw [← hsz] at hp hs
  obtain ⟨hd, hm⟩ := prs_sorted hp hs
  refine ⟨rfl, grown_sortK d, d.toList, by simpa using hd, hm, fun h0 => ?_⟩
  refine ⟨g, 0, rfl, Nat.lt_of_lt_of_le hlt (grown_sortK (os := os) (n := n) d).size, fun j x hj => ?_⟩
  have hjd : j < d.size := by simpa using (List.getElem?_eq_some_iff.1 hj).1
  have hK := holdsK_sortWorldK_c encT 2 w g 0 (prsL tab l).toArray d n os hH hlt hp.1
  have k0 := (Sort.HoldsK.cell hK hjd (show 0 < 2 by omega)).1
  have k1 := (Sort.HoldsK.cell hK hjd (show 1 < 2 by omega)).1
  have ex : d[j]! = x := by
    have := (List.getElem?_eq_some_iff.1 hj).2
    rw [getElem!_pos d j hjd]
    simpa using this
  rw [ex] at k0 k1
  exact ⟨k0, k1⟩

end Go.Proofs.YthjbekgognfiiaaGreat

/-
  What impl.OrderTokens answers: the walk. By an AI agent.
-/
namespace Go.Proofs.YthjbekgognfiiaaGreat
open Go.RowKit Go.Maps
set_option linter.unusedVariables false

theorem take_prs {tab : List TC} {l : List Str} {k : Nat} {x : Str} (h : l[k]? = some x) : (prsL tab l).take (k + 1) = (prsL tab l).take k ++ [(x, frqL tab x)] := tc_take (prs_at h)
theorem prs_take_len {tab : List TC} {l : List Str} {k : Nat} (h : k ≤ l.length) : ((prsL tab l).take k).length = k := by rw [List.length_take, prs_len]; omega
theorem ord_gap_at {p : List TC} {k : Nat} {y0 y1 : Value} {r : List Value} (hp : p.length = k) : (flatT p ++ y0 :: y1 :: r)[k * 2]? = some y0 ∧ (flatT p ++ y0 :: y1 :: r)[k * 2 + 1]? = some y1 := by
  have h : (flatT p).length = k * 2 := by rw [flat_len, hp]
  constructor
  · rw [List.getElem?_append_right (by omega), h, Nat.sub_self]; rfl
  · rw [List.getElem?_append_right (by omega), h, show k * 2 + 1 - k * 2 = 1 by omega]; rfl
theorem ord_gap_set {p : List TC} {k : Nat} {y0 y1 u0 u1 : Value} {r : List Value} (hp : p.length = k) : ((flatT p ++ y0 :: y1 :: r).set (k * 2) u0).set (k * 2 + 1) u1 = flatT p ++ u0 :: u1 :: r := by
  have h : (flatT p).length = k * 2 := by rw [flat_len, hp]
  rw [List.set_append_right _ _ (by omega), h, Nat.sub_self, List.set_append_right _ _ (by omega), h, show k * 2 + 1 - k * 2 = 1 by omega]
  rfl
theorem ord_rest_two {p : List TC} {k n : Nat} {rest : List Value} (h : (flatT p ++ rest).length = n * 2) (hp : p.length = k) (hk : k < n) : ∃ y0 y1 r, rest = y0 :: y1 :: r := by
  rw [List.length_append, flat_len, hp] at h
  match rest, h with
  | [], h => simp at h; omega
  | [_], h => simp at h; omega
  | y0 :: y1 :: r, _ => exact ⟨y0, y1, r, rfl⟩

theorem method_tab (F : Nat) (a : Option Addr) (n c : Nat) (W : World) : (method (F + 1) 167 (.slice a n c) "loop.example/g01923/impl.frequency").run Tryz.prog W = .ok (174, .slice a n c) W := by kernel_rfl
theorem method_map (F : Nat) (b : Nat) (W : World) : (method (F + 1) 169 (.map (some b)) "loop.example/g01923/impl.frequency").run Tryz.prog W = .ok (177, .map (some b)) W := by kernel_rfl

set_option maxRecDepth 100000 in
set_option maxHeartbeats 4000000 in
theorem ord_impl (a0 : Option Addr) (c0 : Nat) (tab : List TC) (a1 : Option Addr) (c1 : Nat) (l : List Str) (r : List Str) (w : World) (hr : ordR tab l = r) (h0 : SmW w a0 tab c0) (h1 : Sm w a1 l c1) :
    Calls Tryz.prog 128 #[.slice a0 tab.length c0, .slice a1 l.length c1] w (GivesS w r) := by
  obtain ⟨i1, hi1, hy0, hy1, hy2⟩ := info_parts info_tc
  obtain ⟨i0, hi, hz0, hz1, hz2⟩ := info_parts info_str
  have H0 := Lib.hid h0
  obtain ⟨hin1, -, -, hl1, hx1⟩ := h1
  have H1 := Lib.hid hin1
  have HX := Lib.hid hx1
  have HR := Lib.hid hr
  have htl := h0.1.2.2.2.1
  clear h0 hin1 hx1 hr
  go_enter Tryz.func128, Tryz.ntmps128
  go_wp2_with (go_at_call 138; (refine (src_of a0 c0 tab _ H0.out).mono ?_); rintro e w1 ⟨v, rfl, hs1, hb1⟩; have HS1 := Lib.hid hs1; have HB1 := Lib.hid hb1; clear hs1 hb1; refine Hid.out ?_)
  refine Lib.hid ?_
  go_wp2_with (at_make; refine wpList_make_full _ rfl _ _ 24 rfl w1.heap.size 109 i1 _ 2 Tryz.underlying24 hi1 hy0 hy1 .i64 .i64 _ _ l.length rfl rfl rfl rfl (by rw [hy2]; omega) (by unfold maxLen; omega) (Nat.le_refl _) ?_; intro w2 hrow hg)
  have HROW := Lib.hid hrow
  have HB2 := Lib.hid ((Below.refl w1.heap.size w1).grown hg (Nat.le_refl _) (fun k hk => by cases hk))
  have HLT2 := Lib.hid (World.ownsRow.lt hrow w1.heap.size rfl).2
  clear hrow hg
  go_loopw [19] (fun i wr => ∃ (k : Nat) (rest : List Value), k ≤ l.length ∧ i = .int .i64 k ∧ wr.ownsRow w1.heap.size 109 2 (.slice (some ⟨w1.heap.size, 0, none⟩) l.length l.length) l.length (flatT ((prsL tab l).take k) ++ rest) ∧ Below w1.heap.size w1 wr ∧ w1.heap.size < wr.heap.size) (fun i _ => l.length - (intOf i).toNat)
  case atStart => exact ⟨0, _, Nat.zero_le _, rfl, HROW.out, HB2.out, HLT2.out⟩
  case round =>
    obtain ⟨k, rest, hk, rfl, hrow, hb, hws⟩ := hrel
    by_cases hlt : k < l.length
    · obtain ⟨b, off, rfl, hbw, hc⟩ := H1.out (by omega)
      obtain ⟨x, s, hx1, hx2, hx3, hx4⟩ := str_at hlt
      have hcell : wr.cell? ⟨b, off + k, none⟩ = some (.string s) := by
        rw [hb.cell (p := ⟨b, off + k, none⟩) (Nat.lt_of_lt_of_le hbw HB1.out.size), HB1.out.cell (p := ⟨b, off + k, none⟩) hbw, ← hx3]
        exact hc k x hx1
      have HX1 := Lib.hid hx1
      have HX2 := Lib.hid hx2
      have HX3 := Lib.hid hx3
      have HSL := Lib.hid (show s.size ≤ maxLen by rw [hx4]; have := HX.out x (List.mem_of_getElem? hx1); unfold maxLen; omega)
      obtain ⟨f, hf⟩ : ∃ f, frqL tab x = f := ⟨_, rfl⟩
      have HF := Lib.hid hf
      have HROW2 := Lib.hid hrow
      have HB := Lib.hid hb
      have HWS := Lib.hid hws
      clear hc hx1 hx2 hx3 hx4 hbw hrow hb hws hf
      rcases HS1.out with ⟨aT, cT, rfl, hT, hinT⟩ | ⟨bM, nM, rfl, hM⟩
      · have hme := fun (F : Nat) (W : World) => method_tab F aT tab.length cT W
        have HQ := Lib.hid (fun (W : World) (hW : Below w1.heap.size w1 W) => (frq_tab aT cT tab s W hT (hinT.below hW) htl).mono fun e w' h => (show e = .returned (.int .i64 f) ∧ Below W.heap.size W w' from ⟨by rw [← HF.out, ← HX2.out]; exact h.1, h.2⟩))
        clear hT hinT
        go_wp2_with (go_at_call 174; (refine (HQ.out _ HB.out).mono ?_); rintro e w2 ⟨rfl, hbf⟩; have HBF := Lib.hid hbf; clear hbf; refine Hid.out ?_)
        refine Lib.hid ?_
        have HB3 := Lib.hid (HB.out.trans (HBF.out.mono (Nat.le_of_lt HWS.out)))
        have hrow2 := World.ownsRow.kept HROW2.out (row := none) (grown_below_none HBF.out) (by simp [Value.ownBlock])
        obtain ⟨y0, y1, r2, hrest⟩ := ord_rest_two hrow2.1 (prs_take_len (tab := tab) (show k ≤ l.length by omega)) hlt
        subst hrest
        have q0 := hrow2.cellAt (k * 2) (by omega)
        have q1 := hrow2.cellAt (k * 2 + 1) (by omega)
        rw [(ord_gap_at (prs_take_len (tab := tab) (show k ≤ l.length by omega))).1] at q0
        rw [(ord_gap_at (prs_take_len (tab := tab) (show k ≤ l.length by omega))).2] at q1
        have f0 := hrow2.frozenAt (k * 2)
        have f1 := hrow2.frozenAt (k * 2 + 1)
        have HN := Lib.hid (hrow2.stored (k * 2) (.string s))
        have HN2 := Lib.hid (HN.out.1.stored (k * 2 + 1) (.int .i64 f))
        have HWS2 := Lib.hid (Nat.lt_of_lt_of_le HWS.out HBF.out.size)
        clear hrow2
        go_wp2
        go_roundw
        case rel =>
          refine ⟨k + 1, r2, by omega, by go_num, ?_, (HB3.out.grown HN.out.2 HB3.out.size (fun j hj => by cases hj; exact Nat.le_refl _)).grown HN2.out.2 (Nat.le_trans HB3.out.size HN.out.2.size) (fun j hj => by cases hj; exact Nat.le_refl _), Nat.lt_of_lt_of_le HWS2.out (Nat.le_trans HN.out.2.size HN2.out.2.size)⟩
          have h := HN2.out.1
          rw [ord_gap_set (prs_take_len (tab := tab) (show k ≤ l.length by omega))] at h
          rw [take_prs HX1.out, flat_snoc, List.append_assoc]
          rw [show encT (x, frqL tab x) = [.string s, .int .i64 f] by rw [← HX3.out, ← HF.out]; rfl]
          exact h
        case measure => simp [intOf]; omega
      · have hme := fun (F : Nat) (W : World) => method_map F bM W
        have HQ := Lib.hid (fun (W : World) (hW : Below w1.heap.size w1 W) => (frq_map bM nM _ _ s W (hM.below hW) HSL.out).mono fun e w' h => (show e = .returned (.int .i64 f) ∧ Below W.heap.size W w' from ⟨by rw [← HF.out, ← HX2.out]; exact h.1, by rw [h.2]; exact Below.refl _ _⟩))
        clear hM
        go_wp2_with (go_at_call 177; (refine (HQ.out _ HB.out).mono ?_); rintro e w2 ⟨rfl, hbf⟩; have HBF := Lib.hid hbf; clear hbf; refine Hid.out ?_)
        refine Lib.hid ?_
        have HB3 := Lib.hid (HB.out.trans (HBF.out.mono (Nat.le_of_lt HWS.out)))
        have hrow2 := World.ownsRow.kept HROW2.out (row := none) (grown_below_none HBF.out) (by simp [Value.ownBlock])
        obtain ⟨y0, y1, r2, hrest⟩ := ord_rest_two hrow2.1 (prs_take_len (tab := tab) (show k ≤ l.length by omega)) hlt
        subst hrest
        have q0 := hrow2.cellAt (k * 2) (by omega)
        have q1 := hrow2.cellAt (k * 2 + 1) (by omega)
        rw [(ord_gap_at (prs_take_len (tab := tab) (show k ≤ l.length by omega))).1] at q0
        rw [(ord_gap_at (prs_take_len (tab := tab) (show k ≤ l.length by omega))).2] at q1
        have f0 := hrow2.frozenAt (k * 2)
        have f1 := hrow2.frozenAt (k * 2 + 1)
        have HN := Lib.hid (hrow2.stored (k * 2) (.string s))
        have HN2 := Lib.hid (HN.out.1.stored (k * 2 + 1) (.int .i64 f))
        have HWS2 := Lib.hid (Nat.lt_of_lt_of_le HWS.out HBF.out.size)
        clear hrow2
        go_wp2
        go_roundw
        case rel =>
          refine ⟨k + 1, r2, by omega, by go_num, ?_, (HB3.out.grown HN.out.2 HB3.out.size (fun j hj => by cases hj; exact Nat.le_refl _)).grown HN2.out.2 (Nat.le_trans HB3.out.size HN.out.2.size) (fun j hj => by cases hj; exact Nat.le_refl _), Nat.lt_of_lt_of_le HWS2.out (Nat.le_trans HN.out.2.size HN2.out.2.size)⟩
          have h := HN2.out.1
          rw [ord_gap_set (prs_take_len (tab := tab) (show k ≤ l.length by omega))] at h
          rw [take_prs HX1.out, flat_snoc, List.append_assoc]
          rw [show encT (x, frqL tab x) = [.string s, .int .i64 f] by rw [← HX3.out, ← HF.out]; rfl]
          exact h
        case measure => simp [intOf]; omega
    · obtain rfl : k = l.length := by omega
      have HFULL := Lib.hid (show wr.ownsRow w1.heap.size 109 2 (.slice (some ⟨w1.heap.size, 0, none⟩) l.length l.length) l.length (flatT (prsL tab l)) by
        have h := hrow
        have e : (prsL tab l).take l.length = prsL tab l := by rw [← prs_len tab l, List.take_length]
        rw [e] at h
        have h2 := h.1
        rw [List.length_append, flat_len, prs_len] at h2
        obtain rfl : rest = [] := List.eq_nil_of_length_eq_zero (by omega)
        rwa [List.append_nil] at h)
      have HB := Lib.hid hb
      clear hrow hb
      obtain ⟨wa, rfl⟩ : ∃ wa, wa = wr := ⟨_, rfl⟩
      go_wp2_with (go_at_call 139; (refine (sort_prs w1.heap.size tab l w1.heap.size l.length _ hl1 HFULL.out).mono ?_); rintro e w3 ⟨rfl, hg3, d, hdl, hdm, hind⟩; have HG3 := Lib.hid hg3; have HDL := Lib.hid hdl; have HDM := Lib.hid hdm; have HIND := Lib.hid hind; clear hg3 hdl hdm hind; refine Hid.out ?_)
      refine Lib.hid ?_
      have HB3 := Lib.hid ((HB1.out.trans (HB.out.mono HB1.out.size)).grown HG3.out (Nat.le_trans HB1.out.size HB.out.size) (fun j hj => by cases hj; exact HB1.out.size))
      go_wp2_with (at_make; refine wpList_make_full _ rfl _ _ 28 rfl w3.heap.size 9 i0 (.string ⟨#[]⟩) 1 Tryz.underlying28 hi hz0 hz1 .i64 .i64 _ _ l.length rfl rfl rfl rfl (by rw [hz2]; omega) (by unfold maxLen; omega) (Nat.le_refl _) ?_; intro w4 hrow hg)
      have HRL := Lib.hid (show r.length = l.length by rw [← HR.out, ord_len])
      have HROW4 := Lib.hid hrow
      have HB4 := Lib.hid ((Below.refl w3.heap.size w3).grown hg (Nat.le_refl _) (fun k hk => by cases hk))
      clear hrow hg
      go_loopw [40] (fun i wr => ∃ k : Nat, k ≤ l.length ∧ i = .int .i64 k ∧ wr.ownsRow w3.heap.size 9 1 (.slice (some ⟨w3.heap.size, 0, none⟩) l.length l.length) l.length (fillV r k) ∧ Below w3.heap.size w3 wr) (fun i _ => l.length - (intOf i).toNat)
      case atStart =>
        refine ⟨0, Nat.zero_le _, rfl, ?_, HB4.out⟩
        have h := HROW4.out
        rw [Nat.mul_one, show (Value.string ⟨#[]⟩).cells = #[.string ⟨#[]⟩] from rfl, toList_madeCells_one] at h
        rw [fill_zero, HRL.out]
        exact h
      case round =>
        obtain ⟨k, hk, rfl, hrow, hb⟩ := hrel
        by_cases hlt : k < l.length
        · have hdk : k < d.length := by rw [HDL.out]; exact hlt
          obtain ⟨x, s, hx1, hx2, hx3, hx4⟩ := tc_at hdk
          obtain ⟨e0, e1⟩ := HIND.out.at hb hx1 hx3
          rw [Nat.zero_add] at e0 e1
          have hxr : r[k]? = some x.1 := by rw [← HR.out, ← HDM.out, List.getElem?_map, hx1]; rfl
          have hold : (wr.alloc (.cells #[.string s, .int .i64 x.2] 109)).cell? ⟨w3.heap.size, k, none⟩ = some (.string ⟨#[]⟩) := by
            have h := (hrow.alloc (.cells #[.string s, .int .i64 x.2] 109)).cellAt k (by omega)
            rw [h]
            exact fill_at (by rw [HRL.out]; exact hlt)
          have hfz : (wr.alloc (.cells #[.string s, .int .i64 x.2] 109)).frozen? ⟨w3.heap.size, k, none⟩ = false := (hrow.alloc _).frozenAt k
          have HN := Lib.hid ((hrow.alloc (.cells #[.string s, .int .i64 x.2] 109)).stored k (.string s))
          have HE := Lib.hid (fill_set hxr)
          have HX3 := Lib.hid hx3
          have HB5 := Lib.hid hb
          generalize x.2 = z at e1 hold hfz HN
          clear hx1 hx2 hx3 hx4 hxr hrow hb hdk
          go_wp2
          go_roundw
          case rel =>
            refine ⟨k + 1, by omega, by go_num, ?_, (HB5.out.alloc HB5.out.size _).grown HN.out.2 (by have := HB5.out.size; simp; omega) (fun j hj => by cases hj; exact Nat.le_refl _)⟩
            rw [← HE.out, HX3.out]
            exact HN.out.1
          case measure => simp [intOf]; omega
        · obtain rfl : k = l.length := by omega
          have HROW5 := Lib.hid hrow
          clear hrow
          go_wp2
          go_ret
          have h := HROW5.out
          rw [← HRL.out, fill_all] at h
          have h2 : OwnS wr w3.heap.size (.slice (some ⟨w3.heap.size, 0, none⟩) r.length r.length) r := h
          rw [← HRL.out]
          exact GivesS.mk (h2.mono HB3.out.size) (HB3.out.trans (hb.mono HB3.out.size))

end Go.Proofs.YthjbekgognfiiaaGreat

