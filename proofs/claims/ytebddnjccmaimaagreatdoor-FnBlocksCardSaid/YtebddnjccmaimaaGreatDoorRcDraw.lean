/-
  What spec.l13Records and spec.DrawBlockPairs draw: a few records. By an AI agent.
-/
import Derived.Test.YtebddnjccmaimaaGreatDoorGRc
import Derived.Test.YtebddnjccmaimaaGreatDoorGDraw
import Derived.Deep.RegionWith
namespace Go.Proofs.YtebddnjccmaimaaGreatDoor
open Go.RowKit
set_option linter.unusedVariables false

theorem Sm.keptL {w w' : World} {a : Option Addr} {l : List Str} {cp : Nat} (h : Sm w a l cp) (hs : w.heap.size ≤ w'.heap.size) (hk : 0 < l.length → ∀ b off, a = some ⟨b, off, none⟩ → b < w.heap.size → w'.heap[b]? = w.heap[b]?) : Sm w' a l cp :=
  ⟨fun h0 => (h.1.keep hs (hk h0)) h0, h.2⟩
/-- a slice of records of the call's own, their fields small, in other blocks -/
structure DrRc (w : World) (lo : Nat) (v : Value) (q : List XR) : Prop where
  out : w.ownsRow lo 37 4 v q.length (flatR q)
  fld : ∀ p ∈ q, ∃ a cp, p.2 = .slice a p.1.2.length cp ∧ Sm w a p.1.2 cp ∧ ∀ b o t, a = some ⟨b, o, t⟩ → 0 < p.1.2.length → lo ≤ b ∧ b < w.heap.size ∧ v.ownBlock ≠ some b
theorem DrRc.kept {w w' : World} {lo c : Nat} {v : Value} {q : List XR} (h : DrRc w lo v q) (hg : w.grownBy w' (some c)) (hc : c < lo) : DrRc w' lo v q :=
  ⟨World.ownsRow.kept h.out hg (.inr fun e => by have := (World.ownsRow.lt h.out c e).1; omega), fun p hp => by
    obtain ⟨a, cp, h1, h2, h3⟩ := h.fld p hp
    refine ⟨a, cp, h1, h2.keptL hg.size (fun h0 b off e hb => hg.block b hb (by have := (h3 b off none e h0).1; intro e2; injection e2 with e2; omega)), fun b o t e h0 => ?_⟩
    have h4 := h3 b o t e h0
    exact ⟨h4.1, Nat.lt_of_lt_of_le h4.2.1 hg.size, h4.2.2⟩⟩
theorem DrRc.alloc {w : World} {lo : Nat} {v : Value} {q : List XR} (h : DrRc w lo v q) (o : Obj) : DrRc (w.alloc o) lo v q :=
  ⟨h.out.alloc o, fun p hp => by
    obtain ⟨a, cp, h1, h2, h3⟩ := h.fld p hp
    refine ⟨a, cp, h1, h2.alloc o, fun b o t e h0 => ?_⟩
    have h4 := h3 b o t e h0
    exact ⟨h4.1, by simp; omega, h4.2.2⟩⟩
theorem DrRc.inRc {w : World} {lo : Nat} {a : Option Addr} {n cap : Nat} {q : List XR} (h : DrRc w lo (.slice a n cap) q) (hn : n = q.length) : InRc w a (recsR q) := by
  subst hn
  intro h0
  rw [recsR_len] at h0
  obtain ⟨g, rfl, _, hg, hc⟩ := rowX_at h.out h0
  refine ⟨g, 0, rfl, hg, fun j x hj => ?_⟩
  obtain ⟨p, hp, rfl⟩ := recsR_at hj
  obtain ⟨h1, h2, h3, h4⟩ := flatR_at hp
  obtain ⟨a1, c1, e1, hs, _⟩ := h.fld p (List.mem_of_getElem? hp)
  exact ⟨a1, c1, hc _ _ h1, by rw [Nat.add_assoc]; exact hc _ _ h2, by rw [Nat.add_assoc]; exact hc _ _ h3, by rw [Nat.add_assoc, hc _ _ h4, e1], hs.2.1, hs.2.2.1, hs.1⟩
theorem DrRc.smRc {w : World} {lo : Nat} {a : Option Addr} {cap : Nat} {q : List XR} (h : DrRc w lo (.slice a q.length cap) q) (hl : q.length ≤ 7) : SmRc w a (recsR q) cap :=
  ⟨h.inRc rfl, rowX_none h.out, by rw [recsR_len]; exact rowX_cap h.out, by rw [recsR_len]; omega, fun x hx => by
    obtain ⟨p, hp, rfl⟩ := List.mem_map.1 hx
    obtain ⟨a1, c1, e1, hs, _⟩ := h.fld p hp
    exact ⟨hs.2.2.2.1, hs.2.2.2.2⟩⟩
theorem DrRc.snoc {w w' : World} {lo : Nat} {v v' : Value} {q : List XR} {x : RC} {a : Option Addr} {cp : Nat} (h : DrRc w lo v q) (hS : Sm w a x.2 cp) (hlo : ∀ b o t, a = some ⟨b, o, t⟩ → 0 < x.2.length → lo ≤ b ∧ b < w.heap.size ∧ v.ownBlock ≠ some b)
    (hg : w.grownBy w' v.ownBlock) (hrow : w'.ownsRow lo 37 4 v' (q.length + 1) (flatR q ++ [.int .i64 x.1.1, .int .i64 x.1.2.1, .int .i64 x.1.2.2, .slice a x.2.length cp])) (hat : v'.ownBlock = v.ownBlock ∨ v'.ownBlock = some w.heap.size) : DrRc w' lo v' (q ++ [(x, .slice a x.2.length cp)]) := by
  have key : ∀ (a : Option Addr) (l : List Str) (cp : Nat), Sm w a l cp → (∀ b o t, a = some ⟨b, o, t⟩ → 0 < l.length → lo ≤ b ∧ b < w.heap.size ∧ v.ownBlock ≠ some b) → Sm w' a l cp ∧ ∀ b o t, a = some ⟨b, o, t⟩ → 0 < l.length → lo ≤ b ∧ b < w'.heap.size ∧ v'.ownBlock ≠ some b := fun a l cp h1 h2 => by
    refine ⟨h1.keptL hg.size (fun h0 b off e hb => hg.block b hb (Ne.symm (h2 b off none e h0).2.2)), fun b o t e h0 => ?_⟩
    have h4 := h2 b o t e h0
    refine ⟨h4.1, Nat.lt_of_lt_of_le h4.2.1 hg.size, ?_⟩
    rcases hat with e5 | e5
    · rw [e5]; exact h4.2.2
    · rw [e5]; intro e6; injection e6 with e6; omega
  refine ⟨?_, fun p hp => ?_⟩
  · rw [flatR_snoc, List.length_append]
    exact hrow
  · rcases List.mem_append.1 hp with h1 | h1
    · obtain ⟨a1, c1, e1, hs, h3⟩ := h.fld p h1
      exact ⟨a1, c1, e1, key a1 p.1.2 c1 hs h3⟩
    · simp at h1
      subst h1
      exact ⟨a, cp, rfl, key a x.2 cp hS hlo⟩
/-- the first field of a record among them -/
theorem DrRc.first {w : World} {lo gl n cap j : Nat} {q : List XR} {p : XR} (h : DrRc w lo (.slice (some ⟨gl, 0, none⟩) n cap) q) (hn : n = q.length) (hp : q[j]? = some p) (h4 : p.1.2.length = 4 ∧ ∀ y ∈ p.1.2, y.length ≤ 40) :
    ∃ bf of cp t, w.cell? ⟨gl, j * 4 + 3, none⟩ = some (.slice (some ⟨bf, of, none⟩) 4 cp) ∧ w.cell? ⟨bf, of, none⟩ = some (.string t) ∧ t.size ≤ 40 ∧ bf < w.heap.size := by
  subst hn
  have hlt := (List.getElem?_eq_some_iff.1 hp).1
  have hc := h.out.cellAt (j * 4 + 3) (by omega)
  rw [(flatR_at hp).2.2.2] at hc
  obtain ⟨a1, c1, e1, hs, h3⟩ := h.fld p (List.mem_of_getElem? hp)
  obtain ⟨b, off, rfl, hb, hx⟩ := hs.1 (by omega)
  have h0 := List.getElem?_eq_getElem (show 0 < p.1.2.length by omega)
  have hm := h4.2 _ (List.mem_of_getElem? h0)
  have hx0 := hx 0 _ h0
  refine ⟨b, off, c1, ⟨p.1.2[0].toArray⟩, by rw [hc, e1, h4.1], by rw [Nat.add_zero] at hx0; exact hx0, by simpa [ByteArray.size] using hm, hb⟩
theorem rowX_shape {w : World} {base : Nat} {e : TypeId} {size n : Nat} {v : Value} {xs : List Value} (h : w.ownsRow base e size v n xs) : ∃ a cap, v = .slice a n cap := by
  rcases h.2 with ⟨rfl, h0⟩ | ⟨g, cap, cur, rfl, _⟩
  · exact ⟨none, 0, by rw [h0]⟩
  · exact ⟨_, _, rfl⟩
theorem four_cells (w : World) (g : Nat) (hg : w.heap.size = g) (x y z u : Value) (t : TypeId) : ∀ j v, [x, y, z, u][j]? = some v → (w.alloc (.cells #[x, y, z, u] t)).cell? ((⟨g, 0, none⟩ : Addr).add j) = some v := by
  intro j v hj
  subst hg
  match j, hj with
  | 0, hj => simp at hj; subst hj; simp [Addr.add]
  | 1, hj => simp at hj; subst hj; simp [Addr.add]
  | 2, hj => simp at hj; subst hj; simp [Addr.add]
  | 3, hj => simp at hj; subst hj; simp [Addr.add]
theorem gown {w w1 w2 : World} {row r2 : Option Nat} (h : w.grownBy w1 row) (hg : w1.grownBy w2 r2) (hr : ∀ j, r2 = some j → w.heap.size ≤ j) : w.grownBy w2 row :=
  ⟨hg.os.trans h.os, hg.tape.trans h.tape, hg.output.trans h.output, Nat.le_trans h.size hg.size, fun k hk hne => (hg.block k (Nat.lt_of_lt_of_le hk h.size) (fun e => by have := hr k e.symm; omega)).trans (h.block k hk hne)⟩

/-- a few records are handed back -/
def SomeRecs (w : World) (B c : Nat) (e : Ending) (w' : World) : Prop :=
  ∃ a cap q, e = .returned (.slice a q.length cap) ∧ DrRc w' w.heap.size (.slice a q.length cap) q ∧ q.length ≤ 7 ∧ Cur w' B c ∧ w.grownBy w' (some c)

set_option maxRecDepth 100000 in
set_option maxHeartbeats 8000000 in
theorem l13_any (B c : Nat) (w : World) (hcur : Cur w B c) : Calls Tryz.prog 43 #[.pointer (some ⟨c, 0, none⟩)] w (SomeRecs w B c) := by
  have hlt := hcur.lt
  have HC0 := Lib.hid (hcur.alloc (.cells #[] 37))
  have HG0 := Lib.hid (galloc (World.grownBy.refl w (some c)) (.cells #[] 37))
  have HD0 := Lib.hid (show DrRc (w.alloc (.cells #[] 37)) w.heap.size (.slice (some ⟨w.heap.size, 0, none⟩) 0 0) [] from ⟨World.ownsRow_made w #[] 0 (Nat.le_refl _) (Nat.zero_le _) (by simp), fun p hp => by cases hp⟩)
  clear hcur
  obtain ⟨i1, hi1, hy0, hy1, hy2⟩ := info_parts info_rec
  go_enter Tryz.func43, Tryz.ntmps43
  go_wp2_with (go_at_call 78; (refine (l1Below_any B c _ _ HC0.out (by omega) (by omega)).mono ?_); rintro e w1 ⟨x, rfl, hx0, hx1, hc, hg⟩; refine Hid.out ?_)
  obtain ⟨n0, rfl⟩ := Int.eq_ofNat_of_zero_le hx0
  have HC1 := Lib.hid hc
  have HD1 := Lib.hid (HD0.out.kept hg hlt)
  have HG1 := Lib.hid (gtrans HG0.out hg)
  clear hc hg
  refine Lib.hid ?_
  go_wp2
  go_loopw [3, 4] (fun v i wr => ∃ (n : Nat) (q : List XR) (av : Option Addr) (cv : Nat), n + q.length ≤ 6 ∧ i = .int .i64 n ∧ v = .slice av q.length cv ∧ DrRc wr w.heap.size (.slice av q.length cv) q ∧ (∀ p ∈ q, p.1.2.length = 4 ∧ ∀ y ∈ p.1.2, y.length ≤ 40) ∧ Cur wr B c ∧ w.grownBy wr (some c)) (fun _ i _ => (intOf i).toNat)
  case atStart => exact ⟨n0, [], _, _, by simp; omega, rfl, rfl, HD1.out, (fun p hp => by cases hp), HC1.out, HG1.out⟩
  case round =>
    obtain ⟨n, q, av, cv, hnq, rfl, rfl, hd, h4, hc, hg⟩ := hrel
    have HD := Lib.hid hd
    have H4 := Lib.hid h4
    have HC := Lib.hid hc
    have HG := Lib.hid hg
    have hsz : w.heap.size ≤ wr.heap.size := hg.size
    clear hd h4 hc hg
    cases n with
    | zero =>
      go_wp2_with (go_at_call 80; (refine (l1Once_any B c _ _ HC.out (by omega) (by omega)).mono ?_); rintro e w2 ⟨b, rfl, hc, hg⟩; refine Hid.out ?_)
      have HC2 := Lib.hid hc
      have HD2 := Lib.hid (HD.out.kept hg hlt)
      have HG2 := Lib.hid (gtrans HG.out hg)
      have hz2 : w.heap.size ≤ w2.heap.size := Nat.le_trans hsz hg.size
      clear hc hg
      cases b
      · refine Lib.hid ?_
        go_wp2
        go_ret
        exact ⟨av, cv, q, rfl, HD2.out, by omega, HC2.out, HG2.out⟩
      · refine Lib.hid ?_
        go_wp2_with (first
          | (go_at_call 81; (refine (l8Any_any B c _ HC2.out).mono ?_); rintro e w3 ⟨s, k, v, a, cp, l, rfl, hs, ha, hc, hg⟩; have HS3 := Lib.hid hs; have HA3 := Lib.hid ha; have HC3 := Lib.hid hc; have HD3 := Lib.hid (HD2.out.kept hg hlt); have HG3 := Lib.hid (gtrans HG2.out hg); have hz3 := hg.size; have HVL := Lib.hid (fun j hj => (World.ownsRow.lt HD2.out.out j hj)); clear hs ha hc hg)
          | (at_builtin; refine wpList_append_own_at _ rfl _ _ 24 rfl w.heap.size 37 i1 _ 4 48 Tryz.underlying24 hi1 hy0 hy1 hy2 rfl (by decide) _ _ _ rfl (World.ownsRow.alloc HD3.out.out _) ⟨w3.heap.size, 0, none⟩ 1 1 [.int .i64 s, .int .i64 k, .int .i64 v, .slice a l.length cp] rfl rfl (four_cells w3 _ rfl _ _ _ _ _) (by simp [Value.oneCell']) (by unfold maxLen; omega) (by omega) (by simp; omega) ?_; intro v' w9 hown9 hg9 hnil9 hat9; refine Hid.out ?_))
        have HB9 := Lib.hid (show ∀ j, (Value.slice av q.length cv).ownBlock = some j → w.heap.size ≤ j from fun j hj => (HVL.out j hj).1)
        have HD9 := Lib.hid (DrRc.snoc (x := ((s, k, v), l)) (HD3.out.alloc _) (HS3.out.alloc _) (fun b o t e h0 => by
          have h1 := HA3.out b o t e
          obtain ⟨b', o', e', hb', _⟩ := HS3.out.1 h0
          rw [e] at e'
          injection e' with e'
          injection e' with e1 e2 e3
          refine ⟨by omega, by simp; omega, fun e4 => ?_⟩
          have := (HVL.out b e4).2
          omega) hg9 hown9 hat9)
        have HC9 := Lib.hid ((HC3.out.alloc (.cells #[.int .i64 s, .int .i64 k, .int .i64 v, .slice a l.length cp] 37)).below ((Below.refl w.heap.size _).grown hg9 (by simp; omega) (fun j hj => HB9.out j hj)) hlt)
        have HG9 := Lib.hid (gown (galloc HG3.out (.cells #[.int .i64 s, .int .i64 k, .int .i64 v, .slice a l.length cp] 37)) hg9 (fun j hj => HB9.out j hj))
        clear hown9 hg9 hnil9 hat9
        obtain ⟨a9, c9, e9⟩ := rowX_shape HD9.out.out
        subst e9
        refine Lib.hid ?_
        go_wp2
        go_ret
        exact ⟨a9, c9, _, by rw [List.length_append]; rfl, HD9.out, by simp; omega, HC9.out, HG9.out⟩
    | succ n =>
      go_wp2_with (go_at_call 79; (refine (l8Record_any B c _ HC.out).mono ?_); rintro e w1 ⟨s, k, v, g, f0, f1, f2, f3, rfl, hb, hz, hgl, hc, hg⟩; refine Hid.out ?_)
      have hgm : g < w1.heap.size := hb.lt
      have HC1 := Lib.hid (hc.alloc (.cells #[.int .i64 s, .int .i64 k, .int .i64 v, .slice (some ⟨g, 0, none⟩) 4 4] 37))
      have HG1 := Lib.hid (galloc hg (.cells #[.int .i64 s, .int .i64 k, .int .i64 v, .slice (some ⟨g, 0, none⟩) 4 4] 37))
      have HB1 := Lib.hid (hb.alloc (.cells #[.int .i64 s, .int .i64 k, .int .i64 v, .slice (some ⟨g, 0, none⟩) 4 4] 37))
      have HX1 := Lib.hid (RecB.new 37 w1 _ s k v (.slice (some ⟨g, 0, none⟩) 4 4) rfl)
      have HZ := Lib.hid hz
      have HVL := Lib.hid (fun j hj => (World.ownsRow.lt HD.out.out j hj))
      obtain ⟨m, hm⟩ : ∃ m, w1.heap.size = m := ⟨_, rfl⟩
      obtain ⟨wx, hwx⟩ : ∃ x, x = w1.alloc (.cells #[.int .i64 s, .int .i64 k, .int .i64 v, .slice (some ⟨g, 0, none⟩) 4 4] 37) := ⟨_, rfl⟩
      rw [← hwx] at HC1 HG1 HB1 HX1
      rw [hm] at HX1 hgm
      have HM := Lib.hid hm
      have HWX := Lib.hid hwx
      have x3 := HX1.out.c3
      clear hb hz hc hg hm hwx
      by_cases h0 : 0 < q.length
      · have h0i : (0 : Int) < (q.length : Int) := by omega
        obtain ⟨gl, rfl, _, hgl2, -⟩ := rowX_at HD.out.out h0
        refine Lib.hid ?_
        go_wp2_with (go_at_call 80; rw [HM.out, ← HWX.out]; (refine (l1Once_any B c _ _ HC1.out (by omega) (by omega)).mono ?_); rintro e w2 ⟨b, rfl, hc, hg⟩; refine Hid.out ?_)
        have HC2 := Lib.hid hc
        have HG2 := Lib.hid (gtrans HG1.out hg)
        have HB2 := Lib.hid (show BlkV w2 g 9 (F4 f0 f1 f2 f3) from HB1.out.grown hg (by intro e; injection e with e; omega))
        have HX2 := Lib.hid (HX1.out.kept hg (by omega))
        have hz2 := hg.size
        clear hc hg x3
        cases b
        · refine Lib.hid ?_
          have HXt := Lib.hid HX2.out
          have HBt := Lib.hid HB2.out
          have HCt := Lib.hid HC2.out
          have HGt := Lib.hid HG2.out
          have HDt := Lib.hid (HD.out.kept HGt.out hlt)
          have HSt := Lib.hid (smrec (f4_in HBt.out) (by simp) (by simp) (cp := 4) (by simp) (f4_small HZ.out))
          have hzt := HGt.out.size
          have HGLt := Lib.hid (show g < w2.heap.size from HBt.out.lt)
          obtain ⟨wt, hwt⟩ : ∃ x, x = w2 := ⟨_, rfl⟩
          rw [← hwt] at HXt HBt HCt HGt HDt HSt hzt HGLt
          rw [← hwt]
          clear hwt
          have u0 := HXt.out.c0
          have u1 := HXt.out.c1
          have u2 := HXt.out.c2
          have u3 := HXt.out.c3
          go_wp2_with (at_builtin; refine wpList_append_own_at _ rfl _ _ 24 rfl w.heap.size 37 i1 _ 4 48 Tryz.underlying24 hi1 hy0 hy1 hy2 rfl (by decide) _ _ _ rfl (World.ownsRow.alloc HDt.out.out _) ⟨_, 0, none⟩ 1 1 [.int .i64 s, .int .i64 k, .int .i64 v, .slice (some ⟨g, 0, none⟩) 4 4] rfl rfl (four_cells _ _ (by simp) _ _ _ _ _) (by simp [Value.oneCell']) (by unfold maxLen; omega) (by omega) (by simp; omega) ?_; intro v' w9 hown9 hg9 hnil9 hat9; refine Hid.out ?_)
          have HB9 := Lib.hid (show ∀ j, (Value.slice (some ⟨gl, 0, none⟩) q.length cv).ownBlock = some j → w.heap.size ≤ j from fun j hj => (HVL.out j hj).1)
          have HD9 := Lib.hid (DrRc.snoc (x := ((s, k, v), [f0.data.toList, f1.data.toList, f2.data.toList, f3.data.toList])) (HDt.out.alloc _) (HSt.out.alloc _) (fun b o t e h0 => by
            injection e with e
            injection e with e1 e2 e3
            have hg1 := HGLt.out
            refine ⟨by omega, by simp; omega, fun e4 => ?_⟩
            have := (HVL.out b e4).2
            omega) hg9 hown9 hat9)
          have HC9 := Lib.hid ((HCt.out.alloc (.cells #[.int .i64 s, .int .i64 k, .int .i64 v, .slice (some ⟨g, 0, none⟩) 4 4] 37)).below ((Below.refl w.heap.size _).grown hg9 (by simp; omega) (fun j hj => HB9.out j hj)) hlt)
          have HG9 := Lib.hid (gown (galloc (gtrans HG.out HGt.out) (.cells #[.int .i64 s, .int .i64 k, .int .i64 v, .slice (some ⟨g, 0, none⟩) 4 4] 37)) hg9 (fun j hj => HB9.out j hj))
          have H49 := Lib.hid (show ∀ p ∈ q ++ [(((s, k, v), [f0.data.toList, f1.data.toList, f2.data.toList, f3.data.toList]), Value.slice (some ⟨g, 0, none⟩) 4 4)], p.1.2.length = 4 ∧ ∀ y ∈ p.1.2, y.length ≤ 40 from fun p hp => by
            rcases List.mem_append.1 hp with h1 | h1
            · exact H4.out p h1
            · simp at h1
              subst h1
              exact ⟨rfl, f4_small HZ.out⟩)
          clear hown9 hg9 hnil9 hat9 u0 u1 u2 u3
          obtain ⟨a9, c9, e9⟩ := rowX_shape HD9.out.out
          subst e9
          refine Lib.hid ?_
          go_wp2
          go_roundw
          case rel => exact ⟨n, _, a9, c9, by simp; omega, by go_num, by first | rfl | (rw [List.length_append]; rfl), HD9.out, H49.out, HC9.out, HG9.out⟩
          case measure => simp [intOf]
        · have hne : (some g) ≠ (some c) := by intro e; injection e with e; omega
          have x3 := HX2.out.c3
          have HD2 := Lib.hid (HD.out.kept HG2.out hlt)
          refine Lib.hid ?_
          go_wp2_with (fail)
          go_region_with
            (first | (go_at_call 78; (with_reducible refine (l1Below_any B c (q.length : Int) _ ?_ (by omega) (by omega)).mono ?_); exact HC2.out; rintro e w3 ⟨x, rfl, hx0, hx1, hc, hg⟩; obtain ⟨j, rfl⟩ := Int.eq_ofNat_of_zero_le hx0; have hg0 := gdrew hg; have hjl : j < q.length := (by omega); have hjp := List.getElem?_eq_getElem hjl; obtain ⟨bf, of, cf, t, e3, e4, ht, hbf⟩ := (HD2.out.kept hg0 hlt).first rfl hjp (H4.out _ (List.mem_of_getElem? hjp)); have HC3 := Lib.hid hc; have HG3 := Lib.hid (gtrans HG2.out hg0); have HB3 := Lib.hid (show BlkV w3 g 9 (F4 f0 f1 f2 f3) from HB2.out.grown hg0 hne); have HX3 := Lib.hid (HX2.out.kept hg0 (by omega)); have y3 := HX3.out.c3; have y4 := (HX3.out.other ⟨g, 0, none⟩ (.string t) (by simp; omega)).c3; have b0 := HB3.out.cell 0; have b1 := HB3.out.frozen 0; simp only [F4, List.getElem?_toArray, List.getElem?_cons_zero] at b0; clear hc hg hg0 hjp))
          all_goals
            have HZN := Lib.hid (show Z4 t f1 f2 f3 from ⟨by omega, HZ.out.2⟩)
            have hz3 := HG3.out.size
            clear x3 y3 y4 b0 b1 e3 e4
            have HXt := Lib.hid (HX3.out.other ⟨g, 0, none⟩ (.string t) (by simp; omega))
            have HBt := Lib.hid (show BlkV (w3.setCell ⟨g, 0, none⟩ (.string t)) g 9 (F4 t f1 f2 f3) from HB3.out.set_ 0 (.string t))
            have HCt := Lib.hid (cset HC3.out ⟨g, 0, none⟩ (.string t) (by simp; omega))
            have HGt := Lib.hid (gset HG3.out ⟨g, 0, none⟩ (.string t) (by simp; omega))
            have HDt := Lib.hid (HD.out.kept HGt.out hlt)
            have HSt := Lib.hid (smrec (f4_in HBt.out) (by simp) (by simp) (cp := 4) (by simp) (f4_small HZN.out))
            have hzt := HGt.out.size
            have HGLt := Lib.hid (show g < (w3.setCell ⟨g, 0, none⟩ (.string t)).heap.size from HBt.out.lt)
            obtain ⟨wt, hwt⟩ : ∃ x, x = (w3.setCell ⟨g, 0, none⟩ (.string t)) := ⟨_, rfl⟩
            rw [← hwt] at HXt HBt HCt HGt HDt HSt hzt HGLt
            rw [← hwt]
            clear hwt
            have u0 := HXt.out.c0
            have u1 := HXt.out.c1
            have u2 := HXt.out.c2
            have u3 := HXt.out.c3
            go_wp2_with (at_builtin; refine wpList_append_own_at _ rfl _ _ 24 rfl w.heap.size 37 i1 _ 4 48 Tryz.underlying24 hi1 hy0 hy1 hy2 rfl (by decide) _ _ _ rfl (World.ownsRow.alloc HDt.out.out _) ⟨_, 0, none⟩ 1 1 [.int .i64 s, .int .i64 k, .int .i64 v, .slice (some ⟨g, 0, none⟩) 4 4] rfl rfl (four_cells _ _ (by simp) _ _ _ _ _) (by simp [Value.oneCell']) (by unfold maxLen; omega) (by omega) (by simp; omega) ?_; intro v' w9 hown9 hg9 hnil9 hat9; refine Hid.out ?_)
            have HB9 := Lib.hid (show ∀ j, (Value.slice (some ⟨gl, 0, none⟩) q.length cv).ownBlock = some j → w.heap.size ≤ j from fun j hj => (HVL.out j hj).1)
            have HD9 := Lib.hid (DrRc.snoc (x := ((s, k, v), [t.data.toList, f1.data.toList, f2.data.toList, f3.data.toList])) (HDt.out.alloc _) (HSt.out.alloc _) (fun b o t e h0 => by
              injection e with e
              injection e with e1 e2 e3
              have hg1 := HGLt.out
              refine ⟨by omega, by simp; omega, fun e4 => ?_⟩
              have := (HVL.out b e4).2
              omega) hg9 hown9 hat9)
            have HC9 := Lib.hid ((HCt.out.alloc (.cells #[.int .i64 s, .int .i64 k, .int .i64 v, .slice (some ⟨g, 0, none⟩) 4 4] 37)).below ((Below.refl w.heap.size _).grown hg9 (by simp; omega) (fun j hj => HB9.out j hj)) hlt)
            have HG9 := Lib.hid (gown (galloc (gtrans HG.out HGt.out) (.cells #[.int .i64 s, .int .i64 k, .int .i64 v, .slice (some ⟨g, 0, none⟩) 4 4] 37)) hg9 (fun j hj => HB9.out j hj))
            have H49 := Lib.hid (show ∀ p ∈ q ++ [(((s, k, v), [t.data.toList, f1.data.toList, f2.data.toList, f3.data.toList]), Value.slice (some ⟨g, 0, none⟩) 4 4)], p.1.2.length = 4 ∧ ∀ y ∈ p.1.2, y.length ≤ 40 from fun p hp => by
              rcases List.mem_append.1 hp with h1 | h1
              · exact H4.out p h1
              · simp at h1
                subst h1
                exact ⟨rfl, f4_small HZN.out⟩)
            clear hown9 hg9 hnil9 hat9 u0 u1 u2 u3
            obtain ⟨a9, c9, e9⟩ := rowX_shape HD9.out.out
            subst e9
            refine Lib.hid ?_
            go_wp2
            go_roundw
            case rel => exact ⟨n, _, a9, c9, by simp; omega, by go_num, by first | rfl | (rw [List.length_append]; rfl), HD9.out, H49.out, HC9.out, HG9.out⟩
            case measure => simp [intOf]
      · have h0i : ¬ (0 : Int) < (q.length : Int) := by omega
        have hwx := HWX.out
        have hm := HM.out
        clear x3
        subst hwx
        subst hm
        clear HM HWX
        refine Lib.hid ?_
        have HXt := Lib.hid HX1.out
        have HBt := Lib.hid HB1.out
        have HCt := Lib.hid HC1.out
        have HGt := Lib.hid HG1.out
        have HDt := Lib.hid (HD.out.kept HGt.out hlt)
        have HSt := Lib.hid (smrec (f4_in HBt.out) (by simp) (by simp) (cp := 4) (by simp) (f4_small HZ.out))
        have hzt := HGt.out.size
        have HGLt := Lib.hid (show g < (w1.alloc (.cells #[.int .i64 s, .int .i64 k, .int .i64 v, .slice (some ⟨g, 0, none⟩) 4 4] 37)).heap.size from HBt.out.lt)
        have u0 := HXt.out.c0
        have u1 := HXt.out.c1
        have u2 := HXt.out.c2
        have u3 := HXt.out.c3
        go_wp2_with (at_builtin; refine wpList_append_own_at _ rfl _ _ 24 rfl w.heap.size 37 i1 _ 4 48 Tryz.underlying24 hi1 hy0 hy1 hy2 rfl (by decide) _ _ _ rfl (World.ownsRow.alloc HDt.out.out _) ⟨_, 0, none⟩ 1 1 [.int .i64 s, .int .i64 k, .int .i64 v, .slice (some ⟨g, 0, none⟩) 4 4] rfl rfl (four_cells _ _ (by simp) _ _ _ _ _) (by simp [Value.oneCell']) (by unfold maxLen; omega) (by omega) (by simp; omega) ?_; intro v' w9 hown9 hg9 hnil9 hat9; refine Hid.out ?_)
        have HB9 := Lib.hid (show ∀ j, (Value.slice (av) q.length cv).ownBlock = some j → w.heap.size ≤ j from fun j hj => (HVL.out j hj).1)
        have HD9 := Lib.hid (DrRc.snoc (x := ((s, k, v), [f0.data.toList, f1.data.toList, f2.data.toList, f3.data.toList])) (HDt.out.alloc _) (HSt.out.alloc _) (fun b o t e h0 => by
          injection e with e
          injection e with e1 e2 e3
          have hg1 := HGLt.out
          refine ⟨by omega, by simp; omega, fun e4 => ?_⟩
          have := (HVL.out b e4).2
          omega) hg9 hown9 hat9)
        have HC9 := Lib.hid ((HCt.out.alloc (.cells #[.int .i64 s, .int .i64 k, .int .i64 v, .slice (some ⟨g, 0, none⟩) 4 4] 37)).below ((Below.refl w.heap.size _).grown hg9 (by simp; omega) (fun j hj => HB9.out j hj)) hlt)
        have HG9 := Lib.hid (gown (galloc (gtrans HG.out HGt.out) (.cells #[.int .i64 s, .int .i64 k, .int .i64 v, .slice (some ⟨g, 0, none⟩) 4 4] 37)) hg9 (fun j hj => HB9.out j hj))
        have H49 := Lib.hid (show ∀ p ∈ q ++ [(((s, k, v), [f0.data.toList, f1.data.toList, f2.data.toList, f3.data.toList]), Value.slice (some ⟨g, 0, none⟩) 4 4)], p.1.2.length = 4 ∧ ∀ y ∈ p.1.2, y.length ≤ 40 from fun p hp => by
          rcases List.mem_append.1 hp with h1 | h1
          · exact H4.out p h1
          · simp at h1
            subst h1
            exact ⟨rfl, f4_small HZ.out⟩)
        clear hown9 hg9 hnil9 hat9 u0 u1 u2 u3
        obtain ⟨a9, c9, e9⟩ := rowX_shape HD9.out.out
        subst e9
        refine Lib.hid ?_
        go_wp2
        go_roundw
        case rel => exact ⟨n, _, a9, c9, by simp; omega, by go_num, by first | rfl | (rw [List.length_append]; rfl), HD9.out, H49.out, HC9.out, HG9.out⟩
        case measure => simp [intOf]

end Go.Proofs.YtebddnjccmaimaaGreatDoor
