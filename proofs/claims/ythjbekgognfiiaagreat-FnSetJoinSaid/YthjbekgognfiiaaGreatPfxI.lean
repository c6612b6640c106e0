/-
  Inserting a set into a prefix index. By an AI agent.
-/
import Derived.Test.YthjbekgognfiiaaGreatJ8
import Derived.Test.YthjbekgognfiiaaGreatIxU
namespace Go.Proofs.YthjbekgognfiiaaGreat
open Go.RowKit Go.Maps Go.Sort
set_option linter.unusedVariables false

theorem OwnS.hchg {w w' : World} {lo bH : Nat} {v : Value} {l : List Str} {g : Str → Option Nat} (h : OwnS w lo v l) (hc : HChg w w' bH g) (h1 : bH < lo) (h2 : ∀ x b, g x = some b → b < lo) : OwnS w' lo v l :=
  row_block h fun k hk => by
    have := World.ownsRow.lt h k hk
    exact hc.block k this.2 (by omega) (fun x e => by have := h2 x k e; omega)
theorem HChg.trans_ {w w1 w2 : World} {bH : Nat} {g g1 : Str → Option Nat} (h : HChg w w1 bH g) (h' : HChg w1 w2 bH g1) (hg : ∀ x b, g1 x = some b → g x = some b ∨ w.heap.size ≤ b) : HChg w w2 bH g :=
  ⟨h'.os.trans h.os, h'.tape.trans h.tape, h'.output.trans h.output, Nat.le_trans h.size h'.size, fun k hk e1 e2 => (h'.block k (Nat.lt_of_lt_of_le hk h.size) e1 (fun x e => by
    rcases hg x k e with h3 | h3
    · exact e2 x h3
    · omega)).trans (h.block k hk e1 e2)⟩
theorem HChg.alloc {w w1 : World} {bH : Nat} {g : Str → Option Nat} (h : HChg w w1 bH g) (o : Obj) : HChg w (w1.alloc o) bH g :=
  h.trans_ (HChg.of ((Below.refl _ _).alloc (Nat.le_refl _) o)) (fun x b e => .inl e)
theorem ins_step {ks : List Str} {k : Nat} {x : Str} {id : Int} {u : Value} {f : Str → Int → Option Value} (hx : ks[k]? = some x) (y : Str) (i : Int) :
    (if y = x then (if i = id then some u else (if x ∈ ks.take k ∧ i = id then some u else f x i)) else (if y ∈ ks.take k ∧ i = id then some u else f y i)) = (if y ∈ ks.take (k + 1) ∧ i = id then some u else f y i) := by
  rw [take_snoc' hx]
  by_cases e : y = x
  · subst e
    by_cases e2 : i = id
    · simp [e2]
    · simp [e2]
  · simp [e]

theorem row_str {w : World} {base : Nat} {a : Option Addr} {n c : Nat} {ks : List Str} {k : Nat} {x : Str} (h : OwnS w base (.slice a n c) ks) (hx : ks[k]? = some x) : ∃ gb, a = some ⟨gb, 0, none⟩ ∧ base ≤ gb ∧ gb < w.heap.size ∧ w.cell? ⟨gb, k, none⟩ = some (.string ⟨x.toArray⟩) := by
  have hk := (List.getElem?_eq_some_iff.1 hx).1
  have e : n = ks.length := by obtain ⟨a', c', e⟩ := OwnS.shape h; injection e
  subst e
  obtain ⟨gb, e1, e2, e3, e4⟩ := rowX_at h (by omega)
  have := e4 k (encStr x) (by rw [List.getElem?_map, hx]; rfl)
  rw [Nat.zero_add] at this
  exact ⟨gb, e1, e2, e3, this⟩

set_option maxRecDepth 100000 in
set_option maxHeartbeats 2000000 in
theorem insert_any (t : Int) (ta : Option Addr) (tc : Nat) (T : List TC) (id : Int) (a : Option Addr) (c : Nat) (l ks : List Str) (lo bH n : Nat) (g : Str → Option Nat) (f : Str → Int → Option Value) (w : World)
    (hk : keysR T t l = ks) (hT : SmW w ta T tc) (hS : Sm w a l c) (hid : (Lit.int .i64 id).wf = true) (hn : n + 2 * ks.length < maxLen) (hkl : ks.length ≤ 4000001) (hks : ∀ x ∈ ks, x.length ≤ maxLen) (h : Hold w lo bH n g f) :
    Calls Tryz.prog 67 #[.agg #[.int .i64 t, .slice ta T.length tc, .map (some bH)], .agg #[.int .i64 id, .slice a l.length c]] w fun e w' => e = .returned (.tuple #[]) ∧
      ∃ g', Hold w' lo bH (n + 2 * ks.length) g' (fun x i => if x ∈ ks ∧ i = id then some (.slice a l.length c) else f x i) ∧ HChg w w' bH g ∧ ∀ x b, g' x = some b → g x = some b ∨ w.heap.size ≤ b := by
  have HBL := Lib.hid h.out.lt
  have HGL := Lib.hid (show ∀ x b, g x = some b → b < w.heap.size from fun x b hx => (h.inn x b hx).lt)
  obtain ⟨w0, hw0⟩ : ∃ w0, w0 = (w.alloc (.cells #[.int .i64 t, .slice ta T.length tc, .map (some bH)] 64)).alloc (.cells #[.int .i64 id, .slice a l.length c] 71) := ⟨_, rfl⟩
  have HW0 := Lib.hid hw0
  have HB0 := Lib.hid (show Below w.heap.size w w0 by rw [hw0]; exact ((Below.refl _ _).alloc (Nat.le_refl _) _).alloc (by simp) _)
  have HR0 := Lib.hid (show BlkV w0 w.heap.size 64 #[.int .i64 t, .slice ta T.length tc, .map (some bH)] by rw [hw0]; exact (BlkV.new_ _ _ _ _ rfl).alloc _)
  have HR1 := Lib.hid (show BlkV w0 (w.heap.size + 1) 71 #[.int .i64 id, .slice a l.length c] by rw [hw0]; exact BlkV.new_ _ _ _ _ (by simp))
  have HZ0 := Lib.hid (show w0.heap.size = w.heap.size + 2 by rw [hw0]; simp)
  have HK := Lib.hid (keys_any t ta tc T (.map (some bH)) a c l ks w0 hk (hT.below HB0.out) (hS.below HB0.out))
  have HH0 := Lib.hid (h.below HB0.out)
  have HID := Lib.hid hid
  have HN := Lib.hid hn
  have HKS := Lib.hid hks
  have hmm := @run_makeMap Tryz.prog
  have hqm : ∀ (W : World) (o : Option Nat), (binOp .eql 61 (.map o) (.map none)).run Tryz.prog W = .ok (.bool o.isNone) W := fun W o => q_mapnil _ _ _ Tryz.underlying61 W o
  clear hw0 hk hT hS hid hn hks h
  go_enter Tryz.func67, Tryz.ntmps67
  go_wp2_with (go_at_call 69; rw [← HW0.out]; (refine HK.out.mono ?_); rintro e w1 ⟨a1, c1, rfl, ho, hb⟩; refine Hid.out ?_)
  have HO1 := Lib.hid ho
  have HB1 := Lib.hid (HB0.out.trans (hb.mono HB0.out.size))
  have HZ1 := Lib.hid hb.size
  have HR01 := Lib.hid (HR0.out.below hb)
  have HR11 := Lib.hid (HR1.out.below hb)
  have HH1 := Lib.hid (HH0.out.below hb)
  clear ho hb
  refine Lib.hid ?_
  go_wp2
  go_loopw [11] (fun i wr => ∃ (k : Nat) (gk : Str → Option Nat), k ≤ ks.length ∧ i = .int .i64 k ∧ Hold wr lo bH (n + 2 * k) gk (fun x i => if x ∈ ks.take k ∧ i = id then some (.slice a l.length c) else f x i) ∧ HChg w1 wr bH g ∧ ∀ x b, gk x = some b → g x = some b ∨ w1.heap.size ≤ b) (fun i _ => ks.length - (intOf i).toNat)
  case atStart => exact ⟨0, g, Nat.zero_le _, rfl, HH1.out.congr (fun x i => by simp), HChg.of (Below.refl _ _), fun x b e => .inl e⟩
  case round =>
    obtain ⟨k, gk, hk, rfl, hH, hC, hG⟩ := hrel
    have hz0 := HZ0.out
    have hz1 := HZ1.out
    have hbl := HBL.out
    have HH := Lib.hid hH
    have HC := Lib.hid hC
    have HG := Lib.hid hG
    have HR0r := Lib.hid (HR01.out.hchg hC (by omega) (fun x e => by have := HGL.out x _ e; omega))
    have HR1r := Lib.hid (HR11.out.hchg hC (by omega) (fun x e => by have := HGL.out x _ e; omega))
    have HO := Lib.hid (HO1.out.hchg hC (by omega) (fun x b e => by have := HGL.out x b e; omega))
    clear hH hC hG hz1 hbl
    by_cases hlt : k < ks.length
    · have hj := List.getElem?_eq_getElem hlt
      generalize ks[k] = x at hj
      obtain ⟨gb, rfl, hgb, hgb2, hcell⟩ := row_str HO.out hj
      have hcell' : wr.cell? ⟨gb, 0 + k, none⟩ = some (.string ⟨x.toArray⟩) := by rw [Nat.zero_add]; exact hcell
      have HX := Lib.hid (HKS.out x (List.mem_of_getElem? hj))
      have HJ := Lib.hid hj
      clear hj hz0
      have p2 := HR0r.out.three2
      rcases hgx : gk x with _ | b
      · have HGX := Lib.hid hgx
        clear hgx
        have e0 := HR1r.out.two0
        have e1 := HR1r.out.two1
        go_wp2_with (first
          | (at_lookup; refine wpList_smap_lookup _ 62 61 Tryz.underlying62 (zeroMap _) rfl _ _ rfl bH _ _ HH.out.out rfl ⟨x.toArray⟩ x rfl (by simp) (by simpa [ByteArray.size] using HX.out) (.map none) (by rw [HGX.out]; rfl) ?_)
          | (at_mapUpdate; refine wpList_smap_store _ 62 61 Tryz.underlying62 rfl _ _ _ rfl bH _ _ (HH.out.out.below ((Below.refl _ _).alloc (Nat.le_refl _) _)) rfl (by have := HN.out; omega) ⟨x.toArray⟩ x rfl (.map (some wr.heap.size)) rfl (by simp) (by simpa [ByteArray.size] using HX.out) ?_; intro w3 hs3 hg3; refine Hid.out ?_))
        have HH3 := Lib.hid (Hold.new HH.out HGX.out rfl (Nat.le_trans HH.out.low (Nat.le_of_lt HH.out.out.lt)) hs3 hg3)
        have HC3 := Lib.hid ((HC.out.alloc (.map #[] 0)).grown hg3 (.inl rfl))
        have HGG := Lib.hid (show ∀ y b, (if y = x then some wr.heap.size else gk y) = some b → g y = some b ∨ w1.heap.size ≤ b from fun y b e => by
          by_cases e2 : y = x
          · rw [if_pos e2] at e; obtain rfl := Option.some.inj e; exact .inr HC.out.size
          · rw [if_neg e2] at e; exact HG.out y b e)
        have HL3 := Lib.hid (show bH < w0.heap.size ∧ w.heap.size + 1 ≠ bH ∧ w.heap.size ≠ bH from by have := HZ0.out; have := HBL.out; omega)
        have HM3 := Lib.hid (show ∀ y b, g y = some b → b ≠ w.heap.size ∧ b ≠ w.heap.size + 1 from fun y b e => by have := HGL.out y b e; omega)
        have HR0t := Lib.hid (HR01.out.hchg HC3.out HL3.out.2.2 (fun y e => (HM3.out y _ e).1 rfl))
        have HR1t := Lib.hid (HR11.out.hchg HC3.out HL3.out.2.1 (fun y e => (HM3.out y _ e).2 rfl))
        have HI3 := Lib.hid (HH3.out.inn x wr.heap.size (if_pos rfl))
        clear hs3 hg3 p2 e0 e1
        have p2 := HR0t.out.three2
        have e0 := HR1t.out.two0
        have e1 := HR1t.out.two1
        refine Lib.hid ?_
        go_wp2_with (first
          | (at_lookup; refine wpList_smap_lookup _ 62 61 Tryz.underlying62 (zeroMap _) rfl _ _ rfl bH _ _ HH3.out.out rfl ⟨x.toArray⟩ x rfl (by simp) (by simpa [ByteArray.size] using HX.out) (.map (some wr.heap.size)) (by simp) ?_)
          | (at_mapUpdate; refine wpList_nmap_store _ 61 28 Tryz.underlying61 rfl _ _ _ rfl wr.heap.size _ _ HI3.out rfl (by have := HN.out; omega) id rfl (.slice a l.length c) rfl HID.out ?_; intro w4 hs4 hg4; refine Hid.out ?_))
        have HH4 := Lib.hid (HH3.out.turn (if_pos rfl) (Nat.le_succ _) hs4 hg4)
        have HC4 := Lib.hid (HC3.out.grown hg4 (.inr (.inr HC.out.size)))
        clear hs4 hg4
        refine Lib.hid ?_
        go_wp2
        go_roundw
        case rel => exact ⟨k + 1, _, by omega, by go_num, (HH4.out.congr (fun y i => ins_step HJ.out y i)).mono (by omega), HC4.out, HGG.out⟩
        case measure => simp [intOf]; omega
      · have HGX := Lib.hid hgx
        have HI := Lib.hid (HH.out.inn x b hgx)
        clear hgx
        have e0 := HR1r.out.two0
        have e1 := HR1r.out.two1
        go_wp2_with (first
          | (at_lookup; refine wpList_smap_lookup _ 62 61 Tryz.underlying62 (zeroMap _) rfl _ _ rfl bH _ _ HH.out.out rfl ⟨x.toArray⟩ x rfl (by simp) (by simpa [ByteArray.size] using HX.out) (.map (some b)) (by rw [HGX.out]; rfl) ?_)
          | (at_mapUpdate; refine wpList_nmap_store _ 61 28 Tryz.underlying61 rfl _ _ _ rfl b _ _ HI.out rfl (by have := HN.out; omega) id rfl (.slice a l.length c) rfl HID.out ?_; intro w4 hs4 hg4; refine Hid.out ?_))
        have HH4 := Lib.hid (HH.out.turn HGX.out (Nat.le_succ _) hs4 hg4)
        have HC4 := Lib.hid (HC.out.grown hg4 (by
          rcases HG.out x b HGX.out with h | h
          · exact .inr (.inl ⟨x, h⟩)
          · exact .inr (.inr h)))
        clear hs4 hg4
        refine Lib.hid ?_
        go_wp2
        go_roundw
        case rel => exact ⟨k + 1, gk, by omega, by go_num, (HH4.out.congr (fun y i => ins_step HJ.out y i)).mono (by omega), HC4.out, HG.out⟩
        case measure => simp [intOf]; omega
    · obtain rfl : k = ks.length := by omega
      clear hz0
      go_wp2
      go_end0
      refine ⟨rfl, gk, HH.out.congr (fun x i => by rw [List.take_length]), (HChg.of HB1.out).trans_ HC.out (fun x b e => .inl e), fun x b e => ?_⟩
      rcases HG.out x b e with h | h
      · exact .inl h
      · exact .inr (Nat.le_trans HB1.out.size h)


theorem rem_step {ks : List Str} {k : Nat} {x : Str} {id : Int} {f : Str → Int → Option Value} (hx : ks[k]? = some x) (y : Str) (i : Int) :
    (if y = x then (if i = id then none else (if x ∈ ks.take k ∧ i = id then none else f x i)) else (if y ∈ ks.take k ∧ i = id then none else f y i)) = (if y ∈ ks.take (k + 1) ∧ i = id then none else f y i) := by
  rw [take_snoc' hx]
  by_cases e : y = x
  · subst e
    by_cases e2 : i = id
    · simp [e2]
    · simp [e2]
  · simp [e]
theorem rem_none {ks : List Str} {k : Nat} {x : Str} {id : Int} {f : Str → Int → Option Value} (hx : ks[k]? = some x) (h0 : ∀ i, f x i = none) (y : Str) (i : Int) :
    (if y ∈ ks.take k ∧ i = id then none else f y i) = (if y ∈ ks.take (k + 1) ∧ i = id then none else f y i) := by
  rw [take_snoc' hx]
  by_cases e : y = x
  · subst e
    simp [h0]
  · simp [e]
theorem rem_no {ks : List Str} {k : Nat} {x : Str} {id : Int} {f : Str → Int → Option Value} (h : ∀ i, (if x ∈ ks.take k ∧ i = id then none else f x i) = none) (hf : x ∉ ks.take k) : ∀ i, f x i = none := fun i => by
  have := h i
  rwa [if_neg (fun e => hf e.1)] at this

set_option maxRecDepth 100000 in
set_option maxHeartbeats 2000000 in
theorem remove_any (t : Int) (ta : Option Addr) (tc : Nat) (T : List TC) (id : Int) (a : Option Addr) (c : Nat) (l ks : List Str) (lo bH n : Nat) (g : Str → Option Nat) (f : Str → Int → Option Value) (w : World)
    (hk : keysR T t l = ks) (hT : SmW w ta T tc) (hS : Sm w a l c) (hid : (Lit.int .i64 id).wf = true) (hkl : ks.length ≤ 4000001) (hks : ∀ x ∈ ks, x.length ≤ maxLen) (h : Hold w lo bH n g f) :
    Calls Tryz.prog 40 #[.agg #[.int .i64 t, .slice ta T.length tc, .map (some bH)], .agg #[.int .i64 id, .slice a l.length c]] w fun e w' => e = .returned (.tuple #[]) ∧
      Hold w' lo bH n g (fun x i => if x ∈ ks ∧ i = id then none else f x i) ∧ HChg w w' bH g := by
  have HBL := Lib.hid h.out.lt
  have HGL := Lib.hid (show ∀ x b, g x = some b → b < w.heap.size from fun x b hx => (h.inn x b hx).lt)
  obtain ⟨w0, hw0⟩ : ∃ w0, w0 = (w.alloc (.cells #[.int .i64 t, .slice ta T.length tc, .map (some bH)] 64)).alloc (.cells #[.int .i64 id, .slice a l.length c] 71) := ⟨_, rfl⟩
  have HW0 := Lib.hid hw0
  have HB0 := Lib.hid (show Below w.heap.size w w0 by rw [hw0]; exact ((Below.refl _ _).alloc (Nat.le_refl _) _).alloc (by simp) _)
  have HR0 := Lib.hid (show BlkV w0 w.heap.size 64 #[.int .i64 t, .slice ta T.length tc, .map (some bH)] by rw [hw0]; exact (BlkV.new_ _ _ _ _ rfl).alloc _)
  have HR1 := Lib.hid (show BlkV w0 (w.heap.size + 1) 71 #[.int .i64 id, .slice a l.length c] by rw [hw0]; exact BlkV.new_ _ _ _ _ (by simp))
  have HZ0 := Lib.hid (show w0.heap.size = w.heap.size + 2 by rw [hw0]; simp)
  have HK := Lib.hid (keys_any t ta tc T (.map (some bH)) a c l ks w0 hk (hT.below HB0.out) (hS.below HB0.out))
  have HH0 := Lib.hid (h.below HB0.out)
  have HID := Lib.hid hid
  have HKS := Lib.hid hks
  clear hw0 hk hT hS hid hks h
  go_enter Tryz.func40, Tryz.ntmps40
  go_wp2_with (go_at_call 69; rw [← HW0.out]; (refine HK.out.mono ?_); rintro e w1 ⟨a1, c1, rfl, ho, hb⟩; refine Hid.out ?_)
  have HO1 := Lib.hid ho
  have HB1 := Lib.hid (HB0.out.trans (hb.mono HB0.out.size))
  have HZ1 := Lib.hid hb.size
  have HR01 := Lib.hid (HR0.out.below hb)
  have HR11 := Lib.hid (HR1.out.below hb)
  have HH1 := Lib.hid (HH0.out.below hb)
  clear ho hb
  refine Lib.hid ?_
  go_wp2
  go_loopw [11] (fun i wr => ∃ k : Nat, k ≤ ks.length ∧ i = .int .i64 k ∧ Hold wr lo bH n g (fun x i => if x ∈ ks.take k ∧ i = id then none else f x i) ∧ HChg w1 wr bH g) (fun i _ => ks.length - (intOf i).toNat)
  case atStart => exact ⟨0, Nat.zero_le _, rfl, HH1.out.congr (fun x i => by simp), HChg.of (Below.refl _ _)⟩
  case round =>
    obtain ⟨k, hk, rfl, hH, hC⟩ := hrel
    have hz0 := HZ0.out
    have hz1 := HZ1.out
    have hbl := HBL.out
    have HH := Lib.hid hH
    have HC := Lib.hid hC
    have HR0r := Lib.hid (HR01.out.hchg hC (by omega) (fun x e => by have := HGL.out x _ e; omega))
    have HR1r := Lib.hid (HR11.out.hchg hC (by omega) (fun x e => by have := HGL.out x _ e; omega))
    have HO := Lib.hid (HO1.out.hchg hC (by omega) (fun x b e => by have := HGL.out x b e; omega))
    clear hH hC hz1 hbl
    by_cases hlt : k < ks.length
    · have hj := List.getElem?_eq_getElem hlt
      generalize ks[k] = x at hj
      obtain ⟨gb, rfl, hgb, hgb2, hcell⟩ := row_str HO.out hj
      have hcell' : wr.cell? ⟨gb, 0 + k, none⟩ = some (.string ⟨x.toArray⟩) := by rw [Nat.zero_add]; exact hcell
      have HX := Lib.hid (HKS.out x (List.mem_of_getElem? hj))
      have HJ := Lib.hid hj
      clear hj hz0
      have p2 := HR0r.out.three2
      have e0 := HR1r.out.two0
      have e1 := HR1r.out.two1
      rcases hgx : g x with _ | b
      · have HGX := Lib.hid hgx
        clear hgx
        go_wp2_with (first
          | (at_lookup; refine wpList_smap_lookup _ 62 61 Tryz.underlying62 (zeroMap _) rfl _ _ rfl bH _ _ HH.out.out rfl ⟨x.toArray⟩ x rfl (by simp) (by simpa [ByteArray.size] using HX.out) (.map none) (by rw [HGX.out]; rfl) ?_)
          | (at_delete; refine wpList_nil_delete _ 61 28 Tryz.underlying61 rfl _ _ rfl rfl id rfl HID.out ?_; refine Hid.out ?_))
        refine Lib.hid ?_
        go_wp2
        go_roundw
        case rel => exact ⟨k + 1, by omega, by go_num, HH.out.congr (fun y i => by
          by_cases e : x ∈ ks.take k
          · rw [take_snoc' HJ.out]
            have e2 : y ∈ ks.take k ++ [x] ↔ y ∈ ks.take k := by
              simp only [List.mem_append, List.mem_singleton]
              exact ⟨fun h => h.elim (fun h => h) (fun h => h ▸ e), Or.inl⟩
            simp only [e2]
          · exact rem_none HJ.out (rem_no (HH.out.no x HGX.out) e) y i), HC.out⟩
        case measure => simp [intOf]; omega
      · have HGX := Lib.hid hgx
        have HI := Lib.hid (HH.out.inn x b hgx)
        clear hgx
        go_wp2_with (first
          | (at_lookup; refine wpList_smap_lookup _ 62 61 Tryz.underlying62 (zeroMap _) rfl _ _ rfl bH _ _ HH.out.out rfl ⟨x.toArray⟩ x rfl (by simp) (by simpa [ByteArray.size] using HX.out) (.map (some b)) (by rw [HGX.out]; rfl) ?_)
          | (at_delete; refine wpList_nmap_delete _ 61 28 Tryz.underlying61 rfl _ _ rfl b _ _ HI.out rfl id rfl HID.out ?_; intro w4 hs4 hg4; refine Hid.out ?_))
        have HH4 := Lib.hid (HH.out.turn HGX.out (Nat.le_refl _) hs4 hg4)
        have HC4 := Lib.hid (HC.out.grown hg4 (.inr (.inl ⟨x, HGX.out⟩)))
        clear hs4 hg4
        refine Lib.hid ?_
        go_wp2
        go_roundw
        case rel => exact ⟨k + 1, by omega, by go_num, HH4.out.congr (fun y i => rem_step HJ.out y i), HC4.out⟩
        case measure => simp [intOf]; omega
    · obtain rfl : k = ks.length := by omega
      clear hz0
      go_wp2
      go_end0
      exact ⟨rfl, HH.out.congr (fun x i => by rw [List.take_length]), (HChg.of HB1.out).trans_ HC.out (fun x b e => .inl e)⟩

end Go.Proofs.YthjbekgognfiiaaGreat
