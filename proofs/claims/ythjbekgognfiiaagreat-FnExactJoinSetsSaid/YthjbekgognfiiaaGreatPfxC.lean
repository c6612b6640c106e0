/-
  The candidates that a prefix index finds. By an AI agent.
-/
import Derived.Test.YthjbekgognfiiaaGreatPfxO
import Derived.Test.YthjbekgognfiiaaGreatJ3
import Derived.Test.YthjbekgognfiiaaGreatFilt
import Derived.Laws.IdiomRangeMap
namespace Go.Proofs.YthjbekgognfiiaaGreat
open Go.RowKit Go.Maps Go.Sort
set_option linter.unusedVariables false

theorem step_le {m k e N : Nat} (h : m ≤ k * N + e) (he : e ≤ N) : m ≤ (k + 1) * N := by rw [Nat.succ_mul]; omega
theorem step_le0 {m k N : Nat} (h : m ≤ k * N) : m ≤ (k + 1) * N := by rw [Nat.succ_mul]; omega
theorem grown_none {w w' : World} (h : w.grownBy w' none) : Below w.heap.size w w' := ⟨h.os, h.tape, h.output, h.size, fun i hi => h.block i hi (by simp)⟩

/-- what is found, told of a set as it lies -/
def FoundP (P : XS → Prop) (q : List XS) (h : Int → Option Value) : Prop := ∀ i v, h i = some v ↔ ∃ p ∈ q, p.1.1 = i ∧ P p ∧ p.2 = v
theorem FoundP.nil {P : XS → Prop} {q : List XS} (hP : ∀ p ∈ q, ¬ P p) : FoundP P q (fun _ => none) := fun i v => by
  constructor
  · intro h; cases h
  · rintro ⟨p, hp, _, h, _⟩; exact absurd h (hP p hp)
theorem FoundP.congr {P P' : XS → Prop} {q : List XS} {h : Int → Option Value} (hf : FoundP P q h) (he : ∀ p ∈ q, P p ↔ P' p) : FoundP P' q h := fun i v => by
  rw [hf i v]
  constructor
  · rintro ⟨p, hp, h1, h2, h3⟩; exact ⟨p, hp, h1, (he p hp).1 h2, h3⟩
  · rintro ⟨p, hp, h1, h2, h3⟩; exact ⟨p, hp, h1, (he p hp).2 h2, h3⟩
theorem FoundP.put {P P' : XS → Prop} {q : List XS} {h : Int → Option Value} {r : XS} (hf : FoundP P q h) (hr : r ∈ q) (hd : ∀ p ∈ q, ∀ s ∈ q, p.1.1 = s.1.1 → p = s) (he : ∀ p ∈ q, P' p ↔ (P p ∨ p = r)) : FoundP P' q (fun i => if i = r.1.1 then some r.2 else h i) := fun i v => by
  show (if i = r.1.1 then some r.2 else h i) = some v ↔ _
  by_cases e : i = r.1.1
  · rw [if_pos e]
    constructor
    · intro e2
      exact ⟨r, hr, e.symm, (he r hr).2 (.inr rfl), Option.some.inj e2⟩
    · rintro ⟨p, hp, h1, h2, h3⟩
      rw [hd p hp r hr (h1.trans e)] at h3
      rw [h3]
  · rw [if_neg e, hf i v]
    constructor
    · rintro ⟨p, hp, h1, h2, h3⟩; exact ⟨p, hp, h1, (he p hp).2 (.inl h2), h3⟩
    · rintro ⟨p, hp, h1, h2, h3⟩
      rcases (he p hp).1 h2 with h4 | h4
      · exact ⟨p, hp, h1, h4, h3⟩
      · subst h4; exact absurd h1.symm e
theorem FoundP.del {P P' : XS → Prop} {q : List XS} {h : Int → Option Value} {r : XS} (hf : FoundP P q h) (hr : r ∈ q) (hd : ∀ p ∈ q, ∀ s ∈ q, p.1.1 = s.1.1 → p = s) (he : ∀ p ∈ q, P' p ↔ (P p ∧ p ≠ r)) : FoundP P' q (fun i => if i = r.1.1 then none else h i) := fun i v => by
  show (if i = r.1.1 then none else h i) = some v ↔ _
  by_cases e : i = r.1.1
  · rw [if_pos e]
    constructor
    · intro e2; cases e2
    · rintro ⟨p, hp, h1, h2, h3⟩
      exact absurd (hd p hp r hr (h1.trans e)) ((he p hp).1 h2).2
  · rw [if_neg e, hf i v]
    constructor
    · rintro ⟨p, hp, h1, h2, h3⟩; exact ⟨p, hp, h1, (he p hp).2 ⟨h2, fun e2 => e (by rw [← h1, e2])⟩, h3⟩
    · rintro ⟨p, hp, h1, h2, h3⟩; exact ⟨p, hp, h1, ((he p hp).1 h2).1, h3⟩
/-- an entry that a range meets -/
theorem met_val {D : DataW Value} {f : Int → Option Value} {z : Int} {c : Value} {yd : DataW Value × List MemPlace} (hhas : ∀ x : Int, Maps.has D (.int .i64 x) = (f x).isSome) (hat : ∀ (x : Int) (u : Value), D.atKey (.int .i64 x) (.held u) = .held ((f x).getD u))
    (hv : heldE c = some yd) (h : ∀ zd, D.atKey (.int .i64 z) zd = yd.1) : f z = some c := by
  have h1 : Maps.has D (.int .i64 z) = true := Maps.has_true_of_atKey h
  rw [hhas z] at h1
  obtain ⟨v, hv2⟩ := Option.isSome_iff_exists.1 h1
  have h2 := h (.held c)
  rw [hat z c, hv2] at h2
  unfold heldE at hv
  obtain rfl := Option.some.inj hv
  injection h2 with h3
  rw [hv2]
  exact congrArg some h3
theorem coll_done {D : DataW Value} {f : Int → Option Value} {left : Lit → Bool} {zs : List Int} (hhas : ∀ x : Int, Maps.has D (.int .i64 x) = (f x).isSome) (h : CollN D left zs) (hl : ∀ kl, left kl = false) (z : Int) : z ∈ zs ↔ (f z).isSome = true := by
  rw [h.2 z, hl, hhas z]
  simp

set_option maxRecDepth 100000 in
set_option maxHeartbeats 4000000 in
theorem cand_any (t : Int) (ta : Option Addr) (tc : Nat) (T : List TC) (a : Option Addr) (c : Nat) (l ks : List Str) (q : List XS) (lo bH n : Nat) (g : Str → Option Nat) (f : Str → Int → Option Value) (w : World)
    (hk : keysR T t l = ks) (ht : okT t = true) (hT : SmW w ta T tc) (hS : Sm w a l c) (hO : HoldOf T t q f) (hV : ∀ p ∈ q, ∃ a' c', p.2 = .slice a' p.1.2.length c') (hd : ∀ p ∈ q, ∀ s ∈ q, p.1.1 = s.1.1 → p = s) (hn : n ≤ 4000000) (h : Hold w lo bH n g f) :
    Calls Tryz.prog 32 #[.agg #[.int .i64 t, .slice ta T.length tc, .map (some bH)], .slice a l.length c] w fun e w' => ∃ b m F, e = .returned (.map (some b)) ∧
      NMap w' b m F ∧ FoundP (fun p => cdB T t l p.1.2 = true) q F ∧ w.heap.size ≤ b ∧ m ≤ 17000000000000 ∧ Below w.heap.size w w' := by
  obtain ⟨x0, hx0⟩ : ∃ r, loR l.length t = r := ⟨_, rfl⟩
  obtain ⟨x1, hx1⟩ : ∃ r, hiR l.length t = r := ⟨_, rfl⟩
  have HX0 := Lib.hid hx0
  have HX1 := Lib.hid hx1
  have hkl : ks.length ≤ 4000001 := by have := keysR_len T t l; have := hS.2.2.2.1; rw [← hk]; omega
  have hsl := hS.2.2.2.1
  obtain ⟨w0, hw0⟩ : ∃ w0, w0 = w.alloc (.cells #[.int .i64 t, .slice ta T.length tc, .map (some bH)] 64) := ⟨_, rfl⟩
  have HW0 := Lib.hid hw0
  have HB0 := Lib.hid (show Below w.heap.size w w0 by rw [hw0]; exact (Below.refl _ _).alloc (Nat.le_refl _) _)
  have HR0 := Lib.hid (show BlkV w0 w.heap.size 64 #[.int .i64 t, .slice ta T.length tc, .map (some bH)] by rw [hw0]; exact BlkV.new_ _ _ _ _ rfl)
  have HZ0 := Lib.hid (show w0.heap.size = w.heap.size + 1 by rw [hw0]; simp)
  have HLB := Lib.hid (lb_impl (l.length : Int) t x0 x1 w0 hx0 hx1)
  have HT := Lib.hid hT
  have HS := Lib.hid hS
  have HH := Lib.hid h
  have HO := Lib.hid hO
  have HV := Lib.hid hV
  have HD := Lib.hid hd
  have HTT := Lib.hid ht
  have HKS := Lib.hid (show ∀ x ∈ ks, x.length ≤ maxLen by rw [← hk]; exact keysR_mem hS.2.2.2.2)
  have HK0 := Lib.hid hk
  have hmm := @run_makeMap Tryz.prog
  have hrn : ∀ W : World, (Instr.range 61 (.map none)).run Tryz.prog W = .ok (.pointer (some ⟨W.heap.size, 0, none⟩)) (W.alloc (.mapIter none 0 #[] 0)) := fun W => run_range_nilMap W _ _ _ Tryz.underlying61
  clear hw0 hk hT hS hO hV hd h hx0 hx1 ht
  go_enter Tryz.func32, Tryz.ntmps32
  go_wp2_with (go_at_call 68; rw [← HW0.out]; (refine HLB.out.mono ?_); rintro e w1 ⟨rfl, hb⟩; refine Hid.out ?_)
  have HB1 := Lib.hid (HB0.out.trans (hb.mono HB0.out.size))
  have HR1 := Lib.hid (HR0.out.below hb)
  have HZ1 := Lib.hid (show w.heap.size + 1 ≤ w1.heap.size by have := hb.size; have := HZ0.out; omega)
  clear hb
  obtain ⟨w2, hw2⟩ : ∃ w2, w2 = w1.alloc (.map #[] 0) := ⟨_, rfl⟩
  have HW2 := Lib.hid hw2
  have HB2 := Lib.hid (show Below w.heap.size w w2 by rw [hw2]; exact HB1.out.alloc HB1.out.size _)
  have HM2 := Lib.hid (show NMap w2 w1.heap.size 0 (fun _ => none) by rw [hw2]; exact NMap.made w1)
  have HR2 := Lib.hid (show BlkV w2 w.heap.size 64 #[.int .i64 t, .slice ta T.length tc, .map (some bH)] by rw [hw2]; exact HR1.out.alloc _)
  have HZ2 := Lib.hid (show w2.heap.size = w1.heap.size + 1 by rw [hw2]; simp)
  have HK := Lib.hid (keys_any t ta tc T (.map (some bH)) a c l ks w2 HK0.out (HT.out.below HB2.out) (HS.out.below HB2.out))
  clear hw2
  have ha := HR1.out.alloc (.map #[] 0)
  have s0 := ha.three0
  have s1 := ha.three1
  have s2 := ha.three2
  clear ha
  refine Lib.hid ?_
  go_wp2_with (go_at_call 69; rw [← HW2.out]; (refine HK.out.mono ?_); rintro e w3 ⟨a1, c1, rfl, ho, hb⟩; refine Hid.out ?_)
  have HO3 := Lib.hid ho
  have HB3 := Lib.hid (HB2.out.trans (hb.mono HB2.out.size))
  have HR3 := Lib.hid (HR2.out.below hb)
  have HM3 := Lib.hid (HM2.out.below hb)
  have HZ3 := Lib.hid hb.size
  clear ho hb s0 s1 s2
  refine Lib.hid ?_
  go_wp2
  go_loopw [25] (fun i wr => ∃ (k m : Nat) (F : Int → Option Value), k ≤ ks.length ∧ i = .int .i64 k ∧ m ≤ k * 4000000 ∧ NMap wr w1.heap.size m F ∧ FoundP (fun p => withinB x0 x1 [(p.1.2.length : Int)] = true ∧ ∃ y ∈ ks.take k, y ∈ keysR T t p.1.2) q F ∧ HChg w3 wr w1.heap.size (fun _ => none)) (fun i _ => ks.length - (intOf i).toNat)
  case atStart => exact ⟨0, 0, _, Nat.zero_le _, rfl, Nat.zero_le _, HM3.out, FoundP.nil (fun p hp h => by obtain ⟨_, y, hy, _⟩ := h; simp at hy), HChg.of (Below.refl _ _)⟩
  case round =>
    obtain ⟨k, m, F, hk, rfl, hm, hN, hF, hC⟩ := hrel
    have hz1 := HZ1.out
    have hz2 := HZ2.out
    have hz3 := HZ3.out
    have HN := Lib.hid hN
    have HF := Lib.hid hF
    have HC := Lib.hid hC
    have HRr := Lib.hid (HR3.out.hchg hC (by omega) (fun x e => by cases e))
    have HOr := Lib.hid (HO3.out.hchg hC (by omega) (fun x b e => by cases e))
    have HBW := Lib.hid (show Below w.heap.size w wr from HB3.out.trans (hC.below (by omega) (fun x b e => by cases e) HB3.out.size))
    have HHr := Lib.hid (HH.out.below HBW.out)
    clear hN hF hC
    obtain ⟨wo, rfl⟩ : ∃ wo, wo = wr := ⟨_, rfl⟩
    by_cases hlt : k < ks.length
    · have hj := List.getElem?_eq_getElem hlt
      generalize ks[k] = x at hj
      obtain ⟨gb, rfl, hgb, hgb2, hcell⟩ := row_str HOr.out hj
      have hcell' : wo.cell? ⟨gb, 0 + k, none⟩ = some (.string ⟨x.toArray⟩) := by rw [Nat.zero_add]; exact hcell
      have HX := Lib.hid (HKS.out x (List.mem_of_getElem? hj))
      have HJ := Lib.hid hj
      have HTK := Lib.hid (take_snoc' hj)
      clear hj hz1 hz2 hz3
      have p2 := HRr.out.three2
      rcases hgx : g x with _ | b
      · have HGX := Lib.hid hgx
        clear hgx
        go_wp2_with (at_lookup; refine wpList_smap_lookup _ 62 61 Tryz.underlying62 (zeroMap _) rfl _ _ rfl bH _ _ HHr.out.out rfl ⟨x.toArray⟩ x rfl (by simp) (by simpa [ByteArray.size] using HX.out) (.map none) (by rw [HGX.out]; rfl) ?_)
        go_loopw [34] (fun _ wr => wr = wo.alloc (.mapIter none 0 #[] 0)) (fun _ _ => 0)
        case atStart => rfl
        case round =>
          subst hrel
          have hnx := fun ty => run_next_nilMap (P := Tryz.prog) wo ty 0 0 #[]
          go_wp2
          go_roundw
          case rel =>
            refine ⟨k + 1, m, F, by omega, by go_num, step_le0 hm, HN.out.below ((Below.refl _ _).alloc (Nat.le_refl _) _), HF.out.congr (fun p hp => ?_), HC.out.alloc _⟩
            rw [HTK.out]
            have hno : x ∉ keysR T t p.1.2 := fun hx => by
              have h1 := (HO.out x p.1.1 p.2).2 ⟨p, hp, rfl, hx, rfl⟩
              rw [HH.out.no x HGX.out] at h1
              cases h1
            constructor
            · rintro ⟨h1, y, h2, h3⟩; exact ⟨h1, y, List.mem_append_left _ h2, h3⟩
            · rintro ⟨h1, y, h2, h3⟩
              rcases List.mem_append.1 h2 with h4 | h4
              · exact ⟨h1, y, h4, h3⟩
              · simp at h4; subst h4; exact absurd h3 hno
          case measure => simp [intOf]; omega
      · obtain ⟨D, hown, hhas, hat⟩ := HHr.out.inn x b hgx
        have HGX := Lib.hid hgx
        have HHAS := Lib.hid hhas
        have HAT := Lib.hid hat
        have HSZ := Lib.hid (size_own hown)
        have HBB := Lib.hid (show b < w.heap.size from (HH.out.inn x b hgx).lt)
        clear hgx hhas hat
        go_wp2_with (first
          | (at_lookup; refine wpList_smap_lookup _ 62 61 Tryz.underlying62 (zeroMap _) rfl _ _ rfl bH _ _ HHr.out.out rfl ⟨x.toArray⟩ x rfl (by simp) (by simpa [ByteArray.size] using HX.out) (.map (some b)) (by rw [HGX.out]; rfl) ?_)
          | (at_range; refine wpList_range_own _ rfl _ 61 rfl 3 28 keyN Tryz.underlying61 _ b n _ rfl hown ?_; intro w4 hrg0 hg0 hs0))
        go_frame
        go_loopw [34] (fun _ wr => ∃ (left : Lit → Bool) (cnt : Nat) (zs : List Int) (m2 : Nat) (F2 : Int → Option Value), wr.ranges Tryz.prog 3 heldE b wo.heap.size n D left cnt ∧ CollN D left zs ∧ m2 + cnt ≤ k * 4000000 + Maps.size D ∧ NMap wr w1.heap.size m2 F2 ∧
            FoundP (fun p => withinB x0 x1 [(p.1.2.length : Int)] = true ∧ ((∃ y ∈ ks.take k, y ∈ keysR T t p.1.2) ∨ (p.1.1 ∈ zs ∧ x ∈ keysR T t p.1.2))) q F2 ∧ HChg w3 wr w1.heap.size (fun _ => none) ∧ wo.heap.size < wr.heap.size) (fun _ wr => wr.rangeLeft b wo.heap.size)
        case atStart =>
          have hg := grown_none hg0
          exact ⟨_, _, [], m, F, hrg0, CollN.start D, by omega, HN.out.below hg, HF.out.congr (fun p hp => by simp), HC.out.trans_ (HChg.of hg) (fun x b e => .inl e), by omega⟩
        case round =>
          obtain ⟨left, cnt, zs, m2, F2, hrg, hcl, hm2, hN2, hF2, hC2, hsz2⟩ := hrel
          have HCL := Lib.hid hcl
          have HN2 := Lib.hid hN2
          have HF2 := Lib.hid hF2
          have HC2 := Lib.hid hC2
          clear hcl hN2 hF2 hC2
          go_wp2_with (first
            | (at_next; refine wpList_next_ranges _ rfl _ rfl 3 keyN heldE (Value.int .i64) (fun v : Value => v) (fun key kl hk => by obtain ⟨x, hx, _⟩ := Maps.keyOf_int_inv Tryz.underlying3 hk; exact ⟨x, hx⟩) (fun v y hv => ⟨v, rfl⟩) b wo.heap.size n _ _ _ rfl hrg ?_ ?_)
            | go_in)
          · intro hc0 hl0
            go_wp2
            go_roundw
            case rel =>
              refine ⟨k + 1, m2, F2, by omega, by go_num, step_le (Nat.le_trans (Nat.le_add_right _ _) hm2) (Nat.le_trans HSZ.out hn), HN2.out, HF2.out.congr (fun p hp => ?_), HC2.out⟩
              rw [HTK.out]
              have hin : x ∈ keysR T t p.1.2 → p.1.1 ∈ zs := fun hx => by
                rw [coll_done HHAS.out HCL.out hl0]
                rw [(HO.out x p.1.1 p.2).2 ⟨p, hp, rfl, hx, rfl⟩]
                rfl
              constructor
              · rintro ⟨h1, ⟨y, h2, h3⟩ | ⟨h2, h3⟩⟩
                · exact ⟨h1, y, List.mem_append_left _ h2, h3⟩
                · exact ⟨h1, x, by simp, h3⟩
              · rintro ⟨h1, y, h2, h3⟩
                rcases List.mem_append.1 h2 with h4 | h4
                · exact ⟨h1, .inl ⟨y, h4, h3⟩⟩
                · simp at h4; subst h4; exact ⟨h1, .inr ⟨hin h3, h3⟩⟩
            case measure => simp [intOf]; omega
          · intro z c kl yd yp w5 cnt2 hkey hlk hv hat5 hrg2 hlt2 hg2 hs2 hen
            obtain ⟨z', ez, rfl, hwf⟩ := Maps.keyOf_int_inv Tryz.underlying3 hkey
            obtain rfl : z = z' := by injection ez
            have hfz := met_val (yd := (yd, yp)) HHAS.out HAT.out hv hat5
            obtain ⟨p, hp, rfl, hxp, rfl⟩ := (HO.out x z c).1 hfz
            have HCL2 := Lib.hid (HCL.out.step hlk hat5)
            obtain ⟨a5, c5, hpv⟩ := HV.out p hp
            have HP := Lib.hid hp
            have HXP := Lib.hid hxp
            have HPV := Lib.hid hpv
            have HWF := Lib.hid hwf
            have hz3 := HZ3.out
            have hz2 := HZ2.out
            have hz1 := HZ1.out
            have hbb := HBB.out
            have hcs := HC.out.size
            have HN5 := Lib.hid (HN2.out.kept hg2 (fun e => by injection e; omega))
            have HC5 := Lib.hid (HC2.out.grown hg2 (.inr (.inr (by omega))))
            clear hp hxp hwf hat5 hfz hv hkey ez
            rw [hpv] at hen
            obtain ⟨bb, hbi⟩ : ∃ bb, withinB x0 x1 [(p.1.2.length : Int)] = bb := ⟨_, rfl⟩
            have HBI := Lib.hid hbi
            have HB5 := Lib.hid ((Below.refl w5.heap.size w5).alloc (Nat.le_refl _) (.cells #[.int .i64 (p.1.2.length : Int)] 3))
            have hwo : wo.heap.size < w5.heap.size := by omega
            have hbl5 : b < w5.heap.size := by omega
            have HS2 := Lib.hid hs2
            have HM6 := Lib.hid (show m2 < maxLen by have := HSZ.out; unfold maxLen; omega)
            clear hs2
            cases bb
            · go_wp2_with (go_at_call 70; ((with_reducible refine (in_one1 _ _ _ _ _ HBI.out).mono ?_); rintro e w' ⟨rfl, rfl⟩))
              go_roundw
              case rel =>
                refine ⟨_, cnt2, zs ++ [p.1.1], m2, F2, hrg2.alloc _, HCL2.out, by omega, HN5.out.below HB5.out, HF2.out.congr (fun r hr => ?_), HC5.out.alloc _, by simp; omega⟩
                constructor
                · rintro ⟨h1, h2 | ⟨h2, h3⟩⟩
                  · exact ⟨h1, .inl h2⟩
                  · exact ⟨h1, .inr ⟨List.mem_append_left _ h2, h3⟩⟩
                · rintro ⟨h1, h2 | ⟨h2, h3⟩⟩
                  · exact ⟨h1, .inl h2⟩
                  · rcases List.mem_append.1 h2 with h4 | h4
                    · exact ⟨h1, .inr ⟨h4, h3⟩⟩
                    · simp at h4
                      rw [HD.out r hr p HP.out h4, HBI.out] at h1
                      cases h1
              case measure => rw [(hrg2.alloc _).left_eq, hrg.left_eq]; exact hlt2
            · go_wp2_with (first
                | (go_at_call 70; ((with_reducible refine (in_one1 _ _ _ _ _ HBI.out).mono ?_); rintro e w' ⟨rfl, rfl⟩))
                | (at_mapUpdate; refine wpList_nmap_store _ 61 28 Tryz.underlying61 rfl _ _ _ rfl w1.heap.size _ _ (HN5.out.below HB5.out) rfl HM6.out p.1.1 rfl p.2 HPV.out.symm HWF.out ?_; intro w6 hs6 hg6; refine Hid.out ?_))
              have hr6 := (hrg2.alloc (.cells #[.int .i64 (p.1.2.length : Int)] 3)).kept hg6 (fun e => by injection e; omega) (fun e => by injection e; omega)
              refine Lib.hid ?_
              go_wp2
              go_roundw
              case rel =>
                have hgs := hg6.size
                refine ⟨_, cnt2, zs ++ [p.1.1], m2 + 1, _, hr6, HCL2.out, by omega, hs6, HF2.out.put HP.out HD.out (fun r hr => ?_), (HC5.out.alloc _).grown hg6 (.inl rfl), by rw [World.size_alloc] at hgs; omega⟩
                constructor
                · rintro ⟨h1, h2 | ⟨h2, h3⟩⟩
                  · exact .inl ⟨h1, .inl h2⟩
                  · rcases List.mem_append.1 h2 with h4 | h4
                    · exact .inl ⟨h1, .inr ⟨h4, h3⟩⟩
                    · simp at h4
                      exact .inr (HD.out r hr p HP.out h4)
                · rintro (⟨h1, h2 | ⟨h2, h3⟩⟩ | h)
                  · exact ⟨h1, .inl h2⟩
                  · exact ⟨h1, .inr ⟨List.mem_append_left _ h2, h3⟩⟩
                  · subst h
                    exact ⟨HBI.out, .inr ⟨by simp, HXP.out⟩⟩
              case measure => rw [hr6.left_eq, hrg.left_eq]; exact hlt2
    · obtain rfl : k = ks.length := by omega
      go_wp2
      go_ret
      refine ⟨_, m, F, rfl, HN.out, HF.out.congr (fun p hp => ?_), by omega, by omega, HBW.out⟩
      rw [List.take_length, cd_iff HTT.out]
      unfold byKey
      rw [HK0.out, HX0.out, HX1.out]
      simp [withinB]
      constructor
      · rintro ⟨⟨h1, h2⟩, h3⟩; exact ⟨h3, h1, h2⟩
      · rintro ⟨h3, h1, h2⟩; exact ⟨⟨h1, h2⟩, h3⟩

end Go.Proofs.YthjbekgognfiiaaGreat
