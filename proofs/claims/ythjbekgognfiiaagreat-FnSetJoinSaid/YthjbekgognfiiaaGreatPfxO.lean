/-
  The prefix index of an index. By an AI agent.
-/
import Derived.Test.YthjbekgognfiiaaGreatPfxI
namespace Go.Proofs.YthjbekgognfiiaaGreat
open Go.RowKit Go.Maps Go.Sort
set_option linter.unusedVariables false

def SetV (w : World) (p : XS) : Prop := ∃ a c, p.2 = .slice a p.1.2.length c ∧ Sm w a p.1.2 c
theorem SetV.below {w w' : World} {p : XS} (h : SetV w p) (hb : Below w.heap.size w w') : SetV w' p := by
  obtain ⟨a, c, h1, h2⟩ := h
  exact ⟨a, c, h1, h2.below hb⟩
/-- where the sets of an argument lie -/
def CellsQ (w : World) (a : Option Addr) (q : List XS) : Prop := ∀ j p, q[j]? = some p → ∃ b off, a = some ⟨b, off, none⟩ ∧ b < w.heap.size ∧ w.cell? ⟨b, off + j * 2, none⟩ = some (.int .i64 p.1.1) ∧ w.cell? ⟨b, off + j * 2 + 1, none⟩ = some p.2
theorem q_of {w : World} {a : Option Addr} {S : List IS} {c : Nat} (h : SmX w a S c) : ∃ q : List XS, setsX q = S ∧ (∀ p ∈ q, SetV w p) ∧ CellsQ w a q := by
  have key : ∀ n, n ≤ S.length → ∃ q : List XS, setsX q = S.take n ∧ (∀ p ∈ q, SetV w p) ∧ CellsQ w a q := by
    intro n
    induction n with
    | zero => exact fun _ => ⟨[], rfl, (fun p hp => by cases hp), (fun j p hp => by simp at hp)⟩
    | succ n ih =>
      intro hn
      obtain ⟨q, h1, h2, h3⟩ := ih (by omega)
      obtain ⟨b, off, x, a', c', e1, e2, e3, e4, e5, e6⟩ := h.at_ (j := n) (by omega)
      have hl : q.length = n := by rw [← setsX_len, h1, List.length_take]; omega
      refine ⟨q ++ [(x, .slice a' x.2.length c')], ?_, ?_, ?_⟩
      · rw [ixs_take e3, ← h1]; simp [setsX]
      · intro p hp
        rcases List.mem_append.1 hp with hp | hp
        · exact h2 p hp
        · simp at hp; subst hp; exact ⟨a', c', rfl, e6⟩
      · intro j p hp
        by_cases hj : j < q.length
        · rw [List.getElem?_append_left hj] at hp; exact h3 j p hp
        · rw [List.getElem?_append_right (by omega)] at hp
          have hj2 : j = n := by
            have := (List.getElem?_eq_some_iff.1 hp).1
            simp at this
            omega
          subst hj2
          rw [hl, Nat.sub_self] at hp
          simp at hp
          subst hp
          exact ⟨b, off, e1, e2, e4, e5⟩
  obtain ⟨q, h1, h2⟩ := key S.length (Nat.le_refl _)
  exact ⟨q, by rw [h1, List.take_length], h2⟩

theorem keysR_len (T : List TC) (t : Int) (l : List Str) : (keysR T t l).length ≤ l.length + 1 := by
  unfold keysR
  split
  · simp
  · have := pt_len (tab := T) (l := l) (t := t); omega
theorem keysR_mem {T : List TC} {t : Int} {l : List Str} (h : ∀ x ∈ l, x.length ≤ 1048576) : ∀ x ∈ keysR T t l, x.length ≤ maxLen := fun x hx => by
  unfold keysR at hx
  split at hx
  · simp at hx; subst hx; simp
  · have := h x (pt_mem hx); unfold maxLen; omega

theorem Hold.setCell {w : World} {lo bH n : Nat} {g : Str → Option Nat} {f : Str → Int → Option Value} (h : Hold w lo bH n g f) (p : Addr) (v : Value) (h1 : p.block ≠ bH) (h2 : ∀ x b, g x = some b → p.block ≠ b) : Hold (w.setCell p v) lo bH n g f :=
  h.kept (r := p.block) ⟨((Below.refl 0 w).setCell (Nat.zero_le p.block) v).os, ((Below.refl 0 w).setCell (Nat.zero_le p.block) v).tape, ((Below.refl 0 w).setCell (Nat.zero_le p.block) v).output, ((Below.refl 0 w).setCell (Nat.zero_le p.block) v).size, fun i hi hne => Below.heap_setCell w p v i (fun e => hne (by rw [e]))⟩ h1 h2

theorem Hold.made_ (w : World) (lo b : Nat) (hb : w.heap.size = b) (h : lo ≤ b) : Hold (w.alloc (.map #[] 0)) lo b 0 (fun _ => none) (fun _ _ => none) := by
  subst hb
  exact Hold.made w lo h

/-- the sets up to k, counted with their tokens -/
def cntQ (S : List IS) (k : Nat) : Nat := 2 * (k + (toksX (S.take k)).flatten.length)
theorem cntQ_succ {S : List IS} {k : Nat} {x : IS} (h : S[k]? = some x) : cntQ S (k + 1) = cntQ S k + 2 * (x.2.length + 1) := by
  unfold cntQ
  rw [ixs_take h]
  simp [toksX]
  omega
theorem cntQ_le {S : List IS} {k : Nat} (hk : k ≤ S.length) : cntQ S k ≤ cntQ S S.length := by
  unfold cntQ
  have : (toksX (S.take k)).flatten.length ≤ (toksX (S.take S.length)).flatten.length := by
    rw [List.take_length]
    have e2 : (toksX (S.take k ++ S.drop k)).flatten.length = (toksX (S.take k)).flatten.length + (toksX (S.drop k)).flatten.length := by
      unfold toksX; rw [List.map_append, List.flatten_append, List.length_append]
    rw [List.take_append_drop] at e2
    omega
  omega

set_option maxRecDepth 100000 in
set_option maxHeartbeats 2000000 in
theorem pfx_of (t : Int) (ta : Option Addr) (tc : Nat) (T : List TC) (xa : Option Addr) (xc m : Nat) (q : List XS) (S : List IS) (w : World) (hm : m = S.length) (hq : setsX q = S)
    (hT : SmW w ta T tc) (hV : ∀ p ∈ q, SetV w p) (hC : CellsQ w xa q) (hA : AscX S) (hid : ∀ x ∈ S, (Lit.int .i64 x.1).wf = true) (hn : cntQ S S.length ≤ 4000000) :
    Calls Tryz.prog 31 #[.agg #[.int .i64 t, .slice ta T.length tc, .slice xa m xc]] w fun e w' => ∃ bH n g f, e = .returned (.agg #[.int .i64 t, .slice ta T.length tc, .map (some bH)]) ∧
      Hold w' w.heap.size bH n g f ∧ HoldOf T t q f ∧ n ≤ 4000000 ∧ Below w.heap.size w w' := by
  subst hm
  have HQ := Lib.hid hq
  have HT := Lib.hid hT
  have HV := Lib.hid hV
  have HC := Lib.hid hC
  have HA := Lib.hid hA
  have HID := Lib.hid hid
  have HN := Lib.hid hn
  have hmm := @run_makeMap Tryz.prog
  have hsl : S.length ≤ 4000000 := by unfold cntQ at hn; omega
  clear hq hT hV hC hA hid hn
  obtain ⟨w1, hw1⟩ : ∃ w1, w1 = (((w.alloc (.cells #[.int .i64 t, .slice ta T.length tc, .slice xa S.length xc] 27)).alloc (.cells #[.int .i64 0, .slice none 0 0, .map none] 64)).alloc (.map #[] 0)).alloc (.cells #[.int .i64 t, .slice ta T.length tc, .map (some (w.heap.size + 1 + 1))] 64) := ⟨_, rfl⟩
  have HW1 := Lib.hid hw1
  have HB1 := Lib.hid (show Below w.heap.size w w1 by rw [hw1]; exact ((((Below.refl _ _).alloc (Nat.le_refl _) _).alloc (by simp) _).alloc (by simp; omega) _).alloc (by simp; omega) _)
  have HZ1 := Lib.hid (show w1.heap.size = w.heap.size + 4 by rw [hw1]; simp)
  have HR1 := Lib.hid (show BlkV w1 (w.heap.size + 1) 64 #[.int .i64 0, .slice none 0 0, .map none] by rw [hw1]; exact ((BlkV.new_ _ _ _ _ (by simp)).alloc _).alloc _)
  have HR3 := Lib.hid (show BlkV w1 (w.heap.size + 1 + 1 + 1) 64 #[.int .i64 t, .slice ta T.length tc, .map (some (w.heap.size + 1 + 1))] by rw [hw1]; exact BlkV.new_ _ _ _ _ (by simp))
  have HM1 := Lib.hid (show Hold w1 w.heap.size (w.heap.size + 1 + 1) 0 (fun _ => none) (fun _ _ => none) by
    rw [hw1]
    exact (Hold.made_ _ _ _ (by simp) (by omega)).below ((Below.refl _ _).alloc (Nat.le_refl _) _))
  clear hw1
  go_enter Tryz.func31, Tryz.ntmps31
  go_wp2
  rw [← HW1.out]
  go_loopw [15] (fun i wr => ∃ (k n : Nat) (g : Str → Option Nat) (f : Str → Int → Option Value), k ≤ S.length ∧ i = .int .i64 k ∧ n ≤ cntQ S k ∧ Hold wr w.heap.size (w.heap.size + 1 + 1) n g f ∧ HoldOf T t (q.take k) f ∧ HChg w1 wr (w.heap.size + 1 + 1) (fun _ => none) ∧ ∀ x b, g x = some b → w1.heap.size ≤ b) (fun i _ => S.length - (intOf i).toNat)
  case atStart => exact ⟨0, 0, _, _, Nat.zero_le _, rfl, Nat.zero_le _, HM1.out, HoldOf.nil T t, HChg.of (Below.refl _ _), fun x b e => by cases e⟩
  case round =>
    obtain ⟨k, n, g, f, hk, rfl, hn, hH, hO, hC, hG⟩ := hrel
    have hz1 := HZ1.out
    have HH := Lib.hid hH
    have HO := Lib.hid hO
    have HCC := Lib.hid hC
    have HG := Lib.hid hG
    have HNK := Lib.hid hn
    have HR1r := Lib.hid (HR1.out.hchg hC (by omega) (fun x e => by cases e))
    have HR3r := Lib.hid (HR3.out.hchg hC (by omega) (fun x e => by cases e))
    have HBW := Lib.hid (show Below w.heap.size w wr from HB1.out.trans (hC.below (by omega) (fun x b e => by cases e) HB1.out.size))
    have HSZ := Lib.hid hC.size
    clear hH hO hC hG hn hz1
    have r30 := HR3r.out.three0
    have r31 := HR3r.out.three1
    have r32 := HR3r.out.three2
    by_cases hlt : k < S.length
    · have hql : q.length = S.length := by rw [← setsX_len, HQ.out]
      have hj := List.getElem?_eq_getElem (show k < q.length by omega)
      generalize q[k] = p at hj
      obtain ⟨⟨id, l⟩, v⟩ := p
      obtain ⟨b, off, rfl, hbl, hc0, hc1⟩ := HC.out k _ hj
      obtain ⟨a', c', hv, hS⟩ := HV.out _ (List.mem_of_getElem? hj)
      replace hv : v = .slice a' l.length c' := hv
      replace hS : Sm w a' l c' := hS
      subst hv
      have hSk : S[k]? = some (id, l) := by
        rw [← HQ.out]; simp [setsX, hj]
      have g0 : wr.cell? ⟨b, off + k * 2, none⟩ = some (.int .i64 id) := by rw [HBW.out.cell (p := ⟨b, off + k * 2, none⟩) hbl]; exact hc0
      have g1 : wr.cell? ⟨b, off + k * 2 + 1, none⟩ = some (.slice a' l.length c') := by rw [HBW.out.cell (p := ⟨b, off + k * 2 + 1, none⟩) hbl]; exact hc1
      have HSS := Lib.hid hS
      have HSK := Lib.hid hSk
      have HJ := Lib.hid hj
      have HBA := Lib.hid (HBW.out.alloc HBW.out.size (.cells #[.int .i64 id, .slice a' l.length c'] 71))
      have HS5 := Lib.hid (cntQ_succ hSk)
      have HS6 := Lib.hid (cntQ_le (S := S) (k := k + 1) (by omega))
      have HKL := Lib.hid (keysR_len T t l)
      have HI := Lib.hid (insert_any t ta tc T id a' c' l _ w.heap.size (w.heap.size + 1 + 1) n g f (wr.alloc (.cells #[.int .i64 id, .slice a' l.length c'] 71)) rfl (HT.out.below HBA.out) (hS.below HBA.out) (HID.out _ (List.mem_of_getElem? hSk)) (by have := HS5.out; have := HS6.out; have := HN.out; have := HNK.out; have := HKL.out; unfold maxLen; simp at *; omega) (by have := hS.2.2.2.1; have := HKL.out; simp at *; omega) (keysR_mem hS.2.2.2.2) (HH.out.below ((Below.refl _ _).alloc (Nat.le_refl _) _)))
      clear hj hc0 hc1 hS hSk hql hbl
      have ha := HR3r.out.alloc (.cells #[.int .i64 id, .slice a' l.length c'] 71)
      have s30 := ha.three0
      have s31 := ha.three1
      have s32 := ha.three2
      clear ha
      go_wp2_with (go_at_call 67; (refine HI.out.mono ?_); rintro e w3 ⟨rfl, g', hH3, hC3, hG3⟩; refine Hid.out ?_)
      have HC3 := Lib.hid ((HCC.out.alloc _).trans_ hC3 (fun x b e => .inr (HG.out x b e)))
      have HG4 := Lib.hid (show ∀ x b, g' x = some b → w1.heap.size ≤ b from fun x b e => by
        rcases hG3 x b e with h | h
        · exact HG.out x b h
        · simp at h; have := HSZ.out; omega)
      have HH3 := Lib.hid hH3
      clear hH3 hC3 hG3
      refine Lib.hid ?_
      go_wp2
      go_roundw
      case rel =>
        refine ⟨k + 1, _, _, _, by omega, by go_num, ?_, HH3.out, ?_, HC3.out, HG4.out⟩
        · have := HS5.out; have := HNK.out; have := HKL.out; simp at *; omega
        · rw [xs_take HJ.out]
          refine HO.out.snoc fun p hp => ?_
          obtain ⟨j, hj⟩ := List.getElem?_of_mem hp
          have hjl := (List.getElem?_eq_some_iff.1 hj).1
          rw [List.length_take] at hjl
          rw [List.getElem?_take_of_lt (by omega)] at hj
          have h1 : S[j]? = some p.1 := by rw [← HQ.out]; simp [setsX, hj]
          have := ascX_at HA.out h1 HSK.out (by omega)
          simp at this ⊢
          omega
      case measure => simp [intOf]; omega
    · obtain rfl : k = S.length := by omega
      have hql : q.length = S.length := by rw [← setsX_len, HQ.out]
      have q0 := HR1r.out.three0
      have q1 := HR1r.out.three1
      have q2 := HR1r.out.three2
      have f0 := HR1r.out.frozen 0
      have f1 := HR1r.out.frozen 1
      have f2 := HR1r.out.frozen 2
      go_wp2
      have z := ((HR1r.out.set_ 0 (.int .i64 t)).set_ 1 (.slice ta T.length tc)).set_ 2 (.map (some (w.heap.size + 1 + 1)))
      have e0 : _ = some (Value.int .i64 t) := z.cell 0
      have e1 : _ = some (Value.slice ta T.length tc) := z.cell 1
      have e2 : _ = some (Value.map (some (w.heap.size + 1 + 1))) := z.cell 2
      have hG2 : ∀ x b, g x = some b → w.heap.size + 1 ≠ b := fun x b e => by have := HG.out x b e; have := HZ1.out; omega
      refine bodyPost_ret (v := .agg #[.int .i64 t, .slice ta T.length tc, .map (some (w.heap.size + 1 + 1))]) (by simp [results, Tryz.results31, go_sem, e0, e1, e2]) rfl ⟨_, n, g, f, rfl, ((HH.out.setCell _ _ (by simp) hG2).setCell _ _ (by simp) hG2).setCell _ _ (by simp) hG2, ?_, by have := HNK.out; have := HN.out; omega, ((HBW.out.setCell (by simp) _).setCell (by simp) _).setCell (by simp) _⟩
      have := HO.out
      rwa [← hql, List.take_length] at this

end Go.Proofs.YthjbekgognfiiaaGreat
