/-
  Texts laid together: BlS, BlU. By an AI agent.
-/
import Derived.Test.YtebddnjccmaimaaGreatDoorGMem
import Derived.Test.YtebddnjccmaimaaGreatDoorGPlain
import Derived.Deep.Slices
/-
  Slices of blocks (a key and its members): one that reads as a list, one of the call's own. By an AI agent.
-/
namespace Go.Proofs.YtebddnjccmaimaaGreatDoor
open Go.RowKit
set_option linter.unusedVariables false

abbrev BK := Str × List Int
/-- an element of a slice of the call's own: the set, and the value of its tokens -/
abbrev XB := BK × Value
def encB (p : XB) : List Value := [encStr p.1.1, p.2]
def flatB (q : List XB) : List Value := q.flatMap encB
def blksB (q : List XB) : List BK := q.map Prod.fst
theorem blksB_len (q : List XB) : (blksB q).length = q.length := by simp [blksB]
theorem flatB_len (q : List XB) : (flatB q).length = q.length * 2 := by
  induction q with
  | nil => rfl
  | cons x l ih =>
    have e : flatB (x :: l) = encB x ++ flatB l := by simp [flatB]
    rw [e, List.length_append, ih, List.length_cons]
    show 2 + l.length * 2 = _
    omega
theorem flatB_cons (x : XB) (q : List XB) : flatB (x :: q) = encStr x.1.1 :: x.2 :: flatB q := by simp [flatB, encB]
theorem flatB_append (q r : List XB) : flatB (q ++ r) = flatB q ++ flatB r := by simp [flatB]
theorem flatB_snoc (q : List XB) (x : XB) : flatB (q ++ [x]) = flatB q ++ encB x := by simp [flatB]
theorem flatB_at : ∀ {q : List XB} {j : Nat} {x : XB}, q[j]? = some x → (flatB q)[j * 2]? = some (encStr x.1.1) ∧ (flatB q)[j * 2 + 1]? = some x.2
  | [], j, x, h => by simp at h
  | y :: l, j, x, h => by
    rw [flatB_cons]
    cases j with
    | zero =>
      simp at h
      subst h
      exact ⟨rfl, rfl⟩
    | succ j =>
      have h1 : l[j]? = some x := by simpa using h
      have h2 := flatB_at h1
      rw [show (j + 1) * 2 = j * 2 + 1 + 1 by omega]
      exact h2
/-- a slice whose elements are the sets of a list -/
def InBk (w : World) (a : Option Addr) (S : List BK) : Prop :=
  0 < S.length → ∃ b off, a = some ⟨b, off, none⟩ ∧ b < w.heap.size ∧ ∀ j x, S[j]? = some x → ∃ a' c', w.cell? ⟨b, off + j * 2, none⟩ = some (encStr x.1) ∧ w.cell? ⟨b, off + j * 2 + 1, none⟩ = some (.slice a' x.2.length c') ∧ (a' = none → c' = 0) ∧ x.2.length ≤ c' ∧ InI w a' x.2
theorem InBk.below {w w' : World} {a : Option Addr} {S : List BK} (h : InBk w a S) (hb : Below w.heap.size w w') : InBk w' a S := by
  intro h0
  obtain ⟨b, off, ha, hlt, hc⟩ := h h0
  have hk := hb.block b hlt
  refine ⟨b, off, ha, Nat.lt_of_lt_of_le hlt hb.size, fun j x hj => ?_⟩
  obtain ⟨a', c', h1, h2, h3, h4, h5⟩ := hc j x hj
  exact ⟨a', c', (World.cell?_of_block hk).trans h1, (World.cell?_of_block hk).trans h2, h3, h4, h5.below hb⟩
theorem InBk.alloc {w : World} {a : Option Addr} {S : List BK} (h : InBk w a S) (o : Obj) : InBk (w.alloc o) a S := h.below ((Below.refl _ _).alloc (Nat.le_refl _) o)

/-- a slice of the call's own, its elements' tokens in other blocks of the call's own -/
structure OwnBk (w : World) (lo : Nat) (v : Value) (q : List XB) : Prop where
  out : w.ownsRow lo 42 2 v q.length (flatB q)
  row : ∀ p ∈ q, OwnI w lo p.2 p.1.2
  apart : ∀ p ∈ q, ∀ k, p.2.ownBlock = some k → v.ownBlock ≠ some k
  dis : q.Pairwise fun p r => ∀ k, p.2.ownBlock = some k → r.2.ownBlock ≠ some k
theorem info_blk : (Tryz.prog.info? 42).map (fun i => (i.zero, i.size, i.bytes)) = some (some (.agg #[.string ⟨#[]⟩, .slice none 0 0]), 2, 40) := by kernel_rfl
theorem OwnBk.below {w w' : World} {lo : Nat} {v : Value} {q : List XB} (h : OwnBk w lo v q) (hb : Below w.heap.size w w') : OwnBk w' lo v q :=
  ⟨World.ownsRow.kept h.out (row := none) ⟨hb.os, hb.tape, hb.output, hb.size, fun i hi _ => hb.block i hi⟩ (by cases hv : v.ownBlock <;> simp), fun p hp => (h.row p hp).below hb, h.apart, h.dis⟩
theorem OwnBk.mono {w : World} {lo lo' : Nat} {v : Value} {q : List XB} (h : OwnBk w lo v q) (hb : lo' ≤ lo) : OwnBk w lo' v q :=
  ⟨row_mono h.out hb, fun p hp => (h.row p hp).mono hb, h.apart, h.dis⟩
theorem OwnBk.shape {w : World} {lo : Nat} {v : Value} {q : List XB} (h : OwnBk w lo v q) : ∃ a cap, v = .slice a q.length cap := by
  rcases h.out.2 with ⟨rfl, h0⟩ | ⟨g, cap, cur, rfl, _⟩
  · exact ⟨none, 0, by rw [h0]⟩
  · exact ⟨_, _, rfl⟩
theorem blksB_at {q : List XB} {j : Nat} {x : BK} (h : (blksB q)[j]? = some x) : ∃ p, q[j]? = some p ∧ p.1 = x := by
  unfold blksB at h
  rw [List.getElem?_map] at h
  cases hq : q[j]? with
  | none => rw [hq] at h; cases h
  | some p => rw [hq] at h; exact ⟨p, rfl, by injection h⟩
theorem OwnBk.inBk {w : World} {lo : Nat} {a : Option Addr} {n cap : Nat} {q : List XB} (h : OwnBk w lo (.slice a n cap) q) : InBk w a (blksB q) := by
  intro h0
  obtain ⟨a', cap', e⟩ := h.shape
  injection e with e1 e2 e3
  subst e2
  rw [blksB_len] at h0
  obtain ⟨g, rfl, _, hg, hc⟩ := rowX_at h.out h0
  refine ⟨g, 0, rfl, hg, fun j x hj => ?_⟩
  obtain ⟨p, hp, rfl⟩ := blksB_at hj
  obtain ⟨h1, h2⟩ := flatB_at hp
  have ho := h.row p (List.mem_of_getElem? hp)
  obtain ⟨a1, c1, e1⟩ := ho.shape
  rw [e1] at ho
  refine ⟨a1, c1, hc _ _ h1, by rw [Nat.add_assoc, hc _ _ h2, e1], rowX_none ho, by have := rowX_cap ho; exact this, ho.inI⟩
/-- .. in blocks from lo on and below hi -/
def OwnHBk (w : World) (lo hi : Nat) (v : Value) (q : List XB) : Prop := OwnBk w lo v q ∧ (∀ k, v.ownBlock = some k → k < hi) ∧ ∀ p ∈ q, ∀ k, p.2.ownBlock = some k → k < hi
theorem OwnHBk.of {w : World} {lo : Nat} {v : Value} {q : List XB} (h : OwnBk w lo v q) : OwnHBk w lo w.heap.size v q :=
  ⟨h, fun k hk => (World.ownsRow.lt h.out k hk).2, fun p hp k hk => (World.ownsRow.lt (h.row p hp) k hk).2⟩
theorem OwnHBk.below {w w' : World} {lo hi : Nat} {v : Value} {q : List XB} (h : OwnHBk w lo hi v q) (hb : Below w.heap.size w w') : OwnHBk w' lo hi v q := ⟨h.1.below hb, h.2⟩
theorem OwnHBk.chg {w w' : World} {lo hi lo' hi' : Nat} {v : Value} {q : List XB} (h : OwnHBk w lo hi v q) (hc : Chg w w' lo' hi') (hd : hi ≤ lo' ∨ hi' ≤ lo) : OwnHBk w' lo hi v q :=
  ⟨⟨row_chg h.1.out hc fun k hk => by have := (World.ownsRow.lt h.1.out k hk).1; have := h.2.1 k hk; omega,
    fun p hp => row_chg (h.1.row p hp) hc fun k hk => by have := (World.ownsRow.lt (h.1.row p hp) k hk).1; have := h.2.2 p hp k hk; omega, h.1.apart, h.1.dis⟩, h.2⟩

theorem OwnBk.new (w : World) (g : Nat) (hg : w.heap.size = g) : OwnBk (w.alloc (.cells #[] 42)) g (.slice (some ⟨g, 0, none⟩) 0 0) [] := by
  subst hg
  exact ⟨World.ownsRow_made w #[] 0 (Nat.le_refl _) (Nat.zero_le _) (by simp), (fun p h => by cases h), (fun p h => by cases h), List.Pairwise.nil⟩
/-- one block more -/
theorem OwnBk.snoc {w w' : World} {lo : Nat} {v v' V : Value} {q : List XB} {x : Str} {m : List Int} (h : OwnBk w lo v q) (hV : OwnI w lo V m) (hva : ∀ k, V.ownBlock = some k → v.ownBlock ≠ some k) (hvd : ∀ p ∈ q, ∀ k, p.2.ownBlock = some k → V.ownBlock ≠ some k)
    (hg : w.grownBy w' v.ownBlock) (hrow : w'.ownsRow lo 42 2 v' (q.length + 1) (flatB q ++ [encStr x, V])) (hat : v'.ownBlock = v.ownBlock ∨ v'.ownBlock = some w.heap.size) : OwnBk w' lo v' (q ++ [((x, m), V)]) := by
  have hlow : ∀ p ∈ q, ∀ k, p.2.ownBlock = some k → k < w.heap.size := fun p hp k hk => (World.ownsRow.lt (h.row p hp) k hk).2
  have hVl : ∀ k, V.ownBlock = some k → k < w.heap.size := fun k hk => (World.ownsRow.lt hV k hk).2
  refine ⟨?_, fun p hp => ?_, fun p hp k hk => ?_, ?_⟩
  · rw [flatB_snoc, List.length_append]
    exact hrow
  · rcases List.mem_append.1 hp with h1 | h1
    · exact row_keptO (h.row p h1) hg (fun k hk e => h.apart p h1 k e hk)
    · simp at h1
      subst h1
      exact row_keptO hV hg (fun k hk e => hva k e hk)
  · rcases List.mem_append.1 hp with h1 | h1
    · rcases hat with e | e
      · rw [e]; exact h.apart p h1 k hk
      · rw [e]
        intro e2
        injection e2 with e2
        have := hlow p h1 k hk
        omega
    · simp at h1
      subst h1
      rcases hat with e | e
      · rw [e]; exact hva k hk
      · rw [e]
        intro e2
        injection e2 with e2
        have := hVl k hk
        omega
  · rw [List.pairwise_append]
    exact ⟨h.dis, by simp, fun p hp r hr => by simp at hr; subst hr; exact hvd p hp⟩

/-- a slice of blocks of the call's own is handed back -/
def GivesBk (w : World) (S : List BK) (e : Ending) (w' : World) : Prop :=
  ∃ a cap q, e = .returned (.slice a S.length cap) ∧ blksB q = S ∧ OwnBk w' w.heap.size (.slice a S.length cap) q ∧ Below w.heap.size w w'

end Go.Proofs.YtebddnjccmaimaaGreatDoor

/-
  Slices of blocks: what the laws' own eqBlockS, markBlockS, heldBlockS do. By an AI agent.
-/
namespace Go.Proofs.YtebddnjccmaimaaGreatDoor
open Go.RowKit
set_option linter.unusedVariables false

set_option maxRecDepth 100000 in
theorem beq_one (id : ByteArray) (a1 a2 : Option Addr) (c1 c2 : Nat) (l : List Int) (w : World) (hl : l.length ≤ maxLen) (h1 : InI w a1 l) (h2 : InI w a2 l) :
    Calls Tryz.prog 73 #[.agg #[.string id, .slice a1 l.length c1], .agg #[.string id, .slice a2 l.length c2]] w fun e w' => e = .returned (.bool true) ∧ Below w.heap.size w w' := by
  have HB := Lib.hid (((Below.refl w.heap.size w).alloc (Nat.le_refl _) (.cells #[.string id, .slice a1 l.length c1] 42)).alloc (by simp) (.cells #[.string id, .slice a2 l.length c2] 42))
  have H1 := Lib.hid (h1.below HB.out)
  have H2 := Lib.hid (h2.below HB.out)
  clear h1 h2
  go_enter Tryz.func73, Tryz.ntmps73
  go_wp2_with (go_at_call 102; (refine (eq_int a1 a2 c1 c2 l _ hl H1.out H2.out).mono ?_); rintro e w' ⟨rfl, hb⟩)
  go_ret
  exact ⟨rfl, HB.out.trans (hb.mono HB.out.size)⟩

set_option maxRecDepth 100000 in
theorem beq_same (a1 a2 : Option Addr) (c1 c2 : Nat) (S : List BK) (w : World) (hl : S.length ≤ 3900000) (hx : ∀ x ∈ S, x.2.length ≤ 3900000) (h1 : InBk w a1 S) (h2 : InBk w a2 S) :
    Calls Tryz.prog 33 #[.slice a1 S.length c1, .slice a2 S.length c2] w fun e w' => e = .returned (.bool true) ∧ Below w.heap.size w w' := by
  have H1 := Lib.hid h1
  have H2 := Lib.hid h2
  have HX := Lib.hid hx
  clear h1 h2 hx
  go_enter Tryz.func33, Tryz.ntmps33
  go_wp2
  go_loopw [5] (fun i wr => ∃ k : Nat, k ≤ S.length ∧ i = .int .i64 k ∧ Below w.heap.size w wr) (fun i _ => S.length - (intOf i).toNat)
  case atStart => exact ⟨0, Nat.zero_le _, rfl, Below.refl _ _⟩
  case round =>
    obtain ⟨k, hk, rfl, hb⟩ := hrel
    have HB := Lib.hid hb
    clear hb
    by_cases hlt : k < S.length
    · obtain ⟨b1, o1, rfl, hb1, hc1⟩ := H1.out (by omega)
      obtain ⟨b2, o2, rfl, hb2, hc2⟩ := H2.out (by omega)
      have hj := List.getElem?_eq_getElem hlt
      obtain ⟨a', c', p0, p1, _, _, p2⟩ := hc1 k _ hj
      obtain ⟨a'', c'', q0, q1, _, _, q2⟩ := hc2 k _ hj
      obtain ⟨id, hid⟩ : ∃ id, encStr S[k].1 = .string id := ⟨_, rfl⟩
      have g0 : wr.cell? ⟨b1, o1 + k * 2, none⟩ = some (.string id) := by rw [HB.out.cell (p := ⟨b1, o1 + k * 2, none⟩) hb1]; rw [← hid]; exact p0
      have g1 : wr.cell? ⟨b1, o1 + k * 2 + 1, none⟩ = some (.slice a' S[k].2.length c') := by rw [HB.out.cell (p := ⟨b1, o1 + k * 2 + 1, none⟩) hb1]; exact p1
      have g2 : wr.cell? ⟨b2, o2 + k * 2, none⟩ = some (.string id) := by rw [HB.out.cell (p := ⟨b2, o2 + k * 2, none⟩) hb2]; rw [← hid]; exact q0
      have g3 : wr.cell? ⟨b2, o2 + k * 2 + 1, none⟩ = some (.slice a'' S[k].2.length c'') := by rw [HB.out.cell (p := ⟨b2, o2 + k * 2 + 1, none⟩) hb2]; exact q1
      have HM := Lib.hid (fun (W : World) (hW : Below w.heap.size w W) => beq_one id a' a'' c' c'' S[k].2 W (by have := HX.out _ (List.mem_of_getElem? hj); unfold maxLen; omega) (p2.below hW) (q2.below hW))
      generalize S[k].2 = l at g1 g3 HM
      clear hid hc1 hc2 hj p0 p1 p2 q0 q1 q2 hb1 hb2
      go_wp2
      go_region_with (go_at_call 73; refine (HM.out _ (HB.out.drew)).mono ?_; rintro e w1 ⟨rfl, hb1⟩; have HB1 := Lib.hid hb1; clear hb1)
      all_goals go_wp2
      all_goals go_roundw
      all_goals first
        | (case rel => exact ⟨k + 1, by omega, by go_num, (HB.out.drew).trans (HB1.out.mono HB.out.size)⟩)
        | skip
      all_goals (simp [intOf]; omega)
    · obtain rfl : k = S.length := by omega
      go_wp2
      go_ret
      exact ⟨rfl, HB.out⟩

/-! ### marks -/
def bmk : Nat → List XB → List XB
  | _, [] => []
  | k, p :: q => ((markL k, marksI (k + 1) p.1.2.length), p.2) :: bmk (k + 1 + p.1.2.length) q
def bmn : Nat → List XB → Nat
  | k, [] => k
  | k, p :: q => bmn (k + 1 + p.1.2.length) q
theorem bmk_len : ∀ (k : Nat) (q : List XB), (bmk k q).length = q.length
  | _, [] => rfl
  | k, p :: q => by rw [bmk, List.length_cons, bmk_len, List.length_cons]
theorem bmn_is : ∀ (k : Nat) (q : List XB), bmn k q = k + (q.length + ((blksB q).map fun x => x.2.length).sum)
  | _, [] => rfl
  | k, p :: q => by
    rw [bmn, bmn_is]
    simp [blksB]
    omega
theorem bmn_le (k : Nat) (q : List XB) : k ≤ bmn k q := by rw [bmn_is]; omega
theorem bmk_snoc : ∀ (k : Nat) (q : List XB) (p : XB), bmk k (q ++ [p]) = bmk k q ++ [((markL (bmn k q), marksI (bmn k q + 1) p.1.2.length), p.2)]
  | _, [], p => rfl
  | k, r :: q, p => by rw [List.cons_append, bmk, bmk_snoc, bmk, bmn, List.cons_append]
theorem bmn_snoc : ∀ (k : Nat) (q : List XB) (p : XB), bmn k (q ++ [p]) = bmn k q + 1 + p.1.2.length
  | _, [], p => rfl
  | k, r :: q, p => by rw [List.cons_append, bmn, bmn_snoc, bmn]
theorem bmn_append : ∀ (k : Nat) (q r : List XB), bmn k (q ++ r) = bmn (bmn k q) r
  | _, [], r => rfl
  | k, p :: q, r => by rw [List.cons_append, bmn, bmn_append, bmn]
theorem bmn_take {k : Nat} {q : List XB} {j : Nat} : bmn k (q.take j) ≤ bmn k q := by
  have h := bmn_append k (q.take j) (q.drop j)
  rw [List.take_append_drop] at h
  rw [h]
  exact bmn_le _ _
theorem xb_take {q : List XB} {k : Nat} {p : XB} (h : q[k]? = some p) : q.take (k + 1) = q.take k ++ [p] := by
  obtain ⟨hlt, he⟩ := List.getElem?_eq_some_iff.1 h
  rw [List.take_succ_eq_append_getElem hlt, he]
theorem xb_drop {q : List XB} {k : Nat} {p : XB} (h : q[k]? = some p) : q.drop k = p :: q.drop (k + 1) := by
  obtain ⟨hlt, he⟩ := List.getElem?_eq_some_iff.1 h
  rw [List.drop_eq_getElem_cons hlt, he]
theorem bmk_val : ∀ (k : Nat) (q : List XB) (r : XB), r ∈ bmk k q → ∃ p ∈ q, p.2 = r.2
  | _, [], r, h => by cases h
  | k, p :: q, r, h => by
    rw [bmk] at h
    rcases List.mem_cons.1 h with rfl | h
    · exact ⟨p, List.mem_cons_self .., rfl⟩
    · obtain ⟨p', h1, h2⟩ := bmk_val _ q r h
      exact ⟨p', List.mem_cons_of_mem _ h1, h2⟩
theorem bmk_vals : ∀ (k : Nat) (q : List XB), (bmk k q).map Prod.snd = q.map Prod.snd
  | _, [] => rfl
  | k, p :: q => by rw [bmk, List.map_cons, List.map_cons, bmk_vals]

theorem disB_map {q : List XB} : (q.Pairwise fun p r => ∀ k, p.2.ownBlock = some k → r.2.ownBlock ≠ some k) ↔ ((q.map Prod.snd).Pairwise fun u z => ∀ k, u.ownBlock = some k → z.ownBlock ≠ some k) := by rw [List.pairwise_map]
theorem flatB_mid (q1 q2 : List XB) (p : XB) : flatB (q1 ++ p :: q2) = flatB q1 ++ encStr p.1.1 :: p.2 :: flatB q2 := by rw [flatB_append, flatB_cons]
/-- another identifier is stored -/
theorem OwnBk.setid {w : World} {lo g n cap : Nat} {q1 q2 : List XB} {p : XB} (h : OwnBk w lo (.slice (some ⟨g, 0, none⟩) n cap) (q1 ++ p :: q2)) (z : Str) : OwnBk (w.setCell ⟨g, q1.length * 2, none⟩ (encStr z)) lo (.slice (some ⟨g, 0, none⟩) n cap) (q1 ++ ((z, p.1.2), p.2) :: q2) := by
  have hon := h.out
  obtain ⟨a9, cap9, e9⟩ := h.shape
  injection e9 with e91 e92 e93
  rw [← e92] at hon
  have hs := hon.stored (q1.length * 2) (encStr z)
  have hne : ∀ r ∈ q1 ++ p :: q2, ∀ k, some g = some k → r.2.ownBlock ≠ some k := fun r hr k hk e => h.apart r hr k e (by rw [← hk]; rfl)
  have hm : ∀ r ∈ q1 ++ ((z, p.1.2), p.2) :: q2, ∃ r' ∈ q1 ++ p :: q2, r'.2 = r.2 ∧ r'.1.2 = r.1.2 := fun r hr => by
    rcases List.mem_append.1 hr with h1 | h1
    · exact ⟨r, List.mem_append_left _ h1, rfl, rfl⟩
    · rcases List.mem_cons.1 h1 with rfl | h1
      · exact ⟨p, List.mem_append_right _ (List.mem_cons_self ..), rfl, rfl⟩
      · exact ⟨r, List.mem_append_right _ (List.mem_cons_of_mem _ h1), rfl, rfl⟩
  refine ⟨?_, fun r hr => ?_, fun r hr k hk => ?_, ?_⟩
  · have h1 := hs.1
    rw [flatB_mid, List.set_append_right _ _ (by rw [flatB_len]; exact Nat.le_refl _), flatB_len, Nat.sub_self, List.set_cons_zero] at h1
    rw [flatB_mid]
    have hlen : (q1 ++ ((z, p.1.2), p.2) :: q2).length = n := by rw [e92]; simp
    rw [hlen]
    exact h1
  · obtain ⟨r', h1, h2, h3⟩ := hm r hr
    rw [← h2, ← h3]
    exact row_keptO (h.row r' h1) hs.2 (hne r' h1)
  · obtain ⟨r', h1, h2, h3⟩ := hm r hr
    exact h.apart r' h1 k (by rw [h2]; exact hk)
  · rw [disB_map]
    have := disB_map.1 h.dis
    simpa using this
/-- other tokens of as many are stored -/
theorem OwnBk.settok {w w' : World} {lo : Nat} {v : Value} {q1 q2 : List XB} {p : XB} {l : List Int} (h : OwnBk w lo v (q1 ++ p :: q2)) (hg : w.grownBy w' p.2.ownBlock) (ho : OwnI w' lo p.2 l) : OwnBk w' lo v (q1 ++ ((p.1.1, l), p.2) :: q2) := by
  have hp : p ∈ q1 ++ p :: q2 := List.mem_append_right _ (List.mem_cons_self ..)
  have hd := List.pairwise_append.1 h.dis
  have hd2 := List.pairwise_cons.1 hd.2.1
  refine ⟨?_, fun r hr => ?_, fun r hr k hk => ?_, ?_⟩
  · have h1 := row_keptO h.out hg (fun k hk => h.apart p hp k hk)
    rw [flatB_mid] at h1
    rw [flatB_mid]
    simpa using h1
  · rcases List.mem_append.1 hr with h1 | h1
    · exact row_keptO (h.row r (List.mem_append_left _ h1)) hg (fun k hk e => hd.2.2 r h1 p (List.mem_cons_self ..) k e hk)
    · rcases List.mem_cons.1 h1 with rfl | h1
      · exact ho
      · exact row_keptO (h.row r (List.mem_append_right _ (List.mem_cons_of_mem _ h1))) hg (fun k hk e => hd2.1 r h1 k hk e)
  · rcases List.mem_append.1 hr with h1 | h1
    · exact h.apart r (List.mem_append_left _ h1) k hk
    · rcases List.mem_cons.1 h1 with rfl | h1
      · exact h.apart p hp k hk
      · exact h.apart r (List.mem_append_right _ (List.mem_cons_of_mem _ h1)) k hk
  · rw [disB_map]
    have := disB_map.1 h.dis
    simpa using this
theorem OwnHBk.setid {w : World} {lo hi g n cap : Nat} {q1 q2 : List XB} {p : XB} (h : OwnHBk w lo hi (.slice (some ⟨g, 0, none⟩) n cap) (q1 ++ p :: q2)) (z : Str) : OwnHBk (w.setCell ⟨g, q1.length * 2, none⟩ (encStr z)) lo hi (.slice (some ⟨g, 0, none⟩) n cap) (q1 ++ ((z, p.1.2), p.2) :: q2) :=
  ⟨h.1.setid z, h.2.1, fun r hr k hk => by
    rcases List.mem_append.1 hr with h1 | h1
    · exact h.2.2 r (List.mem_append_left _ h1) k hk
    · rcases List.mem_cons.1 h1 with rfl | h1
      · exact h.2.2 p (List.mem_append_right _ (List.mem_cons_self ..)) k hk
      · exact h.2.2 r (List.mem_append_right _ (List.mem_cons_of_mem _ h1)) k hk⟩
theorem OwnHBk.settok {w w' : World} {lo hi : Nat} {v : Value} {q1 q2 : List XB} {p : XB} {l : List Int} (h : OwnHBk w lo hi v (q1 ++ p :: q2)) (hg : w.grownBy w' p.2.ownBlock) (ho : OwnI w' lo p.2 l) : OwnHBk w' lo hi v (q1 ++ ((p.1.1, l), p.2) :: q2) :=
  ⟨h.1.settok hg ho, h.2.1, fun r hr k hk => by
    rcases List.mem_append.1 hr with h1 | h1
    · exact h.2.2 r (List.mem_append_left _ h1) k hk
    · rcases List.mem_cons.1 h1 with rfl | h1
      · exact h.2.2 p (List.mem_append_right _ (List.mem_cons_self ..)) k hk
      · exact h.2.2 r (List.mem_append_right _ (List.mem_cons_of_mem _ h1)) k hk⟩

set_option maxRecDepth 100000 in
set_option maxHeartbeats 2000000 in
theorem bmark_q (lo hi : Nat) (a : Option Addr) (cap : Nat) (q : List XB) (k0 : Nat) (w : World) (hk0 : 0 < k0) (hn : bmn k0 q ≤ 4000000) (hown : OwnHBk w lo hi (.slice a q.length cap) q) :
    Calls Tryz.prog 36 #[.slice a q.length cap, .int .i64 k0] w fun e w' => e = .returned (.int .i64 ((bmn k0 q : Nat) : Int)) ∧ OwnHBk w' lo hi (.slice a q.length cap) (bmk k0 q) ∧ Chg w w' lo hi := by
  have HOWN := Lib.hid hown
  have HN := Lib.hid (fun j => show k0 ≤ bmn k0 (q.take j) ∧ bmn k0 (q.take j) ≤ 4000000 from ⟨bmn_le _ _, Nat.le_trans bmn_take hn⟩)
  have hql : q.length ≤ 4000000 := by rw [bmn_is] at hn; omega
  have HNL := Lib.hid (show ∀ j p, q[j]? = some p → bmn k0 (q.take j) + 1 + p.1.2.length ≤ 4000000 from fun j p hj => by
    have h1 := (HN.out (j + 1)).2
    rw [xb_take hj, bmn_snoc] at h1
    exact h1)
  clear hown
  go_enter Tryz.func36, Tryz.ntmps36
  go_wp2
  go_loopw [1, 5] (fun kk i wr => ∃ k : Nat, k ≤ q.length ∧ i = .int .i64 k ∧ kk = .int .i64 ((bmn k0 (q.take k) : Nat) : Int) ∧ OwnHBk wr lo hi (.slice a q.length cap) (bmk k0 (q.take k) ++ q.drop k) ∧ Chg w wr lo hi) (fun _ i _ => q.length - (intOf i).toNat)
  case atStart => exact ⟨0, Nat.zero_le _, rfl, by simp [bmn], by simpa [bmk] using HOWN.out, Chg.refl _ _ _⟩
  case round =>
    obtain ⟨k, hk, rfl, rfl, hox, hch⟩ := hrel
    have HCH := Lib.hid hch
    have HOX := Lib.hid hox
    clear hch hox
    obtain ⟨m, hm⟩ : ∃ m, bmn k0 (q.take k) = m := ⟨_, rfl⟩
    have HM := Lib.hid hm
    have hm1 : k0 ≤ m := by rw [← hm]; exact (HN.out k).1
    have hm3 : m ≤ 4000000 := by rw [← hm]; exact (HN.out k).2
    rw [hm]
    clear hm
    by_cases hlt : k < q.length
    · have hj := List.getElem?_eq_getElem hlt
      have HJ := Lib.hid (show q[k]? = some q[k] from hj)
      generalize q[k] = p at HJ
      have hm2 : m + 1 + p.1.2.length ≤ 4000000 := by rw [← HM.out]; exact HNL.out k p HJ.out
      have hox := HOX.out
      rw [xb_drop HJ.out] at hox
      have hlen : (bmk k0 (q.take k) ++ p :: q.drop (k + 1)).length = q.length := by
        rw [List.length_append, bmk_len, List.length_take, List.length_cons, List.length_drop]
        omega
      have hout := hox.1.out
      rw [hlen] at hout
      obtain ⟨g, rfl, hbg, hgl, -⟩ := rowX_at hout (by omega)
      have HGB := Lib.hid (hox.2.1 g rfl)
      have HBG := Lib.hid hbg
      have HOX2 := Lib.hid hox
      have HLEN := Lib.hid hlen
      clear hox hout hj hlen hbg hgl
      go_wp2_with (go_at_call 72; (refine (mark_text m _ (by omega) (by omega)).mono ?_); rintro e w1 ⟨rfl, hb1⟩; refine Hid.out ?_)
      have hox := HOX2.out.below hb1
      have HC1 := Lib.hid (HCH.out.trans ⟨hb1.os, hb1.tape, hb1.output, hb1.size, fun k hk _ => hb1.block k hk⟩)
      have hkl : (bmk k0 (q.take k)).length = k := by rw [bmk_len, List.length_take]; omega
      have hout := hox.1.out
      rw [HLEN.out] at hout
      have hor := hox.1.row p (List.mem_append_right _ (List.mem_cons_self ..))
      obtain ⟨a', c', hp2⟩ := hor.shape
      have HP2 := Lib.hid hp2
      have q0 := hout.cellAt (k * 2) (by omega)
      have q1 := hout.cellAt (k * 2 + 1) (by omega)
      have hfm : flatB (bmk k0 (q.take k) ++ p :: q.drop (k + 1)) = flatB (bmk k0 (q.take k)) ++ encStr p.1.1 :: p.2 :: flatB (q.drop (k + 1)) := flatB_mid _ _ _
      rw [hfm, (gap2_at (by rw [flatB_len, hkl])).1] at q0
      rw [hfm, (gap2_at (by rw [flatB_len, hkl])).2, hp2] at q1
      have f0 := hout.frozenAt (k * 2)
      have hsi := hox.setid (markL m)
      rw [hkl] at hsi
      have hg1 : w1.grownBy (w1.setCell ⟨g, k * 2, none⟩ (encStr (markL m))) (some g) := egrown_set _ _ _ _
      have q2 : (w1.setCell ⟨g, k * 2, none⟩ (encStr (markL m))).cell? ⟨g, k * 2 + 1, none⟩ = some (.slice a' p.1.2.length c') := by
        rw [World.cell?_setCell_other _ _ _ _ (by simp)]
        exact q1
      have HSI := Lib.hid hsi
      have HC2 := Lib.hid (HC1.out.grown hg1 (fun j hj => by injection hj with hj; subst hj; exact ⟨HBG.out, HGB.out⟩))
      have hos := HSI.out.1.row ((markL m, p.1.2), p.2) (List.mem_append_right _ (List.mem_cons_self ..))
      have HOS := Lib.hid (show OwnI _ lo (.slice a' p.1.2.length c') p.1.2 by rw [← hp2]; exact hos)
      clear hox hout hor hsi hos hfm q1 hg1 hp2 hb1
      refine Lib.hid ?_
      go_wp2_with (go_at_call 74; (refine (mark_int lo a' c' p.1.2 (m + 1) _ (by omega) (by omega) HOS.out).mono ?_); rintro e w2 ⟨rfl, ho, hg⟩; have HO := Lib.hid ho; have HG := Lib.hid hg; clear ho hg)
      go_roundw
      case rel =>
        have hP := HP2.out
        have hst := HSI.out.settok (l := marksI (m + 1) p.1.2.length) (by rw [hP]; exact HG.out) (by rw [hP]; exact HO.out)
        refine ⟨k + 1, by omega, by go_num, ?_, ?_, ?_⟩
        · rw [xb_take HJ.out, bmn_snoc, HM.out]; go_num
        · rw [xb_take HJ.out, bmk_snoc, HM.out, List.append_assoc]
          exact hst
        · refine HC2.out.grown HG.out fun j hj => ?_
          have h1 := World.ownsRow.lt HOS.out j hj
          exact ⟨h1.1, HSI.out.2.2 ((markL m, p.1.2), p.2) (List.mem_append_right _ (List.mem_cons_self ..)) j (by rw [hP]; exact hj)⟩
      case measure => simp [intOf]; omega
    · obtain rfl : k = q.length := by omega
      go_wp2
      go_ret
      have h := HOX.out
      rw [List.take_length, List.drop_length, List.append_nil] at h
      have e := HM.out
      rw [List.take_length] at e
      exact ⟨by rw [e]; rfl, h, HCH.out⟩

theorem bmark_any (lo hi : Nat) (a : Option Addr) (cap n : Nat) (q : List XB) (k0 : Nat) (w : World) (hqn : q.length = n) (hk0 : 0 < k0) (hn : bmn k0 q ≤ 4000000) (hown : OwnHBk w lo hi (.slice a n cap) q) :
    Calls Tryz.prog 36 #[.slice a n cap, .int .i64 k0] w fun e w' => e = .returned (.int .i64 ((bmn k0 q : Nat) : Int)) ∧ OwnHBk w' lo hi (.slice a n cap) (bmk k0 q) ∧ Chg w w' lo hi := by
  subst hqn
  exact bmark_q lo hi a cap q k0 w hk0 hn hown

theorem bmk_append : ∀ (k : Nat) (q r : List XB), bmk k (q ++ r) = bmk k q ++ bmk (bmn k q) r
  | _, [], r => rfl
  | k, p :: q, r => by rw [List.cons_append, bmk, bmk_append, bmk, bmn, List.cons_append]
theorem bmk_at {k0 k : Nat} {q : List XB} {p : XB} (h : q[k]? = some p) : (blksB (bmk k0 q))[k]? = some (markL (bmn k0 (q.take k)), marksI (bmn k0 (q.take k) + 1) p.1.2.length) := by
  have hlt := (List.getElem?_eq_some_iff.1 h).1
  have e : q = q.take k ++ p :: q.drop (k + 1) := by rw [← xb_drop h, List.take_append_drop]
  have hkl : (bmk k0 (q.take k)).length = k := by rw [bmk_len, List.length_take]; omega
  unfold blksB
  rw [List.getElem?_map]
  conv => lhs; rw [e, bmk_append, List.getElem?_append_right (by omega), hkl, Nat.sub_self, bmk]
  rfl

set_option maxRecDepth 100000 in
set_option maxHeartbeats 2000000 in
theorem bheld_any (a : Option Addr) (cap n : Nat) (q : List XB) (k0 : Nat) (w : World) (hqn : q.length = n) (hk0 : 0 < k0) (hn : bmn k0 q ≤ 4000000) (hin : InBk w a (blksB (bmk k0 q))) :
    Calls Tryz.prog 37 #[.slice a n cap, .int .i64 k0] w fun e w' => e = .returned (.int .i64 ((bmn k0 q : Nat) : Int)) ∧ Below w.heap.size w w' := by
  subst hqn
  have HIN := Lib.hid hin
  have HN := Lib.hid (fun j => show k0 ≤ bmn k0 (q.take j) ∧ bmn k0 (q.take j) ≤ 4000000 from ⟨bmn_le _ _, Nat.le_trans bmn_take hn⟩)
  have hql : q.length ≤ 4000000 := by rw [bmn_is] at hn; omega
  have HNL := Lib.hid (show ∀ j p, q[j]? = some p → bmn k0 (q.take j) + 1 + p.1.2.length ≤ 4000000 from fun j p hj => by
    have h1 := (HN.out (j + 1)).2
    rw [xb_take hj, bmn_snoc] at h1
    exact h1)
  clear hin
  go_enter Tryz.func37, Tryz.ntmps37
  go_wp2
  go_loopw [1, 5] (fun kk i wr => ∃ k : Nat, k ≤ q.length ∧ i = .int .i64 k ∧ kk = .int .i64 ((bmn k0 (q.take k) : Nat) : Int) ∧ Below w.heap.size w wr) (fun _ i _ => q.length - (intOf i).toNat)
  case atStart => exact ⟨0, Nat.zero_le _, rfl, by simp [bmn], Below.refl _ _⟩
  case round =>
    obtain ⟨k, hk, rfl, rfl, hb⟩ := hrel
    have HB := Lib.hid hb
    clear hb
    obtain ⟨m, hm⟩ : ∃ m, bmn k0 (q.take k) = m := ⟨_, rfl⟩
    have HM := Lib.hid hm
    have hm1 : k0 ≤ m := by rw [← hm]; exact (HN.out k).1
    have hm3 : m ≤ 4000000 := by rw [← hm]; exact (HN.out k).2
    rw [hm]
    clear hm
    by_cases hlt : k < q.length
    · have HJ := Lib.hid (show q[k]? = some q[k] from List.getElem?_eq_getElem hlt)
      generalize q[k] = p at HJ
      have hm2 : m + 1 + p.1.2.length ≤ 4000000 := by rw [← HM.out]; exact HNL.out k p HJ.out
      obtain ⟨b, off, rfl, hbw, hc⟩ := HIN.out (by rw [blksB_len, bmk_len]; omega)
      obtain ⟨a', c', p0, p1, _, _, p2⟩ := hc k _ (bmk_at HJ.out)
      rw [HM.out] at p0 p1 p2
      rw [marksI_length] at p1
      obtain ⟨s, hs⟩ : ∃ s : ByteArray, encStr (markL m) = .string s := ⟨_, rfl⟩
      have hbr : b < wr.heap.size := Nat.lt_of_lt_of_le hbw HB.out.size
      have g0 : wr.cell? ⟨b, off + k * 2, none⟩ = some (.string s) := by rw [HB.out.cell (p := ⟨b, off + k * 2, none⟩) hbw, ← hs]; exact p0
      have g1 : wr.cell? ⟨b, off + k * 2 + 1, none⟩ = some (.slice a' p.1.2.length c') := by rw [HB.out.cell (p := ⟨b, off + k * 2 + 1, none⟩) hbw]; exact p1
      have HT := Lib.hid (fun (W : World) => (mark_text m W (by omega) (by omega)).mono (fun e w' h => (show e = .returned (.string s) ∧ Below W.heap.size W w' from ⟨by rw [← hs]; exact h.1, h.2⟩)))
      have HC := Lib.hid (fun (W : World) (hW : Below wr.heap.size wr W) => held_int a' c' p.1.2.length (m + 1) W (by omega) (by omega) ((p2.below HB.out).below hW))
      have HBR := Lib.hid hbr
      have hpos : ¬ (((m + 1 + p.1.2.length : Nat) : Int) < 0) := by omega
      clear hc p0 p1 p2 hbw hs hbr
      go_wp2
      go_region_with (go_at_call 72; refine (HT.out _).mono ?_; rintro e w1 ⟨rfl, hb1⟩; have HB1 := Lib.hid hb1; have h0 := (hb1.cell (p := ⟨b, off + k * 2, none⟩) HBR.out).trans g0; have h1 := (hb1.cell (p := ⟨b, off + k * 2 + 1, none⟩) HBR.out).trans g1; clear hb1)
      all_goals go_wp2_with (go_at_call 75; (refine (HC.out _ (((Below.refl _ _).drew).trans HB1.out)).mono ?_); rintro e w2 ⟨rfl, hb2⟩; have HB2 := Lib.hid hb2; clear hb2)
      all_goals go_roundw
      all_goals first
        | (case rel => exact ⟨k + 1, by omega, by go_num, by rw [xb_take HJ.out, bmn_snoc, HM.out]; go_num, ((HB.out.drew).trans (HB1.out.mono HB.out.size)).trans (HB2.out.mono (Nat.le_trans HB.out.size HB1.out.size))⟩)
        | skip
      all_goals (simp [intOf]; omega)
    · obtain rfl : k = q.length := by omega
      go_wp2
      go_ret
      have e := HM.out
      rw [List.take_length] at e
      exact ⟨by rw [e]; rfl, HB.out⟩

end Go.Proofs.YtebddnjccmaimaaGreatDoor

