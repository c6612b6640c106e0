/-
  Splitting and joining, in plain lists: a record's format can be read in one way alone. By an AI agent.
-/
import Derived.Test.YtlapgcbeemdboaaDoorRecFmt
import Derived.Test.YtlapgcbeemdboaaDoorRecNew
import Derived.Test.YtlapgcbeemdboaaDoorPlainDec
import Derived.Test.YtlapgcbeemdboaaDoorPlainTok
import Derived.Lib.Join
import Derived.Lib.Split
namespace Go.Proofs.YtlapgcbeemdboaaDoor
open Go.RowKit
set_option linter.unusedVariables false

theorem ix_none {c : UInt8} : ∀ {s : Str}, c ∉ s → Lib.index s [c] = -1
  | [], _ => rfl
  | b :: s, h => by
    have h1 := ix_none (c := c) (s := s) (fun e => h (List.mem_cons_of_mem _ e))
    have h2 : c ≠ b := fun e => h (by rw [e]; exact List.mem_cons_self ..)
    have h3 : ([c] : Str).isPrefixOf (b :: s) = false := by simp [List.isPrefixOf, h2]
    rw [Lib.index, h3, h1]
    rfl
theorem ix_at {c : UInt8} (y : Str) : ∀ {x : Str}, c ∉ x → Lib.index (x ++ c :: y) [c] = (x.length : Nat)
  | [], _ => by
    have h3 : ([c] : Str).isPrefixOf (c :: y) = true := by simp [List.isPrefixOf]
    rw [List.nil_append, Lib.index, h3]
    rfl
  | b :: x, h => by
    have h1 := ix_at y (c := c) (x := x) (fun e => h (List.mem_cons_of_mem _ e))
    have h2 : c ≠ b := fun e => h (by rw [e]; exact List.mem_cons_self ..)
    have h3 : ([c] : Str).isPrefixOf (b :: (x ++ c :: y)) = false := by simp [List.isPrefixOf, h2]
    rw [List.cons_append, Lib.index, h3, h1]
    have h4 : ¬ ((x.length : Nat) : Int) = -1 := by omega
    simp [h4]
theorem first_of (c : UInt8) : ∀ s : Str, c ∉ s ∨ ∃ x y, s = x ++ c :: y ∧ c ∉ x
  | [] => .inl (by simp)
  | b :: s => by
    by_cases hb : c = b
    · exact .inr ⟨[], s, by rw [hb]; rfl, by simp⟩
    · rcases first_of c s with h | ⟨x, y, rfl, h⟩
      · exact .inl (by simp [hb, h])
      · exact .inr ⟨b :: x, y, rfl, by simp [hb, h]⟩

theorem tail_nil (c : UInt8) : Lib.joinTail [c] [] = [] := rfl
theorem tail_cons (c : UInt8) (y : Str) (L : List Str) : Lib.joinTail [c] (y :: L) = c :: (y ++ Lib.joinTail [c] L) := by simp [Lib.joinTail]

theorem split_back (c : UInt8) : ∀ (k : Nat) (s : Str), ∃ x L, Lib.splitK [c] 0 k s = x :: L ∧ s = x ++ Lib.joinTail [c] L
  | 0, s => ⟨s, [], rfl, by simp [Lib.joinTail]⟩
  | k + 1, s => by
    rcases first_of c s with h | ⟨x, y, rfl, h⟩
    · refine ⟨s, [], ?_, by simp [Lib.joinTail]⟩
      rw [Lib.splitK, ix_none h]
      rfl
    · obtain ⟨z, L, h1, h2⟩ := split_back c k y
      refine ⟨x, z :: L, ?_, by rw [tail_cons, ← h2]⟩
      have h4 : ¬ ((x.length : Nat) : Int) = -1 := by omega
      rw [Lib.splitK, ix_at y h, ← h1]
      simp [h4]
theorem split_fwd (c : UInt8) : ∀ (L : List Str) (k : Nat) (x : Str), L.length ≤ k → c ∉ x → (∀ y ∈ L, c ∉ y) → Lib.splitK [c] 0 k (x ++ Lib.joinTail [c] L) = x :: L
  | [], k, x, _, hx, _ => by
    rw [tail_nil, List.append_nil]
    cases k with
    | zero => rfl
    | succ k => rw [Lib.splitK, ix_none hx]; rfl
  | y :: L, k, x, hk, hx, hL => by
    obtain ⟨k, rfl⟩ : ∃ k', k = k' + 1 := ⟨k - 1, by simp at hk; omega⟩
    have h1 := split_fwd c L k y (by simp at hk; omega) (hL y (List.mem_cons_self ..)) (fun z hz => hL z (List.mem_cons_of_mem _ hz))
    have h4 : ¬ ((x.length : Nat) : Int) = -1 := by omega
    rw [tail_cons, Lib.splitK, ix_at _ hx, ← h1]
    simp [h4]

theorem cut_at (c : UInt8) {x : Str} (y : Str) (h : c ∉ x) : Lib.cut (x ++ c :: y) [c] = (x, y, true) := by
  have h4 : (0 : Int) ≤ ((x.length : Nat) : Int) := by omega
  unfold Lib.cut
  rw [ix_at y h, if_pos h4]
  simp
theorem cut_not (c : UInt8) {s : Str} (h : c ∉ s) : Lib.cut s [c] = (s, [], false) := by
  unfold Lib.cut
  rw [ix_none h, if_neg (by decide)]

theorem fold_off (c : UInt8) : ∀ (l : Str) (P : List Str) (q : Str), c ∉ l → l.foldl (kStep c) (P, q) = (P, q ++ l)
  | [], P, q, _ => by simp
  | b :: l, P, q, h => by
    have h2 : b ≠ c := fun e => h (by rw [e]; exact List.mem_cons_self ..)
    have h1 := fold_off c l P (q ++ [b]) (fun e => h (List.mem_cons_of_mem _ e))
    rw [List.foldl_cons]
    unfold kStep at h1 ⊢
    rw [if_neg h2, h1]
    simp
theorem fold_tail (c : UInt8) : ∀ (L : List Str) (P : List Str) (q : Str), (∀ y ∈ L, c ∉ y) → ((Lib.joinTail [c] L).foldl (kStep c) (P, q)).1 ++ [((Lib.joinTail [c] L).foldl (kStep c) (P, q)).2] = P ++ q :: L
  | [], P, q, _ => by simp [Lib.joinTail]
  | y :: L, P, q, h => by
    have h1 := fold_tail c L (P ++ [q]) y (fun z hz => h z (List.mem_cons_of_mem _ hz))
    have e : kStep c (P, q) c = (P ++ [q], []) := by unfold kStep; rw [if_pos rfl]
    rw [tail_cons, List.foldl_cons, e, List.foldl_append, fold_off c y _ _ (h y (List.mem_cons_self ..)), List.nil_append, h1]
    simp
theorem cutL_fwd (c : UInt8) (x : Str) (L : List Str) (hx : c ∉ x) (hL : ∀ y ∈ L, c ∉ y) : cutL c (x ++ Lib.joinTail [c] L) = x :: L := by
  unfold cutL kS
  rw [List.foldl_append, fold_off c x _ _ hx, List.nil_append, fold_tail c L [] x hL]
  rfl
theorem cutL_cons (c : UInt8) (s : Str) : ∃ x L, cutL c s = x :: L := by
  cases h : cutL c s with
  | nil => unfold cutL at h; simp at h
  | cons x L => exact ⟨x, L, rfl⟩
theorem kS_parts (c : UInt8) (s : Str) : (∀ y ∈ (kS c s).1, y.length ≤ s.length) ∧ (kS c s).2.length ≤ s.length := by
  induction s using snoc_ind with
  | h0 => simp [kS]
  | h1 s b ih =>
    obtain ⟨h1, h2⟩ := ih
    by_cases hb : b = c
    · rw [kS_at _ _ _ hb]
      refine ⟨fun y hy => ?_, by simp⟩
      simp only [List.mem_append, List.mem_singleton] at hy
      rw [List.length_append]
      rcases hy with hy | rfl
      · have := h1 y hy; omega
      · omega
    · rw [kS_off _ _ _ hb]
      refine ⟨fun y hy => ?_, by simp; exact h2⟩
      have := h1 y hy
      rw [List.length_append]
      omega
theorem cutL_part {c : UInt8} {s y : Str} (h : y ∈ cutL c s) : y.length ≤ s.length := by
  unfold cutL at h
  simp only [List.mem_append, List.mem_singleton] at h
  rcases h with h | rfl
  · exact (kS_parts c s).1 y h
  · exact (kS_parts c s).2
theorem cutL_nil (c : UInt8) : cutL c [] = [[]] := rfl

theorem itoa_digits {k : Int} (h : 1 ≤ k) {b : UInt8} (hb : b ∈ Lib.itoa k) : 48 ≤ b.toNat ∧ b.toNat ≤ 57 := by
  obtain ⟨a, rfl⟩ : ∃ a : Nat, k = a := ⟨k.toNat, by omega⟩
  rw [Lib.itoa_nonneg] at hb
  exact dec_all a b hb
theorem itoa_ne {k : Int} (h : 1 ≤ k) : Lib.itoa k ≠ [] := by
  obtain ⟨a, rfl⟩ : ∃ a : Nat, k = a := ⟨k.toNat, by omega⟩
  rw [Lib.itoa_nonneg]
  exact dec_ne a
theorem itoa_off {k : Int} (h : 1 ≤ k) {c : UInt8} (hc : c.toNat < 48 ∨ 57 < c.toNat) : c ∉ Lib.itoa k := fun hm => by
  have := itoa_digits h hm
  omega
theorem chr_of {s : Int} (h0 : 0 ≤ s) (h1 : s ≤ 3) : (UInt8.ofNat (97 + s).toNat).toNat = (97 + s).toNat := by
  rw [UInt8.toNat_ofNat']
  omega
theorem nm_off {s k : Int} (h0 : 0 ≤ s) (h1 : s ≤ 3) (hk : 1 ≤ k) {c : UInt8} (hc : c.toNat < 48 ∨ 100 < c.toNat) : c ∉ nmL s k := by
  unfold nmL
  intro hm
  rcases List.mem_cons.1 hm with rfl | hm
  · have := chr_of h0 h1
    omega
  · exact itoa_off hk (by omega) hm
theorem hd_off {s k v : Int} (h0 : 0 ≤ s) (h1 : s ≤ 3) (hk : 1 ≤ k) (hv : 1 ≤ v) : (124 : UInt8) ∉ hdL s k v := by
  unfold hdL
  intro hm
  simp only [List.mem_append, List.mem_singleton] at hm
  rcases hm with (hm | hm) | hm
  · exact nm_off h0 h1 hk (by decide) hm
  · exact absurd hm (by decide)
  · exact itoa_off hv (by decide) hm
theorem hd_is (s k v : Int) : hdL s k v = nmL s k ++ 46 :: Lib.itoa v := by simp [hdL]
theorem fields_off {s k v : Int} {l : List Str} (h : recB s k v l = true) : ∀ y ∈ l, (124 : UInt8) ∉ y := by
  intro y hy hm
  have h1 := (rec_fields h).2 y hy
  rw [clean_no hm (.inl rfl)] at h1
  cases h1

theorem cut_fr {s k v : Int} {l : List Str} (h : recB s k v l = true) : cutL 124 (frL s k v l) = hdL s k v :: l := by
  obtain ⟨h0, h1, h2, h3, h4, h5⟩ := head_of h
  exact cutL_fwd 124 _ _ (hd_off h0 h1 h2 h4) (fields_off h)
theorem cut_hd {s k v : Int} {l : List Str} (h : recB s k v l = true) : cutL 46 (hdL s k v) = [nmL s k, Lib.itoa v] := by
  obtain ⟨h0, h1, h2, h3, h4, h5⟩ := head_of h
  have e : hdL s k v = nmL s k ++ Lib.joinTail [46] [Lib.itoa v] := by rw [hd_is, tail_cons, tail_nil, List.append_nil]
  rw [e]
  refine cutL_fwd 46 _ _ (nm_off h0 h1 h2 (by decide)) fun y hy => ?_
  simp at hy
  subst hy
  exact itoa_off h4 (by decide)

theorem nm_inj {s k s' k' : Int} (h0 : 0 ≤ s) (h1 : s ≤ 3) (g0 : 0 ≤ s') (g1 : s' ≤ 3) (h : nmL s k = nmL s' k') : s = s' ∧ k = k' := by
  unfold nmL at h
  injection h with e1 e2
  have e3 := congrArg UInt8.toNat e1
  rw [chr_of h0 h1, chr_of g0 g1] at e3
  exact ⟨by omega, itoa_inj e2⟩
theorem fr_inj {s k v s' k' v' : Int} {l l' : List Str} (h : recB s k v l = true) (h' : recB s' k' v' l' = true) (e : frL s k v l = frL s' k' v' l') : s = s' ∧ k = k' ∧ v = v' ∧ l = l' := by
  have e1 := cut_fr h
  rw [e, cut_fr h'] at e1
  injection e1 with e2 e3
  have e4 := cut_hd h
  rw [← e2, cut_hd h'] at e4
  injection e4 with e5 e6
  injection e6 with e7 _
  obtain ⟨h0, h1, -⟩ := head_of h
  obtain ⟨g0, g1, -⟩ := head_of h'
  obtain ⟨e8, e9⟩ := nm_inj g0 g1 h0 h1 e5
  exact ⟨e8.symm, e9.symm, (itoa_inj e7).symm, e3.symm⟩

/-- what ParseRecord hands back -/
def PRout (s : Str) (S K V : Int) (L : List Str) (r : Bool) : Prop :=
  (true = r ∧ recB S K V L = true ∧ frL S K V L = s) ∨ (false = r ∧ (∀ S' K' V' L', recB S' K' V' L' = true → frL S' K' V' L' ≠ s) ∧ 0 = S ∧ 0 = K ∧ 0 = V ∧ [] = L)
theorem pr_some (s : Str) : ∃ S K V L r, PRout s S K V L r := by
  by_cases h : ∃ S K V L, recB S K V L = true ∧ frL S K V L = s
  · obtain ⟨S, K, V, L, h1, h2⟩ := h
    exact ⟨S, K, V, L, true, .inl ⟨rfl, h1, h2⟩⟩
  · exact ⟨0, 0, 0, [], false, .inr ⟨rfl, fun S K V L h1 h2 => h ⟨S, K, V, L, h1, h2⟩, rfl, rfl, rfl, rfl⟩⟩
theorem pr_len {s : Str} {S K V : Int} {L : List Str} {r : Bool} (h : PRout s S K V L r) : L.length ≤ 4000000 := by
  rcases h with ⟨-, h, -⟩ | ⟨-, -, -, -, -, rfl⟩
  · rw [(rec_fields h).1]; decide
  · exact Nat.zero_le _

theorem pi_of_itoa {k n : Int} {ok : Bool} (h0 : 1 ≤ k) (h1 : k ≤ 999) (h : PiOk (Lib.itoa k) n ok) : n = k := by
  rcases h with ⟨-, h, -⟩ | ⟨-, -, h⟩
  · exact itoa_inj h
  · exact absurd rfl (h k (by omega) (by omega))
theorem pi_pos {l : Str} {n : Int} {ok : Bool} (h : PiOk l n ok) (hn : 1 ≤ n) : Lib.itoa n = l := by
  rcases h with ⟨-, h, -⟩ | ⟨-, rfl, -⟩
  · exact h
  · omega

/-- spec: no two parts, or too short a name -/
theorem pr_short {s x : Str} {M H : List Str} {S K V : Int} {L : List Str} {r : Bool} (h : PRout s S K V L r) (hx : cutL 124 s = x :: M) (hH : cutL 46 x = H) (hn : H.length ≠ 2 ∨ ∃ y N, H = y :: N ∧ y.length < 2) :
    r = false ∧ S = 0 ∧ K = 0 ∧ V = 0 ∧ L = [] := by
  rcases h with ⟨rfl, h1, rfl⟩ | ⟨rfl, -, rfl, rfl, rfl, rfl⟩
  · exfalso
    rw [cut_fr h1] at hx
    injection hx with e1 e2
    subst e1
    rw [cut_hd h1] at hH
    subst hH
    rcases hn with hn | ⟨y, N, e, hn⟩
    · exact hn rfl
    · injection e with e1 e2
      subst e1
      have h2 := itoa_ne (head_of h1).2.2.1
      unfold nmL at hn
      cases hk : Lib.itoa K with
      | nil => exact h2 hk
      | cons a b => rw [hk] at hn; simp at hn; omega
  · exact ⟨rfl, rfl, rfl, rfl, rfl⟩
/-- spec: the candidate's format is the text -/
theorem pr_yes {s : Str} {S K V S' K' V' : Int} {L L' : List Str} {r : Bool} (h : PRout s S K V L r) (hs : s ≠ []) (hf : frR S' K' V' L' = strOf s) : r = true ∧ S = S' ∧ K = K' ∧ V = V' ∧ L = L' := by
  have hv : recB S' K' V' L' = true := by
    cases hv : recB S' K' V' L'
    · rw [fr_no hv] at hf
      exfalso
      have := congrArg (fun b : ByteArray => b.data.toList) hf
      simp [strOf] at this
      exact hs this
    · rfl
  have he : frL S' K' V' L' = s := by
    rw [fr_yes hv] at hf
    have := congrArg (fun b : ByteArray => b.data.toList) hf
    simpa [strOf] using this
  rcases h with ⟨rfl, h1, h2⟩ | ⟨rfl, h1, -⟩
  · obtain ⟨e1, e2, e3, e4⟩ := fr_inj h1 hv (h2.trans he.symm)
    exact ⟨rfl, e1, e2, e3, e4⟩
  · exact absurd he (h1 _ _ _ _ hv)
/-- spec: it is another -/
theorem pr_no {s x c' : Str} {c : UInt8} {y1 : Str} {M : List Str} {S K V K' V' : Int} {L : List Str} {r o1 o2 : Bool} (h : PRout s S K V L r) (hx : cutL 124 s = x :: M) (hH : cutL 46 x = [c :: c', y1]) (hk : PiOk c' K' o1) (hv : PiOk y1 V' o2)
    (hf : frR ((c.toNat : Int) - 97) K' V' M ≠ strOf s) : r = false ∧ S = 0 ∧ K = 0 ∧ V = 0 ∧ L = [] := by
  rcases h with ⟨rfl, h1, rfl⟩ | ⟨rfl, -, rfl, rfl, rfl, rfl⟩
  · exfalso
    obtain ⟨g0, g1, g2, g3, g4, g5⟩ := head_of h1
    rw [cut_fr h1] at hx
    injection hx with e1 e2
    subst e1
    subst e2
    rw [cut_hd h1] at hH
    unfold nmL at hH
    injection hH with e3 e4
    injection e3 with e5 e6
    injection e4 with e7 _
    subst e6
    subst e7
    rw [pi_of_itoa g2 (by omega) hk, pi_of_itoa g4 (by omega) hv] at hf
    have e8 : (c.toNat : Int) - 97 = S := by rw [← e5, chr_of g0 g1]; omega
    rw [e8, fr_yes h1] at hf
    exact hf rfl
  · exact ⟨rfl, rfl, rfl, rfl, rfl⟩

/-- what parseHead hands back -/
def PHok (p : Str) (S K V : Int) : Prop :=
  ((Lib.cut p [46]).1 = [] ∧ S = 0 ∧ K = 0 ∧ V = 0) ∨ ∃ c nm o1 o2, (Lib.cut p [46]).1 = c :: nm ∧ S = Lib.indexByte [97, 98, 99, 100] c ∧ PiOk nm K o1 ∧ PiOk (Lib.cut p [46]).2.1 V o2
theorem letter_at {s : Int} (h0 : 0 ≤ s) (h1 : s ≤ 3) : Lib.indexByte [97, 98, 99, 100] (UInt8.ofNat (97 + s).toNat) = s := by
  have : s = 0 ∨ s = 1 ∨ s = 2 ∨ s = 3 := by omega
  rcases this with rfl | rfl | rfl | rfl <;> decide
theorem letter_of {c : UInt8} {s : Int} (h : s = Lib.indexByte [97, 98, 99, 100] c) (h0 : 0 ≤ s) : c = UInt8.ofNat (97 + s).toNat := by
  by_cases c0 : (97 : UInt8) = c
  · subst c0; subst h; decide
  by_cases c1 : (98 : UInt8) = c
  · subst c1; subst h; decide
  by_cases c2 : (99 : UInt8) = c
  · subst c2; subst h; decide
  by_cases c3 : (100 : UInt8) = c
  · subst c3; subst h; decide
  exfalso
  have : Lib.indexByte [97, 98, 99, 100] c = -1 := by simp [Lib.indexByte, c0, c1, c2, c3]
  omega
theorem ph_hd {s k v S K V : Int} {l : List Str} (h : recB s k v l = true) (hp : PHok (hdL s k v) S K V) : S = s ∧ K = k ∧ V = v := by
  obtain ⟨g0, g1, g2, g3, g4, g5⟩ := head_of h
  have e : Lib.cut (hdL s k v) [46] = (nmL s k, Lib.itoa v, true) := by rw [hd_is]; exact cut_at 46 _ (nm_off g0 g1 g2 (by decide))
  unfold PHok at hp
  rw [e] at hp
  rcases hp with ⟨hp, -⟩ | ⟨c, nm, o1, o2, hp, h1, h2, h3⟩
  · unfold nmL at hp; cases hp
  · unfold nmL at hp
    injection hp with e1 e2
    subst e1
    subst e2
    exact ⟨by rw [h1, letter_at g0 g1], pi_of_itoa g2 (by omega) h2, pi_of_itoa g4 (by omega) h3⟩
theorem ph_back {p : Str} {S K V : Int} {l : List Str} (hp : PHok p S K V) (h : recB S K V l = true) : p = hdL S K V := by
  obtain ⟨g0, g1, g2, g3, g4, g5⟩ := head_of h
  rcases hp with ⟨-, -, rfl, -⟩ | ⟨c, nm, o1, o2, hp, h1, h2, h3⟩
  · omega
  · have e1 := pi_pos h2 g2
    have e2 := pi_pos h3 g4
    have e3 := letter_of h1 g0
    rcases first_of 46 p with hn | ⟨x, y, rfl, hx⟩
    · rw [cut_not 46 hn] at e2
      exact absurd e2 (itoa_ne g4)
    · rw [cut_at 46 y hx] at hp e2
      simp at hp e2
      rw [hd_is, hp, e2, e3, ← e1]
      rfl

/-- impl: from the parts to the outcome -/
theorem pr_parts {s p : Str} {M : List Str} {S K V S' K' V' : Int} {L : List Str} {r : Bool} (k : Nat) (hk : s.length < 5 ∨ 4 ≤ k) (h : PRout s S K V L r) (hs : Lib.splitK [124] 0 k s = p :: M) (hp : PHok p S' K' V') : NRout S' K' V' M S K V L r := by
  rcases h with ⟨rfl, h1, rfl⟩ | ⟨rfl, h1, rfl, rfl, rfl, rfl⟩
  · obtain ⟨g0, g1, g2, g3, g4, g5⟩ := head_of h1
    have hl := (rec_fields h1).1
    have hk4 : 4 ≤ k := by
      rcases hk with hk | hk
      · exfalso
        have h5 : (Lib.joinTail [124] L).length ≥ 4 := by
          match L, hl with
          | [a, b, c, d], _ => simp [Lib.joinTail]; omega
        unfold frL at hk
        rw [List.length_append] at hk
        have h6 : 1 ≤ (hdL S K V).length := by rw [hd_is]; unfold nmL; simp
        omega
      · exact hk
    have e : Lib.splitK [124] 0 k (frL S K V L) = hdL S K V :: L := split_fwd 124 L k _ (by omega) (hd_off g0 g1 g2 g4) (fields_off h1)
    rw [e] at hs
    injection hs with e1 e2
    subst e1
    subst e2
    obtain ⟨rfl, rfl, rfl⟩ := ph_hd h1 hp
    exact .inl ⟨rfl, h1, rfl, rfl, rfl, rfl⟩
  · refine .inr ⟨rfl, ?_, rfl, rfl, rfl, rfl⟩
    cases hv : recB S' K' V' M
    · rfl
    · exfalso
      obtain ⟨x, N, e1, e2⟩ := split_back 124 k s
      rw [hs] at e1
      injection e1 with e3 e4
      subst e3
      subst e4
      exact h1 S' K' V' M hv (by rw [e2, ph_back hp hv]; rfl)

theorem data_size (t : ByteArray) : t.data.toList.length = t.size := by simp
theorem data_cons (t : ByteArray) (h : 0 < t.size) : t.data.toList = t[0] :: (t.extract 1 t.size).data.toList := by
  rw [Lib.extract_to_end]
  have hl : 0 < t.data.toList.length := by rw [data_size]; exact h
  have h1 := List.drop_eq_getElem_cons (l := t.data.toList) (i := 0) hl
  rw [List.drop_zero] at h1
  rw [h1]
  rfl

end Go.Proofs.YtlapgcbeemdboaaDoor
