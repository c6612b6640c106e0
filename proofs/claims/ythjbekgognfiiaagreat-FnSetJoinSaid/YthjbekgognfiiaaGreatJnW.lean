/-
  Small indexes handed back; the calls of laws.FnSetJoin behind one another. By an AI agent.
-/
import Derived.Test.YthjbekgognfiiaaGreatJnF
import Derived.Test.YthjbekgognfiiaaGreatJnS
import Derived.Test.YthjbekgognfiiaaGreatCdS
import Derived.Test.YthjbekgognfiiaaGreatSeS
import Derived.Test.YthjbekgognfiiaaGreatIxJ
import Derived.Test.YthjbekgognfiiaaGreatIxR
namespace Go.Proofs.YthjbekgognfiiaaGreat
open Go.RowKit
set_option linter.unusedVariables false

theorem bix_ins13 {T : List TC} {S : List IS} {id : Int} {l : List Str} (h : BIx 13 T S) (hl : l.length ≤ 7) (hx : ∀ x ∈ l, x.length ≤ 10) : BIx 14 T (insX S id l) := by
  refine ⟨h.1, h.2.1, by rw [insX_len]; have := h.2.2.1; omega, fun x hx2 => ?_⟩
  unfold insX at hx2
  rcases List.mem_append.1 hx2 with h5 | h5
  · exact h.2.2.2 x (List.mem_of_mem_take h5)
  · rcases List.mem_cons.1 h5 with rfl | h5
    · exact ⟨hl, hx⟩
    · exact h.2.2.2 x (List.mem_of_mem_drop h5)
theorem bix_up {m n : Nat} {T : List TC} {S : List IS} (h : BIx m T S) (hm : m ≤ n) : BIx n T S := ⟨h.1, h.2.1, Nat.le_trans h.2.2.1 hm, h.2.2.2⟩
theorem OwnIx.smB {w : World} {lo hi m : Nat} {ta xa : Option Addr} {tc xc : Nat} {T : List TC} {S : List IS} {q : List XS} (h : OwnIx w lo hi (.slice ta T.length tc) (.slice xa S.length xc) T q) (hq : setsX q = S) (hb : BIx m T S) (hm : m ≤ 1000) : SmIx w ta T tc xa S xc :=
  ⟨tab_sm h.tab.1 (by have := hb.1; omega) hb.2.1, h.sets.1.smX hq (by have := hb.2.2.1; omega) (fun x hx => ⟨by have := (hb.2.2.2 x hx).1; omega, fun y hy => by have := (hb.2.2.2 x hx).2 y hy; omega⟩)⟩
/-- a list of numbers stands there, behind the call -/
def GvI (w : World) (l : List Int) (e : Ending) (w' : World) : Prop := ∃ a cap, e = .returned (.slice a l.length cap) ∧ InI w' a l ∧ Below w.heap.size w w'
theorem GivesIds.gv {w w' : World} {l : List Int} {e : Ending} (h : GivesIds w l e w') : GvI w l e w' := by
  obtain ⟨a, c, he, ho, hb⟩ := h
  exact ⟨a, c, he, ho.inI, hb⟩
def GvP (w : World) (n : Nat) (l : List IP) (e : Ending) (w' : World) : Prop := ∃ a cap, e = .returned (.slice a n cap) ∧ InP w' a l ∧ Below w.heap.size w w'
theorem GivesP.gv {w w' : World} {l : List IP} {e : Ending} (h : GivesP w l e w') : GvP w l.length l e w' := by
  obtain ⟨a, c, he, ho, hb⟩ := h
  exact ⟨a, c, he, ho.inP, hb⟩
def GvX (w : World) (t : Int) (T : List TC) (S : List IS) (r : Bool) (e : Ending) (w' : World) : Prop :=
  ∃ ta tc xa xc, e = .returned (.tuple #[.agg #[.int .i64 t, .slice ta T.length tc, .slice xa S.length xc], .bool r]) ∧ SmIx w' ta T tc xa S xc ∧ Below w.heap.size w w'
theorem GivesIB.gv {w w' : World} {t : Int} {T : List TC} {S : List IS} {r : Bool} {e : Ending} (hb : BIx 14 T S) (h : GivesIB w t T S r e w') : GvX w t T S r e w' := by
  obtain ⟨ta, tc, xa, xc, q, he, hq, ho, hbl⟩ := h
  exact ⟨ta, tc, xa, xc, he, ho.smB hq hb (by omega), hbl⟩

variable (t : Int) (ta : Option Addr) (tc : Nat) (T : List TC) (xa : Option Addr) (xc : Nat) (S : List IS) (a : Option Addr) (c : Nat) (l : List Str)
theorem jw_cs_impl (r : List Int) (w : World) (hr : candR t T S l = r) (hb : BIx 14 T S) (h : SmIx w ta T tc xa S xc) (hl : Sm w a l c) :
    Calls Tryz.prog 7 #[.agg #[.int .i64 t, .slice ta T.length tc, .slice xa S.length xc], .slice a l.length c] w (GvI w r) :=
  (cs_impl t ta tc T xa xc S a c l r w hr h hl (cntq_small hb (by omega))).mono fun e w' h => h.gv
theorem jw_cs_spec (r : List Int) (w : World) (hr : candR t T S l = r) (h : SmIx w ta T tc xa S xc) (hl : Sm w a l c) :
    Calls Tryz.prog 10 #[.agg #[.int .i64 t, .slice ta T.length tc, .slice xa S.length xc], .slice a l.length c] w (GvI w r) :=
  (cs_spec t ta tc T xa xc S a c l r w hr h hl).mono fun e w' h => h.gv
theorem jw_ss_impl (r : List Int) (w : World) (hr : searR t T S l = r) (hb : BIx 14 T S) (h : SmIx w ta T tc xa S xc) (hl : Sm w a l c) :
    Calls Tryz.prog 8 #[.agg #[.int .i64 t, .slice ta T.length tc, .slice xa S.length xc], .slice a l.length c] w (GvI w r) :=
  (ss_impl t ta tc T xa xc S a c l r w hr h hl (cntq_small hb (by omega))).mono fun e w' h => h.gv
theorem jw_ss_spec (r : List Int) (w : World) (hr : searR t T S l = r) (h : SmIx w ta T tc xa S xc) (hl : Sm w a l c) :
    Calls Tryz.prog 11 #[.agg #[.int .i64 t, .slice ta T.length tc, .slice xa S.length xc], .slice a l.length c] w (GvI w r) :=
  (ss_spec t ta tc T xa xc S a c l r w hr h hl).mono fun e w' h => h.gv
theorem jw_jn_impl (r : List IP) (w : World) (hr : joinR t T S = r) (hb : BIx 14 T S) (h : SmIx w ta T tc xa S xc) :
    Calls Tryz.prog 13 #[.agg #[.int .i64 t, .slice ta T.length tc, .slice xa S.length xc]] w (GvP w r.length r) :=
  (jn_impl t ta tc T xa xc S r w hr h (cntq_small hb (by omega))).mono fun e w' h => h.gv
theorem jw_jn_spec (r : List IP) (w : World) (hr : joinR t T S = r) (h : SmIx w ta T tc xa S xc) :
    Calls Tryz.prog 14 #[.agg #[.int .i64 t, .slice ta T.length tc, .slice xa S.length xc]] w (GvP w r.length r) :=
  (jn_spec t ta tc T xa xc S r w hr h).mono fun e w' h => h.gv
theorem bix_insR {id : Int} (h : BIx 13 T S) (hl : l.length ≤ 7) (hx : ∀ x ∈ l, x.length ≤ 10) : BIx 14 T (insR t T S id l) := by
  unfold insR
  split
  · exact bix_ins13 h hl hx
  · exact bix_up h (by omega)
theorem jw_in_impl (id : Int) (rS : List IS) (rb : Bool) (w : World) (hrS : insR t T S id l = rS) (hrb : okIns t T S id l = rb) (hb : BIx 14 T rS) (h : SmIx w ta T tc xa S xc) (hs : Sm w a l c) :
    Calls Tryz.prog 16 #[.agg #[.int .i64 t, .slice ta T.length tc, .slice xa S.length xc], .int .i64 id, .slice a l.length c] w (GvX w t T rS rb) :=
  (ins_impl t ta tc T xa xc S id a c l t T rS rb w rfl rfl hrS hrb h hs).mono fun e w' h => h.gv hb
theorem jw_in_spec (id : Int) (rS : List IS) (rb : Bool) (w : World) (hrS : insR t T S id l = rS) (hrb : okIns t T S id l = rb) (hb : BIx 14 T rS) (h : SmIx w ta T tc xa S xc) (hs : Sm w a l c) :
    Calls Tryz.prog 17 #[.agg #[.int .i64 t, .slice ta T.length tc, .slice xa S.length xc], .int .i64 id, .slice a l.length c] w (GvX w t T rS rb) :=
  (ins_spec t ta tc T xa xc S id a c l t T rS rb w rfl rfl hrS hrb h hs).mono fun e w' h => h.gv hb
theorem jw_rm_impl (id : Int) (rS : List IS) (rb : Bool) (w : World) (hrS : remR t T S id = rS) (hrb : okRem t T S id = rb) (hb : BIx 14 T rS) (h : SmIx w ta T tc xa S xc) :
    Calls Tryz.prog 18 #[.agg #[.int .i64 t, .slice ta T.length tc, .slice xa S.length xc], .int .i64 id] w (GvX w t T rS rb) :=
  (rem_impl t ta tc T xa xc S id t T rS rb w rfl rfl hrS hrb h).mono fun e w' h => h.gv hb
theorem rem_ins {id : Int} (h : okIns t T S id l = true) : remR t T (insR t T S id l) id = S := by
  unfold insR remR
  rw [if_pos h, if_pos (ins_okrem h), ins_rem]
theorem okrem_insR {id : Int} (h : okIns t T S id l = true) : okRem t T (insR t T S id l) id = true := by
  unfold insR
  rw [if_pos h]
  exact ins_okrem h
theorem ix_insR {id : Int} (h : okIns t T S id l = true) : ixB t T (insR t T S id l) = true := by
  unfold insR
  rw [if_pos h]
  exact ins_ix h
theorem found_insR {id : Int} (h : okIns t T S id l = true) (hl : l.length ≤ 1000) : id ∈ searR t T (insR t T S id l) l := by
  unfold insR
  rw [if_pos h]
  exact ins_found h hl
theorem jn_drewN {base : Nat} {w w' : World} (h : Below base w w') (n : Nat) : Below base w (w'.drewN n) := ⟨h.os, h.tape, h.output, h.size, h.block⟩

end Go.Proofs.YthjbekgognfiiaaGreat
