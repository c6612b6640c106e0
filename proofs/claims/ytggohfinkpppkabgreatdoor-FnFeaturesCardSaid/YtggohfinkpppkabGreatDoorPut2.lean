/-
  What spec.l3Put does, at any ascending list of the call's own. By an AI agent.
-/
import Derived.Test.YtggohfinkpppkabGreatDoorPut
namespace Go.Proofs.YtggohfinkpppkabGreatDoor
open Go.RowKit
set_option linter.unusedVariables false
set_option linter.unusedSimpArgs false

theorem InS.empty (w : World) (a : Option Addr) {l : List Str} (h : l.length = 0) : InS w a l := fun h0 => absurd h0 (by omega)

set_option maxRecDepth 100000 in
set_option maxHeartbeats 4000000 in
theorem put_nil_true (base : Nat) (t : ByteArray) (y : Str) (w : World) (hbase : base ≤ w.heap.size) (ht : t.data.toList = y) :
    Calls Tryz.prog 57 #[.slice none 0 0, .string t, .bool true] w (PutsS w base (putL true [] y)) := by
  have HB0 := Lib.hid hbase
  have HT := Lib.hid ht
  have HE := Lib.hid (show putL true [] y = ([] : List Str) ++ y :: ([] : List Str) from rfl)
  clear ht hbase
  go_enter Tryz.func57, Tryz.ntmps57
  go_wp2
  refine wp_loop_rounds 1 ?_
  rw [rounds_succ]
  have hmin : ([] : List Str).length = 0 := rfl
  have hdr : ([] : List Str).length = 0 := rfl
  have O1 : Hid (OwnS (w.alloc (.cells #[] 9)).drew w.heap.size (.slice (some ⟨w.heap.size, 0, none⟩) 0 0) []) := Lib.hid (own_new w w.heap.size w.heap.size rfl (Nat.le_refl _))
  have B1 := Lib.hid ((Below.refl w.heap.size w).alloc (Nat.le_refl _) (.cells #[] 9)).drew
  have O2 : Hid (OwnS ((w.alloc (.cells #[] 9)).alloc (.cells #[.string t] 9)).drew w.heap.size (.slice (some ⟨w.heap.size, 0, none⟩) 0 0) []) := Lib.hid ((own_new w w.heap.size w.heap.size rfl (Nat.le_refl _)).alloc (.cells #[.string t] 9))
  have B2 := Lib.hid (((Below.refl w.heap.size w).alloc (Nat.le_refl _) (.cells #[] 9)).alloc (by simp) (.cells #[.string t] 9)).drew
  have S2 : Hid (InS ((w.alloc (.cells #[] 9)).alloc (.cells #[.string t] 9)).drew (some ⟨w.heap.size + 1, 0, none⟩) [y]) := Lib.hid (in_one (w.alloc (.cells #[] 9)) (w.heap.size + 1) t y (by simp) HT.out)
  have O3 : Hid (OwnS ((w.alloc (.cells #[.string t] 9)).alloc (.cells #[] 9)).drew w.heap.size (.slice (some ⟨w.heap.size + 1, 0, none⟩) 0 0) []) := Lib.hid (own_new (w.alloc (.cells #[.string t] 9)) w.heap.size (w.heap.size + 1) (by simp) (by omega))
  have B3 := Lib.hid (((Below.refl w.heap.size w).alloc (Nat.le_refl _) (.cells #[.string t] 9)).alloc (by simp) (.cells #[] 9)).drew
  have S3 : Hid (InS ((w.alloc (.cells #[.string t] 9)).alloc (.cells #[] 9)).drew (some ⟨w.heap.size, 0, none⟩) [y]) := Lib.hid ((in_one w w.heap.size t y rfl HT.out).alloc (.cells #[] 9))
  have HM := Lib.hid hmin
  have HD := Lib.hid hdr
  clear hmin hdr
  go_wp2
  go_region_law (first
    | (refine step_app (by rfl) (.tmp 39) (.tmp 42) (by rfl) w.heap.size (.slice (some ⟨w.heap.size, 0, none⟩) 0 0) [] (by rfl) none 0 0 ([] : List Str) (by rfl) HM.out.symm O1.out (InS.empty _ _ rfl) (fun _ => rfl) (by have e1 := HM.out; have e2 := HD.out; simp only [List.length_append, List.length_cons, List.length_nil] at e1 e2 ⊢; omega) B1.out.size ?_; intro v1 w1 ho1 hg1; have hb1 : Below w.heap.size w w1 := grown_old B1.out hg1 O1.out)
    | (refine step_app (by rfl) (.tmp 39) (.tmp 42) (by rfl) w.heap.size (.slice (some ⟨w.heap.size, 0, none⟩) 0 0) [] (by rfl) none 0 0 ([] : List Str) (by rfl) HM.out.symm O2.out (InS.empty _ _ rfl) (fun _ => rfl) (by have e1 := HM.out; have e2 := HD.out; simp only [List.length_append, List.length_cons, List.length_nil] at e1 e2 ⊢; omega) B2.out.size ?_; intro v1 w1 ho1 hg1; have hb1 : Below w.heap.size w w1 := grown_old B2.out hg1 O2.out; have hs1 := S2.out.grown hg1 (by intro b off e; cases e; simp [Value.ownBlock]))
    | (refine step_app (by rfl) (.tmp 39) (.tmp 42) (by rfl) w.heap.size (.slice (some ⟨w.heap.size + 1, 0, none⟩) 0 0) [] (by rfl) none 0 0 ([] : List Str) (by rfl) HM.out.symm O3.out (InS.empty _ _ rfl) (fun _ => rfl) (by have e1 := HM.out; have e2 := HD.out; simp only [List.length_append, List.length_cons, List.length_nil] at e1 e2 ⊢; omega) B3.out.size ?_; intro v1 w1 ho1 hg1; have hb1 : Below w.heap.size w w1 := grown_old B3.out hg1 O3.out; have hs1 := S3.out.grown hg1 (by intro b off e; cases e; simp [Value.ownBlock]))
    | (refine step_app (by rfl) (.tmp 43) (.tmp 45) (by rfl) w.heap.size v1 ([] ++ ([] : List Str)) (by rfl) (some ⟨w.heap.size + 1, 0, none⟩) 1 1 [y] (by rfl) rfl ho1 hs1 nofun (by have e1 := HM.out; have e2 := HD.out; simp only [List.length_append, List.length_cons, List.length_nil] at e1 e2 ⊢; omega) hb1.size ?_; intro v2 w2 ho2 hg2; have hb2 : Below w.heap.size w w2 := grown_old hb1 hg2 ho1)
    | (refine step_app (by rfl) (.tmp 43) (.tmp 45) (by rfl) w.heap.size v1 ([] ++ ([] : List Str)) (by rfl) (some ⟨w.heap.size, 0, none⟩) 1 1 [y] (by rfl) rfl ho1 hs1 nofun (by have e1 := HM.out; have e2 := HD.out; simp only [List.length_append, List.length_cons, List.length_nil] at e1 e2 ⊢; omega) hb1.size ?_; intro v2 w2 ho2 hg2; have hb2 : Below w.heap.size w w2 := grown_old hb1 hg2 ho1)
    | (refine step_app (by rfl) (.tmp 43) (.tmp 45) (by rfl) w.heap.size v1 ([] ++ ([] : List Str)) (by rfl) (some ⟨w1.heap.size, 0, none⟩) 1 1 [y] (by rfl) rfl (ho1.alloc _) (in_one w1 w1.heap.size t y rfl HT.out) nofun (by have e1 := HM.out; have e2 := HD.out; simp only [List.length_append, List.length_cons, List.length_nil] at e1 e2 ⊢; omega) (hb1.alloc hb1.size _).size ?_; intro v2 w2 ho2 hg2; have hb2 : Below w.heap.size w w2 := grown_old (hb1.alloc hb1.size _) hg2 (ho1.alloc _))
    | (refine step_app (by rfl) (.tmp 46) (.tmp 49) (by rfl) w.heap.size v2 ([] ++ ([] : List Str) ++ [y]) (by rfl) none 0 0 ([] : List Str) (by rfl) HD.out.symm ho2 (InS.empty _ _ rfl) (fun _ => rfl) (by have e1 := HM.out; have e2 := HD.out; simp only [List.length_append, List.length_cons, List.length_nil] at e1 e2 ⊢; omega) hb2.size ?_; intro v3 w3 ho3 hg3; have hb3 : Below w.heap.size w w3 := grown_old hb2 hg3 ho2))
  all_goals go_wp2
  all_goals go_ret
  all_goals
    have hfin : OwnS w3 base v3 (putL true [] y) := by
      rw [HE.out]
      have h := ho3.mono HB0.out
      simpa using h
    exact PutsS.mk hfin hb3

set_option maxRecDepth 100000 in
set_option maxHeartbeats 8000000 in
theorem put_some_true (base b cap : Nat) (l : List Str) (t : ByteArray) (y : Str) (w : World) (hl : l.length ≤ 8500000) (hown : OwnS w base (.slice (some ⟨b, 0, none⟩) l.length cap) l) (hbase : base ≤ w.heap.size) (ht : t.data.toList = y) :
    Calls Tryz.prog 57 #[.slice (some ⟨b, 0, none⟩) l.length cap, .string t, .bool true] w (PutsS w base (putL true l y)) := by
  have hlc := hown.cap_ge
  have HIN := Lib.hid hown.inS
  have HB0 := Lib.hid hbase
  have HT := Lib.hid ht
  have HOWN := Lib.hid hown
  clear hown ht hbase
  go_enter Tryz.func57, Tryz.ntmps57
  go_wp2
  go_loop [7] (fun i => ∃ k : Nat, k ≤ l.length ∧ i = .int .i64 k ∧ ∀ j x, l[j]? = some x → j < k → x < y) (fun i => l.length - (intOf i).toNat)
  case atStart => exact ⟨0, Nat.zero_le _, rfl, fun j x _ hj => absurd hj (Nat.not_lt_zero _)⟩
  case round =>
    obtain ⟨k, hk, rfl, hall⟩ := hrel
    have HALL := Lib.hid hall
    clear hall
    have h1 : (0 : Int) ≤ (k : Int) := by omega
    have h2 : (k : Int) ≤ (cap : Int) := by omega
    have h3 : (k : Int) ≤ (l.length : Int) := by omega
    by_cases hlt : k < l.length
    · obtain ⟨b', off', e', hbw, hc⟩ := HIN.out (by omega)
      obtain ⟨rfl, rfl⟩ : b = b' ∧ 0 = off' := by simpa using e'
      obtain ⟨x, s, hx1, hx2, hx3, hx4⟩ := str_at hlt
      have hcell : w.cell? ⟨b, 0 + k, none⟩ = some (.string s) := by rw [← hx3]; exact hc k x hx1
      rw [Nat.zero_add] at hcell
      have hkc : ¬ cap = k := by omega
      have hkc2 : ¬ (cap : Int) = (k : Int) := by omega
      clear hc e'
      by_cases hxy : x < y
      · have hls := less_yes hx2 HT.out hxy
        have HX := Lib.hid hx1
        have HXY := Lib.hid hxy
        clear hx1 hx2 hx3 hx4 hxy
        go_wp2
        go_round
        case rel =>
          refine ⟨k + 1, by omega, by go_num, fun j z hz hj => ?_⟩
          by_cases e : j = k
          · rw [e, HX.out] at hz
            cases hz
            exact HXY.out
          · exact HALL.out j z hz (by omega)
        case measure => simp [intOf]; omega
      · have hls := less_no hx2 HT.out hxy
        have HE := Lib.hid (putL_new (tw := true) HALL.out (fun z hz => by rw [hx1] at hz; cases hz; exact ⟨hxy, .inl rfl⟩))
        clear hx1 hx2 hx3 hx4 hxy
        have hmin : (l.take k).length = k := by rw [List.length_take]; omega
        have hdr : (l.drop k).length = (l.length - k) := List.length_drop
        have O1 : Hid (OwnS (w.alloc (.cells #[] 9)).drew w.heap.size (.slice (some ⟨w.heap.size, 0, none⟩) 0 0) []) := Lib.hid (own_new w w.heap.size w.heap.size rfl (Nat.le_refl _))
        have B1 := Lib.hid ((Below.refl w.heap.size w).alloc (Nat.le_refl _) (.cells #[] 9)).drew
        have O2 : Hid (OwnS ((w.alloc (.cells #[] 9)).alloc (.cells #[.string t] 9)).drew w.heap.size (.slice (some ⟨w.heap.size, 0, none⟩) 0 0) []) := Lib.hid ((own_new w w.heap.size w.heap.size rfl (Nat.le_refl _)).alloc (.cells #[.string t] 9))
        have B2 := Lib.hid (((Below.refl w.heap.size w).alloc (Nat.le_refl _) (.cells #[] 9)).alloc (by simp) (.cells #[.string t] 9)).drew
        have S2 : Hid (InS ((w.alloc (.cells #[] 9)).alloc (.cells #[.string t] 9)).drew (some ⟨w.heap.size + 1, 0, none⟩) [y]) := Lib.hid (in_one (w.alloc (.cells #[] 9)) (w.heap.size + 1) t y (by simp) HT.out)
        have O3 : Hid (OwnS ((w.alloc (.cells #[.string t] 9)).alloc (.cells #[] 9)).drew w.heap.size (.slice (some ⟨w.heap.size + 1, 0, none⟩) 0 0) []) := Lib.hid (own_new (w.alloc (.cells #[.string t] 9)) w.heap.size (w.heap.size + 1) (by simp) (by omega))
        have B3 := Lib.hid (((Below.refl w.heap.size w).alloc (Nat.le_refl _) (.cells #[.string t] 9)).alloc (by simp) (.cells #[] 9)).drew
        have S3 : Hid (InS ((w.alloc (.cells #[.string t] 9)).alloc (.cells #[] 9)).drew (some ⟨w.heap.size, 0, none⟩) [y]) := Lib.hid ((in_one w w.heap.size t y rfl HT.out).alloc (.cells #[] 9))
        have HM := Lib.hid hmin
        have HD := Lib.hid hdr
        clear hmin hdr
        go_wp2
        go_region_law (first
          | (refine step_app (by rfl) (.tmp 39) (.tmp 42) (by rfl) w.heap.size (.slice (some ⟨w.heap.size, 0, none⟩) 0 0) [] (by rfl) (some ⟨b, 0, none⟩) k cap (l.take k) (by rfl) HM.out.symm O1.out ((HIN.out.below B1.out).take' k) nofun (by have e1 := HM.out; have e2 := HD.out; simp only [List.length_append, List.length_cons, List.length_nil] at e1 e2 ⊢; omega) B1.out.size ?_; intro v1 w1 ho1 hg1; have hb1 : Below w.heap.size w w1 := grown_old B1.out hg1 O1.out)
          | (refine step_app (by rfl) (.tmp 39) (.tmp 42) (by rfl) w.heap.size (.slice (some ⟨w.heap.size, 0, none⟩) 0 0) [] (by rfl) (some ⟨b, 0, none⟩) k cap (l.take k) (by rfl) HM.out.symm O2.out ((HIN.out.below B2.out).take' k) nofun (by have e1 := HM.out; have e2 := HD.out; simp only [List.length_append, List.length_cons, List.length_nil] at e1 e2 ⊢; omega) B2.out.size ?_; intro v1 w1 ho1 hg1; have hb1 : Below w.heap.size w w1 := grown_old B2.out hg1 O2.out; have hs1 := S2.out.grown hg1 (by intro b off e; cases e; simp [Value.ownBlock]))
          | (refine step_app (by rfl) (.tmp 39) (.tmp 42) (by rfl) w.heap.size (.slice (some ⟨w.heap.size + 1, 0, none⟩) 0 0) [] (by rfl) (some ⟨b, 0, none⟩) k cap (l.take k) (by rfl) HM.out.symm O3.out ((HIN.out.below B3.out).take' k) nofun (by have e1 := HM.out; have e2 := HD.out; simp only [List.length_append, List.length_cons, List.length_nil] at e1 e2 ⊢; omega) B3.out.size ?_; intro v1 w1 ho1 hg1; have hb1 : Below w.heap.size w w1 := grown_old B3.out hg1 O3.out; have hs1 := S3.out.grown hg1 (by intro b off e; cases e; simp [Value.ownBlock]))
          | (refine step_app (by rfl) (.tmp 43) (.tmp 45) (by rfl) w.heap.size v1 ([] ++ (l.take k)) (by rfl) (some ⟨w.heap.size + 1, 0, none⟩) 1 1 [y] (by rfl) rfl ho1 hs1 nofun (by have e1 := HM.out; have e2 := HD.out; simp only [List.length_append, List.length_cons, List.length_nil] at e1 e2 ⊢; omega) hb1.size ?_; intro v2 w2 ho2 hg2; have hb2 : Below w.heap.size w w2 := grown_old hb1 hg2 ho1)
          | (refine step_app (by rfl) (.tmp 43) (.tmp 45) (by rfl) w.heap.size v1 ([] ++ (l.take k)) (by rfl) (some ⟨w.heap.size, 0, none⟩) 1 1 [y] (by rfl) rfl ho1 hs1 nofun (by have e1 := HM.out; have e2 := HD.out; simp only [List.length_append, List.length_cons, List.length_nil] at e1 e2 ⊢; omega) hb1.size ?_; intro v2 w2 ho2 hg2; have hb2 : Below w.heap.size w w2 := grown_old hb1 hg2 ho1)
          | (refine step_app (by rfl) (.tmp 43) (.tmp 45) (by rfl) w.heap.size v1 ([] ++ (l.take k)) (by rfl) (some ⟨w1.heap.size, 0, none⟩) 1 1 [y] (by rfl) rfl (ho1.alloc _) (in_one w1 w1.heap.size t y rfl HT.out) nofun (by have e1 := HM.out; have e2 := HD.out; simp only [List.length_append, List.length_cons, List.length_nil] at e1 e2 ⊢; omega) (hb1.alloc hb1.size _).size ?_; intro v2 w2 ho2 hg2; have hb2 : Below w.heap.size w w2 := grown_old (hb1.alloc hb1.size _) hg2 (ho1.alloc _))
          | (refine step_app (by rfl) (.tmp 46) (.tmp 49) (by rfl) w.heap.size v2 ([] ++ (l.take k) ++ [y]) (by rfl) (some ⟨b, k, none⟩) (l.length - k) (cap - k) (l.drop k) (by rfl) HD.out.symm ho2 ((HIN.out.below hb2).drop0 k) nofun (by have e1 := HM.out; have e2 := HD.out; simp only [List.length_append, List.length_cons, List.length_nil] at e1 e2 ⊢; omega) hb2.size ?_; intro v3 w3 ho3 hg3; have hb3 : Below w.heap.size w w3 := grown_old hb2 hg3 ho2))
        all_goals go_wp2
        all_goals go_ret
        all_goals
          have hfin : OwnS w3 base v3 (putL true l y) := by
            rw [HE.out]
            have h := ho3.mono HB0.out
            simpa using h
          exact PutsS.mk hfin hb3
    · have HE := Lib.hid (putL_new (tw := true) HALL.out (fun z hz => absurd (List.getElem?_eq_some_iff.1 hz).1 hlt))
      by_cases hkc : cap = k
      · subst hkc
        have hmin : (l.take cap).length = cap := by rw [List.length_take]; omega
        have hdr : (l.drop cap).length = 0 := by rw [List.length_drop]; omega
        have O1 : Hid (OwnS (w.alloc (.cells #[] 9)).drew w.heap.size (.slice (some ⟨w.heap.size, 0, none⟩) 0 0) []) := Lib.hid (own_new w w.heap.size w.heap.size rfl (Nat.le_refl _))
        have B1 := Lib.hid ((Below.refl w.heap.size w).alloc (Nat.le_refl _) (.cells #[] 9)).drew
        have O2 : Hid (OwnS ((w.alloc (.cells #[] 9)).alloc (.cells #[.string t] 9)).drew w.heap.size (.slice (some ⟨w.heap.size, 0, none⟩) 0 0) []) := Lib.hid ((own_new w w.heap.size w.heap.size rfl (Nat.le_refl _)).alloc (.cells #[.string t] 9))
        have B2 := Lib.hid (((Below.refl w.heap.size w).alloc (Nat.le_refl _) (.cells #[] 9)).alloc (by simp) (.cells #[.string t] 9)).drew
        have S2 : Hid (InS ((w.alloc (.cells #[] 9)).alloc (.cells #[.string t] 9)).drew (some ⟨w.heap.size + 1, 0, none⟩) [y]) := Lib.hid (in_one (w.alloc (.cells #[] 9)) (w.heap.size + 1) t y (by simp) HT.out)
        have O3 : Hid (OwnS ((w.alloc (.cells #[.string t] 9)).alloc (.cells #[] 9)).drew w.heap.size (.slice (some ⟨w.heap.size + 1, 0, none⟩) 0 0) []) := Lib.hid (own_new (w.alloc (.cells #[.string t] 9)) w.heap.size (w.heap.size + 1) (by simp) (by omega))
        have B3 := Lib.hid (((Below.refl w.heap.size w).alloc (Nat.le_refl _) (.cells #[.string t] 9)).alloc (by simp) (.cells #[] 9)).drew
        have S3 : Hid (InS ((w.alloc (.cells #[.string t] 9)).alloc (.cells #[] 9)).drew (some ⟨w.heap.size, 0, none⟩) [y]) := Lib.hid ((in_one w w.heap.size t y rfl HT.out).alloc (.cells #[] 9))
        have HM := Lib.hid hmin
        have HD := Lib.hid hdr
        clear hmin hdr
        go_wp2
        go_region_law (first
          | (refine step_app (by rfl) (.tmp 39) (.tmp 42) (by rfl) w.heap.size (.slice (some ⟨w.heap.size, 0, none⟩) 0 0) [] (by rfl) (some ⟨b, 0, none⟩) cap cap (l.take cap) (by rfl) HM.out.symm O1.out ((HIN.out.below B1.out).take' cap) nofun (by have e1 := HM.out; have e2 := HD.out; simp only [List.length_append, List.length_cons, List.length_nil] at e1 e2 ⊢; omega) B1.out.size ?_; intro v1 w1 ho1 hg1; have hb1 : Below w.heap.size w w1 := grown_old B1.out hg1 O1.out)
          | (refine step_app (by rfl) (.tmp 39) (.tmp 42) (by rfl) w.heap.size (.slice (some ⟨w.heap.size, 0, none⟩) 0 0) [] (by rfl) (some ⟨b, 0, none⟩) cap cap (l.take cap) (by rfl) HM.out.symm O2.out ((HIN.out.below B2.out).take' cap) nofun (by have e1 := HM.out; have e2 := HD.out; simp only [List.length_append, List.length_cons, List.length_nil] at e1 e2 ⊢; omega) B2.out.size ?_; intro v1 w1 ho1 hg1; have hb1 : Below w.heap.size w w1 := grown_old B2.out hg1 O2.out; have hs1 := S2.out.grown hg1 (by intro b off e; cases e; simp [Value.ownBlock]))
          | (refine step_app (by rfl) (.tmp 39) (.tmp 42) (by rfl) w.heap.size (.slice (some ⟨w.heap.size + 1, 0, none⟩) 0 0) [] (by rfl) (some ⟨b, 0, none⟩) cap cap (l.take cap) (by rfl) HM.out.symm O3.out ((HIN.out.below B3.out).take' cap) nofun (by have e1 := HM.out; have e2 := HD.out; simp only [List.length_append, List.length_cons, List.length_nil] at e1 e2 ⊢; omega) B3.out.size ?_; intro v1 w1 ho1 hg1; have hb1 : Below w.heap.size w w1 := grown_old B3.out hg1 O3.out; have hs1 := S3.out.grown hg1 (by intro b off e; cases e; simp [Value.ownBlock]))
          | (refine step_app (by rfl) (.tmp 43) (.tmp 45) (by rfl) w.heap.size v1 ([] ++ (l.take cap)) (by rfl) (some ⟨w.heap.size + 1, 0, none⟩) 1 1 [y] (by rfl) rfl ho1 hs1 nofun (by have e1 := HM.out; have e2 := HD.out; simp only [List.length_append, List.length_cons, List.length_nil] at e1 e2 ⊢; omega) hb1.size ?_; intro v2 w2 ho2 hg2; have hb2 : Below w.heap.size w w2 := grown_old hb1 hg2 ho1)
          | (refine step_app (by rfl) (.tmp 43) (.tmp 45) (by rfl) w.heap.size v1 ([] ++ (l.take cap)) (by rfl) (some ⟨w.heap.size, 0, none⟩) 1 1 [y] (by rfl) rfl ho1 hs1 nofun (by have e1 := HM.out; have e2 := HD.out; simp only [List.length_append, List.length_cons, List.length_nil] at e1 e2 ⊢; omega) hb1.size ?_; intro v2 w2 ho2 hg2; have hb2 : Below w.heap.size w w2 := grown_old hb1 hg2 ho1)
          | (refine step_app (by rfl) (.tmp 43) (.tmp 45) (by rfl) w.heap.size v1 ([] ++ (l.take cap)) (by rfl) (some ⟨w1.heap.size, 0, none⟩) 1 1 [y] (by rfl) rfl (ho1.alloc _) (in_one w1 w1.heap.size t y rfl HT.out) nofun (by have e1 := HM.out; have e2 := HD.out; simp only [List.length_append, List.length_cons, List.length_nil] at e1 e2 ⊢; omega) (hb1.alloc hb1.size _).size ?_; intro v2 w2 ho2 hg2; have hb2 : Below w.heap.size w w2 := grown_old (hb1.alloc hb1.size _) hg2 (ho1.alloc _))
          | (refine step_app (by rfl) (.tmp 46) (.tmp 49) (by rfl) w.heap.size v2 ([] ++ (l.take cap) ++ [y]) (by rfl) (some ⟨b, 0, none⟩) 0 0 (l.drop cap) (by rfl) HD.out.symm ho2 (InS.empty _ _ (by rw [List.length_drop]; omega)) nofun (by have e1 := HM.out; have e2 := HD.out; simp only [List.length_append, List.length_cons, List.length_nil] at e1 e2 ⊢; omega) hb2.size ?_; intro v3 w3 ho3 hg3; have hb3 : Below w.heap.size w w3 := grown_old hb2 hg3 ho2))
        all_goals go_wp2
        all_goals go_ret
        all_goals
          have hfin : OwnS w3 base v3 (putL true l y) := by
            rw [HE.out]
            have h := ho3.mono HB0.out
            simpa using h
          exact PutsS.mk hfin hb3
      · have hkc2 : ¬ (cap : Int) = (k : Int) := by omega
        have hmin : (l.take k).length = k := by rw [List.length_take]; omega
        have hdr : (l.drop k).length = (l.length - k) := List.length_drop
        have O1 : Hid (OwnS (w.alloc (.cells #[] 9)).drew w.heap.size (.slice (some ⟨w.heap.size, 0, none⟩) 0 0) []) := Lib.hid (own_new w w.heap.size w.heap.size rfl (Nat.le_refl _))
        have B1 := Lib.hid ((Below.refl w.heap.size w).alloc (Nat.le_refl _) (.cells #[] 9)).drew
        have O2 : Hid (OwnS ((w.alloc (.cells #[] 9)).alloc (.cells #[.string t] 9)).drew w.heap.size (.slice (some ⟨w.heap.size, 0, none⟩) 0 0) []) := Lib.hid ((own_new w w.heap.size w.heap.size rfl (Nat.le_refl _)).alloc (.cells #[.string t] 9))
        have B2 := Lib.hid (((Below.refl w.heap.size w).alloc (Nat.le_refl _) (.cells #[] 9)).alloc (by simp) (.cells #[.string t] 9)).drew
        have S2 : Hid (InS ((w.alloc (.cells #[] 9)).alloc (.cells #[.string t] 9)).drew (some ⟨w.heap.size + 1, 0, none⟩) [y]) := Lib.hid (in_one (w.alloc (.cells #[] 9)) (w.heap.size + 1) t y (by simp) HT.out)
        have O3 : Hid (OwnS ((w.alloc (.cells #[.string t] 9)).alloc (.cells #[] 9)).drew w.heap.size (.slice (some ⟨w.heap.size + 1, 0, none⟩) 0 0) []) := Lib.hid (own_new (w.alloc (.cells #[.string t] 9)) w.heap.size (w.heap.size + 1) (by simp) (by omega))
        have B3 := Lib.hid (((Below.refl w.heap.size w).alloc (Nat.le_refl _) (.cells #[.string t] 9)).alloc (by simp) (.cells #[] 9)).drew
        have S3 : Hid (InS ((w.alloc (.cells #[.string t] 9)).alloc (.cells #[] 9)).drew (some ⟨w.heap.size, 0, none⟩) [y]) := Lib.hid ((in_one w w.heap.size t y rfl HT.out).alloc (.cells #[] 9))
        have HM := Lib.hid hmin
        have HD := Lib.hid hdr
        clear hmin hdr
        go_wp2
        go_region_law (first
          | (refine step_app (by rfl) (.tmp 39) (.tmp 42) (by rfl) w.heap.size (.slice (some ⟨w.heap.size, 0, none⟩) 0 0) [] (by rfl) (some ⟨b, 0, none⟩) k cap (l.take k) (by rfl) HM.out.symm O1.out ((HIN.out.below B1.out).take' k) nofun (by have e1 := HM.out; have e2 := HD.out; simp only [List.length_append, List.length_cons, List.length_nil] at e1 e2 ⊢; omega) B1.out.size ?_; intro v1 w1 ho1 hg1; have hb1 : Below w.heap.size w w1 := grown_old B1.out hg1 O1.out)
          | (refine step_app (by rfl) (.tmp 39) (.tmp 42) (by rfl) w.heap.size (.slice (some ⟨w.heap.size, 0, none⟩) 0 0) [] (by rfl) (some ⟨b, 0, none⟩) k cap (l.take k) (by rfl) HM.out.symm O2.out ((HIN.out.below B2.out).take' k) nofun (by have e1 := HM.out; have e2 := HD.out; simp only [List.length_append, List.length_cons, List.length_nil] at e1 e2 ⊢; omega) B2.out.size ?_; intro v1 w1 ho1 hg1; have hb1 : Below w.heap.size w w1 := grown_old B2.out hg1 O2.out; have hs1 := S2.out.grown hg1 (by intro b off e; cases e; simp [Value.ownBlock]))
          | (refine step_app (by rfl) (.tmp 39) (.tmp 42) (by rfl) w.heap.size (.slice (some ⟨w.heap.size + 1, 0, none⟩) 0 0) [] (by rfl) (some ⟨b, 0, none⟩) k cap (l.take k) (by rfl) HM.out.symm O3.out ((HIN.out.below B3.out).take' k) nofun (by have e1 := HM.out; have e2 := HD.out; simp only [List.length_append, List.length_cons, List.length_nil] at e1 e2 ⊢; omega) B3.out.size ?_; intro v1 w1 ho1 hg1; have hb1 : Below w.heap.size w w1 := grown_old B3.out hg1 O3.out; have hs1 := S3.out.grown hg1 (by intro b off e; cases e; simp [Value.ownBlock]))
          | (refine step_app (by rfl) (.tmp 43) (.tmp 45) (by rfl) w.heap.size v1 ([] ++ (l.take k)) (by rfl) (some ⟨w.heap.size + 1, 0, none⟩) 1 1 [y] (by rfl) rfl ho1 hs1 nofun (by have e1 := HM.out; have e2 := HD.out; simp only [List.length_append, List.length_cons, List.length_nil] at e1 e2 ⊢; omega) hb1.size ?_; intro v2 w2 ho2 hg2; have hb2 : Below w.heap.size w w2 := grown_old hb1 hg2 ho1)
          | (refine step_app (by rfl) (.tmp 43) (.tmp 45) (by rfl) w.heap.size v1 ([] ++ (l.take k)) (by rfl) (some ⟨w.heap.size, 0, none⟩) 1 1 [y] (by rfl) rfl ho1 hs1 nofun (by have e1 := HM.out; have e2 := HD.out; simp only [List.length_append, List.length_cons, List.length_nil] at e1 e2 ⊢; omega) hb1.size ?_; intro v2 w2 ho2 hg2; have hb2 : Below w.heap.size w w2 := grown_old hb1 hg2 ho1)
          | (refine step_app (by rfl) (.tmp 43) (.tmp 45) (by rfl) w.heap.size v1 ([] ++ (l.take k)) (by rfl) (some ⟨w1.heap.size, 0, none⟩) 1 1 [y] (by rfl) rfl (ho1.alloc _) (in_one w1 w1.heap.size t y rfl HT.out) nofun (by have e1 := HM.out; have e2 := HD.out; simp only [List.length_append, List.length_cons, List.length_nil] at e1 e2 ⊢; omega) (hb1.alloc hb1.size _).size ?_; intro v2 w2 ho2 hg2; have hb2 : Below w.heap.size w w2 := grown_old (hb1.alloc hb1.size _) hg2 (ho1.alloc _))
          | (refine step_app (by rfl) (.tmp 46) (.tmp 49) (by rfl) w.heap.size v2 ([] ++ (l.take k) ++ [y]) (by rfl) (some ⟨b, k, none⟩) (l.length - k) (cap - k) (l.drop k) (by rfl) HD.out.symm ho2 ((HIN.out.below hb2).drop0 k) nofun (by have e1 := HM.out; have e2 := HD.out; simp only [List.length_append, List.length_cons, List.length_nil] at e1 e2 ⊢; omega) hb2.size ?_; intro v3 w3 ho3 hg3; have hb3 : Below w.heap.size w w3 := grown_old hb2 hg3 ho2))
        all_goals go_wp2
        all_goals go_ret
        all_goals
          have hfin : OwnS w3 base v3 (putL true l y) := by
            rw [HE.out]
            have h := ho3.mono HB0.out
            simpa using h
          exact PutsS.mk hfin hb3

set_option maxRecDepth 100000 in
set_option maxHeartbeats 4000000 in
theorem put_nil_false (base : Nat) (t : ByteArray) (y : Str) (w : World) (hbase : base ≤ w.heap.size) (ht : t.data.toList = y) :
    Calls Tryz.prog 57 #[.slice none 0 0, .string t, .bool false] w (PutsS w base (putL false [] y)) := by
  have HB0 := Lib.hid hbase
  have HT := Lib.hid ht
  have HE := Lib.hid (show putL false [] y = ([] : List Str) ++ y :: ([] : List Str) from rfl)
  clear ht hbase
  go_enter Tryz.func57, Tryz.ntmps57
  go_wp2
  refine wp_loop_rounds 1 ?_
  rw [rounds_succ]
  have hmin : ([] : List Str).length = 0 := rfl
  have hdr : ([] : List Str).length = 0 := rfl
  have O1 : Hid (OwnS (w.alloc (.cells #[] 9)).drew w.heap.size (.slice (some ⟨w.heap.size, 0, none⟩) 0 0) []) := Lib.hid (own_new w w.heap.size w.heap.size rfl (Nat.le_refl _))
  have B1 := Lib.hid ((Below.refl w.heap.size w).alloc (Nat.le_refl _) (.cells #[] 9)).drew
  have O2 : Hid (OwnS ((w.alloc (.cells #[] 9)).alloc (.cells #[.string t] 9)).drew w.heap.size (.slice (some ⟨w.heap.size, 0, none⟩) 0 0) []) := Lib.hid ((own_new w w.heap.size w.heap.size rfl (Nat.le_refl _)).alloc (.cells #[.string t] 9))
  have B2 := Lib.hid (((Below.refl w.heap.size w).alloc (Nat.le_refl _) (.cells #[] 9)).alloc (by simp) (.cells #[.string t] 9)).drew
  have S2 : Hid (InS ((w.alloc (.cells #[] 9)).alloc (.cells #[.string t] 9)).drew (some ⟨w.heap.size + 1, 0, none⟩) [y]) := Lib.hid (in_one (w.alloc (.cells #[] 9)) (w.heap.size + 1) t y (by simp) HT.out)
  have O3 : Hid (OwnS ((w.alloc (.cells #[.string t] 9)).alloc (.cells #[] 9)).drew w.heap.size (.slice (some ⟨w.heap.size + 1, 0, none⟩) 0 0) []) := Lib.hid (own_new (w.alloc (.cells #[.string t] 9)) w.heap.size (w.heap.size + 1) (by simp) (by omega))
  have B3 := Lib.hid (((Below.refl w.heap.size w).alloc (Nat.le_refl _) (.cells #[.string t] 9)).alloc (by simp) (.cells #[] 9)).drew
  have S3 : Hid (InS ((w.alloc (.cells #[.string t] 9)).alloc (.cells #[] 9)).drew (some ⟨w.heap.size, 0, none⟩) [y]) := Lib.hid ((in_one w w.heap.size t y rfl HT.out).alloc (.cells #[] 9))
  have HM := Lib.hid hmin
  have HD := Lib.hid hdr
  clear hmin hdr
  go_wp2
  go_region_law (first
    | (refine step_app (by rfl) (.tmp 39) (.tmp 42) (by rfl) w.heap.size (.slice (some ⟨w.heap.size, 0, none⟩) 0 0) [] (by rfl) none 0 0 ([] : List Str) (by rfl) HM.out.symm O1.out (InS.empty _ _ rfl) (fun _ => rfl) (by have e1 := HM.out; have e2 := HD.out; simp only [List.length_append, List.length_cons, List.length_nil] at e1 e2 ⊢; omega) B1.out.size ?_; intro v1 w1 ho1 hg1; have hb1 : Below w.heap.size w w1 := grown_old B1.out hg1 O1.out)
    | (refine step_app (by rfl) (.tmp 39) (.tmp 42) (by rfl) w.heap.size (.slice (some ⟨w.heap.size, 0, none⟩) 0 0) [] (by rfl) none 0 0 ([] : List Str) (by rfl) HM.out.symm O2.out (InS.empty _ _ rfl) (fun _ => rfl) (by have e1 := HM.out; have e2 := HD.out; simp only [List.length_append, List.length_cons, List.length_nil] at e1 e2 ⊢; omega) B2.out.size ?_; intro v1 w1 ho1 hg1; have hb1 : Below w.heap.size w w1 := grown_old B2.out hg1 O2.out; have hs1 := S2.out.grown hg1 (by intro b off e; cases e; simp [Value.ownBlock]))
    | (refine step_app (by rfl) (.tmp 39) (.tmp 42) (by rfl) w.heap.size (.slice (some ⟨w.heap.size + 1, 0, none⟩) 0 0) [] (by rfl) none 0 0 ([] : List Str) (by rfl) HM.out.symm O3.out (InS.empty _ _ rfl) (fun _ => rfl) (by have e1 := HM.out; have e2 := HD.out; simp only [List.length_append, List.length_cons, List.length_nil] at e1 e2 ⊢; omega) B3.out.size ?_; intro v1 w1 ho1 hg1; have hb1 : Below w.heap.size w w1 := grown_old B3.out hg1 O3.out; have hs1 := S3.out.grown hg1 (by intro b off e; cases e; simp [Value.ownBlock]))
    | (refine step_app (by rfl) (.tmp 43) (.tmp 45) (by rfl) w.heap.size v1 ([] ++ ([] : List Str)) (by rfl) (some ⟨w.heap.size + 1, 0, none⟩) 1 1 [y] (by rfl) rfl ho1 hs1 nofun (by have e1 := HM.out; have e2 := HD.out; simp only [List.length_append, List.length_cons, List.length_nil] at e1 e2 ⊢; omega) hb1.size ?_; intro v2 w2 ho2 hg2; have hb2 : Below w.heap.size w w2 := grown_old hb1 hg2 ho1)
    | (refine step_app (by rfl) (.tmp 43) (.tmp 45) (by rfl) w.heap.size v1 ([] ++ ([] : List Str)) (by rfl) (some ⟨w.heap.size, 0, none⟩) 1 1 [y] (by rfl) rfl ho1 hs1 nofun (by have e1 := HM.out; have e2 := HD.out; simp only [List.length_append, List.length_cons, List.length_nil] at e1 e2 ⊢; omega) hb1.size ?_; intro v2 w2 ho2 hg2; have hb2 : Below w.heap.size w w2 := grown_old hb1 hg2 ho1)
    | (refine step_app (by rfl) (.tmp 43) (.tmp 45) (by rfl) w.heap.size v1 ([] ++ ([] : List Str)) (by rfl) (some ⟨w1.heap.size, 0, none⟩) 1 1 [y] (by rfl) rfl (ho1.alloc _) (in_one w1 w1.heap.size t y rfl HT.out) nofun (by have e1 := HM.out; have e2 := HD.out; simp only [List.length_append, List.length_cons, List.length_nil] at e1 e2 ⊢; omega) (hb1.alloc hb1.size _).size ?_; intro v2 w2 ho2 hg2; have hb2 : Below w.heap.size w w2 := grown_old (hb1.alloc hb1.size _) hg2 (ho1.alloc _))
    | (refine step_app (by rfl) (.tmp 46) (.tmp 49) (by rfl) w.heap.size v2 ([] ++ ([] : List Str) ++ [y]) (by rfl) none 0 0 ([] : List Str) (by rfl) HD.out.symm ho2 (InS.empty _ _ rfl) (fun _ => rfl) (by have e1 := HM.out; have e2 := HD.out; simp only [List.length_append, List.length_cons, List.length_nil] at e1 e2 ⊢; omega) hb2.size ?_; intro v3 w3 ho3 hg3; have hb3 : Below w.heap.size w w3 := grown_old hb2 hg3 ho2))
  all_goals go_wp2
  all_goals go_ret
  all_goals
    have hfin : OwnS w3 base v3 (putL false [] y) := by
      rw [HE.out]
      have h := ho3.mono HB0.out
      simpa using h
    exact PutsS.mk hfin hb3

set_option maxRecDepth 100000 in
set_option maxHeartbeats 8000000 in
theorem put_some_false (base b cap : Nat) (l : List Str) (t : ByteArray) (y : Str) (w : World) (hl : l.length ≤ 8500000) (hown : OwnS w base (.slice (some ⟨b, 0, none⟩) l.length cap) l) (hbase : base ≤ w.heap.size) (ht : t.data.toList = y) :
    Calls Tryz.prog 57 #[.slice (some ⟨b, 0, none⟩) l.length cap, .string t, .bool false] w (PutsS w base (putL false l y)) := by
  have hlc := hown.cap_ge
  have HIN := Lib.hid hown.inS
  have HB0 := Lib.hid hbase
  have HT := Lib.hid ht
  have HOWN := Lib.hid hown
  clear hown ht hbase
  go_enter Tryz.func57, Tryz.ntmps57
  go_wp2
  go_loop [7] (fun i => ∃ k : Nat, k ≤ l.length ∧ i = .int .i64 k ∧ ∀ j x, l[j]? = some x → j < k → x < y) (fun i => l.length - (intOf i).toNat)
  case atStart => exact ⟨0, Nat.zero_le _, rfl, fun j x _ hj => absurd hj (Nat.not_lt_zero _)⟩
  case round =>
    obtain ⟨k, hk, rfl, hall⟩ := hrel
    have HALL := Lib.hid hall
    clear hall
    have h1 : (0 : Int) ≤ (k : Int) := by omega
    have h2 : (k : Int) ≤ (cap : Int) := by omega
    have h3 : (k : Int) ≤ (l.length : Int) := by omega
    by_cases hlt : k < l.length
    · obtain ⟨b', off', e', hbw, hc⟩ := HIN.out (by omega)
      obtain ⟨rfl, rfl⟩ : b = b' ∧ 0 = off' := by simpa using e'
      obtain ⟨x, s, hx1, hx2, hx3, hx4⟩ := str_at hlt
      have hcell : w.cell? ⟨b, 0 + k, none⟩ = some (.string s) := by rw [← hx3]; exact hc k x hx1
      rw [Nat.zero_add] at hcell
      have hkc : ¬ cap = k := by omega
      have hkc2 : ¬ (cap : Int) = (k : Int) := by omega
      clear hc e'
      by_cases hxy : x < y
      · have hls := less_yes hx2 HT.out hxy
        have HX := Lib.hid hx1
        have HXY := Lib.hid hxy
        clear hx1 hx2 hx3 hx4 hxy
        go_wp2
        go_round
        case rel =>
          refine ⟨k + 1, by omega, by go_num, fun j z hz hj => ?_⟩
          by_cases e : j = k
          · rw [e, HX.out] at hz
            cases hz
            exact HXY.out
          · exact HALL.out j z hz (by omega)
        case measure => simp [intOf]; omega
      · have hls := less_no hx2 HT.out hxy
        by_cases hq : x = y
        · have HE := Lib.hid (putL_same HALL.out (by rw [hx1, hq]))
          obtain rfl := str_eq3 hx2 HT.out hq
          clear hx1 hx2 hx3 hx4 hxy hq
          go_wp2
          go_ret
          refine PutsS.mk ?_ (Below.refl _ _)
          rw [HE.out]
          exact HOWN.out
        · have HE := Lib.hid (putL_new (tw := false) HALL.out (fun z hz => by rw [hx1] at hz; cases hz; exact ⟨hxy, .inr hq⟩))
          have hse := str_ne3 hx2 HT.out hq
          clear hx1 hx2 hx3 hx4 hxy hq
          have hmin : (l.take k).length = k := by rw [List.length_take]; omega
          have hdr : (l.drop k).length = (l.length - k) := List.length_drop
          have O1 : Hid (OwnS (w.alloc (.cells #[] 9)).drew w.heap.size (.slice (some ⟨w.heap.size, 0, none⟩) 0 0) []) := Lib.hid (own_new w w.heap.size w.heap.size rfl (Nat.le_refl _))
          have B1 := Lib.hid ((Below.refl w.heap.size w).alloc (Nat.le_refl _) (.cells #[] 9)).drew
          have O2 : Hid (OwnS ((w.alloc (.cells #[] 9)).alloc (.cells #[.string t] 9)).drew w.heap.size (.slice (some ⟨w.heap.size, 0, none⟩) 0 0) []) := Lib.hid ((own_new w w.heap.size w.heap.size rfl (Nat.le_refl _)).alloc (.cells #[.string t] 9))
          have B2 := Lib.hid (((Below.refl w.heap.size w).alloc (Nat.le_refl _) (.cells #[] 9)).alloc (by simp) (.cells #[.string t] 9)).drew
          have S2 : Hid (InS ((w.alloc (.cells #[] 9)).alloc (.cells #[.string t] 9)).drew (some ⟨w.heap.size + 1, 0, none⟩) [y]) := Lib.hid (in_one (w.alloc (.cells #[] 9)) (w.heap.size + 1) t y (by simp) HT.out)
          have O3 : Hid (OwnS ((w.alloc (.cells #[.string t] 9)).alloc (.cells #[] 9)).drew w.heap.size (.slice (some ⟨w.heap.size + 1, 0, none⟩) 0 0) []) := Lib.hid (own_new (w.alloc (.cells #[.string t] 9)) w.heap.size (w.heap.size + 1) (by simp) (by omega))
          have B3 := Lib.hid (((Below.refl w.heap.size w).alloc (Nat.le_refl _) (.cells #[.string t] 9)).alloc (by simp) (.cells #[] 9)).drew
          have S3 : Hid (InS ((w.alloc (.cells #[.string t] 9)).alloc (.cells #[] 9)).drew (some ⟨w.heap.size, 0, none⟩) [y]) := Lib.hid ((in_one w w.heap.size t y rfl HT.out).alloc (.cells #[] 9))
          have HM := Lib.hid hmin
          have HD := Lib.hid hdr
          clear hmin hdr
          go_wp2
          go_region_law (first
            | (refine step_app (by rfl) (.tmp 39) (.tmp 42) (by rfl) w.heap.size (.slice (some ⟨w.heap.size, 0, none⟩) 0 0) [] (by rfl) (some ⟨b, 0, none⟩) k cap (l.take k) (by rfl) HM.out.symm O1.out ((HIN.out.below B1.out).take' k) nofun (by have e1 := HM.out; have e2 := HD.out; simp only [List.length_append, List.length_cons, List.length_nil] at e1 e2 ⊢; omega) B1.out.size ?_; intro v1 w1 ho1 hg1; have hb1 : Below w.heap.size w w1 := grown_old B1.out hg1 O1.out)
            | (refine step_app (by rfl) (.tmp 39) (.tmp 42) (by rfl) w.heap.size (.slice (some ⟨w.heap.size, 0, none⟩) 0 0) [] (by rfl) (some ⟨b, 0, none⟩) k cap (l.take k) (by rfl) HM.out.symm O2.out ((HIN.out.below B2.out).take' k) nofun (by have e1 := HM.out; have e2 := HD.out; simp only [List.length_append, List.length_cons, List.length_nil] at e1 e2 ⊢; omega) B2.out.size ?_; intro v1 w1 ho1 hg1; have hb1 : Below w.heap.size w w1 := grown_old B2.out hg1 O2.out; have hs1 := S2.out.grown hg1 (by intro b off e; cases e; simp [Value.ownBlock]))
            | (refine step_app (by rfl) (.tmp 39) (.tmp 42) (by rfl) w.heap.size (.slice (some ⟨w.heap.size + 1, 0, none⟩) 0 0) [] (by rfl) (some ⟨b, 0, none⟩) k cap (l.take k) (by rfl) HM.out.symm O3.out ((HIN.out.below B3.out).take' k) nofun (by have e1 := HM.out; have e2 := HD.out; simp only [List.length_append, List.length_cons, List.length_nil] at e1 e2 ⊢; omega) B3.out.size ?_; intro v1 w1 ho1 hg1; have hb1 : Below w.heap.size w w1 := grown_old B3.out hg1 O3.out; have hs1 := S3.out.grown hg1 (by intro b off e; cases e; simp [Value.ownBlock]))
            | (refine step_app (by rfl) (.tmp 43) (.tmp 45) (by rfl) w.heap.size v1 ([] ++ (l.take k)) (by rfl) (some ⟨w.heap.size + 1, 0, none⟩) 1 1 [y] (by rfl) rfl ho1 hs1 nofun (by have e1 := HM.out; have e2 := HD.out; simp only [List.length_append, List.length_cons, List.length_nil] at e1 e2 ⊢; omega) hb1.size ?_; intro v2 w2 ho2 hg2; have hb2 : Below w.heap.size w w2 := grown_old hb1 hg2 ho1)
            | (refine step_app (by rfl) (.tmp 43) (.tmp 45) (by rfl) w.heap.size v1 ([] ++ (l.take k)) (by rfl) (some ⟨w.heap.size, 0, none⟩) 1 1 [y] (by rfl) rfl ho1 hs1 nofun (by have e1 := HM.out; have e2 := HD.out; simp only [List.length_append, List.length_cons, List.length_nil] at e1 e2 ⊢; omega) hb1.size ?_; intro v2 w2 ho2 hg2; have hb2 : Below w.heap.size w w2 := grown_old hb1 hg2 ho1)
            | (refine step_app (by rfl) (.tmp 43) (.tmp 45) (by rfl) w.heap.size v1 ([] ++ (l.take k)) (by rfl) (some ⟨w1.heap.size, 0, none⟩) 1 1 [y] (by rfl) rfl (ho1.alloc _) (in_one w1 w1.heap.size t y rfl HT.out) nofun (by have e1 := HM.out; have e2 := HD.out; simp only [List.length_append, List.length_cons, List.length_nil] at e1 e2 ⊢; omega) (hb1.alloc hb1.size _).size ?_; intro v2 w2 ho2 hg2; have hb2 : Below w.heap.size w w2 := grown_old (hb1.alloc hb1.size _) hg2 (ho1.alloc _))
            | (refine step_app (by rfl) (.tmp 46) (.tmp 49) (by rfl) w.heap.size v2 ([] ++ (l.take k) ++ [y]) (by rfl) (some ⟨b, k, none⟩) (l.length - k) (cap - k) (l.drop k) (by rfl) HD.out.symm ho2 ((HIN.out.below hb2).drop0 k) nofun (by have e1 := HM.out; have e2 := HD.out; simp only [List.length_append, List.length_cons, List.length_nil] at e1 e2 ⊢; omega) hb2.size ?_; intro v3 w3 ho3 hg3; have hb3 : Below w.heap.size w w3 := grown_old hb2 hg3 ho2))
          all_goals go_wp2
          all_goals go_ret
          all_goals
            have hfin : OwnS w3 base v3 (putL false l y) := by
              rw [HE.out]
              have h := ho3.mono HB0.out
              simpa using h
            exact PutsS.mk hfin hb3
    · have HE := Lib.hid (putL_new (tw := false) HALL.out (fun z hz => absurd (List.getElem?_eq_some_iff.1 hz).1 hlt))
      by_cases hkc : cap = k
      · subst hkc
        have hmin : (l.take cap).length = cap := by rw [List.length_take]; omega
        have hdr : (l.drop cap).length = 0 := by rw [List.length_drop]; omega
        have O1 : Hid (OwnS (w.alloc (.cells #[] 9)).drew w.heap.size (.slice (some ⟨w.heap.size, 0, none⟩) 0 0) []) := Lib.hid (own_new w w.heap.size w.heap.size rfl (Nat.le_refl _))
        have B1 := Lib.hid ((Below.refl w.heap.size w).alloc (Nat.le_refl _) (.cells #[] 9)).drew
        have O2 : Hid (OwnS ((w.alloc (.cells #[] 9)).alloc (.cells #[.string t] 9)).drew w.heap.size (.slice (some ⟨w.heap.size, 0, none⟩) 0 0) []) := Lib.hid ((own_new w w.heap.size w.heap.size rfl (Nat.le_refl _)).alloc (.cells #[.string t] 9))
        have B2 := Lib.hid (((Below.refl w.heap.size w).alloc (Nat.le_refl _) (.cells #[] 9)).alloc (by simp) (.cells #[.string t] 9)).drew
        have S2 : Hid (InS ((w.alloc (.cells #[] 9)).alloc (.cells #[.string t] 9)).drew (some ⟨w.heap.size + 1, 0, none⟩) [y]) := Lib.hid (in_one (w.alloc (.cells #[] 9)) (w.heap.size + 1) t y (by simp) HT.out)
        have O3 : Hid (OwnS ((w.alloc (.cells #[.string t] 9)).alloc (.cells #[] 9)).drew w.heap.size (.slice (some ⟨w.heap.size + 1, 0, none⟩) 0 0) []) := Lib.hid (own_new (w.alloc (.cells #[.string t] 9)) w.heap.size (w.heap.size + 1) (by simp) (by omega))
        have B3 := Lib.hid (((Below.refl w.heap.size w).alloc (Nat.le_refl _) (.cells #[.string t] 9)).alloc (by simp) (.cells #[] 9)).drew
        have S3 : Hid (InS ((w.alloc (.cells #[.string t] 9)).alloc (.cells #[] 9)).drew (some ⟨w.heap.size, 0, none⟩) [y]) := Lib.hid ((in_one w w.heap.size t y rfl HT.out).alloc (.cells #[] 9))
        have HM := Lib.hid hmin
        have HD := Lib.hid hdr
        clear hmin hdr
        go_wp2
        go_region_law (first
          | (refine step_app (by rfl) (.tmp 39) (.tmp 42) (by rfl) w.heap.size (.slice (some ⟨w.heap.size, 0, none⟩) 0 0) [] (by rfl) (some ⟨b, 0, none⟩) cap cap (l.take cap) (by rfl) HM.out.symm O1.out ((HIN.out.below B1.out).take' cap) nofun (by have e1 := HM.out; have e2 := HD.out; simp only [List.length_append, List.length_cons, List.length_nil] at e1 e2 ⊢; omega) B1.out.size ?_; intro v1 w1 ho1 hg1; have hb1 : Below w.heap.size w w1 := grown_old B1.out hg1 O1.out)
          | (refine step_app (by rfl) (.tmp 39) (.tmp 42) (by rfl) w.heap.size (.slice (some ⟨w.heap.size, 0, none⟩) 0 0) [] (by rfl) (some ⟨b, 0, none⟩) cap cap (l.take cap) (by rfl) HM.out.symm O2.out ((HIN.out.below B2.out).take' cap) nofun (by have e1 := HM.out; have e2 := HD.out; simp only [List.length_append, List.length_cons, List.length_nil] at e1 e2 ⊢; omega) B2.out.size ?_; intro v1 w1 ho1 hg1; have hb1 : Below w.heap.size w w1 := grown_old B2.out hg1 O2.out; have hs1 := S2.out.grown hg1 (by intro b off e; cases e; simp [Value.ownBlock]))
          | (refine step_app (by rfl) (.tmp 39) (.tmp 42) (by rfl) w.heap.size (.slice (some ⟨w.heap.size + 1, 0, none⟩) 0 0) [] (by rfl) (some ⟨b, 0, none⟩) cap cap (l.take cap) (by rfl) HM.out.symm O3.out ((HIN.out.below B3.out).take' cap) nofun (by have e1 := HM.out; have e2 := HD.out; simp only [List.length_append, List.length_cons, List.length_nil] at e1 e2 ⊢; omega) B3.out.size ?_; intro v1 w1 ho1 hg1; have hb1 : Below w.heap.size w w1 := grown_old B3.out hg1 O3.out; have hs1 := S3.out.grown hg1 (by intro b off e; cases e; simp [Value.ownBlock]))
          | (refine step_app (by rfl) (.tmp 43) (.tmp 45) (by rfl) w.heap.size v1 ([] ++ (l.take cap)) (by rfl) (some ⟨w.heap.size + 1, 0, none⟩) 1 1 [y] (by rfl) rfl ho1 hs1 nofun (by have e1 := HM.out; have e2 := HD.out; simp only [List.length_append, List.length_cons, List.length_nil] at e1 e2 ⊢; omega) hb1.size ?_; intro v2 w2 ho2 hg2; have hb2 : Below w.heap.size w w2 := grown_old hb1 hg2 ho1)
          | (refine step_app (by rfl) (.tmp 43) (.tmp 45) (by rfl) w.heap.size v1 ([] ++ (l.take cap)) (by rfl) (some ⟨w.heap.size, 0, none⟩) 1 1 [y] (by rfl) rfl ho1 hs1 nofun (by have e1 := HM.out; have e2 := HD.out; simp only [List.length_append, List.length_cons, List.length_nil] at e1 e2 ⊢; omega) hb1.size ?_; intro v2 w2 ho2 hg2; have hb2 : Below w.heap.size w w2 := grown_old hb1 hg2 ho1)
          | (refine step_app (by rfl) (.tmp 43) (.tmp 45) (by rfl) w.heap.size v1 ([] ++ (l.take cap)) (by rfl) (some ⟨w1.heap.size, 0, none⟩) 1 1 [y] (by rfl) rfl (ho1.alloc _) (in_one w1 w1.heap.size t y rfl HT.out) nofun (by have e1 := HM.out; have e2 := HD.out; simp only [List.length_append, List.length_cons, List.length_nil] at e1 e2 ⊢; omega) (hb1.alloc hb1.size _).size ?_; intro v2 w2 ho2 hg2; have hb2 : Below w.heap.size w w2 := grown_old (hb1.alloc hb1.size _) hg2 (ho1.alloc _))
          | (refine step_app (by rfl) (.tmp 46) (.tmp 49) (by rfl) w.heap.size v2 ([] ++ (l.take cap) ++ [y]) (by rfl) (some ⟨b, 0, none⟩) 0 0 (l.drop cap) (by rfl) HD.out.symm ho2 (InS.empty _ _ (by rw [List.length_drop]; omega)) nofun (by have e1 := HM.out; have e2 := HD.out; simp only [List.length_append, List.length_cons, List.length_nil] at e1 e2 ⊢; omega) hb2.size ?_; intro v3 w3 ho3 hg3; have hb3 : Below w.heap.size w w3 := grown_old hb2 hg3 ho2))
        all_goals go_wp2
        all_goals go_ret
        all_goals
          have hfin : OwnS w3 base v3 (putL false l y) := by
            rw [HE.out]
            have h := ho3.mono HB0.out
            simpa using h
          exact PutsS.mk hfin hb3
      · have hkc2 : ¬ (cap : Int) = (k : Int) := by omega
        have hmin : (l.take k).length = k := by rw [List.length_take]; omega
        have hdr : (l.drop k).length = (l.length - k) := List.length_drop
        have O1 : Hid (OwnS (w.alloc (.cells #[] 9)).drew w.heap.size (.slice (some ⟨w.heap.size, 0, none⟩) 0 0) []) := Lib.hid (own_new w w.heap.size w.heap.size rfl (Nat.le_refl _))
        have B1 := Lib.hid ((Below.refl w.heap.size w).alloc (Nat.le_refl _) (.cells #[] 9)).drew
        have O2 : Hid (OwnS ((w.alloc (.cells #[] 9)).alloc (.cells #[.string t] 9)).drew w.heap.size (.slice (some ⟨w.heap.size, 0, none⟩) 0 0) []) := Lib.hid ((own_new w w.heap.size w.heap.size rfl (Nat.le_refl _)).alloc (.cells #[.string t] 9))
        have B2 := Lib.hid (((Below.refl w.heap.size w).alloc (Nat.le_refl _) (.cells #[] 9)).alloc (by simp) (.cells #[.string t] 9)).drew
        have S2 : Hid (InS ((w.alloc (.cells #[] 9)).alloc (.cells #[.string t] 9)).drew (some ⟨w.heap.size + 1, 0, none⟩) [y]) := Lib.hid (in_one (w.alloc (.cells #[] 9)) (w.heap.size + 1) t y (by simp) HT.out)
        have O3 : Hid (OwnS ((w.alloc (.cells #[.string t] 9)).alloc (.cells #[] 9)).drew w.heap.size (.slice (some ⟨w.heap.size + 1, 0, none⟩) 0 0) []) := Lib.hid (own_new (w.alloc (.cells #[.string t] 9)) w.heap.size (w.heap.size + 1) (by simp) (by omega))
        have B3 := Lib.hid (((Below.refl w.heap.size w).alloc (Nat.le_refl _) (.cells #[.string t] 9)).alloc (by simp) (.cells #[] 9)).drew
        have S3 : Hid (InS ((w.alloc (.cells #[.string t] 9)).alloc (.cells #[] 9)).drew (some ⟨w.heap.size, 0, none⟩) [y]) := Lib.hid ((in_one w w.heap.size t y rfl HT.out).alloc (.cells #[] 9))
        have HM := Lib.hid hmin
        have HD := Lib.hid hdr
        clear hmin hdr
        go_wp2
        go_region_law (first
          | (refine step_app (by rfl) (.tmp 39) (.tmp 42) (by rfl) w.heap.size (.slice (some ⟨w.heap.size, 0, none⟩) 0 0) [] (by rfl) (some ⟨b, 0, none⟩) k cap (l.take k) (by rfl) HM.out.symm O1.out ((HIN.out.below B1.out).take' k) nofun (by have e1 := HM.out; have e2 := HD.out; simp only [List.length_append, List.length_cons, List.length_nil] at e1 e2 ⊢; omega) B1.out.size ?_; intro v1 w1 ho1 hg1; have hb1 : Below w.heap.size w w1 := grown_old B1.out hg1 O1.out)
          | (refine step_app (by rfl) (.tmp 39) (.tmp 42) (by rfl) w.heap.size (.slice (some ⟨w.heap.size, 0, none⟩) 0 0) [] (by rfl) (some ⟨b, 0, none⟩) k cap (l.take k) (by rfl) HM.out.symm O2.out ((HIN.out.below B2.out).take' k) nofun (by have e1 := HM.out; have e2 := HD.out; simp only [List.length_append, List.length_cons, List.length_nil] at e1 e2 ⊢; omega) B2.out.size ?_; intro v1 w1 ho1 hg1; have hb1 : Below w.heap.size w w1 := grown_old B2.out hg1 O2.out; have hs1 := S2.out.grown hg1 (by intro b off e; cases e; simp [Value.ownBlock]))
          | (refine step_app (by rfl) (.tmp 39) (.tmp 42) (by rfl) w.heap.size (.slice (some ⟨w.heap.size + 1, 0, none⟩) 0 0) [] (by rfl) (some ⟨b, 0, none⟩) k cap (l.take k) (by rfl) HM.out.symm O3.out ((HIN.out.below B3.out).take' k) nofun (by have e1 := HM.out; have e2 := HD.out; simp only [List.length_append, List.length_cons, List.length_nil] at e1 e2 ⊢; omega) B3.out.size ?_; intro v1 w1 ho1 hg1; have hb1 : Below w.heap.size w w1 := grown_old B3.out hg1 O3.out; have hs1 := S3.out.grown hg1 (by intro b off e; cases e; simp [Value.ownBlock]))
          | (refine step_app (by rfl) (.tmp 43) (.tmp 45) (by rfl) w.heap.size v1 ([] ++ (l.take k)) (by rfl) (some ⟨w.heap.size + 1, 0, none⟩) 1 1 [y] (by rfl) rfl ho1 hs1 nofun (by have e1 := HM.out; have e2 := HD.out; simp only [List.length_append, List.length_cons, List.length_nil] at e1 e2 ⊢; omega) hb1.size ?_; intro v2 w2 ho2 hg2; have hb2 : Below w.heap.size w w2 := grown_old hb1 hg2 ho1)
          | (refine step_app (by rfl) (.tmp 43) (.tmp 45) (by rfl) w.heap.size v1 ([] ++ (l.take k)) (by rfl) (some ⟨w.heap.size, 0, none⟩) 1 1 [y] (by rfl) rfl ho1 hs1 nofun (by have e1 := HM.out; have e2 := HD.out; simp only [List.length_append, List.length_cons, List.length_nil] at e1 e2 ⊢; omega) hb1.size ?_; intro v2 w2 ho2 hg2; have hb2 : Below w.heap.size w w2 := grown_old hb1 hg2 ho1)
          | (refine step_app (by rfl) (.tmp 43) (.tmp 45) (by rfl) w.heap.size v1 ([] ++ (l.take k)) (by rfl) (some ⟨w1.heap.size, 0, none⟩) 1 1 [y] (by rfl) rfl (ho1.alloc _) (in_one w1 w1.heap.size t y rfl HT.out) nofun (by have e1 := HM.out; have e2 := HD.out; simp only [List.length_append, List.length_cons, List.length_nil] at e1 e2 ⊢; omega) (hb1.alloc hb1.size _).size ?_; intro v2 w2 ho2 hg2; have hb2 : Below w.heap.size w w2 := grown_old (hb1.alloc hb1.size _) hg2 (ho1.alloc _))
          | (refine step_app (by rfl) (.tmp 46) (.tmp 49) (by rfl) w.heap.size v2 ([] ++ (l.take k) ++ [y]) (by rfl) (some ⟨b, k, none⟩) (l.length - k) (cap - k) (l.drop k) (by rfl) HD.out.symm ho2 ((HIN.out.below hb2).drop0 k) nofun (by have e1 := HM.out; have e2 := HD.out; simp only [List.length_append, List.length_cons, List.length_nil] at e1 e2 ⊢; omega) hb2.size ?_; intro v3 w3 ho3 hg3; have hb3 : Below w.heap.size w w3 := grown_old hb2 hg3 ho2))
        all_goals go_wp2
        all_goals go_ret
        all_goals
          have hfin : OwnS w3 base v3 (putL false l y) := by
            rw [HE.out]
            have h := ho3.mono HB0.out
            simpa using h
          exact PutsS.mk hfin hb3

theorem put_any (tw : Bool) (base : Nat) (a : Option Addr) (cap : Nat) (l : List Str) (t : ByteArray) (y : Str) (w : World) (hl : l.length ≤ 8500000) (hown : OwnS w base (.slice a l.length cap) l) (hbase : base ≤ w.heap.size) (ht : t.data.toList = y) :
    Calls Tryz.prog 57 #[.slice a l.length cap, .string t, .bool tw] w (PutsS w base (putL tw l y)) := by
  have h2 := hown.2
  rcases h2 with ⟨hv, h0⟩ | ⟨g, cap', cur, hv, -⟩
  · obtain rfl : l = [] := List.eq_nil_of_length_eq_zero h0
    simp only [Value.slice.injEq] at hv
    obtain ⟨rfl, -, rfl⟩ := hv
    cases tw
    · exact put_nil_false base t y w hbase ht
    · exact put_nil_true base t y w hbase ht
  · simp only [Value.slice.injEq] at hv
    obtain ⟨rfl, -, rfl⟩ := hv
    cases tw
    · exact put_some_false base g cap l t y w hl hown hbase ht
    · exact put_some_true base g cap l t y w hl hown hbase ht

end Go.Proofs.YtggohfinkpppkabGreatDoor
