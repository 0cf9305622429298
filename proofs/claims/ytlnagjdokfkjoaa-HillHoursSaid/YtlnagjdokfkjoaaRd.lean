/-
  WALKS: the reference's Why, Can and Rise. Conditions: lists have at most 1000 elements; the land is without an error, and what is asked for is there.
-/
import Derived.Test.YtlnagjdokfkjoaaRc
namespace Go.Proofs.Ytlnagjdokfkjoaa
open Go.RowKit


set_option maxRecDepth 100000 in
set_option maxHeartbeats 4000000 in
theorem RWhy_any (v1 v2 v3 v4 : Value) (L : Ld) (c : List (Value × List Cl)) (i j k h : Nat) (w : World) (hL : LandAt w v1 v2 v3 v4 L c) (hO : LandOK L) (hi : i < L.st.length) (hj : j < L.st.length) (hk : k < L.cs.length) (hh : h < L.sn.length) :
    Calls Try.prog 23 #[.agg #[v1, v2, v3, v4], .int .i64 i, .int .i64 j, .int .i64 k, .int .i64 h] w fun e w' =>
      e = .returned (.tuple #[.int .u8 (whyI L i j k h).1, .int .i64 (whyI L i j k h).2]) ∧ Below w.heap.size w w' := by
  obtain ⟨s, hs⟩ : ∃ s, L.st[i]? = some s := ⟨_, List.getElem?_eq_getElem hi⟩
  obtain ⟨q, hq⟩ : ∃ s, L.sn[h]? = some s := ⟨_, List.getElem?_eq_getElem hh⟩
  have huu : (snAt L h).u = q.u := by simp [snAt, hq]
  have hsm : (stAt L i).m = s.m := by simp [stAt, hs]
  have HO := Lib.hid hO
  have Hs := Lib.hid hs
  have HL := Lib.hid hL
  obtain ⟨hn1, A1, cap1, rfl, _, _⟩ := hL.st.form
  obtain ⟨hn2, A2, cap2, rfl, _, _⟩ := hL.rg.form
  obtain ⟨hn3, A3, cap3, rfl, _, _⟩ := hL.cs.form
  obtain ⟨hn4, A4, cap4, rfl, _, _⟩ := hL.sn.form
  have Hcl := Lib.hid (cs_len hL.eq)
  clear hL
  obtain ⟨b1, f1, rfl, -, -⟩ := HL.out.st.at rfl hs
  obtain ⟨b4, f4, rfl, hb4, -⟩ := HL.out.sn.at rfl hq
  have q2 : w.cell? ⟨b4, f4 + h * 3 + 2, none⟩ = some (.int .i64 q.u) := HL.out.sn.cellAt hq (j := 2) rfl
  have i0 : (0 : Int) ≤ (i : Int) := by omega
  have i1 : (i : Int) < (L.st.length : Int) := by omega
  have h0 : (0 : Int) ≤ (h : Int) := by omega
  have h1 : (h : Int) < (L.sn.length : Int) := by omega
  have BX := Lib.hid (Box.new (w := w) (t := 27) (cs := #[.slice (some ⟨b1, f1, none⟩) L.st.length cap1, .slice A2 L.rg.length cap2, .slice A3 c.length cap3, .slice (some ⟨b4, f4, none⟩) L.sn.length cap4]) rfl)
  have HB := Lib.hid (up_alloc (up0 (w := w)) (.cells #[.slice (some ⟨b1, f1, none⟩) L.st.length cap1, .slice A2 L.rg.length cap2, .slice A3 c.length cap3, .slice (some ⟨b4, f4, none⟩) L.sn.length cap4] 27))
  clear hs hq hO
  by_cases hup : q.u ≤ 0
  · have HW := Lib.hid (show whyI L i j k h = (1, 0) by unfold whyI; rw [huu, if_pos hup])
    clear huu hsm
    go_enter Try.func23, Try.ntmps23
    go_wp2_with fail
    go_ret2
    exact ⟨by rw [HW.out]; rfl, HB.out⟩
  · cases hbe : behindL L i j h with
    | false =>
      have Hbe := Lib.hid hbe
      have hb1 : (behindL L i j h && (stAt L i).m == 1) = false := by rw [hbe]; rfl
      clear hbe hsm
      go_enter Try.func23, Try.ntmps23
      by_cases hP : ridgesI L i j = []
      · have np : ¬ (0 : Int) < ((ridgesI L i j).length : Int) := by rw [hP]; simp
        by_cases hQ : cloudsI L i j k h = []
        · have nq : ¬ (0 : Int) < ((cloudsI L i j k h).length : Int) := by rw [hQ]; simp
          have HW := Lib.hid (show whyI L i j k h = (0, 0) by unfold whyI; rw [huu, if_neg hup, hb1, if_neg (by simp), if_neg (by simp [hP]), if_neg (by simp [hQ])])
          clear hP hQ huu hb1
          go_wp2_with fail
          refine (RBehind_any _ _ _ _ L c i j h _ (HL.out.kept HB.out) HO.out hi hj hh).mono ?_
          rintro e w1 ⟨rfl, hb⟩
          rw [Hbe.out]
          have HB := Lib.hid (up_later HB.out hb)
          have BX := Lib.hid (BX.out.kept hb)
          clear hb
          have q3 : w1.cell? ⟨b1, f1 + i * 4 + 3, none⟩ = some (.int .i64 s.m) := (HL.out.kept HB.out).st.cellAt Hs.out (j := 3) rfl
          have BB := BX.out
          have cB := fun i => BB.cell i
          go_wp2_with fail
          clear cB BB q3
          refine (RWalls_any _ _ _ _ L c i j k h _ (HL.out.kept HB.out) HO.out hi hj hk).mono ?_
          rintro e w2 ⟨u1, u2, rfl, hr1, hr2, hb⟩
          have HB := Lib.hid (up_later HB.out hb)
          obtain ⟨_, P1, p1, rfl, _, _⟩ := hr1.form
          obtain ⟨_, P2, p2, rfl, _, _⟩ := hr2.form
          have HR1 := Lib.hid hr1
          have HR2 := Lib.hid hr2
          clear hb hr1 hr2
          go_wp2_with fail
          go_ret2
          exact ⟨by rw [HW.out]; rfl, HB.out⟩
        · have hl := List.length_pos_iff.2 hQ
          have nq : (0 : Int) < ((cloudsI L i j k h).length : Int) := by omega
          obtain ⟨hd, hhd⟩ : ∃ h', (cloudsI L i j k h)[0]? = some h' := ⟨_, List.getElem?_eq_getElem hl⟩
          have he0 : (cloudsI L i j k h).headD 0 = hd := by rw [List.headD_eq_head?_getD, List.head?_eq_getElem?, hhd]; rfl
          have HW := Lib.hid (show whyI L i j k h = (4, hd) by unfold whyI; rw [huu, if_neg hup, hb1, if_neg (by simp), if_neg (by simp [hP]), if_pos hQ, he0])
          have HH := Lib.hid hhd
          clear hP hQ huu hb1 he0 hhd
          go_wp2_with fail
          refine (RBehind_any _ _ _ _ L c i j h _ (HL.out.kept HB.out) HO.out hi hj hh).mono ?_
          rintro e w1 ⟨rfl, hb⟩
          rw [Hbe.out]
          have HB := Lib.hid (up_later HB.out hb)
          have BX := Lib.hid (BX.out.kept hb)
          clear hb
          have q3 : w1.cell? ⟨b1, f1 + i * 4 + 3, none⟩ = some (.int .i64 s.m) := (HL.out.kept HB.out).st.cellAt Hs.out (j := 3) rfl
          have BB := BX.out
          have cB := fun i => BB.cell i
          go_wp2_with fail
          clear cB BB q3
          refine (RWalls_any _ _ _ _ L c i j k h _ (HL.out.kept HB.out) HO.out hi hj hk).mono ?_
          rintro e w2 ⟨u1, u2, rfl, hr1, hr2, hb⟩
          have HB := Lib.hid (up_later HB.out hb)
          obtain ⟨_, P1, p1, rfl, _, _⟩ := hr1.form
          obtain ⟨_, P2, p2, rfl, _, _⟩ := hr2.form
          have HR1 := Lib.hid hr1
          have HR2 := Lib.hid hr2
          clear hb hr1 hr2
          obtain ⟨bq, oq, rfl, hbq, hcq⟩ := HR2.out.at rfl HH.out
          have q0 : w2.cell? ⟨bq, oq, none⟩ = some (.int .i64 hd) := by simpa using hcq 0 _ rfl
          clear hcq
          go_wp2_with fail
          go_region
          all_goals go_wp2_with fail
          all_goals go_ret2
          all_goals exact ⟨by rw [HW.out]; rfl, up_later HB.out (up_drew up0)⟩
      · have hl := List.length_pos_iff.2 hP
        have np : (0 : Int) < ((ridgesI L i j).length : Int) := by omega
        obtain ⟨hd, hhd⟩ : ∃ h', (ridgesI L i j)[0]? = some h' := ⟨_, List.getElem?_eq_getElem hl⟩
        have he0 : (ridgesI L i j).headD 0 = hd := by rw [List.headD_eq_head?_getD, List.head?_eq_getElem?, hhd]; rfl
        have HW := Lib.hid (show whyI L i j k h = (3, hd) by unfold whyI; rw [huu, if_neg hup, hb1, if_neg (by simp), if_pos hP, he0])
        have HH := Lib.hid hhd
        clear hP huu hb1 he0 hhd
        go_wp2_with fail
        refine (RBehind_any _ _ _ _ L c i j h _ (HL.out.kept HB.out) HO.out hi hj hh).mono ?_
        rintro e w1 ⟨rfl, hb⟩
        rw [Hbe.out]
        have HB := Lib.hid (up_later HB.out hb)
        have BX := Lib.hid (BX.out.kept hb)
        clear hb
        have q3 : w1.cell? ⟨b1, f1 + i * 4 + 3, none⟩ = some (.int .i64 s.m) := (HL.out.kept HB.out).st.cellAt Hs.out (j := 3) rfl
        have BB := BX.out
        have cB := fun i => BB.cell i
        go_wp2_with fail
        clear cB BB q3
        refine (RWalls_any _ _ _ _ L c i j k h _ (HL.out.kept HB.out) HO.out hi hj hk).mono ?_
        rintro e w2 ⟨u1, u2, rfl, hr1, hr2, hb⟩
        have HB := Lib.hid (up_later HB.out hb)
        obtain ⟨_, P1, p1, rfl, _, _⟩ := hr1.form
        obtain ⟨_, P2, p2, rfl, _, _⟩ := hr2.form
        have HR1 := Lib.hid hr1
        have HR2 := Lib.hid hr2
        clear hb hr1 hr2
        obtain ⟨bq, oq, rfl, hbq, hcq⟩ := HR1.out.at rfl HH.out
        have q0 : w2.cell? ⟨bq, oq, none⟩ = some (.int .i64 hd) := by simpa using hcq 0 _ rfl
        clear hcq
        go_wp2_with fail
        go_region
        all_goals go_wp2_with fail
        all_goals go_ret2
        all_goals exact ⟨by rw [HW.out]; rfl, up_later HB.out (up_drew up0)⟩
    | true =>
      have Hbe := Lib.hid hbe
      cases hm : (s.m == 1) with
      | false =>
        have hb1 : (behindL L i j h && (stAt L i).m == 1) = false := by rw [hbe, hsm, hm]; rfl
        clear hbe hsm
        go_enter Try.func23, Try.ntmps23
        by_cases hP : ridgesI L i j = []
        · have np : ¬ (0 : Int) < ((ridgesI L i j).length : Int) := by rw [hP]; simp
          by_cases hQ : cloudsI L i j k h = []
          · have nq : ¬ (0 : Int) < ((cloudsI L i j k h).length : Int) := by rw [hQ]; simp
            have HW := Lib.hid (show whyI L i j k h = (0, 0) by unfold whyI; rw [huu, if_neg hup, hb1, if_neg (by simp), if_neg (by simp [hP]), if_neg (by simp [hQ])])
            clear hP hQ huu hb1
            go_wp2_with fail
            refine (RBehind_any _ _ _ _ L c i j h _ (HL.out.kept HB.out) HO.out hi hj hh).mono ?_
            rintro e w1 ⟨rfl, hb⟩
            rw [Hbe.out]
            have HB := Lib.hid (up_later HB.out hb)
            have BX := Lib.hid (BX.out.kept hb)
            clear hb
            have q3 : w1.cell? ⟨b1, f1 + i * 4 + 3, none⟩ = some (.int .i64 s.m) := (HL.out.kept HB.out).st.cellAt Hs.out (j := 3) rfl
            have BB := BX.out
            have cB := fun i => BB.cell i
            go_wp2_with fail
            clear cB BB q3
            refine (RWalls_any _ _ _ _ L c i j k h _ (HL.out.kept HB.out) HO.out hi hj hk).mono ?_
            rintro e w2 ⟨u1, u2, rfl, hr1, hr2, hb⟩
            have HB := Lib.hid (up_later HB.out hb)
            obtain ⟨_, P1, p1, rfl, _, _⟩ := hr1.form
            obtain ⟨_, P2, p2, rfl, _, _⟩ := hr2.form
            have HR1 := Lib.hid hr1
            have HR2 := Lib.hid hr2
            clear hb hr1 hr2
            go_wp2_with fail
            go_ret2
            exact ⟨by rw [HW.out]; rfl, HB.out⟩
          · have hl := List.length_pos_iff.2 hQ
            have nq : (0 : Int) < ((cloudsI L i j k h).length : Int) := by omega
            obtain ⟨hd, hhd⟩ : ∃ h', (cloudsI L i j k h)[0]? = some h' := ⟨_, List.getElem?_eq_getElem hl⟩
            have he0 : (cloudsI L i j k h).headD 0 = hd := by rw [List.headD_eq_head?_getD, List.head?_eq_getElem?, hhd]; rfl
            have HW := Lib.hid (show whyI L i j k h = (4, hd) by unfold whyI; rw [huu, if_neg hup, hb1, if_neg (by simp), if_neg (by simp [hP]), if_pos hQ, he0])
            have HH := Lib.hid hhd
            clear hP hQ huu hb1 he0 hhd
            go_wp2_with fail
            refine (RBehind_any _ _ _ _ L c i j h _ (HL.out.kept HB.out) HO.out hi hj hh).mono ?_
            rintro e w1 ⟨rfl, hb⟩
            rw [Hbe.out]
            have HB := Lib.hid (up_later HB.out hb)
            have BX := Lib.hid (BX.out.kept hb)
            clear hb
            have q3 : w1.cell? ⟨b1, f1 + i * 4 + 3, none⟩ = some (.int .i64 s.m) := (HL.out.kept HB.out).st.cellAt Hs.out (j := 3) rfl
            have BB := BX.out
            have cB := fun i => BB.cell i
            go_wp2_with fail
            clear cB BB q3
            refine (RWalls_any _ _ _ _ L c i j k h _ (HL.out.kept HB.out) HO.out hi hj hk).mono ?_
            rintro e w2 ⟨u1, u2, rfl, hr1, hr2, hb⟩
            have HB := Lib.hid (up_later HB.out hb)
            obtain ⟨_, P1, p1, rfl, _, _⟩ := hr1.form
            obtain ⟨_, P2, p2, rfl, _, _⟩ := hr2.form
            have HR1 := Lib.hid hr1
            have HR2 := Lib.hid hr2
            clear hb hr1 hr2
            obtain ⟨bq, oq, rfl, hbq, hcq⟩ := HR2.out.at rfl HH.out
            have q0 : w2.cell? ⟨bq, oq, none⟩ = some (.int .i64 hd) := by simpa using hcq 0 _ rfl
            clear hcq
            go_wp2_with fail
            go_region
            all_goals go_wp2_with fail
            all_goals go_ret2
            all_goals exact ⟨by rw [HW.out]; rfl, up_later HB.out (up_drew up0)⟩
        · have hl := List.length_pos_iff.2 hP
          have np : (0 : Int) < ((ridgesI L i j).length : Int) := by omega
          obtain ⟨hd, hhd⟩ : ∃ h', (ridgesI L i j)[0]? = some h' := ⟨_, List.getElem?_eq_getElem hl⟩
          have he0 : (ridgesI L i j).headD 0 = hd := by rw [List.headD_eq_head?_getD, List.head?_eq_getElem?, hhd]; rfl
          have HW := Lib.hid (show whyI L i j k h = (3, hd) by unfold whyI; rw [huu, if_neg hup, hb1, if_neg (by simp), if_pos hP, he0])
          have HH := Lib.hid hhd
          clear hP huu hb1 he0 hhd
          go_wp2_with fail
          refine (RBehind_any _ _ _ _ L c i j h _ (HL.out.kept HB.out) HO.out hi hj hh).mono ?_
          rintro e w1 ⟨rfl, hb⟩
          rw [Hbe.out]
          have HB := Lib.hid (up_later HB.out hb)
          have BX := Lib.hid (BX.out.kept hb)
          clear hb
          have q3 : w1.cell? ⟨b1, f1 + i * 4 + 3, none⟩ = some (.int .i64 s.m) := (HL.out.kept HB.out).st.cellAt Hs.out (j := 3) rfl
          have BB := BX.out
          have cB := fun i => BB.cell i
          go_wp2_with fail
          clear cB BB q3
          refine (RWalls_any _ _ _ _ L c i j k h _ (HL.out.kept HB.out) HO.out hi hj hk).mono ?_
          rintro e w2 ⟨u1, u2, rfl, hr1, hr2, hb⟩
          have HB := Lib.hid (up_later HB.out hb)
          obtain ⟨_, P1, p1, rfl, _, _⟩ := hr1.form
          obtain ⟨_, P2, p2, rfl, _, _⟩ := hr2.form
          have HR1 := Lib.hid hr1
          have HR2 := Lib.hid hr2
          clear hb hr1 hr2
          obtain ⟨bq, oq, rfl, hbq, hcq⟩ := HR1.out.at rfl HH.out
          have q0 : w2.cell? ⟨bq, oq, none⟩ = some (.int .i64 hd) := by simpa using hcq 0 _ rfl
          clear hcq
          go_wp2_with fail
          go_region
          all_goals go_wp2_with fail
          all_goals go_ret2
          all_goals exact ⟨by rw [HW.out]; rfl, up_later HB.out (up_drew up0)⟩
      | true =>
        have HW := Lib.hid (show whyI L i j k h = (2, 0) by unfold whyI; rw [huu, if_neg hup, hbe, hsm, hm]; rfl)
        clear huu hsm hbe
        go_enter Try.func23, Try.ntmps23
        go_wp2_with fail
        refine (RBehind_any _ _ _ _ L c i j h _ (HL.out.kept HB.out) HO.out hi hj hh).mono ?_
        rintro e w1 ⟨rfl, hb⟩
        rw [Hbe.out]
        have HB := Lib.hid (up_later HB.out hb)
        have BX := Lib.hid (BX.out.kept hb)
        clear hb
        have q3 : w1.cell? ⟨b1, f1 + i * 4 + 3, none⟩ = some (.int .i64 s.m) := (HL.out.kept HB.out).st.cellAt Hs.out (j := 3) rfl
        have BB := BX.out
        have cB := fun i => BB.cell i
        go_wp2_with fail
        clear cB BB q3
        go_ret2
        exact ⟨by rw [HW.out]; rfl, HB.out⟩

set_option maxRecDepth 100000 in
set_option maxHeartbeats 1000000 in
theorem RCan_any (v1 v2 v3 v4 : Value) (L : Ld) (c : List (Value × List Cl)) (i j k h : Nat) (w : World) (hL : LandAt w v1 v2 v3 v4 L c) (hO : LandOK L) (hi : i < L.st.length) (hj : j < L.st.length) (hk : k < L.cs.length) (hh : h < L.sn.length) :
    Calls Try.prog 29 #[.agg #[v1, v2, v3, v4], .int .i64 i, .int .i64 j, .int .i64 k, .int .i64 h] w fun e w' =>
      e = .returned (.bool ((j : Int) != (i : Int) && freeB L i j k h)) ∧ Below w.heap.size w w' := by
  have HL := Lib.hid hL
  obtain ⟨hn1, A1, cap1, rfl, _, _⟩ := hL.st.form
  obtain ⟨hn2, A2, cap2, rfl, _, _⟩ := hL.rg.form
  obtain ⟨hn3, A3, cap3, rfl, _, _⟩ := hL.cs.form
  obtain ⟨hn4, A4, cap4, rfl, _, _⟩ := hL.sn.form
  have Hcl := Lib.hid (cs_len hL.eq)
  clear hL
  by_cases hij : i = j
  · subst hij
    go_enter Try.func29, Try.ntmps29
    go_wp2_with fail
    go_ret
    exact ⟨by simp, up_alloc up0 _⟩
  · have hne : ((i : Int) == (j : Int)) = false := by rw [beq_eq_false_iff_ne]; omega
    have hne2 : ((j : Int) != (i : Int)) = true := by simp; omega
    have Hne2 := Lib.hid hne2
    clear hne2 hij
    go_enter Try.func29, Try.ntmps29
    go_wp2_with fail
    refine (RWhy_any _ _ _ _ L c i j k h _ (HL.out.kept (up_alloc up0 _)) hO hi hj hk hh).mono ?_
    rintro e w1 ⟨rfl, hb⟩
    go_wp2_with fail
    go_ret
    exact ⟨by rw [Hne2.out, Bool.true_and]; rfl, up_later (up_alloc up0 _) hb⟩


theorem clear_lift (L : Ld) (s t : St) (n : Nat) : clearB L s t n = !(L.rg.any (blocksW (lift s n) t)) := rfl
theorem anyN_take_succ {α : Type} {l : List α} {p : α → Bool} {k : Nat} {x : α} (hx : l[k]? = some x) : (!(l.take (k + 1)).any p) = ((!(l.take k).any p) && !(p x)) := by
  rw [List.take_add_one, hx]
  simp

def refRise (L : Ld) (s t : St) : Int := match (List.range (1000 - s.z + 1).toNat).find? (clearB L s t) with | some n => n | none => -1

set_option maxRecDepth 100000 in
set_option maxHeartbeats 4000000 in
theorem RRise_any (v1 v2 v3 v4 : Value) (L : Ld) (c : List (Value × List Cl)) (i j : Nat) (s t : St) (w : World) (hL : LandAt w v1 v2 v3 v4 L c) (hO : LandOK L) (hs : L.st[i]? = some s) (ht : L.st[j]? = some t) :
    Calls Try.prog 35 #[.agg #[v1, v2, v3, v4], .int .i64 i, .int .i64 j] w fun e w' => e = .returned (.int .i64 (refRise L s t)) ∧ Below w.heap.size w w' := by
  have hi := (List.getElem?_eq_some_iff.1 hs).1
  have hj := (List.getElem?_eq_some_iff.1 ht).1
  have hsO := (hO.st s (List.mem_of_getElem? hs)).1
  have htO := (hO.st t (List.mem_of_getElem? ht)).1
  obtain ⟨hsx, hsy, hz0, hz1⟩ := hsO
  have HtO := Lib.hid htO
  have HO := Lib.hid hO
  have Hs := Lib.hid hs
  have Ht := Lib.hid ht
  have HL := Lib.hid hL
  obtain ⟨hn1, A1, cap1, rfl, _, _⟩ := hL.st.form
  obtain ⟨hn2, A2, cap2, rfl, _, _⟩ := hL.rg.form
  obtain ⟨hn3, A3, cap3, rfl, _, _⟩ := hL.cs.form
  obtain ⟨hn4, A4, cap4, rfl, _, _⟩ := hL.sn.form
  have Hcl := Lib.hid (cs_len hL.eq)
  clear hL
  obtain ⟨b1, f1, rfl, -, -⟩ := HL.out.st.at rfl hs
  have i0 : (0 : Int) ≤ (i : Int) := by omega
  have i1 : (i : Int) < (L.st.length : Int) := by omega
  have j0 : (0 : Int) ≤ (j : Int) := by omega
  have j1 : (j : Int) < (L.st.length : Int) := by omega
  clear hs ht hO htO hi hj
  go_enter Try.func35, Try.ntmps35
  go_upto_region 1 with fail
  have B5 := Box.new (w := w) (t := 27) (cs := #[.slice (some ⟨b1, f1, none⟩) L.st.length cap1, .slice A2 L.rg.length cap2, .slice A3 c.length cap3, .slice A4 L.sn.length cap4]) rfl
  have HB := Lib.hid (up_alloc (up0 (w := w)) (.cells #[.slice (some ⟨b1, f1, none⟩) L.st.length cap1, .slice A2 L.rg.length cap2, .slice A3 c.length cap3, .slice A4 L.sn.length cap4] 27))
  have HR := Lib.hid (HL.out.st.kept HB.out)
  apply wp_region_lets 14 [.val _, .val _, .val _, .val _, .val _, .val _, .val _, .val _, .val _, .val _, .box 74 #[.int .i64 0, .int .i64 0, .int .i64 0, .int .i64 0] #[.int .i64 s.x, .int .i64 s.y, .int .i64 s.z, .int .i64 s.m], .box 74 #[.int .i64 0, .int .i64 0, .int .i64 0, .int .i64 0] #[.int .i64 t.x, .int .i64 t.y, .int .i64 t.z, .int .i64 t.m], .put 10, .put 11]
  case hm => kernel_rfl
  case hB => kernel_rfl
  case hA => (intro vs; simp only [List.take_succ_cons, List.take_zero, putAll, if_true, Act.put, List.setIfInBounds_toArray, List.set_cons_zero, List.set_cons_succ]; exact rfl)
  case hstep =>
    intro vs
    refine And.intro (fun w hw hd => ?_) ?_
    · change if Region.wanted _ _ = true then Gives _ _ _ _ (GotVal _ _) else _
      refine ite_yes rfl ?_
      simp only [Gives]
      go_simp
      exact ⟨rfl, rfl⟩
    refine And.intro (fun w hw hd => ?_) ?_
    · have d0 := hd 0 (by decide) rfl
      change vs 0 = _ at d0
      change if Region.wanted _ _ = true then Gives _ _ _ _ (GotVal _ _) else _
      refine ite_yes rfl ?_
      have c_B5 := fun i => (B5.kept hw).cell i
      simp only [Gives]
      go_simp
      exact ⟨rfl, rfl⟩
    refine And.intro (fun w hw hd => ?_) ?_
    · change if Region.wanted _ _ = true then Gives _ _ _ _ (GotVal _ _) else _
      refine ite_yes rfl ?_
      simp only [Gives]
      go_simp
      exact ⟨rfl, rfl⟩
    refine And.intro (fun w hw hd => ?_) ?_
    · have d1 := hd 1 (by decide) rfl
      change vs 1 = _ at d1
      have d2 := hd 2 (by decide) rfl
      change vs 2 = _ at d2
      change if Region.wanted _ _ = true then Gives _ _ _ _ (GotVal _ _) else _
      refine ite_yes rfl ?_
      simp only [Gives]
      go_simp
      exact ⟨rfl, rfl⟩
    refine And.intro (fun w hw hd => ?_) ?_
    · have d3 := hd 3 (by decide) rfl
      change vs 3 = _ at d3
      change if Region.wanted _ _ = true then Gives _ _ _ _ (GotVal _ _) else _
      refine ite_yes rfl ?_
      have c_B5 := fun i => (B5.kept hw).cell i
      have q0 : w.cell? ⟨b1, f1 + i * 4, none⟩ = some (.int .i64 s.x) := (HR.out.kept hw).cellAt Hs.out (j := 0) rfl
      have q1 : w.cell? ⟨b1, f1 + i * 4 + 1, none⟩ = some (.int .i64 s.y) := (HR.out.kept hw).cellAt Hs.out (j := 1) rfl
      have q2 : w.cell? ⟨b1, f1 + i * 4 + 2, none⟩ = some (.int .i64 s.z) := (HR.out.kept hw).cellAt Hs.out (j := 2) rfl
      have q3 : w.cell? ⟨b1, f1 + i * 4 + 3, none⟩ = some (.int .i64 s.m) := (HR.out.kept hw).cellAt Hs.out (j := 3) rfl
      have r0 : w.cell? ⟨b1, f1 + j * 4, none⟩ = some (.int .i64 t.x) := (HR.out.kept hw).cellAt Ht.out (j := 0) rfl
      have r1 : w.cell? ⟨b1, f1 + j * 4 + 1, none⟩ = some (.int .i64 t.y) := (HR.out.kept hw).cellAt Ht.out (j := 1) rfl
      have r2 : w.cell? ⟨b1, f1 + j * 4 + 2, none⟩ = some (.int .i64 t.z) := (HR.out.kept hw).cellAt Ht.out (j := 2) rfl
      have r3 : w.cell? ⟨b1, f1 + j * 4 + 3, none⟩ = some (.int .i64 t.m) := (HR.out.kept hw).cellAt Ht.out (j := 3) rfl
      simp only [Gives]
      go_simp
      exact ⟨rfl, rfl⟩
    refine And.intro (fun w hw hd => ?_) ?_
    · change if Region.wanted _ _ = true then Gives _ _ _ _ (GotVal _ _) else _
      refine ite_yes rfl ?_
      simp only [Gives]
      go_simp
      exact ⟨rfl, rfl⟩
    refine And.intro (fun w hw hd => ?_) ?_
    · have d5 := hd 5 (by decide) rfl
      change vs 5 = _ at d5
      change if Region.wanted _ _ = true then Gives _ _ _ _ (GotVal _ _) else _
      refine ite_yes rfl ?_
      have c_B5 := fun i => (B5.kept hw).cell i
      simp only [Gives]
      go_simp
      exact ⟨rfl, rfl⟩
    refine And.intro (fun w hw hd => ?_) ?_
    · change if Region.wanted _ _ = true then Gives _ _ _ _ (GotVal _ _) else _
      refine ite_yes rfl ?_
      simp only [Gives]
      go_simp
      exact ⟨rfl, rfl⟩
    refine And.intro (fun w hw hd => ?_) ?_
    · have d6 := hd 6 (by decide) rfl
      change vs 6 = _ at d6
      have d7 := hd 7 (by decide) rfl
      change vs 7 = _ at d7
      change if Region.wanted _ _ = true then Gives _ _ _ _ (GotVal _ _) else _
      refine ite_yes rfl ?_
      simp only [Gives]
      go_simp
      exact ⟨rfl, rfl⟩
    refine And.intro (fun w hw hd => ?_) ?_
    · have d8 := hd 8 (by decide) rfl
      change vs 8 = _ at d8
      change if Region.wanted _ _ = true then Gives _ _ _ _ (GotVal _ _) else _
      refine ite_yes rfl ?_
      have c_B5 := fun i => (B5.kept hw).cell i
      have q0 : w.cell? ⟨b1, f1 + i * 4, none⟩ = some (.int .i64 s.x) := (HR.out.kept hw).cellAt Hs.out (j := 0) rfl
      have q1 : w.cell? ⟨b1, f1 + i * 4 + 1, none⟩ = some (.int .i64 s.y) := (HR.out.kept hw).cellAt Hs.out (j := 1) rfl
      have q2 : w.cell? ⟨b1, f1 + i * 4 + 2, none⟩ = some (.int .i64 s.z) := (HR.out.kept hw).cellAt Hs.out (j := 2) rfl
      have q3 : w.cell? ⟨b1, f1 + i * 4 + 3, none⟩ = some (.int .i64 s.m) := (HR.out.kept hw).cellAt Hs.out (j := 3) rfl
      have r0 : w.cell? ⟨b1, f1 + j * 4, none⟩ = some (.int .i64 t.x) := (HR.out.kept hw).cellAt Ht.out (j := 0) rfl
      have r1 : w.cell? ⟨b1, f1 + j * 4 + 1, none⟩ = some (.int .i64 t.y) := (HR.out.kept hw).cellAt Ht.out (j := 1) rfl
      have r2 : w.cell? ⟨b1, f1 + j * 4 + 2, none⟩ = some (.int .i64 t.z) := (HR.out.kept hw).cellAt Ht.out (j := 2) rfl
      have r3 : w.cell? ⟨b1, f1 + j * 4 + 3, none⟩ = some (.int .i64 t.m) := (HR.out.kept hw).cellAt Ht.out (j := 3) rfl
      simp only [Gives]
      go_simp
      exact ⟨rfl, rfl⟩
    refine And.intro (fun w hw hd => ?_) ?_
    · refine And.intro rfl ?_
      change Gives _ _ _ _ (GotBox _ _ _)
      simp only [Gives]
      go_simp
      exact ⟨rfl, rfl⟩
    refine And.intro (fun w hw hd => ?_) ?_
    · refine And.intro rfl ?_
      change Gives _ _ _ _ (GotBox _ _ _)
      simp only [Gives]
      go_simp
      exact ⟨rfl, rfl⟩
    refine And.intro (fun w hw hd => ?_) ?_
    · have d4 := hd 4 (by decide) rfl
      change vs 4 = _ at d4
      refine And.intro rfl (fun g hg hb => ?_)
      change vs 10 = _ at hg
      have c_b := fun i => hb.cell i
      have f_b := fun i => hb.free i
      have l_b := hb.lt
      change Gives _ _ _ _ (fun _ w' => Fill _ _ _ w w')
      simp only [Gives]
      go_simp
      exact fill4 hb
    refine And.intro (fun w hw hd => ?_) ?_
    · have d9 := hd 9 (by decide) rfl
      change vs 9 = _ at d9
      refine And.intro rfl (fun g hg hb => ?_)
      change vs 11 = _ at hg
      have c_b := fun i => hb.cell i
      have f_b := fun i => hb.free i
      have l_b := hb.lt
      change Gives _ _ _ _ (fun _ w' => Fill _ _ _ w w')
      simp only [Gives]
      go_simp
      exact fill4 hb
    exact trivial
  case hK => kernel_rfl
  intro vs wt hw hd hap
  have d0 := hd 0 (by decide)
  change vs 0 = _ at d0
  have d1 := hd 1 (by decide)
  change vs 1 = _ at d1
  have d2 := hd 2 (by decide)
  change vs 2 = _ at d2
  have d3 := hd 3 (by decide)
  change vs 3 = _ at d3
  have d4 := hd 4 (by decide)
  change vs 4 = _ at d4
  have d5 := hd 5 (by decide)
  change vs 5 = _ at d5
  have d6 := hd 6 (by decide)
  change vs 6 = _ at d6
  have d7 := hd 7 (by decide)
  change vs 7 = _ at d7
  have d8 := hd 8 (by decide)
  change vs 8 = _ at d8
  have d9 := hd 9 (by decide)
  change vs 9 = _ at d9
  obtain ⟨n10, d10, l10, _, N10⟩ := hd 10 (by decide)
  change Box wt n10 74 #[.int .i64 s.x, .int .i64 s.y, .int .i64 s.z, .int .i64 s.m] at N10
  obtain ⟨n11, d11, l11, _, N11⟩ := hd 11 (by decide)
  change Box wt n11 74 #[.int .i64 t.x, .int .i64 t.y, .int .i64 t.z, .int .i64 t.m] at N11
  have e10_11 := hap 10 11 (by decide) (by decide) (by decide) rfl rfl
  simp only [d10, d11, blk] at e10_11
  simp only [Nat.zero_add, Nat.reduceAdd, d0, d1, d2, d3, d4, d5, d6, d7, d8, d9, d10, d11, List.drop_succ_cons, List.drop_nil]
  have B5 := B5.kept hw
  have c_B5 := fun i => B5.cell i
  have f_B5 := fun i => B5.free i
  have c_N10 := fun i => N10.cell i
  have f_N10 := fun i => N10.free i
  have c_N11 := fun i => N11.cell i
  have f_N11 := fun i => N11.free i
  clear hd hap d0 d1 d2 d3 d4 d5 d6 d7 d8 d9 d10 d11
  have HB := Lib.hid (up_later HB.out hw)
  have HLt := Lib.hid (HL.out.kept HB.out)
  have HB5 := Lib.hid B5
  have HN10 := Lib.hid N10
  have HN11 := Lib.hid N11
  clear B5 N10 N11 c_B5 f_B5 c_N10 c_N11 f_N10 f_N11 hw HL HR l10 l11 e10_11
  rename World => W0
  go_wp2_with fail
  go_loopw [9] (fun q wr => ∃ n : Nat, (n : Int) ≤ 1001 - s.z ∧ q = .int .i64 n ∧ Hid (∀ m, m < n → clearB L s t m = false) ∧ Hid (Below W0.heap.size W0 wr)) (fun q _ => (1001 - s.z - intOf q).toNat)
  case atStart => exact ⟨0, by omega, rfl, fun m hm => absurd hm (Nat.not_lt_zero m), up0⟩
  case round =>
    obtain ⟨n, hn, rfl, hno, hb⟩ := hrel
    have n0 : (0 : Int) ≤ (n : Int) := by omega
    have N10 := HN10.out.kept hb.out
    have c10 := fun i => N10.cell i
    by_cases hle : s.z + (n : Int) ≤ 1000
    · have X := Lib.hid (Box.new (w := wr) (t := 74) (cs := #[iv s.x, iv s.y, iv (s.z + n), iv s.m]) rfl)
      have HX5 := Lib.hid ((HB5.out.kept hb.out).kept (up_alloc up0 (.cells #[iv s.x, iv s.y, iv (s.z + n), iv s.m] 74)))
      have HX11 := Lib.hid ((HN11.out.kept hb.out).kept (up_alloc up0 (.cells #[iv s.x, iv s.y, iv (s.z + n), iv s.m] 74)))
      have HXG := Lib.hid ((HLt.out.rg.kept hb.out).kept (up_alloc up0 (.cells #[iv s.x, iv s.y, iv (s.z + n), iv s.m] 74)))
      have HXB := Lib.hid (up_alloc hb.out (.cells #[iv s.x, iv s.y, iv (s.z + n), iv s.m] 74))
      have hLO := Lib.hid (show StOK (lift s n) from ⟨hsx, hsy, by show 0 ≤ s.z + (n : Int); omega, hle⟩)
      go_wp2_with fail
      clear c10 N10
      go_loopw [11, 12] (fun f q wi => ∃ m : Nat, m ≤ L.rg.length ∧ q = .int .i64 m ∧ f = .bool (!(L.rg.take m).any (blocksW (lift s n) t)) ∧ Hid (Below (wr.alloc (.cells #[iv s.x, iv s.y, iv (s.z + n), iv s.m] 74)).heap.size (wr.alloc (.cells #[iv s.x, iv s.y, iv (s.z + n), iv s.m] 74)) wi)) (fun _ q _ => L.rg.length - (intOf q).toNat)
      case atStart => exact ⟨0, by omega, rfl, by simp, up0⟩
      case round =>
        obtain ⟨m, hm, rfl, rfl, hb2⟩ := hrel
        have m0 : (0 : Int) ≤ (m : Int) := by omega
        have B5 := HX5.out.kept hb2.out
        have c_B5 := fun i => B5.cell i
        by_cases hlt : m < L.rg.length
        · obtain ⟨x, hx⟩ : ∃ x, L.rg[m]? = some x := ⟨_, List.getElem?_eq_getElem hlt⟩
          have Hx := Lib.hid hx
          have m1 : (m : Int) < (L.rg.length : Int) := by omega
          have HG := Lib.hid (HXG.out.kept hb2.out)
          obtain ⟨b2, f2, rfl, -, -⟩ := HG.out.at rfl hx
          have HXO := Lib.hid (HO.out.rg x (List.mem_of_getElem? hx))
          have Hu := Lib.hid (anyN_take_succ (p := blocksW (lift s n) t) hx)
          have N10 := X.out.kept hb2.out
          have N11 := HX11.out.kept hb2.out
          clear hx
          cases hf : (!(L.rg.take m).any (blocksW (lift s n) t)) with
          | false =>
            rw [hf] at Hu
            clear hf
            go_wp2_with fail
            clear c_B5
            apply wp_region_by 12 [(Fact.eq _), (Fact.eq _), (Fact.eq _), (Fact.eq _), (Fact.eq _), (Fact.eq _), (Fact.eq _), (Fact.eq _), (Fact.eq _), (Fact.eq _), (Fact.eq _), (Fact.eq _)]
            case hm => kernel_rfl
            case hB => kernel_rfl
            case hA => (intro vs; simp only [List.take_succ_cons, List.take_zero, putAll, if_true, Act.put, List.setIfInBounds_toArray, List.set_cons_zero, List.set_cons_succ]; exact rfl)
            case hstep =>
              intro vs
              refine And.intro (fun w hw hd => ?_) ?_
              · refine ite_yes rfl ?_
                simp only [Gives]
                go_simp
                exact ⟨Below.refl _ _, rfl, fun h => by cases h⟩
              refine And.intro (fun w hw hd => ?_) ?_
              · have d0 := hd 0 (by decide) rfl
                change vs 0 = _ at d0
                refine ite_yes rfl ?_
                simp only [Gives]
                go_simp
                exact ⟨Below.refl _ _, rfl, fun h => by cases h⟩
              refine And.intro (fun w hw hd => ?_) ?_
              · have d1 := hd 1 (by decide) rfl
                change vs 1 = _ at d1
                refine ite_no (by simp [Region.wanted, yielded, d1]) ?_
                exact ⟨rfl, rfl⟩
              refine And.intro (fun w hw hd => ?_) ?_
              · have d2 := hd 2 (by decide) rfl
                change vs 2 = _ at d2
                have d1 := hd 1 (by decide) rfl
                change vs 1 = _ at d1
                refine ite_no (by simp [Region.wanted, yielded, d1]) ?_
                exact ⟨rfl, rfl⟩
              refine And.intro (fun w hw hd => ?_) ?_
              · have d1 := hd 1 (by decide) rfl
                change vs 1 = _ at d1
                refine ite_no (by simp [Region.wanted, yielded, d1]) ?_
                exact ⟨rfl, rfl⟩
              refine And.intro (fun w hw hd => ?_) ?_
              · have d3 := hd 3 (by decide) rfl
                change vs 3 = _ at d3
                have d4 := hd 4 (by decide) rfl
                change vs 4 = _ at d4
                have d1 := hd 1 (by decide) rfl
                change vs 1 = _ at d1
                refine ite_no (by simp [Region.wanted, yielded, d1]) ?_
                exact ⟨rfl, rfl⟩
              refine And.intro (fun w hw hd => ?_) ?_
              · have d5 := hd 5 (by decide) rfl
                change vs 5 = _ at d5
                have d1 := hd 1 (by decide) rfl
                change vs 1 = _ at d1
                refine ite_no (by simp [Region.wanted, yielded, d1]) ?_
                exact ⟨rfl, rfl⟩
              refine And.intro (fun w hw hd => ?_) ?_
              · have d1 := hd 1 (by decide) rfl
                change vs 1 = _ at d1
                refine ite_no (by simp [Region.wanted, yielded, d1]) ?_
                exact ⟨rfl, rfl⟩
              refine And.intro (fun w hw hd => ?_) ?_
              · have d1 := hd 1 (by decide) rfl
                change vs 1 = _ at d1
                refine ite_no (by simp [Region.wanted, yielded, d1]) ?_
                exact ⟨rfl, rfl⟩
              refine And.intro (fun w hw hd => ?_) ?_
              · have d6 := hd 6 (by decide) rfl
                change vs 6 = _ at d6
                have d7 := hd 7 (by decide) rfl
                change vs 7 = _ at d7
                have d8 := hd 8 (by decide) rfl
                change vs 8 = _ at d8
                have d1 := hd 1 (by decide) rfl
                change vs 1 = _ at d1
                refine ite_no (by simp [Region.wanted, yielded, d1]) ?_
                exact ⟨rfl, rfl⟩
              refine And.intro (fun w hw hd => ?_) ?_
              · have d9 := hd 9 (by decide) rfl
                change vs 9 = _ at d9
                have d1 := hd 1 (by decide) rfl
                change vs 1 = _ at d1
                refine ite_no (by simp [Region.wanted, yielded, d1]) ?_
                exact ⟨rfl, rfl⟩
              refine And.intro (fun w hw hd => ?_) ?_
              · have d1 := hd 1 (by decide) rfl
                change vs 1 = _ at d1
                have d10 := hd 10 (by decide) rfl
                change vs 10 = _ at d10
                refine ite_yes rfl ?_
                simp only [Gives]
                go_simp
                exact ⟨Below.refl _ _, rfl, fun h => by cases h⟩
              exact trivial
            intro vs wt hw hd hne hlo
            have d0 := hd 0 (by decide)
            change vs 0 = _ at d0
            have d1 := hd 1 (by decide)
            change vs 1 = _ at d1
            have d2 := hd 2 (by decide)
            change vs 2 = _ at d2
            have d3 := hd 3 (by decide)
            change vs 3 = _ at d3
            have d4 := hd 4 (by decide)
            change vs 4 = _ at d4
            have d5 := hd 5 (by decide)
            change vs 5 = _ at d5
            have d6 := hd 6 (by decide)
            change vs 6 = _ at d6
            have d7 := hd 7 (by decide)
            change vs 7 = _ at d7
            have d8 := hd 8 (by decide)
            change vs 8 = _ at d8
            have d9 := hd 9 (by decide)
            change vs 9 = _ at d9
            have d10 := hd 10 (by decide)
            change vs 10 = _ at d10
            have d11 := hd 11 (by decide)
            change vs 11 = _ at d11
            simp only [d0, d1, d2, d3, d4, d5, d6, d7, d8, d9, d10, d11, List.drop_succ_cons, List.drop_zero]
            clear hd hne hlo d0 d1 d2 d3 d4 d5 d6 d7 d8 d9 d10 d11
            go_wp2_with fail
            exact ⟨⟨m + 1, by omega, by go_num, by rw [Hu.out]; rfl, up_later hb2.out hw⟩, by simp [intOf]; omega⟩
          | true =>
            rw [hf] at Hu
            clear hf
            go_wp2_with fail
            clear c_B5
            apply wp_region_by 12 [(Fact.eq _), (Fact.eq _), (Fact.eq _), (Fact.eq _), (Fact.eq _), (Fact.eq _), (Fact.eq _), (Fact.eq _), (Fact.eq _), (Fact.eq _), (Fact.eq _), (Fact.eq _)]
            case hm => kernel_rfl
            case hB => kernel_rfl
            case hA => (intro vs; simp only [List.take_succ_cons, List.take_zero, putAll, if_true, Act.put, List.setIfInBounds_toArray, List.set_cons_zero, List.set_cons_succ]; exact rfl)
            case hstep =>
              intro vs
              refine And.intro (fun w hw hd => ?_) ?_
              · refine ite_yes rfl ?_
                simp only [Gives]
                go_simp
                exact ⟨Below.refl _ _, rfl, fun h => by cases h⟩
              refine And.intro (fun w hw hd => ?_) ?_
              · have d0 := hd 0 (by decide) rfl
                change vs 0 = _ at d0
                refine ite_yes rfl ?_
                simp only [Gives]
                go_simp
                exact ⟨Below.refl _ _, rfl, fun h => by cases h⟩
              refine And.intro (fun w hw hd => ?_) ?_
              · have d1 := hd 1 (by decide) rfl
                change vs 1 = _ at d1
                refine ite_yes (by simp [Region.wanted, yielded, d1]) ?_
                simp only [Gives]
                go_simp
                exact ⟨Below.refl _ _, rfl, fun h => by cases h⟩
              refine And.intro (fun w hw hd => ?_) ?_
              · have d2 := hd 2 (by decide) rfl
                change vs 2 = _ at d2
                have d1 := hd 1 (by decide) rfl
                change vs 1 = _ at d1
                refine ite_yes (by simp [Region.wanted, yielded, d1]) ?_
                have c_B5 := fun i => (B5.kept hw).cell i
                have c_N10 := fun i => (N10.kept hw).cell i
                have c_N11 := fun i => (N11.kept hw).cell i
                simp only [Gives]
                go_simp
                exact ⟨Below.refl _ _, rfl, fun h => by cases h⟩
              refine And.intro (fun w hw hd => ?_) ?_
              · have d1 := hd 1 (by decide) rfl
                change vs 1 = _ at d1
                refine ite_yes (by simp [Region.wanted, yielded, d1]) ?_
                simp only [Gives]
                go_simp
                exact ⟨Below.refl _ _, rfl, fun h => by cases h⟩
              refine And.intro (fun w hw hd => ?_) ?_
              · have d3 := hd 3 (by decide) rfl
                change vs 3 = _ at d3
                have d4 := hd 4 (by decide) rfl
                change vs 4 = _ at d4
                have d1 := hd 1 (by decide) rfl
                change vs 1 = _ at d1
                refine ite_yes (by simp [Region.wanted, yielded, d1]) ?_
                simp only [Gives]
                go_simp
                exact ⟨Below.refl _ _, rfl, fun h => by cases h⟩
              refine And.intro (fun w hw hd => ?_) ?_
              · have d5 := hd 5 (by decide) rfl
                change vs 5 = _ at d5
                have d1 := hd 1 (by decide) rfl
                change vs 1 = _ at d1
                refine ite_yes (by simp [Region.wanted, yielded, d1]) ?_
                have c_B5 := fun i => (B5.kept hw).cell i
                have c_N10 := fun i => (N10.kept hw).cell i
                have c_N11 := fun i => (N11.kept hw).cell i
                have q0 : w.cell? ⟨b2, f2 + m * 6, none⟩ = some (.int .i64 x.x1) := (HG.out.kept hw).cellAt Hx.out (j := 0) rfl
                have q1 : w.cell? ⟨b2, f2 + m * 6 + 1, none⟩ = some (.int .i64 x.y1) := (HG.out.kept hw).cellAt Hx.out (j := 1) rfl
                have q2 : w.cell? ⟨b2, f2 + m * 6 + 2, none⟩ = some (.int .i64 x.x2) := (HG.out.kept hw).cellAt Hx.out (j := 2) rfl
                have q3 : w.cell? ⟨b2, f2 + m * 6 + 3, none⟩ = some (.int .i64 x.y2) := (HG.out.kept hw).cellAt Hx.out (j := 3) rfl
                have q4 : w.cell? ⟨b2, f2 + m * 6 + 4, none⟩ = some (.int .i64 x.b) := (HG.out.kept hw).cellAt Hx.out (j := 4) rfl
                have q5 : w.cell? ⟨b2, f2 + m * 6 + 5, none⟩ = some (.int .i64 x.t) := (HG.out.kept hw).cellAt Hx.out (j := 5) rfl
                simp only [Gives]
                go_simp
                exact ⟨Below.refl _ _, rfl, fun h => by cases h⟩
              refine And.intro (fun w hw hd => ?_) ?_
              · have d1 := hd 1 (by decide) rfl
                change vs 1 = _ at d1
                refine ite_yes (by simp [Region.wanted, yielded, d1]) ?_
                have c_B5 := fun i => (B5.kept hw).cell i
                have c_N10 := fun i => (N10.kept hw).cell i
                have c_N11 := fun i => (N11.kept hw).cell i
                simp only [Gives]
                go_simp
                exact ⟨Below.refl _ _, rfl, fun h => by cases h⟩
              refine And.intro (fun w hw hd => ?_) ?_
              · have d1 := hd 1 (by decide) rfl
                change vs 1 = _ at d1
                refine ite_yes (by simp [Region.wanted, yielded, d1]) ?_
                have c_B5 := fun i => (B5.kept hw).cell i
                have c_N10 := fun i => (N10.kept hw).cell i
                have c_N11 := fun i => (N11.kept hw).cell i
                simp only [Gives]
                go_simp
                exact ⟨Below.refl _ _, rfl, fun h => by cases h⟩
              refine And.intro (fun w hw hd => ?_) ?_
              · have d6 := hd 6 (by decide) rfl
                change vs 6 = _ at d6
                have d7 := hd 7 (by decide) rfl
                change vs 7 = _ at d7
                have d8 := hd 8 (by decide) rfl
                change vs 8 = _ at d8
                have d1 := hd 1 (by decide) rfl
                change vs 1 = _ at d1
                refine ite_yes (by simp [Region.wanted, yielded, d1]) ?_
                simp only [Gives]
                go_simp
                refine (RBlocks_any x (lift s n) t _ HXO.out hLO.out HtO.out).mono ?_
                rintro e w1 ⟨rfl, hb⟩
                exact ⟨_, rfl, hb, rfl, fun h => by cases h⟩
              refine And.intro (fun w hw hd => ?_) ?_
              · have d9 := hd 9 (by decide) rfl
                change vs 9 = _ at d9
                have d1 := hd 1 (by decide) rfl
                change vs 1 = _ at d1
                refine ite_yes (by simp [Region.wanted, yielded, d1]) ?_
                simp only [Gives]
                go_simp
                exact ⟨Below.refl _ _, rfl, fun h => by cases h⟩
              refine And.intro (fun w hw hd => ?_) ?_
              · have d1 := hd 1 (by decide) rfl
                change vs 1 = _ at d1
                have d10 := hd 10 (by decide) rfl
                change vs 10 = _ at d10
                refine ite_yes rfl ?_
                simp only [Gives]
                go_simp
                exact ⟨Below.refl _ _, rfl, fun h => by cases h⟩
              exact trivial
            intro vs wt hw hd hne hlo
            have d0 := hd 0 (by decide)
            change vs 0 = _ at d0
            have d1 := hd 1 (by decide)
            change vs 1 = _ at d1
            have d2 := hd 2 (by decide)
            change vs 2 = _ at d2
            have d3 := hd 3 (by decide)
            change vs 3 = _ at d3
            have d4 := hd 4 (by decide)
            change vs 4 = _ at d4
            have d5 := hd 5 (by decide)
            change vs 5 = _ at d5
            have d6 := hd 6 (by decide)
            change vs 6 = _ at d6
            have d7 := hd 7 (by decide)
            change vs 7 = _ at d7
            have d8 := hd 8 (by decide)
            change vs 8 = _ at d8
            have d9 := hd 9 (by decide)
            change vs 9 = _ at d9
            have d10 := hd 10 (by decide)
            change vs 10 = _ at d10
            have d11 := hd 11 (by decide)
            change vs 11 = _ at d11
            simp only [d0, d1, d2, d3, d4, d5, d6, d7, d8, d9, d10, d11, List.drop_succ_cons, List.drop_zero]
            have B5 := B5.kept hw
            have N10 := N10.kept hw
            have N11 := N11.kept hw
            have c_B5 := fun i => B5.cell i
            have f_B5 := fun i => B5.free i
            have c_N10 := fun i => N10.cell i
            have f_N10 := fun i => N10.free i
            have c_N11 := fun i => N11.cell i
            have f_N11 := fun i => N11.free i
            clear hd hne hlo d0 d1 d2 d3 d4 d5 d6 d7 d8 d9 d10 d11
            go_wp2_with fail
            exact ⟨⟨m + 1, by omega, by go_num, by rw [Hu.out]; simp, up_later hb2.out hw⟩, by simp [intOf]; omega⟩
        · obtain rfl : m = L.rg.length := by omega
          rw [List.take_length]
          have HB2 := Lib.hid (HXB.out.trans (hb2.out.mono HXB.out.size))
          cases hf : (!L.rg.any (blocksW (lift s n) t)) with
          | true =>
            have HRes := Lib.hid (show refRise L s t = n by unfold refRise; rw [find_range_some (n := n) (by omega) hf hno.out])
            clear hf
            go_wp2_with fail
            go_ret
            exact ⟨by rw [HRes.out]; rfl, HB.out.trans (HB2.out.mono HB.out.size)⟩
          | false =>
            have hno2 := Lib.hid (show ∀ q, q < n + 1 → clearB L s t q = false from fun q hq => by
              by_cases hqn : q = n
              · rw [hqn]; exact hf
              · exact hno.out q (by omega))
            clear hf
            go_wp2_with fail
            exact ⟨⟨n + 1, by omega, by go_num, hno2.out, HB2.out⟩, by simp [intOf]; omega⟩
    · have HRes := Lib.hid (show refRise L s t = -1 by unfold refRise; rw [find_range_none fun m hm => hno.out m (by omega)])
      go_wp2_with fail
      go_ret
      exact ⟨by rw [HRes.out]; rfl, HB.out.trans (hb.out.mono HB.out.size)⟩

end Go.Proofs.Ytlnagjdokfkjoaa
