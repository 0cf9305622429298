/-
  WALKS of '(desk).words' and Decode. Conditions: lists have at most 1000 elements.
-/
import Derived.Test.YtkhfkmfofhnmdaaCn
namespace Go.Proofs.Ytkhfkmfofhnmdaa
open Go.RowKit

theorem own_form' {w : World} {n0 e sz n : Nat} {v : Value} {xs : List Value} (h : w.ownsRow n0 e sz v n xs) : ∃ A p, v = .slice A n p := by
  rcases h.2 with ⟨rfl, rfl⟩ | ⟨g, cap, cur, rfl, _⟩
  · exact ⟨_, _, rfl⟩
  · exact ⟨_, _, rfl⟩
def Fact.owned (n0 n : Nat) (xs : List Value) : Fact := ⟨fun v w => ∃ A p, v = .slice A n p ∧ w.ownsRow n0 3 1 (.slice A n p) n xs, fun _ _ _ ⟨A, p, h, h1⟩ hb => ⟨A, p, h, own_below h1 hb⟩, false, fun _ _ h => by cases h⟩

set_option maxRecDepth 100000 in
set_option maxHeartbeats 1000000 in
theorem words_any (n ws : Int) (v1 v2 v3 v : Value) (l : List Int) (w : World) (hl : IntsAt w v l) :
    Calls Try.prog 66 #[.agg #[iv n, iv ws, v1, v2, v3], v] w fun e w' => ∃ v', e = .returned v' ∧ IntsAt w' v' (l.filter fun x => !nullB ws x) ∧ Below w.heap.size w w' := by
  obtain ⟨hlen, A, cap, rfl, hcap, _⟩ := hl.form
  have HV := Lib.hid hl
  clear hl
  go_enter Try.func66, Try.ntmps66
  go_wp2_with fail
  have B2 := Box.new (w := w) (t := 98) (cs := #[iv n, iv ws, v1, v2, v3]) rfl
  have HB0 := Lib.hid (up_alloc (up0 (w := w)) (.cells #[iv n, iv ws, v1, v2, v3] 98))
  have HV := Lib.hid (HV.out.kept HB0.out)
  apply wp_region_by 5 [(Fact.eq _), (Fact.owned w.heap.size l.length (l.map iv)), (Fact.eq _), (Fact.eq _), (Fact.eq _)]
  case hm => kernel_rfl
  case hB => kernel_rfl
  case hA => (intro vs; simp only [List.take_succ_cons, List.take_zero, putAll, if_true, Act.put, List.setIfInBounds_toArray, List.set_cons_zero, List.set_cons_succ]; exact rfl)
  case hstep =>
    intro vs
    refine And.intro (fun w hw hd => ?_) ?_
    · refine ite_yes rfl ?_
      simp only [Gives]
      go_simp
      exact ⟨Below.refl _ _, rfl, fun h => by cases h⟩
    refine And.intro (fun w hw hd => ?_) ?_
    · have d0 := hd 0 (by decide) rfl
      change vs 0 = _ at d0
      refine ite_yes rfl ?_
      simp only [Gives]
      go_simp
      refine (Clone_any _ l w (HV.out.kept hw)).mono ?_
      rintro e w1 ⟨v, rfl, ho, hb⟩
      obtain ⟨A', p', rfl⟩ := own_form' ho
      exact ⟨_, rfl, hb, ⟨A', p', rfl, own_mono ho (by have := HB0.out.size; have := hw.size; omega)⟩, fun h => by cases h⟩
    refine And.intro (fun w hw hd => ?_) ?_
    · refine ite_yes rfl ?_
      simp only [Gives]
      go_simp
      exact ⟨Below.refl _ _, rfl, fun h => by cases h⟩
    refine And.intro (fun w hw hd => ?_) ?_
    · have d2 := hd 2 (by decide) rfl
      change vs 2 = _ at d2
      refine ite_yes rfl ?_
      have c_B2 := fun i => (B2.kept hw).cell i
      simp only [Gives]
      go_simp
      exact ⟨Below.refl _ _, rfl, fun h => by cases h⟩
    refine And.intro (fun w hw hd => ?_) ?_
    · have d3 := hd 3 (by decide) rfl
      change vs 3 = _ at d3
      refine ite_yes rfl ?_
      simp only [Gives]
      go_simp
      exact ⟨Below.refl _ _, rfl, fun h => by cases h⟩
    exact trivial
  intro vs wt hw hd hne hlo
  have d0 := hd 0 (by decide)
  change vs 0 = _ at d0
  have d1 := hd 1 (by decide)
  obtain ⟨A1, p1, d1, O1⟩ := d1
  have d2 := hd 2 (by decide)
  change vs 2 = _ at d2
  have d3 := hd 3 (by decide)
  change vs 3 = _ at d3
  have d4 := hd 4 (by decide)
  change vs 4 = _ at d4
  simp only [d0, d2, d3, d4, List.drop_succ_cons, List.drop_zero]
  have B2 := B2.kept hw
  have c_B2 := fun i => B2.cell i
  have f_B2 := fun i => B2.free i
  clear hd hne hlo d0 d2 d3 d4
  simp only [Nat.zero_add, d1]
  clear d1 c_B2 f_B2
  have HO := Lib.hid O1
  clear O1
  go_wp2_with fail
  refine (DeleteFunc_any n ws _ _ A1 p1 w.heap.size l _ hlen HO.out).mono ?_
  rintro e w2 ⟨v', rfl, hi, hg⟩
  go_wp2_with fail
  go_ret
  exact ⟨v', by simp [go_sem], hi, (up_later HB0.out hw).grown hg (up_later HB0.out hw).size fun k hk => (HO.out.lt k hk).1⟩

/-- The plain text of a dispatch, its words, and the error. -/
def decodeE (b : Bk) (day : Int) (l : List Int) : List Int × List Int × Int :=
  if bookE b ≠ 0 then ([], [], bookE b) else if belowB day b.ds.length = false then ([], [], 2) else if dispE b day.toNat l ≠ 0 then ([], [], dispE b day.toNat l)
  else (plainsI b.n (keyOf b day.toNat) 0 ((l.take (l.length - 1)).drop 1), (plainsI b.n (keyOf b day.toNat) 0 ((l.take (l.length - 1)).drop 1)).filter (fun x => !nullB b.w x), 0)
theorem dispE_zero {b : Bk} {day : Nat} {l : List Int} (h : dispE b day l = 0) : 2 ≤ l.length ∧ l.length ≤ 12 ∧ l.all (fun x => belowB x b.n) = true ∧ l.headD 0 = indI b day ∧ l.getLastD 0 = checkI b.n l.dropLast := by
  unfold dispE at h
  split at h
  · cases h
  · rename_i h1
    split at h
    · cases h
    · rename_i h2
      split at h
      · cases h
      · rename_i h3
        refine ⟨?_, ?_, ?_, ?_, ?_⟩
        · rcases Nat.lt_or_ge l.length 2 with h | h
          · exact absurd (.inl h) h1
          · exact h
        · rcases Nat.lt_or_ge 12 l.length with h | h
          · exact absurd (.inr (.inl h)) h1
          · exact h
        · cases h4 : l.all (fun x => belowB x b.n) with
          | true => rfl
          | false => exact absurd (.inr (.inr h4)) h1
        · exact Classical.not_not.1 h2
        · exact Classical.not_not.1 h3

set_option maxRecDepth 100000 in
set_option maxHeartbeats 1500000 in
theorem Decode_any (v1 v2 v4 : Value) (b : Bk) (day : Int) (l : List Int) (w : World) (hL : BookAt w v1 v2 b) (hl : IntsAt w v4 l) :
    Calls Try.prog 28 #[bookV b v1 v2, iv day, v4] w fun e w' => ∃ v u, e = .returned (.tuple #[v, u, iv (decodeE b day l).2.2]) ∧ IntsAt w' v (decodeE b day l).1 ∧ IntsAt w' u (decodeE b day l).2.1 ∧ Below w.heap.size w w' := by
  obtain ⟨i0, hi0, hz0, hz1, hz2⟩ := info_parts int_info
  obtain ⟨_, A1, cap1, rfl, _, _⟩ := hL.ks.form
  obtain ⟨_, A2, cap2, rfl, _, _⟩ := hL.ds.form
  obtain ⟨hlen, A4, cap4, rfl, hcap, _⟩ := hl.form
  have HL := Lib.hid hL
  have HV := Lib.hid hl
  clear hL hl
  by_cases c1 : bookE b = 0
  case neg =>
    have C1 := Lib.hid c1
    have c1' : (bookE b == 0) = false := by rw [beq_eq_false_iff_ne]; exact c1
    have Hfin := Lib.hid (show decodeE b day l = ([], [], bookE b) by unfold decodeE; rw [if_pos c1])
    rw [Hfin.out]
    clear c1
    unfold bookV
    go_enter Try.func28, Try.ntmps28
    go_wp2_with fail
    refine (open_any _ _ _ b [] _ (HL.out.kept (up_alloc up0 _)) (RowsAt.nil _)).mono ?_
    rintro e w1 ⟨rfl, hb⟩
    rw [deskE_nil, if_neg C1.out]
    unfold desk0
    have hB := up_later (up_alloc (up0 (w := w)) (.cells #[iv b.n, iv b.w, .slice A1 b.ks.length cap1, .slice A2 b.ds.length cap2] 32)) hb
    clear hb
    go_wp2_with fail
    go_ret3
    exact ⟨_, _, rfl, RowsAt.nil _, RowsAt.nil _, up_alloc hB _⟩
  have C1 := Lib.hid c1
  cases c2 : belowB day b.ds.length
  case false =>
    have Hfin := Lib.hid (show decodeE b day l = ([], [], 2) by unfold decodeE; rw [if_neg (by simpa using c1), if_pos c2])
    have C2 := Lib.hid c2
    rw [Hfin.out]
    clear c1 c2
    unfold bookV
    go_enter Try.func28, Try.ntmps28
    go_wp2_with fail
    refine (open_any _ _ _ b [] _ (HL.out.kept (up_alloc up0 _)) (RowsAt.nil _)).mono ?_
    rintro e w1 ⟨rfl, hb⟩
    rw [deskE_nil, if_pos C1.out, C1.out]
    unfold deskV
    have hB := up_later (up_alloc (up0 (w := w)) (.cells #[iv b.n, iv b.w, .slice A1 b.ks.length cap1, .slice A2 b.ds.length cap2] 32)) hb
    clear hb
    go_wp2_with fail
    have B9 := Lib.hid (Box.new (w := w1) (t := 98) (cs := #[iv b.n, iv b.w, .slice A1 b.ks.length cap1, .slice A2 b.ds.length cap2, .slice none 0 0]) rfl)
    have HB := Lib.hid (up_alloc hB (.cells #[iv b.n, iv b.w, .slice A1 b.ks.length cap1, .slice A2 b.ds.length cap2, .slice none 0 0] 98))
    refine (hasDay_any _ _ _ _ _ _ day _).mono ?_
    rintro e w2 ⟨rfl, hb⟩
    have HB := Lib.hid (up_later HB.out hb)
    have B9 := Lib.hid (B9.out.kept hb)
    clear hb
    rw [C2.out]
    have BB := B9.out
    have cB := fun i => BB.cell i
    have fB := fun i => BB.free i
    have lB := BB.lt
    have mB := Nat.lt_succ_of_lt lB
    go_wp2_with fail
    clear cB fB lB mB BB
    go_ret3
    exact ⟨_, _, rfl, RowsAt.nil _, RowsAt.nil _, HB.out⟩
  have C2 := Lib.hid c2
  have HOK := Lib.hid (BookOK.of c1)
  obtain ⟨d, rfl⟩ : ∃ d : Nat, day = d := ⟨day.toNat, by have := belowB_iff.1 c2; omega⟩
  have hd : d < b.ds.length := by have := belowB_iff.1 c2; omega
  by_cases c3 : dispE b d l = 0
  case neg =>
    have c3' : (dispE b d l == 0) = false := by rw [beq_eq_false_iff_ne]; exact c3
    have Hfin := Lib.hid (show decodeE b d l = ([], [], dispE b d l) by unfold decodeE; rw [if_neg (by simpa using c1), if_neg (by simp [c2]), Int.toNat_natCast, if_pos c3])
    rw [Hfin.out]
    clear c1 c2 c3
    generalize hday : (d : Int) = day at *
    unfold bookV
    go_enter Try.func28, Try.ntmps28
    go_wp2_with fail
    refine (open_any _ _ _ b [] _ (HL.out.kept (up_alloc up0 _)) (RowsAt.nil _)).mono ?_
    rintro e w1 ⟨rfl, hb⟩
    rw [deskE_nil, if_pos C1.out, C1.out]
    unfold deskV
    have hB := up_later (up_alloc (up0 (w := w)) (.cells #[iv b.n, iv b.w, .slice A1 b.ks.length cap1, .slice A2 b.ds.length cap2] 32)) hb
    clear hb
    go_wp2_with fail
    have B9 := Lib.hid (Box.new (w := w1) (t := 98) (cs := #[iv b.n, iv b.w, .slice A1 b.ks.length cap1, .slice A2 b.ds.length cap2, .slice none 0 0]) rfl)
    have HB := Lib.hid (up_alloc hB (.cells #[iv b.n, iv b.w, .slice A1 b.ks.length cap1, .slice A2 b.ds.length cap2, .slice none 0 0] 98))
    refine (hasDay_any _ _ _ _ _ _ day _).mono ?_
    rintro e w2 ⟨rfl, hb⟩
    have HB := Lib.hid (up_later HB.out hb)
    have B9 := Lib.hid (B9.out.kept hb)
    clear hb
    rw [C2.out]
    have BB := B9.out
    have cB := fun i => BB.cell i
    have fB := fun i => BB.free i
    have lB := BB.lt
    have mB := Nat.lt_succ_of_lt lB
    go_wp2_with fail
    clear cB fB lB mB BB
    subst hday
    refine (checkDispatch_any _ _ _ _ b d l _ HOK.out (HL.out.kept HB.out) hd (HV.out.kept HB.out)).mono ?_
    rintro e w3 ⟨rfl, hb⟩
    have HB := Lib.hid (up_later HB.out hb)
    have B9 := Lib.hid (B9.out.kept hb)
    clear hb
    have BB := B9.out
    have cB := fun i => BB.cell i
    have fB := fun i => BB.free i
    have lB := BB.lt
    have mB := Nat.lt_succ_of_lt lB
    go_wp2_with fail
    clear cB fB lB mB BB
    go_ret3
    exact ⟨_, _, rfl, RowsAt.nil _, RowsAt.nil _, HB.out⟩
  obtain ⟨z1, z2, z3, _, _⟩ := dispE_zero c3
  have C3 := Lib.hid c3
  have Hfin := Lib.hid (show decodeE b d l = (plainsI b.n (keyOf b d) 0 ((l.take (l.length - 1)).drop 1), (plainsI b.n (keyOf b d) 0 ((l.take (l.length - 1)).drop 1)).filter (fun x => !nullB b.w x), 0) by
    unfold decodeE; rw [if_neg (by simpa using c1), if_neg (by simp [c2]), Int.toNat_natCast, if_neg (by simpa using c3)])
  have HIN := Lib.hid (show ∀ x ∈ (l.take (l.length - 1)).drop 1, 0 ≤ x ∧ x ≤ 1000 from fun x hx => by
    have := belowB_iff.1 (List.all_eq_true.1 z3 x (List.mem_of_mem_take (List.mem_of_mem_drop hx)))
    have := HOK.out.n2
    omega)
  obtain ⟨V, hV1, hV2⟩ := rows_between (P := Try.prog) (cells := ic) (sz := 1) (A := A4) (cap := cap4) (l := l) (r := 1) (s := l.length - 1) Try.underlying23 hi0 hz1 (by omega) (by omega) hcap .i64 .i64
  have hq : ((l.length - 1 : Nat) : Int) = (l.length : Int) - 1 := by omega
  rw [hq] at hV1
  have HW := Lib.hid (show IntKind.i64.wrap ((l.length : Int) - 1) = (l.length : Int) - 1 from wrapK_in _ 2000 (by omega) (by omega))
  have HV1 := Lib.hid hV1
  have HV2 := Lib.hid hV2
  rw [Hfin.out]
  obtain ⟨P, hP⟩ : ∃ P, plainsI b.n (keyOf b d) 0 ((l.take (l.length - 1)).drop 1) = P := ⟨_, rfl⟩
  have HP := Lib.hid hP
  have HPl := Lib.hid (show P.length ≤ 1000 by rw [← hP, plainsI_len, List.length_drop, List.length_take]; omega)
  rw [HP.out]
  clear c1 c2 c3 hV1 hV2 hq hP z1 z2 z3
  generalize hday : (d : Int) = day at *
  unfold bookV
  go_enter Try.func28, Try.ntmps28
  go_wp2_with fail
  refine (open_any _ _ _ b [] _ (HL.out.kept (up_alloc up0 _)) (RowsAt.nil _)).mono ?_
  rintro e w1 ⟨rfl, hb⟩
  rw [deskE_nil, if_pos C1.out, C1.out]
  unfold deskV
  have hB := up_later (up_alloc (up0 (w := w)) (.cells #[iv b.n, iv b.w, .slice A1 b.ks.length cap1, .slice A2 b.ds.length cap2] 32)) hb
  clear hb
  go_wp2_with fail
  have B9 := Lib.hid (Box.new (w := w1) (t := 98) (cs := #[iv b.n, iv b.w, .slice A1 b.ks.length cap1, .slice A2 b.ds.length cap2, .slice none 0 0]) rfl)
  have HB := Lib.hid (up_alloc hB (.cells #[iv b.n, iv b.w, .slice A1 b.ks.length cap1, .slice A2 b.ds.length cap2, .slice none 0 0] 98))
  refine (hasDay_any _ _ _ _ _ _ day _).mono ?_
  rintro e w2 ⟨rfl, hb⟩
  have HB := Lib.hid (up_later HB.out hb)
  have B9 := Lib.hid (B9.out.kept hb)
  clear hb
  rw [C2.out]
  have BB := B9.out
  have cB := fun i => BB.cell i
  have fB := fun i => BB.free i
  have lB := BB.lt
  have mB := Nat.lt_succ_of_lt lB
  go_wp2_with fail
  clear cB fB lB mB BB
  subst hday
  refine (checkDispatch_any _ _ _ _ b d l _ HOK.out (HL.out.kept HB.out) hd (HV.out.kept HB.out)).mono ?_
  rintro e w3 ⟨rfl, hb⟩
  rw [C3.out]
  have HB := Lib.hid (up_later HB.out hb)
  have B9 := Lib.hid (B9.out.kept hb)
  clear hb
  have BB := B9.out
  have cB := fun i => BB.cell i
  have fB := fun i => BB.free i
  have lB := BB.lt
  have mB := Nat.lt_succ_of_lt lB
  go_wp2_with fail
  clear cB fB lB mB BB
  have B9 := B9.out
  apply wp_region_by 7 [(Fact.eq _), (Fact.eq _), (Fact.eq _), (Fact.eq _), (Fact.eq _), (Fact.eq _), (Fact.eq V)]
  case hm => kernel_rfl
  case hB => kernel_rfl
  case hA => (intro vs; simp only [List.take_succ_cons, List.take_zero, putAll, if_true, Act.put, List.setIfInBounds_toArray, List.set_cons_zero, List.set_cons_succ]; exact rfl)
  case hstep =>
    intro vs
    refine And.intro (fun w hw hd => ?_) ?_
    · refine ite_yes rfl ?_
      have c_B9 := fun i => (B9.kept hw).cell i
      simp only [Gives]
      go_simp
      exact ⟨Below.refl _ _, rfl, fun h => by cases h⟩
    refine And.intro (fun w hw hd => ?_) ?_
    · refine ite_yes rfl ?_
      simp only [Gives]
      go_simp
      exact ⟨Below.refl _ _, rfl, fun h => by cases h⟩
    refine And.intro (fun w hw hd => ?_) ?_
    · refine ite_yes rfl ?_
      simp only [Gives]
      go_simp
      exact ⟨Below.refl _ _, rfl, fun h => by cases h⟩
    refine And.intro (fun w hw hd => ?_) ?_
    · refine ite_yes rfl ?_
      simp only [Gives]
      go_simp
      exact ⟨Below.refl _ _, rfl, fun h => by cases h⟩
    refine And.intro (fun w hw hd => ?_) ?_
    · have d3 := hd 3 (by decide) rfl
      change vs 3 = _ at d3
      refine ite_yes rfl ?_
      simp only [Gives]
      go_simp
      exact ⟨Below.refl _ _, rfl, fun h => by cases h⟩
    refine And.intro (fun w hw hd => ?_) ?_
    · have d4 := hd 4 (by decide) rfl
      change vs 4 = _ at d4
      refine ite_yes rfl ?_
      simp only [Gives]
      go_simp
      exact ⟨Below.refl _ _, rfl, fun h => by cases h⟩
    refine And.intro (fun w hw hd => ?_) ?_
    · have d2 := hd 2 (by decide) rfl
      change vs 2 = _ at d2
      have d5 := hd 5 (by decide) rfl
      change vs 5 = _ at d5
      refine ite_yes rfl ?_
      simp only [Gives]
      refine gives_slice 23 (.tmp 33) (some (.const (.int .i64 1))) (some (.tmp 36)) rfl (.slice A4 l.length cap4) V (some (.int .i64 1)) (some (.int .i64 ((l.length : Int) - 1))) ?_ ?_ ?_ (HV1.out _) ⟨Below.refl _ _, rfl, fun h => by cases h⟩
      all_goals (go_simp)
      all_goals exact HW.out
    exact trivial
  intro vs wt hw hd hne hlo
  have d0 := hd 0 (by decide)
  change vs 0 = _ at d0
  have d1 := hd 1 (by decide)
  change vs 1 = _ at d1
  have d2 := hd 2 (by decide)
  change vs 2 = _ at d2
  have d3 := hd 3 (by decide)
  change vs 3 = _ at d3
  have d4 := hd 4 (by decide)
  change vs 4 = _ at d4
  have d5 := hd 5 (by decide)
  change vs 5 = _ at d5
  have d6 := hd 6 (by decide)
  change vs 6 = _ at d6
  simp only [d0, d1, d2, d3, d4, d5, List.drop_succ_cons, List.drop_zero]
  have B9 := B9.kept hw
  have c_B9 := fun i => B9.cell i
  have f_B9 := fun i => B9.free i
  clear hd hne hlo d0 d1 d2 d3 d4 d5
  have HB := Lib.hid (up_later HB.out hw)
  clear c_B9 f_B9 hw
  have B9 := Lib.hid B9
  simp only [Nat.zero_add, Nat.reduceAdd, d6]
  go_wp2_with fail
  refine (decoded_any _ _ _ V b d ((l.take (l.length - 1)).drop 1) _ HOK.out (HL.out.kept HB.out) hd (HV2.out _ (HV.out.kept HB.out)) HIN.out).mono ?_
  rintro e w4 ⟨v, rfl, ho, hb⟩
  rw [HP.out] at ho
  have hi := ints_of_own ho (by rw [← HP.out, plainsI_len]) HPl.out
  clear ho
  have Hi := Lib.hid hi
  clear hi
  have HB := Lib.hid (up_later HB.out hb)
  have B9 := Lib.hid (B9.out.kept hb)
  clear hb
  have BB := B9.out
  have cB := fun i => BB.cell i
  have fB := fun i => BB.free i
  have lB := BB.lt
  have mB := Nat.lt_succ_of_lt lB
  go_wp2_with fail
  clear cB fB lB mB BB
  refine (words_any _ _ _ _ _ _ P _ Hi.out).mono ?_
  rintro e w5 ⟨u, rfl, hu, hb⟩
  have Hi := Lib.hid (Hi.out.kept hb)
  have HU := Lib.hid hu
  clear hu
  have HB := Lib.hid (up_later HB.out hb)
  have B9 := Lib.hid (B9.out.kept hb)
  clear hb
  go_wp2_with fail
  go_ret3
  exact ⟨v, u, rfl, Hi.out, HU.out, HB.out⟩

end Go.Proofs.Ytkhfkmfofhnmdaa
