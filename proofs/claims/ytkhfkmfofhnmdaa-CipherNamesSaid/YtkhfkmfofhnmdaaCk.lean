/-
  WALK of '(desk).dispatch'. Conditions: the book is valid, the list is short.
-/
import Derived.Test.YtkhfkmfofhnmdaaCj
namespace Go.Proofs.Ytkhfkmfofhnmdaa
open Go.RowKit

theorem codesI_len (n : Int) (k : Ky) (i : Nat) (l : List Int) : (codesI n k i l).length = l.length := by rw [codesI_eq, mapI_len]
theorem plainsI_len (n : Int) (k : Ky) (i : Nat) (l : List Int) : (plainsI n k i l).length = l.length := by rw [plainsI_eq, mapI_len]
theorem codesI_in {n : Int} (k : Ky) (h : 0 < n) : ∀ (i : Nat) (l : List Int), ∀ x ∈ codesI n k i l, 0 ≤ x ∧ x < n
  | _, [], x, hx => by simp [codesI] at hx
  | i, p :: l, x, hx => by
    rw [codesI, List.mem_cons] at hx
    rcases hx with rfl | hx
    · exact codeI_in h
    · exact codesI_in k h (i + 1) l x hx
theorem plainsI_in {n : Int} (k : Ky) (h : 0 < n) : ∀ (i : Nat) (l : List Int), ∀ x ∈ plainsI n k i l, 0 ≤ x ∧ x < n
  | _, [], x, hx => by simp [plainsI] at hx
  | i, p :: l, x, hx => by
    rw [plainsI, List.mem_cons] at hx
    rcases hx with rfl | hx
    · exact plainI_in h
    · exact plainsI_in k h (i + 1) l x hx
theorem indI_in {b : Bk} (hok : BookOK b) (day : Nat) : 0 ≤ indI b day ∧ indI b day < 5 := by
  have h1 := hok.k1
  have h2 := hok.k2
  have a := Int.emod_nonneg (b.ds.getD day 0 + (day : Int)) (show (b.ks.length : Int) ≠ 0 by omega)
  have c := Int.emod_lt_of_pos (b.ds.getD day 0 + (day : Int)) (show (0 : Int) < b.ks.length by omega)
  unfold indI
  omega

theorem ints_box {w : World} {g : Nat} {l : List Int} (h : Box w g 3 (l.map iv).toArray) (hl : l.length ≤ 1000) : IntsAt w (.slice (some ⟨g, 0, none⟩) l.length l.length) l :=
  ⟨hl, _, _, rfl, Nat.le_refl _, by omega, fun _ => ⟨g, 0, rfl, h.lt, fun i x hx j u hu => by
    have hj : j = 0 := by
      rcases j with _ | j
      · rfl
      · simp [ic] at hu
    subst hj
    have hux : u = iv x := by simpa [ic] using hu.symm
    subst hux
    rw [show 0 + i * 1 + 0 = i by omega, h.cell i]
    simp [hx]⟩⟩

set_option maxRecDepth 100000 in
set_option maxHeartbeats 1000000 in
theorem dispatch_any (v1 v2 v3 v4 : Value) (b : Bk) (day : Nat) (l : List Int) (w : World) (hok : BookOK b) (hL : BookAt w v1 v2 b) (hd : day < b.ds.length) (hl : IntsAt w v4 l) (hin : ∀ x ∈ l, 0 ≤ x ∧ x ≤ 1000) (hlen : l.length ≤ 50) :
    Calls Try.prog 59 #[deskV b v1 v2 v3, iv day, v4] w fun e w' => ∃ v, e = .returned v ∧ w'.ownsRow w.heap.size 3 1 v (l.length + 2) ((dispatchI b day l).map iv) ∧ Below w.heap.size w w' := by
  obtain ⟨i0, hi0, hz0, hz1, hz2⟩ := info_parts int_info
  obtain ⟨_, A1, cap1, rfl, _, _⟩ := hL.ks.form
  obtain ⟨_, A2, cap2, rfl, _, _⟩ := hL.ds.form
  obtain ⟨_, A4, cap4, rfl, _, _⟩ := hl.form
  have HL := Lib.hid hL
  have HV := Lib.hid hl
  have HI := Lib.hid hin
  have HOK := Lib.hid hok
  have Hlc := Lib.hid (codesI_len b.n (keyOf b day) 0 l)
  clear hL hl hin hok
  have hd' := hd
  unfold deskV
  go_enter Try.func59, Try.ntmps59
  go_wp2_with fail
  have B3 := Box.new (w := w) (t := 98) (cs := #[iv b.n, iv b.w, .slice A1 b.ks.length cap1, .slice A2 b.ds.length cap2, v3]) rfl
  have HB0 := Lib.hid (up_alloc (up0 (w := w)) (.cells #[iv b.n, iv b.w, .slice A1 b.ks.length cap1, .slice A2 b.ds.length cap2, v3] 98))
  have HL := Lib.hid (HL.out.kept HB0.out)
  have HV := Lib.hid (HV.out.kept HB0.out)
  apply wp_region_by 8 [(Fact.eq _), (Fact.eq _), (Fact.eq _), (Fact.sl 1 3 #[iv (indI b day)]), (Fact.eq _), (Fact.eq _), (Fact.eq _), (Fact.row 1 ic (codesI b.n (keyOf b day) 0 l))]
  case hm => kernel_rfl
  case hB => kernel_rfl
  case hA => (intro vs; simp only [List.take_succ_cons, List.take_zero, putAll, if_true, Act.put, List.setIfInBounds_toArray, List.set_cons_zero, List.set_cons_succ]; exact rfl)
  case hstep =>
    intro vs
    refine And.intro (fun w hw hd => ?_) ?_
    · refine ite_yes rfl ?_
      have c_B3 := fun i => (B3.kept hw).cell i
      simp only [Gives]
      go_simp
      exact ⟨Below.refl _ _, rfl, fun h => by cases h⟩
    refine And.intro (fun w hw hd => ?_) ?_
    · refine ite_yes rfl ?_
      simp only [Gives]
      go_simp
      exact ⟨Below.refl _ _, rfl, fun h => by cases h⟩
    refine And.intro (fun w hw hd => ?_) ?_
    · have d0 := hd 0 (by decide) rfl
      change vs 0 = _ at d0
      have d1 := hd 1 (by decide) rfl
      change vs 1 = _ at d1
      refine ite_yes rfl ?_
      simp only [Gives]
      go_simp
      refine (indicator_any _ _ _ b day w HOK.out (HL.out.kept hw) hd').mono ?_
      rintro e w1 ⟨rfl, hb⟩
      exact ⟨_, rfl, hb, rfl, fun h => by cases h⟩
    refine And.intro (fun w hw hd => ?_) ?_
    · have d2 := hd 2 (by decide) rfl
      change vs 2 = _ at d2
      refine ite_yes rfl ?_
      simp only [Gives]
      go_simp
      exact ⟨(Below.refl _ _).alloc (Nat.le_refl _) _, ⟨_, rfl, Box.new rfl⟩, fun h => by cases h⟩
    refine And.intro (fun w hw hd => ?_) ?_
    · refine ite_yes rfl ?_
      have c_B3 := fun i => (B3.kept hw).cell i
      simp only [Gives]
      go_simp
      exact ⟨Below.refl _ _, rfl, fun h => by cases h⟩
    refine And.intro (fun w hw hd => ?_) ?_
    · refine ite_yes rfl ?_
      simp only [Gives]
      go_simp
      exact ⟨Below.refl _ _, rfl, fun h => by cases h⟩
    refine And.intro (fun w hw hd => ?_) ?_
    · refine ite_yes rfl ?_
      simp only [Gives]
      go_simp
      exact ⟨Below.refl _ _, rfl, fun h => by cases h⟩
    refine And.intro (fun w hw hd => ?_) ?_
    · have d4 := hd 4 (by decide) rfl
      change vs 4 = _ at d4
      have d5 := hd 5 (by decide) rfl
      change vs 5 = _ at d5
      have d6 := hd 6 (by decide) rfl
      change vs 6 = _ at d6
      refine ite_yes rfl ?_
      simp only [Gives]
      go_simp
      refine (coded_any _ _ _ _ b day l _ HOK.out (HL.out.kept hw) hd' (HV.out.kept hw) HI.out).mono ?_
      rintro e w1 ⟨v, rfl, ho, hb⟩
      exact ⟨_, rfl, hb, ints_of_own ho Hlc.out.symm (by rw [Hlc.out]; omega), fun h => by cases h⟩
    exact trivial
  intro vs wt hw hd hne hlo
  have d0 := hd 0 (by decide)
  change vs 0 = _ at d0
  have d1 := hd 1 (by decide)
  change vs 1 = _ at d1
  have d2 := hd 2 (by decide)
  change vs 2 = _ at d2
  have d3 := hd 3 (by decide)
  obtain ⟨n3, d3, N3⟩ := d3
  have d4 := hd 4 (by decide)
  change vs 4 = _ at d4
  have d5 := hd 5 (by decide)
  change vs 5 = _ at d5
  have d6 := hd 6 (by decide)
  change vs 6 = _ at d6
  have d7 := hd 7 (by decide)
  simp only [d0, d1, d2, d4, d5, d6, List.drop_succ_cons, List.drop_zero]
  have B3 := B3.kept hw
  have c_B3 := fun i => B3.cell i
  have f_B3 := fun i => B3.free i
  clear hd hne hlo d0 d1 d2 d4 d5 d6
  have d7' : IntsAt wt (vs 7) (codesI b.n (keyOf b day) 0 l) := d7
  clear d7 c_B3 f_B3
  obtain ⟨_, A7, p7, e7, _, _⟩ := d7'.form
  rw [e7] at d7'
  simp only [Nat.zero_add, Nat.reduceAdd, d3, e7]
  clear d3 e7
  have HC := Lib.hid d7'
  clear d7'
  go_wp2_with fail
  have hind := indI_in HOK.out day
  have hB1 := up_alloc (up_later HB0.out hw) (.cells #[.slice (some ⟨n3, 0, none⟩) 1 1, .slice A7 (codesI b.n (keyOf b day) 0 l).length p7] 23)
  refine (Concat_any wt.heap.size _ _ [indI b day] (codesI b.n (keyOf b day) 0 l) _ (Box.new rfl) (ints_box (l := [indI b day]) (N3.alloc _) (by simp)) (HC.out.kept (up_alloc up0 _)) (by simp) (by simp [Hlc.out]; omega)).mono ?_
  rintro e w1 ⟨v, rfl, ho, hb⟩
  have B3 := (B3.alloc (.cells #[.slice (some ⟨n3, 0, none⟩) 1 1, .slice A7 (codesI b.n (keyOf b day) 0 l).length p7] 23)).kept hb
  have hB := up_later hB1 hb
  have ho := own_mono (n0 := w.heap.size) ho hB1.size
  obtain ⟨A8, m8, p8, rfl⟩ := own_form ho
  have HO := Lib.hid ho
  have c3 := fun i => B3.cell i
  clear hB1 hb ho N3 HC
  go_wp2_with fail
  have hcin : ∀ x ∈ indI b day :: codesI b.n (keyOf b day) 0 l, 0 ≤ x ∧ x ≤ 1000 := by
    intro x hx
    rcases List.mem_cons.1 hx with rfl | hx
    · omega
    · have := codesI_in (n := b.n) (keyOf b day) (by have := HOK.out.n1; omega) 0 l x hx
      have := HOK.out.n2
      omega
  refine (check_any b.n b.w _ _ _ _ (indI b day :: codesI b.n (keyOf b day) 0 l) w1 (by have := HOK.out.n1; omega) (ints_of_own HO.out (by simp; omega) (by simp [Hlc.out]; omega)) hcin (by simp [Hlc.out]; omega)).mono ?_
  rintro e w2 ⟨rfl, hb⟩
  have hB := up_later hB hb
  have HO := Lib.hid (own_below HO.out hb)
  clear c3 B3 hb hcin
  go_wp2_with (at_builtin; go_loud (refine wpList_append_own_at _ rfl (.tmp 18) (.tmp 22) 23 rfl w.heap.size 3 i0 _ 1 8 Try.underlying23 hi0 hz0 hz1 hz2 rfl (by decide) _ _ _ rfl (HO.out.alloc _) ⟨w2.heap.size, 0, none⟩ 1 1 [iv (checkI b.n (indI b day :: codesI b.n (keyOf b day) 0 l))] rfl rfl (cell_one_new _ _ _) (by simp [Value.oneCell']) (by simp [Hlc.out]; unfold maxLen; omega) (by simp [Hlc.out]; omega) (by have := hB.size; simp; omega) ?_); intro v' w3 hown' hgrow _ _)
  go_ret
  refine ⟨v', by simp [go_sem], ?_, (up_alloc hB _).grown hgrow (up_alloc hB _).size fun k hk => (HO.out.lt k hk).1⟩
  have e : (dispatchI b day l).map iv = (([indI b day] ++ codesI b.n (keyOf b day) 0 l).map iv) ++ [iv (checkI b.n (indI b day :: codesI b.n (keyOf b day) 0 l))] := by
    unfold dispatchI
    rw [List.map_append]
    rfl
  rw [e, show l.length + 2 = [indI b day].length + (codesI b.n (keyOf b day) 0 l).length + 1 by simp [Hlc.out]; omega]
  exact hown'

end Go.Proofs.Ytkhfkmfofhnmdaa
