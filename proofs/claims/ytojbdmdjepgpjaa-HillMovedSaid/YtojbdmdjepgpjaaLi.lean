/-
  WALK of '(Land).valid' (part Li). Conditions: lists have at most 1000 elements.
-/
import Derived.Test.YtojbdmdjepgpjaaLe
namespace Go.Proofs.Ytojbdmdjepgpjaa
open Go.RowKit

set_option maxRecDepth 100000 in
set_option maxHeartbeats 4000000 in
theorem valid_0 (v1 v2 v3 v4 : Value) (L : Ld) (c : List (Value × List Cl)) (w : World) (hL : LandAt w v1 v2 v3 v4 L c) (h1 : ¬ 0 < L.st.length) :
    Calls Try.prog 44 #[.agg #[v1, v2, v3, v4]] w fun e w' => e = .returned (.bool (validB L)) ∧ Below w.heap.size w w' := by
  have hB : Below w.heap.size w w := up0
  have hL0 := hL
  obtain ⟨hn1, A1, cap1, rfl, _, _⟩ := hL.st.form
  obtain ⟨hn2, A2, cap2, rfl, _, _⟩ := hL.rg.form
  obtain ⟨hn3, A3, cap3, rfl, _, _⟩ := hL.cs.form
  obtain ⟨hn4, A4, cap4, rfl, _, _⟩ := hL.sn.form
  have hfin : validB L = (decide (0 < L.st.length) && decide (0 < c.length) && decide (0 < L.sn.length) && L.st.all stB && apartB L.st && L.rg.all rgB && (c.all fun x => x.2.all (clB ((L.sn.length : Int) - 1))) && L.sn.all snB) := by
    rw [cs_len hL.eq, cs_all hL.eq fun x => x.all (clB ((L.sn.length : Int) - 1))]
    rfl
  have Hfin := Lib.hid hfin
  clear hfin
  have HL := Lib.hid hL
  clear hL hL0
  go_enter Try.func44, Try.ntmps44
  go_upto_region 2 with (go_at_call 68; refine (frame_any _ _ _ _ _ _ _ _ _ _ _ _ _ hn4).mono ?_; rintro e w1 ⟨rfl, hb1⟩)
  have B1 := (Box.later hb1 (Box.new (w := w) (t := 37) (cs := #[.slice A1 L.st.length cap1, .slice A2 L.rg.length cap2, .slice A3 c.length cap3, .slice A4 L.sn.length cap4]) rfl)).alloc (.cells #[iv 0, iv 100, iv 0, iv 1000, iv 1, iv 2, iv (-100), iv 100, iv 0, iv ((L.sn.length : Int) - 1)] 121)
  have B3 := Box.new (w := w1) (t := 121) (cs := #[iv 0, iv 100, iv 0, iv 1000, iv 1, iv 2, iv (-100), iv 100, iv 0, iv ((L.sn.length : Int) - 1)]) rfl
  have hB := up_alloc (up_later (up_alloc up0 _) hb1) (.cells #[iv 0, iv 100, iv 0, iv 1000, iv 1, iv 2, iv (-100), iv 100, iv 0, iv ((L.sn.length : Int) - 1)] 121)
  have HLt := Lib.hid (HL.out.kept hB)
  clear HL
  refine wp_region_lit ?_
  apply wpList_by 49 [(Fact.eq _), (Fact.eq _), (Fact.eq _), (Fact.eq _), (Fact.eq _), (Fact.eq _), (Fact.eq _), (Fact.eq _), (Fact.eq _), (Fact.eq _), (Fact.eq _), (Fact.eq _), (Fact.eq _), (Fact.eq _), (Fact.eq _), (Fact.eq _), (Fact.eq _), (Fact.eq _), (Fact.eq _), (Fact.eq _), (Fact.eq _), (Fact.eq _), (Fact.eq _), (Fact.eq _), (Fact.eq _), (Fact.eq _), (Fact.eq _), (Fact.eq _), (Fact.eq _), (Fact.eq _), (Fact.eq _), (Fact.eq _), (Fact.eq _), (Fact.eq _), (Fact.eq _), (Fact.eq _), (Fact.eq _), (Fact.eq _), (Fact.eq _), (Fact.eq _), (Fact.eq _), (Fact.eq _), (Fact.eq _), (Fact.eq _), (Fact.eq _), (Fact.eq _), (Fact.eq _), (Fact.eq _), (Fact.eq _)]
  case hB => kernel_rfl
  case hA => (intro vs; simp only [List.take_succ_cons, List.take_zero, putAll, if_true, Act.put, List.setIfInBounds_toArray, List.set_cons_zero, List.set_cons_succ]; exact rfl)
  case hstep =>
    intro vs
    refine And.intro (fun w hw hd => ?_) ?_
    · refine ite_yes rfl ?_
      simp only [Gives]
      go_simp
      exact ⟨Below.refl _ _, rfl, fun h => by cases h⟩
    refine And.intro (fun w hw hd => ?_) ?_
    · have d0 := hd 0 (by decide) rfl
      change vs 0 = _ at d0
      refine ite_yes rfl ?_
      have c_B1 := fun i => (B1.kept hw).cell i
      have c_B3 := fun i => (B3.kept hw).cell i
      simp only [Gives]
      go_simp
      exact ⟨Below.refl _ _, rfl, fun h => by cases h⟩
    refine And.intro (fun w hw hd => ?_) ?_
    · have d1 := hd 1 (by decide) rfl
      change vs 1 = _ at d1
      refine ite_yes rfl ?_
      simp only [Gives]
      go_simp
      exact ⟨Below.refl _ _, rfl, fun h => by cases h⟩
    refine And.intro (fun w hw hd => ?_) ?_
    · have d2 := hd 2 (by decide) rfl
      change vs 2 = _ at d2
      refine ite_yes rfl ?_
      simp only [Gives]
      go_simp
      exact ⟨Below.refl _ _, rfl, fun h => by cases h⟩
    refine And.intro (fun w hw hd => ?_) ?_
    · have d3 := hd 3 (by decide) rfl
      change vs 3 = _ at d3
      refine ite_yes rfl ?_
      simp only [Gives]
      go_simp
      exact ⟨Below.refl _ _, rfl, fun h => by cases h⟩
    refine And.intro (fun w hw hd => ?_) ?_
    · have d4 := hd 4 (by decide) rfl
      change vs 4 = _ at d4
      refine ite_no (by simp [Region.wanted, yielded, d4]) ?_
      exact ⟨rfl, rfl⟩
    refine And.intro (fun w hw hd => ?_) ?_
    · have d5 := hd 5 (by decide) rfl
      change vs 5 = _ at d5
      have d4 := hd 4 (by decide) rfl
      change vs 4 = _ at d4
      refine ite_no (by simp [Region.wanted, yielded, d4]) ?_
      exact ⟨rfl, rfl⟩
    refine And.intro (fun w hw hd => ?_) ?_
    · have d6 := hd 6 (by decide) rfl
      change vs 6 = _ at d6
      have d4 := hd 4 (by decide) rfl
      change vs 4 = _ at d4
      refine ite_no (by simp [Region.wanted, yielded, d4]) ?_
      exact ⟨rfl, rfl⟩
    refine And.intro (fun w hw hd => ?_) ?_
    · have d7 := hd 7 (by decide) rfl
      change vs 7 = _ at d7
      have d4 := hd 4 (by decide) rfl
      change vs 4 = _ at d4
      refine ite_no (by simp [Region.wanted, yielded, d4]) ?_
      exact ⟨rfl, rfl⟩
    refine And.intro (fun w hw hd => ?_) ?_
    · have d4 := hd 4 (by decide) rfl
      change vs 4 = _ at d4
      have d8 := hd 8 (by decide) rfl
      change vs 8 = _ at d8
      refine ite_yes rfl ?_
      simp only [Gives]
      go_simp
      exact ⟨Below.refl _ _, rfl, fun h => by cases h⟩
    refine And.intro (fun w hw hd => ?_) ?_
    · have d9 := hd 9 (by decide) rfl
      change vs 9 = _ at d9
      refine ite_yes rfl ?_
      simp only [Gives]
      go_simp
      exact ⟨Below.refl _ _, rfl, fun h => by cases h⟩
    refine And.intro (fun w hw hd => ?_) ?_
    · have d10 := hd 10 (by decide) rfl
      change vs 10 = _ at d10
      refine ite_no (by simp [Region.wanted, yielded, d10]) ?_
      exact ⟨rfl, rfl⟩
    refine And.intro (fun w hw hd => ?_) ?_
    · have d11 := hd 11 (by decide) rfl
      change vs 11 = _ at d11
      have d10 := hd 10 (by decide) rfl
      change vs 10 = _ at d10
      refine ite_no (by simp [Region.wanted, yielded, d10]) ?_
      exact ⟨rfl, rfl⟩
    refine And.intro (fun w hw hd => ?_) ?_
    · have d12 := hd 12 (by decide) rfl
      change vs 12 = _ at d12
      have d10 := hd 10 (by decide) rfl
      change vs 10 = _ at d10
      refine ite_no (by simp [Region.wanted, yielded, d10]) ?_
      exact ⟨rfl, rfl⟩
    refine And.intro (fun w hw hd => ?_) ?_
    · have d13 := hd 13 (by decide) rfl
      change vs 13 = _ at d13
      have d10 := hd 10 (by decide) rfl
      change vs 10 = _ at d10
      refine ite_no (by simp [Region.wanted, yielded, d10]) ?_
      exact ⟨rfl, rfl⟩
    refine And.intro (fun w hw hd => ?_) ?_
    · have d10 := hd 10 (by decide) rfl
      change vs 10 = _ at d10
      have d14 := hd 14 (by decide) rfl
      change vs 14 = _ at d14
      refine ite_yes rfl ?_
      simp only [Gives]
      go_simp
      exact ⟨Below.refl _ _, rfl, fun h => by cases h⟩
    refine And.intro (fun w hw hd => ?_) ?_
    · have d15 := hd 15 (by decide) rfl
      change vs 15 = _ at d15
      refine ite_yes rfl ?_
      simp only [Gives]
      go_simp
      exact ⟨Below.refl _ _, rfl, fun h => by cases h⟩
    refine And.intro (fun w hw hd => ?_) ?_
    · have d16 := hd 16 (by decide) rfl
      change vs 16 = _ at d16
      refine ite_no (by simp [Region.wanted, yielded, d16]) ?_
      exact ⟨rfl, rfl⟩
    refine And.intro (fun w hw hd => ?_) ?_
    · have d17 := hd 17 (by decide) rfl
      change vs 17 = _ at d17
      have d16 := hd 16 (by decide) rfl
      change vs 16 = _ at d16
      refine ite_no (by simp [Region.wanted, yielded, d16]) ?_
      exact ⟨rfl, rfl⟩
    refine And.intro (fun w hw hd => ?_) ?_
    · have d16 := hd 16 (by decide) rfl
      change vs 16 = _ at d16
      refine ite_no (by simp [Region.wanted, yielded, d16]) ?_
      exact ⟨rfl, rfl⟩
    refine And.intro (fun w hw hd => ?_) ?_
    · have d19 := hd 19 (by decide) rfl
      change vs 19 = _ at d19
      have d16 := hd 16 (by decide) rfl
      change vs 16 = _ at d16
      refine ite_no (by simp [Region.wanted, yielded, d16]) ?_
      exact ⟨rfl, rfl⟩
    refine And.intro (fun w hw hd => ?_) ?_
    · have d18 := hd 18 (by decide) rfl
      change vs 18 = _ at d18
      have d20 := hd 20 (by decide) rfl
      change vs 20 = _ at d20
      have d16 := hd 16 (by decide) rfl
      change vs 16 = _ at d16
      refine ite_no (by simp [Region.wanted, yielded, d16]) ?_
      exact ⟨rfl, rfl⟩
    refine And.intro (fun w hw hd => ?_) ?_
    · have d16 := hd 16 (by decide) rfl
      change vs 16 = _ at d16
      have d21 := hd 21 (by decide) rfl
      change vs 21 = _ at d21
      refine ite_yes rfl ?_
      simp only [Gives]
      go_simp
      exact ⟨Below.refl _ _, rfl, fun h => by cases h⟩
    refine And.intro (fun w hw hd => ?_) ?_
    · have d22 := hd 22 (by decide) rfl
      change vs 22 = _ at d22
      refine ite_yes rfl ?_
      simp only [Gives]
      go_simp
      exact ⟨Below.refl _ _, rfl, fun h => by cases h⟩
    refine And.intro (fun w hw hd => ?_) ?_
    · have d23 := hd 23 (by decide) rfl
      change vs 23 = _ at d23
      refine ite_no (by simp [Region.wanted, yielded, d23]) ?_
      exact ⟨rfl, rfl⟩
    refine And.intro (fun w hw hd => ?_) ?_
    · have d24 := hd 24 (by decide) rfl
      change vs 24 = _ at d24
      have d23 := hd 23 (by decide) rfl
      change vs 23 = _ at d23
      refine ite_no (by simp [Region.wanted, yielded, d23]) ?_
      exact ⟨rfl, rfl⟩
    refine And.intro (fun w hw hd => ?_) ?_
    · have d23 := hd 23 (by decide) rfl
      change vs 23 = _ at d23
      have d25 := hd 25 (by decide) rfl
      change vs 25 = _ at d25
      refine ite_yes rfl ?_
      simp only [Gives]
      go_simp
      exact ⟨Below.refl _ _, rfl, fun h => by cases h⟩
    refine And.intro (fun w hw hd => ?_) ?_
    · have d26 := hd 26 (by decide) rfl
      change vs 26 = _ at d26
      refine ite_yes rfl ?_
      simp only [Gives]
      go_simp
      exact ⟨Below.refl _ _, rfl, fun h => by cases h⟩
    refine And.intro (fun w hw hd => ?_) ?_
    · have d27 := hd 27 (by decide) rfl
      change vs 27 = _ at d27
      refine ite_no (by simp [Region.wanted, yielded, d27]) ?_
      exact ⟨rfl, rfl⟩
    refine And.intro (fun w hw hd => ?_) ?_
    · have d28 := hd 28 (by decide) rfl
      change vs 28 = _ at d28
      have d27 := hd 27 (by decide) rfl
      change vs 27 = _ at d27
      refine ite_no (by simp [Region.wanted, yielded, d27]) ?_
      exact ⟨rfl, rfl⟩
    refine And.intro (fun w hw hd => ?_) ?_
    · have d27 := hd 27 (by decide) rfl
      change vs 27 = _ at d27
      refine ite_no (by simp [Region.wanted, yielded, d27]) ?_
      exact ⟨rfl, rfl⟩
    refine And.intro (fun w hw hd => ?_) ?_
    · have d30 := hd 30 (by decide) rfl
      change vs 30 = _ at d30
      have d27 := hd 27 (by decide) rfl
      change vs 27 = _ at d27
      refine ite_no (by simp [Region.wanted, yielded, d27]) ?_
      exact ⟨rfl, rfl⟩
    refine And.intro (fun w hw hd => ?_) ?_
    · have d29 := hd 29 (by decide) rfl
      change vs 29 = _ at d29
      have d31 := hd 31 (by decide) rfl
      change vs 31 = _ at d31
      have d27 := hd 27 (by decide) rfl
      change vs 27 = _ at d27
      refine ite_no (by simp [Region.wanted, yielded, d27]) ?_
      exact ⟨rfl, rfl⟩
    refine And.intro (fun w hw hd => ?_) ?_
    · have d27 := hd 27 (by decide) rfl
      change vs 27 = _ at d27
      have d32 := hd 32 (by decide) rfl
      change vs 32 = _ at d32
      refine ite_yes rfl ?_
      simp only [Gives]
      go_simp
      exact ⟨Below.refl _ _, rfl, fun h => by cases h⟩
    refine And.intro (fun w hw hd => ?_) ?_
    · have d33 := hd 33 (by decide) rfl
      change vs 33 = _ at d33
      refine ite_yes rfl ?_
      simp only [Gives]
      go_simp
      exact ⟨Below.refl _ _, rfl, fun h => by cases h⟩
    refine And.intro (fun w hw hd => ?_) ?_
    · have d34 := hd 34 (by decide) rfl
      change vs 34 = _ at d34
      refine ite_no (by simp [Region.wanted, yielded, d34]) ?_
      exact ⟨rfl, rfl⟩
    refine And.intro (fun w hw hd => ?_) ?_
    · have d35 := hd 35 (by decide) rfl
      change vs 35 = _ at d35
      have d34 := hd 34 (by decide) rfl
      change vs 34 = _ at d34
      refine ite_no (by simp [Region.wanted, yielded, d34]) ?_
      exact ⟨rfl, rfl⟩
    refine And.intro (fun w hw hd => ?_) ?_
    · have d34 := hd 34 (by decide) rfl
      change vs 34 = _ at d34
      refine ite_no (by simp [Region.wanted, yielded, d34]) ?_
      exact ⟨rfl, rfl⟩
    refine And.intro (fun w hw hd => ?_) ?_
    · have d37 := hd 37 (by decide) rfl
      change vs 37 = _ at d37
      have d34 := hd 34 (by decide) rfl
      change vs 34 = _ at d34
      refine ite_no (by simp [Region.wanted, yielded, d34]) ?_
      exact ⟨rfl, rfl⟩
    refine And.intro (fun w hw hd => ?_) ?_
    · have d36 := hd 36 (by decide) rfl
      change vs 36 = _ at d36
      have d38 := hd 38 (by decide) rfl
      change vs 38 = _ at d38
      have d34 := hd 34 (by decide) rfl
      change vs 34 = _ at d34
      refine ite_no (by simp [Region.wanted, yielded, d34]) ?_
      exact ⟨rfl, rfl⟩
    refine And.intro (fun w hw hd => ?_) ?_
    · have d34 := hd 34 (by decide) rfl
      change vs 34 = _ at d34
      have d39 := hd 39 (by decide) rfl
      change vs 39 = _ at d39
      refine ite_yes rfl ?_
      simp only [Gives]
      go_simp
      exact ⟨Below.refl _ _, rfl, fun h => by cases h⟩
    refine And.intro (fun w hw hd => ?_) ?_
    · have d40 := hd 40 (by decide) rfl
      change vs 40 = _ at d40
      refine ite_yes rfl ?_
      simp only [Gives]
      go_simp
      exact ⟨Below.refl _ _, rfl, fun h => by cases h⟩
    refine And.intro (fun w hw hd => ?_) ?_
    · have d41 := hd 41 (by decide) rfl
      change vs 41 = _ at d41
      refine ite_no (by simp [Region.wanted, yielded, d41]) ?_
      exact ⟨rfl, rfl⟩
    refine And.intro (fun w hw hd => ?_) ?_
    · have d42 := hd 42 (by decide) rfl
      change vs 42 = _ at d42
      have d41 := hd 41 (by decide) rfl
      change vs 41 = _ at d41
      refine ite_no (by simp [Region.wanted, yielded, d41]) ?_
      exact ⟨rfl, rfl⟩
    refine And.intro (fun w hw hd => ?_) ?_
    · have d41 := hd 41 (by decide) rfl
      change vs 41 = _ at d41
      refine ite_no (by simp [Region.wanted, yielded, d41]) ?_
      exact ⟨rfl, rfl⟩
    refine And.intro (fun w hw hd => ?_) ?_
    · have d44 := hd 44 (by decide) rfl
      change vs 44 = _ at d44
      have d41 := hd 41 (by decide) rfl
      change vs 41 = _ at d41
      refine ite_no (by simp [Region.wanted, yielded, d41]) ?_
      exact ⟨rfl, rfl⟩
    refine And.intro (fun w hw hd => ?_) ?_
    · have d43 := hd 43 (by decide) rfl
      change vs 43 = _ at d43
      have d45 := hd 45 (by decide) rfl
      change vs 45 = _ at d45
      have d41 := hd 41 (by decide) rfl
      change vs 41 = _ at d41
      refine ite_no (by simp [Region.wanted, yielded, d41]) ?_
      exact ⟨rfl, rfl⟩
    refine And.intro (fun w hw hd => ?_) ?_
    · have d41 := hd 41 (by decide) rfl
      change vs 41 = _ at d41
      have d46 := hd 46 (by decide) rfl
      change vs 46 = _ at d46
      refine ite_yes rfl ?_
      simp only [Gives]
      go_simp
      exact ⟨Below.refl _ _, rfl, fun h => by cases h⟩
    refine And.intro (fun w hw hd => ?_) ?_
    · have d47 := hd 47 (by decide) rfl
      change vs 47 = _ at d47
      refine ite_yes rfl ?_
      simp only [Gives]
      go_simp
      exact ⟨Below.refl _ _, rfl, fun h => by cases h⟩
    exact trivial
  intro vs wt hw hd hne hlo
  have d0 := hd 0 (by decide)
  change vs 0 = _ at d0
  have d1 := hd 1 (by decide)
  change vs 1 = _ at d1
  have d2 := hd 2 (by decide)
  change vs 2 = _ at d2
  have d3 := hd 3 (by decide)
  change vs 3 = _ at d3
  have d4 := hd 4 (by decide)
  change vs 4 = _ at d4
  have d5 := hd 5 (by decide)
  change vs 5 = _ at d5
  have d6 := hd 6 (by decide)
  change vs 6 = _ at d6
  have d7 := hd 7 (by decide)
  change vs 7 = _ at d7
  have d8 := hd 8 (by decide)
  change vs 8 = _ at d8
  have d9 := hd 9 (by decide)
  change vs 9 = _ at d9
  have d10 := hd 10 (by decide)
  change vs 10 = _ at d10
  have d11 := hd 11 (by decide)
  change vs 11 = _ at d11
  have d12 := hd 12 (by decide)
  change vs 12 = _ at d12
  have d13 := hd 13 (by decide)
  change vs 13 = _ at d13
  have d14 := hd 14 (by decide)
  change vs 14 = _ at d14
  have d15 := hd 15 (by decide)
  change vs 15 = _ at d15
  have d16 := hd 16 (by decide)
  change vs 16 = _ at d16
  have d17 := hd 17 (by decide)
  change vs 17 = _ at d17
  have d18 := hd 18 (by decide)
  change vs 18 = _ at d18
  have d19 := hd 19 (by decide)
  change vs 19 = _ at d19
  have d20 := hd 20 (by decide)
  change vs 20 = _ at d20
  have d21 := hd 21 (by decide)
  change vs 21 = _ at d21
  have d22 := hd 22 (by decide)
  change vs 22 = _ at d22
  have d23 := hd 23 (by decide)
  change vs 23 = _ at d23
  have d24 := hd 24 (by decide)
  change vs 24 = _ at d24
  have d25 := hd 25 (by decide)
  change vs 25 = _ at d25
  have d26 := hd 26 (by decide)
  change vs 26 = _ at d26
  have d27 := hd 27 (by decide)
  change vs 27 = _ at d27
  have d28 := hd 28 (by decide)
  change vs 28 = _ at d28
  have d29 := hd 29 (by decide)
  change vs 29 = _ at d29
  have d30 := hd 30 (by decide)
  change vs 30 = _ at d30
  have d31 := hd 31 (by decide)
  change vs 31 = _ at d31
  have d32 := hd 32 (by decide)
  change vs 32 = _ at d32
  have d33 := hd 33 (by decide)
  change vs 33 = _ at d33
  have d34 := hd 34 (by decide)
  change vs 34 = _ at d34
  have d35 := hd 35 (by decide)
  change vs 35 = _ at d35
  have d36 := hd 36 (by decide)
  change vs 36 = _ at d36
  have d37 := hd 37 (by decide)
  change vs 37 = _ at d37
  have d38 := hd 38 (by decide)
  change vs 38 = _ at d38
  have d39 := hd 39 (by decide)
  change vs 39 = _ at d39
  have d40 := hd 40 (by decide)
  change vs 40 = _ at d40
  have d41 := hd 41 (by decide)
  change vs 41 = _ at d41
  have d42 := hd 42 (by decide)
  change vs 42 = _ at d42
  have d43 := hd 43 (by decide)
  change vs 43 = _ at d43
  have d44 := hd 44 (by decide)
  change vs 44 = _ at d44
  have d45 := hd 45 (by decide)
  change vs 45 = _ at d45
  have d46 := hd 46 (by decide)
  change vs 46 = _ at d46
  have d47 := hd 47 (by decide)
  change vs 47 = _ at d47
  have d48 := hd 48 (by decide)
  change vs 48 = _ at d48
  simp only [d0, d1, d2, d3, d4, d5, d6, d7, d8, d9, d10, d11, d12, d13, d14, d15, d16, d17, d18, d19, d20, d21, d22, d23, d24, d25, d26, d27, d28, d29, d30, d31, d32, d33, d34, d35, d36, d37, d38, d39, d40, d41, d42, d43, d44, d45, d46, d47, d48, List.drop_succ_cons, List.drop_nil]
  have B1 := B1.kept hw
  have B3 := B3.kept hw
  have c_B1 := fun i => B1.cell i
  have f_B1 := fun i => B1.free i
  have c_B3 := fun i => B3.cell i
  have f_B3 := fun i => B3.free i
  clear hd hne hlo d0 d1 d2 d3 d4 d5 d6 d7 d8 d9 d10 d11 d12 d13 d14 d15 d16 d17 d18 d19 d20 d21 d22 d23 d24 d25 d26 d27 d28 d29 d30 d31 d32 d33 d34 d35 d36 d37 d38 d39 d40 d41 d42 d43 d44 d45 d46 d47 d48
  go_wp2
  go_ret
  exact ⟨ret_bool (by rw [Hfin.out]; simp [*]), up_later hB hw⟩

set_option maxRecDepth 100000 in
set_option maxHeartbeats 4000000 in
theorem valid_1 (v1 v2 v3 v4 : Value) (L : Ld) (c : List (Value × List Cl)) (w : World) (hL : LandAt w v1 v2 v3 v4 L c) (h1 : 0 < L.st.length) (h2 : ¬ 0 < c.length) :
    Calls Try.prog 44 #[.agg #[v1, v2, v3, v4]] w fun e w' => e = .returned (.bool (validB L)) ∧ Below w.heap.size w w' := by
  have hB : Below w.heap.size w w := up0
  have hL0 := hL
  obtain ⟨hn1, A1, cap1, rfl, _, _⟩ := hL.st.form
  obtain ⟨hn2, A2, cap2, rfl, _, _⟩ := hL.rg.form
  obtain ⟨hn3, A3, cap3, rfl, _, _⟩ := hL.cs.form
  obtain ⟨hn4, A4, cap4, rfl, _, _⟩ := hL.sn.form
  have hfin : validB L = (decide (0 < L.st.length) && decide (0 < c.length) && decide (0 < L.sn.length) && L.st.all stB && apartB L.st && L.rg.all rgB && (c.all fun x => x.2.all (clB ((L.sn.length : Int) - 1))) && L.sn.all snB) := by
    rw [cs_len hL.eq, cs_all hL.eq fun x => x.all (clB ((L.sn.length : Int) - 1))]
    rfl
  have Hfin := Lib.hid hfin
  clear hfin
  have HL := Lib.hid hL
  clear hL hL0
  go_enter Try.func44, Try.ntmps44
  go_upto_region 2 with (go_at_call 68; refine (frame_any _ _ _ _ _ _ _ _ _ _ _ _ _ hn4).mono ?_; rintro e w1 ⟨rfl, hb1⟩)
  have B1 := (Box.later hb1 (Box.new (w := w) (t := 37) (cs := #[.slice A1 L.st.length cap1, .slice A2 L.rg.length cap2, .slice A3 c.length cap3, .slice A4 L.sn.length cap4]) rfl)).alloc (.cells #[iv 0, iv 100, iv 0, iv 1000, iv 1, iv 2, iv (-100), iv 100, iv 0, iv ((L.sn.length : Int) - 1)] 121)
  have B3 := Box.new (w := w1) (t := 121) (cs := #[iv 0, iv 100, iv 0, iv 1000, iv 1, iv 2, iv (-100), iv 100, iv 0, iv ((L.sn.length : Int) - 1)]) rfl
  have hB := up_alloc (up_later (up_alloc up0 _) hb1) (.cells #[iv 0, iv 100, iv 0, iv 1000, iv 1, iv 2, iv (-100), iv 100, iv 0, iv ((L.sn.length : Int) - 1)] 121)
  have HLt := Lib.hid (HL.out.kept hB)
  clear HL
  refine wp_region_lit ?_
  apply wpList_by 49 [(Fact.eq _), (Fact.eq _), (Fact.eq _), (Fact.eq _), (Fact.eq _), (Fact.eq _), (Fact.eq _), (Fact.eq _), (Fact.eq _), (Fact.eq _), (Fact.eq _), (Fact.eq _), (Fact.eq _), (Fact.eq _), (Fact.eq _), (Fact.eq _), (Fact.eq _), (Fact.eq _), (Fact.eq _), (Fact.eq _), (Fact.eq _), (Fact.eq _), (Fact.eq _), (Fact.eq _), (Fact.eq _), (Fact.eq _), (Fact.eq _), (Fact.eq _), (Fact.eq _), (Fact.eq _), (Fact.eq _), (Fact.eq _), (Fact.eq _), (Fact.eq _), (Fact.eq _), (Fact.eq _), (Fact.eq _), (Fact.eq _), (Fact.eq _), (Fact.eq _), (Fact.eq _), (Fact.eq _), (Fact.eq _), (Fact.eq _), (Fact.eq _), (Fact.eq _), (Fact.eq _), (Fact.eq _), (Fact.eq _)]
  case hB => kernel_rfl
  case hA => (intro vs; simp only [List.take_succ_cons, List.take_zero, putAll, if_true, Act.put, List.setIfInBounds_toArray, List.set_cons_zero, List.set_cons_succ]; exact rfl)
  case hstep =>
    intro vs
    refine And.intro (fun w hw hd => ?_) ?_
    · refine ite_yes rfl ?_
      simp only [Gives]
      go_simp
      exact ⟨Below.refl _ _, rfl, fun h => by cases h⟩
    refine And.intro (fun w hw hd => ?_) ?_
    · have d0 := hd 0 (by decide) rfl
      change vs 0 = _ at d0
      refine ite_yes rfl ?_
      have c_B1 := fun i => (B1.kept hw).cell i
      have c_B3 := fun i => (B3.kept hw).cell i
      simp only [Gives]
      go_simp
      exact ⟨Below.refl _ _, rfl, fun h => by cases h⟩
    refine And.intro (fun w hw hd => ?_) ?_
    · have d1 := hd 1 (by decide) rfl
      change vs 1 = _ at d1
      refine ite_yes rfl ?_
      simp only [Gives]
      go_simp
      exact ⟨Below.refl _ _, rfl, fun h => by cases h⟩
    refine And.intro (fun w hw hd => ?_) ?_
    · have d2 := hd 2 (by decide) rfl
      change vs 2 = _ at d2
      refine ite_yes rfl ?_
      simp only [Gives]
      go_simp
      exact ⟨Below.refl _ _, rfl, fun h => by cases h⟩
    refine And.intro (fun w hw hd => ?_) ?_
    · have d3 := hd 3 (by decide) rfl
      change vs 3 = _ at d3
      refine ite_yes rfl ?_
      simp only [Gives]
      go_simp
      exact ⟨Below.refl _ _, rfl, fun h => by cases h⟩
    refine And.intro (fun w hw hd => ?_) ?_
    · have d4 := hd 4 (by decide) rfl
      change vs 4 = _ at d4
      refine ite_yes (by simp [Region.wanted, yielded, d4]) ?_
      simp only [Gives]
      go_simp
      exact ⟨Below.refl _ _, rfl, fun h => by cases h⟩
    refine And.intro (fun w hw hd => ?_) ?_
    · have d5 := hd 5 (by decide) rfl
      change vs 5 = _ at d5
      have d4 := hd 4 (by decide) rfl
      change vs 4 = _ at d4
      refine ite_yes (by simp [Region.wanted, yielded, d4]) ?_
      have c_B1 := fun i => (B1.kept hw).cell i
      have c_B3 := fun i => (B3.kept hw).cell i
      simp only [Gives]
      go_simp
      exact ⟨Below.refl _ _, rfl, fun h => by cases h⟩
    refine And.intro (fun w hw hd => ?_) ?_
    · have d6 := hd 6 (by decide) rfl
      change vs 6 = _ at d6
      have d4 := hd 4 (by decide) rfl
      change vs 4 = _ at d4
      refine ite_yes (by simp [Region.wanted, yielded, d4]) ?_
      simp only [Gives]
      go_simp
      exact ⟨Below.refl _ _, rfl, fun h => by cases h⟩
    refine And.intro (fun w hw hd => ?_) ?_
    · have d7 := hd 7 (by decide) rfl
      change vs 7 = _ at d7
      have d4 := hd 4 (by decide) rfl
      change vs 4 = _ at d4
      refine ite_yes (by simp [Region.wanted, yielded, d4]) ?_
      simp only [Gives]
      go_simp
      exact ⟨Below.refl _ _, rfl, fun h => by cases h⟩
    refine And.intro (fun w hw hd => ?_) ?_
    · have d4 := hd 4 (by decide) rfl
      change vs 4 = _ at d4
      have d8 := hd 8 (by decide) rfl
      change vs 8 = _ at d8
      refine ite_yes rfl ?_
      simp only [Gives]
      go_simp
      exact ⟨Below.refl _ _, rfl, fun h => by cases h⟩
    refine And.intro (fun w hw hd => ?_) ?_
    · have d9 := hd 9 (by decide) rfl
      change vs 9 = _ at d9
      refine ite_yes rfl ?_
      simp only [Gives]
      go_simp
      exact ⟨Below.refl _ _, rfl, fun h => by cases h⟩
    refine And.intro (fun w hw hd => ?_) ?_
    · have d10 := hd 10 (by decide) rfl
      change vs 10 = _ at d10
      refine ite_no (by simp [Region.wanted, yielded, d10]) ?_
      exact ⟨rfl, rfl⟩
    refine And.intro (fun w hw hd => ?_) ?_
    · have d11 := hd 11 (by decide) rfl
      change vs 11 = _ at d11
      have d10 := hd 10 (by decide) rfl
      change vs 10 = _ at d10
      refine ite_no (by simp [Region.wanted, yielded, d10]) ?_
      exact ⟨rfl, rfl⟩
    refine And.intro (fun w hw hd => ?_) ?_
    · have d12 := hd 12 (by decide) rfl
      change vs 12 = _ at d12
      have d10 := hd 10 (by decide) rfl
      change vs 10 = _ at d10
      refine ite_no (by simp [Region.wanted, yielded, d10]) ?_
      exact ⟨rfl, rfl⟩
    refine And.intro (fun w hw hd => ?_) ?_
    · have d13 := hd 13 (by decide) rfl
      change vs 13 = _ at d13
      have d10 := hd 10 (by decide) rfl
      change vs 10 = _ at d10
      refine ite_no (by simp [Region.wanted, yielded, d10]) ?_
      exact ⟨rfl, rfl⟩
    refine And.intro (fun w hw hd => ?_) ?_
    · have d10 := hd 10 (by decide) rfl
      change vs 10 = _ at d10
      have d14 := hd 14 (by decide) rfl
      change vs 14 = _ at d14
      refine ite_yes rfl ?_
      simp only [Gives]
      go_simp
      exact ⟨Below.refl _ _, rfl, fun h => by cases h⟩
    refine And.intro (fun w hw hd => ?_) ?_
    · have d15 := hd 15 (by decide) rfl
      change vs 15 = _ at d15
      refine ite_yes rfl ?_
      simp only [Gives]
      go_simp
      exact ⟨Below.refl _ _, rfl, fun h => by cases h⟩
    refine And.intro (fun w hw hd => ?_) ?_
    · have d16 := hd 16 (by decide) rfl
      change vs 16 = _ at d16
      refine ite_no (by simp [Region.wanted, yielded, d16]) ?_
      exact ⟨rfl, rfl⟩
    refine And.intro (fun w hw hd => ?_) ?_
    · have d17 := hd 17 (by decide) rfl
      change vs 17 = _ at d17
      have d16 := hd 16 (by decide) rfl
      change vs 16 = _ at d16
      refine ite_no (by simp [Region.wanted, yielded, d16]) ?_
      exact ⟨rfl, rfl⟩
    refine And.intro (fun w hw hd => ?_) ?_
    · have d16 := hd 16 (by decide) rfl
      change vs 16 = _ at d16
      refine ite_no (by simp [Region.wanted, yielded, d16]) ?_
      exact ⟨rfl, rfl⟩
    refine And.intro (fun w hw hd => ?_) ?_
    · have d19 := hd 19 (by decide) rfl
      change vs 19 = _ at d19
      have d16 := hd 16 (by decide) rfl
      change vs 16 = _ at d16
      refine ite_no (by simp [Region.wanted, yielded, d16]) ?_
      exact ⟨rfl, rfl⟩
    refine And.intro (fun w hw hd => ?_) ?_
    · have d18 := hd 18 (by decide) rfl
      change vs 18 = _ at d18
      have d20 := hd 20 (by decide) rfl
      change vs 20 = _ at d20
      have d16 := hd 16 (by decide) rfl
      change vs 16 = _ at d16
      refine ite_no (by simp [Region.wanted, yielded, d16]) ?_
      exact ⟨rfl, rfl⟩
    refine And.intro (fun w hw hd => ?_) ?_
    · have d16 := hd 16 (by decide) rfl
      change vs 16 = _ at d16
      have d21 := hd 21 (by decide) rfl
      change vs 21 = _ at d21
      refine ite_yes rfl ?_
      simp only [Gives]
      go_simp
      exact ⟨Below.refl _ _, rfl, fun h => by cases h⟩
    refine And.intro (fun w hw hd => ?_) ?_
    · have d22 := hd 22 (by decide) rfl
      change vs 22 = _ at d22
      refine ite_yes rfl ?_
      simp only [Gives]
      go_simp
      exact ⟨Below.refl _ _, rfl, fun h => by cases h⟩
    refine And.intro (fun w hw hd => ?_) ?_
    · have d23 := hd 23 (by decide) rfl
      change vs 23 = _ at d23
      refine ite_no (by simp [Region.wanted, yielded, d23]) ?_
      exact ⟨rfl, rfl⟩
    refine And.intro (fun w hw hd => ?_) ?_
    · have d24 := hd 24 (by decide) rfl
      change vs 24 = _ at d24
      have d23 := hd 23 (by decide) rfl
      change vs 23 = _ at d23
      refine ite_no (by simp [Region.wanted, yielded, d23]) ?_
      exact ⟨rfl, rfl⟩
    refine And.intro (fun w hw hd => ?_) ?_
    · have d23 := hd 23 (by decide) rfl
      change vs 23 = _ at d23
      have d25 := hd 25 (by decide) rfl
      change vs 25 = _ at d25
      refine ite_yes rfl ?_
      simp only [Gives]
      go_simp
      exact ⟨Below.refl _ _, rfl, fun h => by cases h⟩
    refine And.intro (fun w hw hd => ?_) ?_
    · have d26 := hd 26 (by decide) rfl
      change vs 26 = _ at d26
      refine ite_yes rfl ?_
      simp only [Gives]
      go_simp
      exact ⟨Below.refl _ _, rfl, fun h => by cases h⟩
    refine And.intro (fun w hw hd => ?_) ?_
    · have d27 := hd 27 (by decide) rfl
      change vs 27 = _ at d27
      refine ite_no (by simp [Region.wanted, yielded, d27]) ?_
      exact ⟨rfl, rfl⟩
    refine And.intro (fun w hw hd => ?_) ?_
    · have d28 := hd 28 (by decide) rfl
      change vs 28 = _ at d28
      have d27 := hd 27 (by decide) rfl
      change vs 27 = _ at d27
      refine ite_no (by simp [Region.wanted, yielded, d27]) ?_
      exact ⟨rfl, rfl⟩
    refine And.intro (fun w hw hd => ?_) ?_
    · have d27 := hd 27 (by decide) rfl
      change vs 27 = _ at d27
      refine ite_no (by simp [Region.wanted, yielded, d27]) ?_
      exact ⟨rfl, rfl⟩
    refine And.intro (fun w hw hd => ?_) ?_
    · have d30 := hd 30 (by decide) rfl
      change vs 30 = _ at d30
      have d27 := hd 27 (by decide) rfl
      change vs 27 = _ at d27
      refine ite_no (by simp [Region.wanted, yielded, d27]) ?_
      exact ⟨rfl, rfl⟩
    refine And.intro (fun w hw hd => ?_) ?_
    · have d29 := hd 29 (by decide) rfl
      change vs 29 = _ at d29
      have d31 := hd 31 (by decide) rfl
      change vs 31 = _ at d31
      have d27 := hd 27 (by decide) rfl
      change vs 27 = _ at d27
      refine ite_no (by simp [Region.wanted, yielded, d27]) ?_
      exact ⟨rfl, rfl⟩
    refine And.intro (fun w hw hd => ?_) ?_
    · have d27 := hd 27 (by decide) rfl
      change vs 27 = _ at d27
      have d32 := hd 32 (by decide) rfl
      change vs 32 = _ at d32
      refine ite_yes rfl ?_
      simp only [Gives]
      go_simp
      exact ⟨Below.refl _ _, rfl, fun h => by cases h⟩
    refine And.intro (fun w hw hd => ?_) ?_
    · have d33 := hd 33 (by decide) rfl
      change vs 33 = _ at d33
      refine ite_yes rfl ?_
      simp only [Gives]
      go_simp
      exact ⟨Below.refl _ _, rfl, fun h => by cases h⟩
    refine And.intro (fun w hw hd => ?_) ?_
    · have d34 := hd 34 (by decide) rfl
      change vs 34 = _ at d34
      refine ite_no (by simp [Region.wanted, yielded, d34]) ?_
      exact ⟨rfl, rfl⟩
    refine And.intro (fun w hw hd => ?_) ?_
    · have d35 := hd 35 (by decide) rfl
      change vs 35 = _ at d35
      have d34 := hd 34 (by decide) rfl
      change vs 34 = _ at d34
      refine ite_no (by simp [Region.wanted, yielded, d34]) ?_
      exact ⟨rfl, rfl⟩
    refine And.intro (fun w hw hd => ?_) ?_
    · have d34 := hd 34 (by decide) rfl
      change vs 34 = _ at d34
      refine ite_no (by simp [Region.wanted, yielded, d34]) ?_
      exact ⟨rfl, rfl⟩
    refine And.intro (fun w hw hd => ?_) ?_
    · have d37 := hd 37 (by decide) rfl
      change vs 37 = _ at d37
      have d34 := hd 34 (by decide) rfl
      change vs 34 = _ at d34
      refine ite_no (by simp [Region.wanted, yielded, d34]) ?_
      exact ⟨rfl, rfl⟩
    refine And.intro (fun w hw hd => ?_) ?_
    · have d36 := hd 36 (by decide) rfl
      change vs 36 = _ at d36
      have d38 := hd 38 (by decide) rfl
      change vs 38 = _ at d38
      have d34 := hd 34 (by decide) rfl
      change vs 34 = _ at d34
      refine ite_no (by simp [Region.wanted, yielded, d34]) ?_
      exact ⟨rfl, rfl⟩
    refine And.intro (fun w hw hd => ?_) ?_
    · have d34 := hd 34 (by decide) rfl
      change vs 34 = _ at d34
      have d39 := hd 39 (by decide) rfl
      change vs 39 = _ at d39
      refine ite_yes rfl ?_
      simp only [Gives]
      go_simp
      exact ⟨Below.refl _ _, rfl, fun h => by cases h⟩
    refine And.intro (fun w hw hd => ?_) ?_
    · have d40 := hd 40 (by decide) rfl
      change vs 40 = _ at d40
      refine ite_yes rfl ?_
      simp only [Gives]
      go_simp
      exact ⟨Below.refl _ _, rfl, fun h => by cases h⟩
    refine And.intro (fun w hw hd => ?_) ?_
    · have d41 := hd 41 (by decide) rfl
      change vs 41 = _ at d41
      refine ite_no (by simp [Region.wanted, yielded, d41]) ?_
      exact ⟨rfl, rfl⟩
    refine And.intro (fun w hw hd => ?_) ?_
    · have d42 := hd 42 (by decide) rfl
      change vs 42 = _ at d42
      have d41 := hd 41 (by decide) rfl
      change vs 41 = _ at d41
      refine ite_no (by simp [Region.wanted, yielded, d41]) ?_
      exact ⟨rfl, rfl⟩
    refine And.intro (fun w hw hd => ?_) ?_
    · have d41 := hd 41 (by decide) rfl
      change vs 41 = _ at d41
      refine ite_no (by simp [Region.wanted, yielded, d41]) ?_
      exact ⟨rfl, rfl⟩
    refine And.intro (fun w hw hd => ?_) ?_
    · have d44 := hd 44 (by decide) rfl
      change vs 44 = _ at d44
      have d41 := hd 41 (by decide) rfl
      change vs 41 = _ at d41
      refine ite_no (by simp [Region.wanted, yielded, d41]) ?_
      exact ⟨rfl, rfl⟩
    refine And.intro (fun w hw hd => ?_) ?_
    · have d43 := hd 43 (by decide) rfl
      change vs 43 = _ at d43
      have d45 := hd 45 (by decide) rfl
      change vs 45 = _ at d45
      have d41 := hd 41 (by decide) rfl
      change vs 41 = _ at d41
      refine ite_no (by simp [Region.wanted, yielded, d41]) ?_
      exact ⟨rfl, rfl⟩
    refine And.intro (fun w hw hd => ?_) ?_
    · have d41 := hd 41 (by decide) rfl
      change vs 41 = _ at d41
      have d46 := hd 46 (by decide) rfl
      change vs 46 = _ at d46
      refine ite_yes rfl ?_
      simp only [Gives]
      go_simp
      exact ⟨Below.refl _ _, rfl, fun h => by cases h⟩
    refine And.intro (fun w hw hd => ?_) ?_
    · have d47 := hd 47 (by decide) rfl
      change vs 47 = _ at d47
      refine ite_yes rfl ?_
      simp only [Gives]
      go_simp
      exact ⟨Below.refl _ _, rfl, fun h => by cases h⟩
    exact trivial
  intro vs wt hw hd hne hlo
  have d0 := hd 0 (by decide)
  change vs 0 = _ at d0
  have d1 := hd 1 (by decide)
  change vs 1 = _ at d1
  have d2 := hd 2 (by decide)
  change vs 2 = _ at d2
  have d3 := hd 3 (by decide)
  change vs 3 = _ at d3
  have d4 := hd 4 (by decide)
  change vs 4 = _ at d4
  have d5 := hd 5 (by decide)
  change vs 5 = _ at d5
  have d6 := hd 6 (by decide)
  change vs 6 = _ at d6
  have d7 := hd 7 (by decide)
  change vs 7 = _ at d7
  have d8 := hd 8 (by decide)
  change vs 8 = _ at d8
  have d9 := hd 9 (by decide)
  change vs 9 = _ at d9
  have d10 := hd 10 (by decide)
  change vs 10 = _ at d10
  have d11 := hd 11 (by decide)
  change vs 11 = _ at d11
  have d12 := hd 12 (by decide)
  change vs 12 = _ at d12
  have d13 := hd 13 (by decide)
  change vs 13 = _ at d13
  have d14 := hd 14 (by decide)
  change vs 14 = _ at d14
  have d15 := hd 15 (by decide)
  change vs 15 = _ at d15
  have d16 := hd 16 (by decide)
  change vs 16 = _ at d16
  have d17 := hd 17 (by decide)
  change vs 17 = _ at d17
  have d18 := hd 18 (by decide)
  change vs 18 = _ at d18
  have d19 := hd 19 (by decide)
  change vs 19 = _ at d19
  have d20 := hd 20 (by decide)
  change vs 20 = _ at d20
  have d21 := hd 21 (by decide)
  change vs 21 = _ at d21
  have d22 := hd 22 (by decide)
  change vs 22 = _ at d22
  have d23 := hd 23 (by decide)
  change vs 23 = _ at d23
  have d24 := hd 24 (by decide)
  change vs 24 = _ at d24
  have d25 := hd 25 (by decide)
  change vs 25 = _ at d25
  have d26 := hd 26 (by decide)
  change vs 26 = _ at d26
  have d27 := hd 27 (by decide)
  change vs 27 = _ at d27
  have d28 := hd 28 (by decide)
  change vs 28 = _ at d28
  have d29 := hd 29 (by decide)
  change vs 29 = _ at d29
  have d30 := hd 30 (by decide)
  change vs 30 = _ at d30
  have d31 := hd 31 (by decide)
  change vs 31 = _ at d31
  have d32 := hd 32 (by decide)
  change vs 32 = _ at d32
  have d33 := hd 33 (by decide)
  change vs 33 = _ at d33
  have d34 := hd 34 (by decide)
  change vs 34 = _ at d34
  have d35 := hd 35 (by decide)
  change vs 35 = _ at d35
  have d36 := hd 36 (by decide)
  change vs 36 = _ at d36
  have d37 := hd 37 (by decide)
  change vs 37 = _ at d37
  have d38 := hd 38 (by decide)
  change vs 38 = _ at d38
  have d39 := hd 39 (by decide)
  change vs 39 = _ at d39
  have d40 := hd 40 (by decide)
  change vs 40 = _ at d40
  have d41 := hd 41 (by decide)
  change vs 41 = _ at d41
  have d42 := hd 42 (by decide)
  change vs 42 = _ at d42
  have d43 := hd 43 (by decide)
  change vs 43 = _ at d43
  have d44 := hd 44 (by decide)
  change vs 44 = _ at d44
  have d45 := hd 45 (by decide)
  change vs 45 = _ at d45
  have d46 := hd 46 (by decide)
  change vs 46 = _ at d46
  have d47 := hd 47 (by decide)
  change vs 47 = _ at d47
  have d48 := hd 48 (by decide)
  change vs 48 = _ at d48
  simp only [d0, d1, d2, d3, d4, d5, d6, d7, d8, d9, d10, d11, d12, d13, d14, d15, d16, d17, d18, d19, d20, d21, d22, d23, d24, d25, d26, d27, d28, d29, d30, d31, d32, d33, d34, d35, d36, d37, d38, d39, d40, d41, d42, d43, d44, d45, d46, d47, d48, List.drop_succ_cons, List.drop_nil]
  have B1 := B1.kept hw
  have B3 := B3.kept hw
  have c_B1 := fun i => B1.cell i
  have f_B1 := fun i => B1.free i
  have c_B3 := fun i => B3.cell i
  have f_B3 := fun i => B3.free i
  clear hd hne hlo d0 d1 d2 d3 d4 d5 d6 d7 d8 d9 d10 d11 d12 d13 d14 d15 d16 d17 d18 d19 d20 d21 d22 d23 d24 d25 d26 d27 d28 d29 d30 d31 d32 d33 d34 d35 d36 d37 d38 d39 d40 d41 d42 d43 d44 d45 d46 d47 d48
  go_wp2
  go_ret
  exact ⟨ret_bool (by rw [Hfin.out]; simp [*]), up_later hB hw⟩

set_option maxRecDepth 100000 in
set_option maxHeartbeats 4000000 in
theorem valid_2 (v1 v2 v3 v4 : Value) (L : Ld) (c : List (Value × List Cl)) (w : World) (hL : LandAt w v1 v2 v3 v4 L c) (h1 : 0 < L.st.length) (h2 : 0 < c.length) (h3 : ¬ 0 < L.sn.length) :
    Calls Try.prog 44 #[.agg #[v1, v2, v3, v4]] w fun e w' => e = .returned (.bool (validB L)) ∧ Below w.heap.size w w' := by
  have hB : Below w.heap.size w w := up0
  have hL0 := hL
  obtain ⟨hn1, A1, cap1, rfl, _, _⟩ := hL.st.form
  obtain ⟨hn2, A2, cap2, rfl, _, _⟩ := hL.rg.form
  obtain ⟨hn3, A3, cap3, rfl, _, _⟩ := hL.cs.form
  obtain ⟨hn4, A4, cap4, rfl, _, _⟩ := hL.sn.form
  have hfin : validB L = (decide (0 < L.st.length) && decide (0 < c.length) && decide (0 < L.sn.length) && L.st.all stB && apartB L.st && L.rg.all rgB && (c.all fun x => x.2.all (clB ((L.sn.length : Int) - 1))) && L.sn.all snB) := by
    rw [cs_len hL.eq, cs_all hL.eq fun x => x.all (clB ((L.sn.length : Int) - 1))]
    rfl
  have Hfin := Lib.hid hfin
  clear hfin
  have HL := Lib.hid hL
  clear hL hL0
  go_enter Try.func44, Try.ntmps44
  go_upto_region 2 with (go_at_call 68; refine (frame_any _ _ _ _ _ _ _ _ _ _ _ _ _ hn4).mono ?_; rintro e w1 ⟨rfl, hb1⟩)
  have B1 := (Box.later hb1 (Box.new (w := w) (t := 37) (cs := #[.slice A1 L.st.length cap1, .slice A2 L.rg.length cap2, .slice A3 c.length cap3, .slice A4 L.sn.length cap4]) rfl)).alloc (.cells #[iv 0, iv 100, iv 0, iv 1000, iv 1, iv 2, iv (-100), iv 100, iv 0, iv ((L.sn.length : Int) - 1)] 121)
  have B3 := Box.new (w := w1) (t := 121) (cs := #[iv 0, iv 100, iv 0, iv 1000, iv 1, iv 2, iv (-100), iv 100, iv 0, iv ((L.sn.length : Int) - 1)]) rfl
  have hB := up_alloc (up_later (up_alloc up0 _) hb1) (.cells #[iv 0, iv 100, iv 0, iv 1000, iv 1, iv 2, iv (-100), iv 100, iv 0, iv ((L.sn.length : Int) - 1)] 121)
  have HLt := Lib.hid (HL.out.kept hB)
  clear HL
  refine wp_region_lit ?_
  apply wpList_by 49 [(Fact.eq _), (Fact.eq _), (Fact.eq _), (Fact.eq _), (Fact.eq _), (Fact.eq _), (Fact.eq _), (Fact.eq _), (Fact.eq _), (Fact.eq _), (Fact.eq _), (Fact.eq _), (Fact.eq _), (Fact.eq _), (Fact.eq _), (Fact.eq _), (Fact.eq _), (Fact.eq _), (Fact.eq _), (Fact.eq _), (Fact.eq _), (Fact.eq _), (Fact.eq _), (Fact.eq _), (Fact.eq _), (Fact.eq _), (Fact.eq _), (Fact.eq _), (Fact.eq _), (Fact.eq _), (Fact.eq _), (Fact.eq _), (Fact.eq _), (Fact.eq _), (Fact.eq _), (Fact.eq _), (Fact.eq _), (Fact.eq _), (Fact.eq _), (Fact.eq _), (Fact.eq _), (Fact.eq _), (Fact.eq _), (Fact.eq _), (Fact.eq _), (Fact.eq _), (Fact.eq _), (Fact.eq _), (Fact.eq _)]
  case hB => kernel_rfl
  case hA => (intro vs; simp only [List.take_succ_cons, List.take_zero, putAll, if_true, Act.put, List.setIfInBounds_toArray, List.set_cons_zero, List.set_cons_succ]; exact rfl)
  case hstep =>
    intro vs
    refine And.intro (fun w hw hd => ?_) ?_
    · refine ite_yes rfl ?_
      simp only [Gives]
      go_simp
      exact ⟨Below.refl _ _, rfl, fun h => by cases h⟩
    refine And.intro (fun w hw hd => ?_) ?_
    · have d0 := hd 0 (by decide) rfl
      change vs 0 = _ at d0
      refine ite_yes rfl ?_
      have c_B1 := fun i => (B1.kept hw).cell i
      have c_B3 := fun i => (B3.kept hw).cell i
      simp only [Gives]
      go_simp
      exact ⟨Below.refl _ _, rfl, fun h => by cases h⟩
    refine And.intro (fun w hw hd => ?_) ?_
    · have d1 := hd 1 (by decide) rfl
      change vs 1 = _ at d1
      refine ite_yes rfl ?_
      simp only [Gives]
      go_simp
      exact ⟨Below.refl _ _, rfl, fun h => by cases h⟩
    refine And.intro (fun w hw hd => ?_) ?_
    · have d2 := hd 2 (by decide) rfl
      change vs 2 = _ at d2
      refine ite_yes rfl ?_
      simp only [Gives]
      go_simp
      exact ⟨Below.refl _ _, rfl, fun h => by cases h⟩
    refine And.intro (fun w hw hd => ?_) ?_
    · have d3 := hd 3 (by decide) rfl
      change vs 3 = _ at d3
      refine ite_yes rfl ?_
      simp only [Gives]
      go_simp
      exact ⟨Below.refl _ _, rfl, fun h => by cases h⟩
    refine And.intro (fun w hw hd => ?_) ?_
    · have d4 := hd 4 (by decide) rfl
      change vs 4 = _ at d4
      refine ite_yes (by simp [Region.wanted, yielded, d4]) ?_
      simp only [Gives]
      go_simp
      exact ⟨Below.refl _ _, rfl, fun h => by cases h⟩
    refine And.intro (fun w hw hd => ?_) ?_
    · have d5 := hd 5 (by decide) rfl
      change vs 5 = _ at d5
      have d4 := hd 4 (by decide) rfl
      change vs 4 = _ at d4
      refine ite_yes (by simp [Region.wanted, yielded, d4]) ?_
      have c_B1 := fun i => (B1.kept hw).cell i
      have c_B3 := fun i => (B3.kept hw).cell i
      simp only [Gives]
      go_simp
      exact ⟨Below.refl _ _, rfl, fun h => by cases h⟩
    refine And.intro (fun w hw hd => ?_) ?_
    · have d6 := hd 6 (by decide) rfl
      change vs 6 = _ at d6
      have d4 := hd 4 (by decide) rfl
      change vs 4 = _ at d4
      refine ite_yes (by simp [Region.wanted, yielded, d4]) ?_
      simp only [Gives]
      go_simp
      exact ⟨Below.refl _ _, rfl, fun h => by cases h⟩
    refine And.intro (fun w hw hd => ?_) ?_
    · have d7 := hd 7 (by decide) rfl
      change vs 7 = _ at d7
      have d4 := hd 4 (by decide) rfl
      change vs 4 = _ at d4
      refine ite_yes (by simp [Region.wanted, yielded, d4]) ?_
      simp only [Gives]
      go_simp
      exact ⟨Below.refl _ _, rfl, fun h => by cases h⟩
    refine And.intro (fun w hw hd => ?_) ?_
    · have d4 := hd 4 (by decide) rfl
      change vs 4 = _ at d4
      have d8 := hd 8 (by decide) rfl
      change vs 8 = _ at d8
      refine ite_yes rfl ?_
      simp only [Gives]
      go_simp
      exact ⟨Below.refl _ _, rfl, fun h => by cases h⟩
    refine And.intro (fun w hw hd => ?_) ?_
    · have d9 := hd 9 (by decide) rfl
      change vs 9 = _ at d9
      refine ite_yes rfl ?_
      simp only [Gives]
      go_simp
      exact ⟨Below.refl _ _, rfl, fun h => by cases h⟩
    refine And.intro (fun w hw hd => ?_) ?_
    · have d10 := hd 10 (by decide) rfl
      change vs 10 = _ at d10
      refine ite_yes (by simp [Region.wanted, yielded, d10]) ?_
      simp only [Gives]
      go_simp
      exact ⟨Below.refl _ _, rfl, fun h => by cases h⟩
    refine And.intro (fun w hw hd => ?_) ?_
    · have d11 := hd 11 (by decide) rfl
      change vs 11 = _ at d11
      have d10 := hd 10 (by decide) rfl
      change vs 10 = _ at d10
      refine ite_yes (by simp [Region.wanted, yielded, d10]) ?_
      have c_B1 := fun i => (B1.kept hw).cell i
      have c_B3 := fun i => (B3.kept hw).cell i
      simp only [Gives]
      go_simp
      exact ⟨Below.refl _ _, rfl, fun h => by cases h⟩
    refine And.intro (fun w hw hd => ?_) ?_
    · have d12 := hd 12 (by decide) rfl
      change vs 12 = _ at d12
      have d10 := hd 10 (by decide) rfl
      change vs 10 = _ at d10
      refine ite_yes (by simp [Region.wanted, yielded, d10]) ?_
      simp only [Gives]
      go_simp
      exact ⟨Below.refl _ _, rfl, fun h => by cases h⟩
    refine And.intro (fun w hw hd => ?_) ?_
    · have d13 := hd 13 (by decide) rfl
      change vs 13 = _ at d13
      have d10 := hd 10 (by decide) rfl
      change vs 10 = _ at d10
      refine ite_yes (by simp [Region.wanted, yielded, d10]) ?_
      simp only [Gives]
      go_simp
      exact ⟨Below.refl _ _, rfl, fun h => by cases h⟩
    refine And.intro (fun w hw hd => ?_) ?_
    · have d10 := hd 10 (by decide) rfl
      change vs 10 = _ at d10
      have d14 := hd 14 (by decide) rfl
      change vs 14 = _ at d14
      refine ite_yes rfl ?_
      simp only [Gives]
      go_simp
      exact ⟨Below.refl _ _, rfl, fun h => by cases h⟩
    refine And.intro (fun w hw hd => ?_) ?_
    · have d15 := hd 15 (by decide) rfl
      change vs 15 = _ at d15
      refine ite_yes rfl ?_
      simp only [Gives]
      go_simp
      exact ⟨Below.refl _ _, rfl, fun h => by cases h⟩
    refine And.intro (fun w hw hd => ?_) ?_
    · have d16 := hd 16 (by decide) rfl
      change vs 16 = _ at d16
      refine ite_no (by simp [Region.wanted, yielded, d16]) ?_
      exact ⟨rfl, rfl⟩
    refine And.intro (fun w hw hd => ?_) ?_
    · have d17 := hd 17 (by decide) rfl
      change vs 17 = _ at d17
      have d16 := hd 16 (by decide) rfl
      change vs 16 = _ at d16
      refine ite_no (by simp [Region.wanted, yielded, d16]) ?_
      exact ⟨rfl, rfl⟩
    refine And.intro (fun w hw hd => ?_) ?_
    · have d16 := hd 16 (by decide) rfl
      change vs 16 = _ at d16
      refine ite_no (by simp [Region.wanted, yielded, d16]) ?_
      exact ⟨rfl, rfl⟩
    refine And.intro (fun w hw hd => ?_) ?_
    · have d19 := hd 19 (by decide) rfl
      change vs 19 = _ at d19
      have d16 := hd 16 (by decide) rfl
      change vs 16 = _ at d16
      refine ite_no (by simp [Region.wanted, yielded, d16]) ?_
      exact ⟨rfl, rfl⟩
    refine And.intro (fun w hw hd => ?_) ?_
    · have d18 := hd 18 (by decide) rfl
      change vs 18 = _ at d18
      have d20 := hd 20 (by decide) rfl
      change vs 20 = _ at d20
      have d16 := hd 16 (by decide) rfl
      change vs 16 = _ at d16
      refine ite_no (by simp [Region.wanted, yielded, d16]) ?_
      exact ⟨rfl, rfl⟩
    refine And.intro (fun w hw hd => ?_) ?_
    · have d16 := hd 16 (by decide) rfl
      change vs 16 = _ at d16
      have d21 := hd 21 (by decide) rfl
      change vs 21 = _ at d21
      refine ite_yes rfl ?_
      simp only [Gives]
      go_simp
      exact ⟨Below.refl _ _, rfl, fun h => by cases h⟩
    refine And.intro (fun w hw hd => ?_) ?_
    · have d22 := hd 22 (by decide) rfl
      change vs 22 = _ at d22
      refine ite_yes rfl ?_
      simp only [Gives]
      go_simp
      exact ⟨Below.refl _ _, rfl, fun h => by cases h⟩
    refine And.intro (fun w hw hd => ?_) ?_
    · have d23 := hd 23 (by decide) rfl
      change vs 23 = _ at d23
      refine ite_no (by simp [Region.wanted, yielded, d23]) ?_
      exact ⟨rfl, rfl⟩
    refine And.intro (fun w hw hd => ?_) ?_
    · have d24 := hd 24 (by decide) rfl
      change vs 24 = _ at d24
      have d23 := hd 23 (by decide) rfl
      change vs 23 = _ at d23
      refine ite_no (by simp [Region.wanted, yielded, d23]) ?_
      exact ⟨rfl, rfl⟩
    refine And.intro (fun w hw hd => ?_) ?_
    · have d23 := hd 23 (by decide) rfl
      change vs 23 = _ at d23
      have d25 := hd 25 (by decide) rfl
      change vs 25 = _ at d25
      refine ite_yes rfl ?_
      simp only [Gives]
      go_simp
      exact ⟨Below.refl _ _, rfl, fun h => by cases h⟩
    refine And.intro (fun w hw hd => ?_) ?_
    · have d26 := hd 26 (by decide) rfl
      change vs 26 = _ at d26
      refine ite_yes rfl ?_
      simp only [Gives]
      go_simp
      exact ⟨Below.refl _ _, rfl, fun h => by cases h⟩
    refine And.intro (fun w hw hd => ?_) ?_
    · have d27 := hd 27 (by decide) rfl
      change vs 27 = _ at d27
      refine ite_no (by simp [Region.wanted, yielded, d27]) ?_
      exact ⟨rfl, rfl⟩
    refine And.intro (fun w hw hd => ?_) ?_
    · have d28 := hd 28 (by decide) rfl
      change vs 28 = _ at d28
      have d27 := hd 27 (by decide) rfl
      change vs 27 = _ at d27
      refine ite_no (by simp [Region.wanted, yielded, d27]) ?_
      exact ⟨rfl, rfl⟩
    refine And.intro (fun w hw hd => ?_) ?_
    · have d27 := hd 27 (by decide) rfl
      change vs 27 = _ at d27
      refine ite_no (by simp [Region.wanted, yielded, d27]) ?_
      exact ⟨rfl, rfl⟩
    refine And.intro (fun w hw hd => ?_) ?_
    · have d30 := hd 30 (by decide) rfl
      change vs 30 = _ at d30
      have d27 := hd 27 (by decide) rfl
      change vs 27 = _ at d27
      refine ite_no (by simp [Region.wanted, yielded, d27]) ?_
      exact ⟨rfl, rfl⟩
    refine And.intro (fun w hw hd => ?_) ?_
    · have d29 := hd 29 (by decide) rfl
      change vs 29 = _ at d29
      have d31 := hd 31 (by decide) rfl
      change vs 31 = _ at d31
      have d27 := hd 27 (by decide) rfl
      change vs 27 = _ at d27
      refine ite_no (by simp [Region.wanted, yielded, d27]) ?_
      exact ⟨rfl, rfl⟩
    refine And.intro (fun w hw hd => ?_) ?_
    · have d27 := hd 27 (by decide) rfl
      change vs 27 = _ at d27
      have d32 := hd 32 (by decide) rfl
      change vs 32 = _ at d32
      refine ite_yes rfl ?_
      simp only [Gives]
      go_simp
      exact ⟨Below.refl _ _, rfl, fun h => by cases h⟩
    refine And.intro (fun w hw hd => ?_) ?_
    · have d33 := hd 33 (by decide) rfl
      change vs 33 = _ at d33
      refine ite_yes rfl ?_
      simp only [Gives]
      go_simp
      exact ⟨Below.refl _ _, rfl, fun h => by cases h⟩
    refine And.intro (fun w hw hd => ?_) ?_
    · have d34 := hd 34 (by decide) rfl
      change vs 34 = _ at d34
      refine ite_no (by simp [Region.wanted, yielded, d34]) ?_
      exact ⟨rfl, rfl⟩
    refine And.intro (fun w hw hd => ?_) ?_
    · have d35 := hd 35 (by decide) rfl
      change vs 35 = _ at d35
      have d34 := hd 34 (by decide) rfl
      change vs 34 = _ at d34
      refine ite_no (by simp [Region.wanted, yielded, d34]) ?_
      exact ⟨rfl, rfl⟩
    refine And.intro (fun w hw hd => ?_) ?_
    · have d34 := hd 34 (by decide) rfl
      change vs 34 = _ at d34
      refine ite_no (by simp [Region.wanted, yielded, d34]) ?_
      exact ⟨rfl, rfl⟩
    refine And.intro (fun w hw hd => ?_) ?_
    · have d37 := hd 37 (by decide) rfl
      change vs 37 = _ at d37
      have d34 := hd 34 (by decide) rfl
      change vs 34 = _ at d34
      refine ite_no (by simp [Region.wanted, yielded, d34]) ?_
      exact ⟨rfl, rfl⟩
    refine And.intro (fun w hw hd => ?_) ?_
    · have d36 := hd 36 (by decide) rfl
      change vs 36 = _ at d36
      have d38 := hd 38 (by decide) rfl
      change vs 38 = _ at d38
      have d34 := hd 34 (by decide) rfl
      change vs 34 = _ at d34
      refine ite_no (by simp [Region.wanted, yielded, d34]) ?_
      exact ⟨rfl, rfl⟩
    refine And.intro (fun w hw hd => ?_) ?_
    · have d34 := hd 34 (by decide) rfl
      change vs 34 = _ at d34
      have d39 := hd 39 (by decide) rfl
      change vs 39 = _ at d39
      refine ite_yes rfl ?_
      simp only [Gives]
      go_simp
      exact ⟨Below.refl _ _, rfl, fun h => by cases h⟩
    refine And.intro (fun w hw hd => ?_) ?_
    · have d40 := hd 40 (by decide) rfl
      change vs 40 = _ at d40
      refine ite_yes rfl ?_
      simp only [Gives]
      go_simp
      exact ⟨Below.refl _ _, rfl, fun h => by cases h⟩
    refine And.intro (fun w hw hd => ?_) ?_
    · have d41 := hd 41 (by decide) rfl
      change vs 41 = _ at d41
      refine ite_no (by simp [Region.wanted, yielded, d41]) ?_
      exact ⟨rfl, rfl⟩
    refine And.intro (fun w hw hd => ?_) ?_
    · have d42 := hd 42 (by decide) rfl
      change vs 42 = _ at d42
      have d41 := hd 41 (by decide) rfl
      change vs 41 = _ at d41
      refine ite_no (by simp [Region.wanted, yielded, d41]) ?_
      exact ⟨rfl, rfl⟩
    refine And.intro (fun w hw hd => ?_) ?_
    · have d41 := hd 41 (by decide) rfl
      change vs 41 = _ at d41
      refine ite_no (by simp [Region.wanted, yielded, d41]) ?_
      exact ⟨rfl, rfl⟩
    refine And.intro (fun w hw hd => ?_) ?_
    · have d44 := hd 44 (by decide) rfl
      change vs 44 = _ at d44
      have d41 := hd 41 (by decide) rfl
      change vs 41 = _ at d41
      refine ite_no (by simp [Region.wanted, yielded, d41]) ?_
      exact ⟨rfl, rfl⟩
    refine And.intro (fun w hw hd => ?_) ?_
    · have d43 := hd 43 (by decide) rfl
      change vs 43 = _ at d43
      have d45 := hd 45 (by decide) rfl
      change vs 45 = _ at d45
      have d41 := hd 41 (by decide) rfl
      change vs 41 = _ at d41
      refine ite_no (by simp [Region.wanted, yielded, d41]) ?_
      exact ⟨rfl, rfl⟩
    refine And.intro (fun w hw hd => ?_) ?_
    · have d41 := hd 41 (by decide) rfl
      change vs 41 = _ at d41
      have d46 := hd 46 (by decide) rfl
      change vs 46 = _ at d46
      refine ite_yes rfl ?_
      simp only [Gives]
      go_simp
      exact ⟨Below.refl _ _, rfl, fun h => by cases h⟩
    refine And.intro (fun w hw hd => ?_) ?_
    · have d47 := hd 47 (by decide) rfl
      change vs 47 = _ at d47
      refine ite_yes rfl ?_
      simp only [Gives]
      go_simp
      exact ⟨Below.refl _ _, rfl, fun h => by cases h⟩
    exact trivial
  intro vs wt hw hd hne hlo
  have d0 := hd 0 (by decide)
  change vs 0 = _ at d0
  have d1 := hd 1 (by decide)
  change vs 1 = _ at d1
  have d2 := hd 2 (by decide)
  change vs 2 = _ at d2
  have d3 := hd 3 (by decide)
  change vs 3 = _ at d3
  have d4 := hd 4 (by decide)
  change vs 4 = _ at d4
  have d5 := hd 5 (by decide)
  change vs 5 = _ at d5
  have d6 := hd 6 (by decide)
  change vs 6 = _ at d6
  have d7 := hd 7 (by decide)
  change vs 7 = _ at d7
  have d8 := hd 8 (by decide)
  change vs 8 = _ at d8
  have d9 := hd 9 (by decide)
  change vs 9 = _ at d9
  have d10 := hd 10 (by decide)
  change vs 10 = _ at d10
  have d11 := hd 11 (by decide)
  change vs 11 = _ at d11
  have d12 := hd 12 (by decide)
  change vs 12 = _ at d12
  have d13 := hd 13 (by decide)
  change vs 13 = _ at d13
  have d14 := hd 14 (by decide)
  change vs 14 = _ at d14
  have d15 := hd 15 (by decide)
  change vs 15 = _ at d15
  have d16 := hd 16 (by decide)
  change vs 16 = _ at d16
  have d17 := hd 17 (by decide)
  change vs 17 = _ at d17
  have d18 := hd 18 (by decide)
  change vs 18 = _ at d18
  have d19 := hd 19 (by decide)
  change vs 19 = _ at d19
  have d20 := hd 20 (by decide)
  change vs 20 = _ at d20
  have d21 := hd 21 (by decide)
  change vs 21 = _ at d21
  have d22 := hd 22 (by decide)
  change vs 22 = _ at d22
  have d23 := hd 23 (by decide)
  change vs 23 = _ at d23
  have d24 := hd 24 (by decide)
  change vs 24 = _ at d24
  have d25 := hd 25 (by decide)
  change vs 25 = _ at d25
  have d26 := hd 26 (by decide)
  change vs 26 = _ at d26
  have d27 := hd 27 (by decide)
  change vs 27 = _ at d27
  have d28 := hd 28 (by decide)
  change vs 28 = _ at d28
  have d29 := hd 29 (by decide)
  change vs 29 = _ at d29
  have d30 := hd 30 (by decide)
  change vs 30 = _ at d30
  have d31 := hd 31 (by decide)
  change vs 31 = _ at d31
  have d32 := hd 32 (by decide)
  change vs 32 = _ at d32
  have d33 := hd 33 (by decide)
  change vs 33 = _ at d33
  have d34 := hd 34 (by decide)
  change vs 34 = _ at d34
  have d35 := hd 35 (by decide)
  change vs 35 = _ at d35
  have d36 := hd 36 (by decide)
  change vs 36 = _ at d36
  have d37 := hd 37 (by decide)
  change vs 37 = _ at d37
  have d38 := hd 38 (by decide)
  change vs 38 = _ at d38
  have d39 := hd 39 (by decide)
  change vs 39 = _ at d39
  have d40 := hd 40 (by decide)
  change vs 40 = _ at d40
  have d41 := hd 41 (by decide)
  change vs 41 = _ at d41
  have d42 := hd 42 (by decide)
  change vs 42 = _ at d42
  have d43 := hd 43 (by decide)
  change vs 43 = _ at d43
  have d44 := hd 44 (by decide)
  change vs 44 = _ at d44
  have d45 := hd 45 (by decide)
  change vs 45 = _ at d45
  have d46 := hd 46 (by decide)
  change vs 46 = _ at d46
  have d47 := hd 47 (by decide)
  change vs 47 = _ at d47
  have d48 := hd 48 (by decide)
  change vs 48 = _ at d48
  simp only [d0, d1, d2, d3, d4, d5, d6, d7, d8, d9, d10, d11, d12, d13, d14, d15, d16, d17, d18, d19, d20, d21, d22, d23, d24, d25, d26, d27, d28, d29, d30, d31, d32, d33, d34, d35, d36, d37, d38, d39, d40, d41, d42, d43, d44, d45, d46, d47, d48, List.drop_succ_cons, List.drop_nil]
  have B1 := B1.kept hw
  have B3 := B3.kept hw
  have c_B1 := fun i => B1.cell i
  have f_B1 := fun i => B1.free i
  have c_B3 := fun i => B3.cell i
  have f_B3 := fun i => B3.free i
  clear hd hne hlo d0 d1 d2 d3 d4 d5 d6 d7 d8 d9 d10 d11 d12 d13 d14 d15 d16 d17 d18 d19 d20 d21 d22 d23 d24 d25 d26 d27 d28 d29 d30 d31 d32 d33 d34 d35 d36 d37 d38 d39 d40 d41 d42 d43 d44 d45 d46 d47 d48
  go_wp2
  go_ret
  exact ⟨ret_bool (by rw [Hfin.out]; simp [*]), up_later hB hw⟩

set_option maxRecDepth 100000 in
set_option maxHeartbeats 4000000 in
theorem valid_3 (v1 v2 v3 v4 : Value) (L : Ld) (c : List (Value × List Cl)) (w : World) (hL : LandAt w v1 v2 v3 v4 L c) (h1 : 0 < L.st.length) (h2 : 0 < c.length) (h3 : 0 < L.sn.length) (h4 : L.st.all stB = false) :
    Calls Try.prog 44 #[.agg #[v1, v2, v3, v4]] w fun e w' => e = .returned (.bool (validB L)) ∧ Below w.heap.size w w' := by
  have hB : Below w.heap.size w w := up0
  have hL0 := hL
  obtain ⟨hn1, A1, cap1, rfl, _, _⟩ := hL.st.form
  obtain ⟨hn2, A2, cap2, rfl, _, _⟩ := hL.rg.form
  obtain ⟨hn3, A3, cap3, rfl, _, _⟩ := hL.cs.form
  obtain ⟨hn4, A4, cap4, rfl, _, _⟩ := hL.sn.form
  have hfin : validB L = (decide (0 < L.st.length) && decide (0 < c.length) && decide (0 < L.sn.length) && L.st.all stB && apartB L.st && L.rg.all rgB && (c.all fun x => x.2.all (clB ((L.sn.length : Int) - 1))) && L.sn.all snB) := by
    rw [cs_len hL.eq, cs_all hL.eq fun x => x.all (clB ((L.sn.length : Int) - 1))]
    rfl
  have Hfin := Lib.hid hfin
  clear hfin
  have HL := Lib.hid hL
  clear hL hL0
  go_enter Try.func44, Try.ntmps44
  go_upto_region 2 with (go_at_call 68; refine (frame_any _ _ _ _ _ _ _ _ _ _ _ _ _ hn4).mono ?_; rintro e w1 ⟨rfl, hb1⟩)
  have B1 := (Box.later hb1 (Box.new (w := w) (t := 37) (cs := #[.slice A1 L.st.length cap1, .slice A2 L.rg.length cap2, .slice A3 c.length cap3, .slice A4 L.sn.length cap4]) rfl)).alloc (.cells #[iv 0, iv 100, iv 0, iv 1000, iv 1, iv 2, iv (-100), iv 100, iv 0, iv ((L.sn.length : Int) - 1)] 121)
  have B3 := Box.new (w := w1) (t := 121) (cs := #[iv 0, iv 100, iv 0, iv 1000, iv 1, iv 2, iv (-100), iv 100, iv 0, iv ((L.sn.length : Int) - 1)]) rfl
  have hB := up_alloc (up_later (up_alloc up0 _) hb1) (.cells #[iv 0, iv 100, iv 0, iv 1000, iv 1, iv 2, iv (-100), iv 100, iv 0, iv ((L.sn.length : Int) - 1)] 121)
  have HLt := Lib.hid (HL.out.kept hB)
  clear HL
  refine wp_region_lit ?_
  apply wpList_by 49 [(Fact.eq _), (Fact.eq _), (Fact.eq _), (Fact.eq _), (Fact.eq _), (Fact.eq _), (Fact.eq _), (Fact.eq _), (Fact.eq _), (Fact.eq _), (Fact.eq _), (Fact.eq _), (Fact.eq _), (Fact.eq _), (Fact.eq _), (Fact.eq _), (Fact.eq _), (Fact.eq _), (Fact.eq _), (Fact.eq _), (Fact.eq _), (Fact.eq _), (Fact.eq _), (Fact.eq _), (Fact.eq _), (Fact.eq _), (Fact.eq _), (Fact.eq _), (Fact.eq _), (Fact.eq _), (Fact.eq _), (Fact.eq _), (Fact.eq _), (Fact.eq _), (Fact.eq _), (Fact.eq _), (Fact.eq _), (Fact.eq _), (Fact.eq _), (Fact.eq _), (Fact.eq _), (Fact.eq _), (Fact.eq _), (Fact.eq _), (Fact.eq _), (Fact.eq _), (Fact.eq _), (Fact.eq _), (Fact.eq _)]
  case hB => kernel_rfl
  case hA => (intro vs; simp only [List.take_succ_cons, List.take_zero, putAll, if_true, Act.put, List.setIfInBounds_toArray, List.set_cons_zero, List.set_cons_succ]; exact rfl)
  case hstep =>
    intro vs
    refine And.intro (fun w hw hd => ?_) ?_
    · refine ite_yes rfl ?_
      simp only [Gives]
      go_simp
      exact ⟨Below.refl _ _, rfl, fun h => by cases h⟩
    refine And.intro (fun w hw hd => ?_) ?_
    · have d0 := hd 0 (by decide) rfl
      change vs 0 = _ at d0
      refine ite_yes rfl ?_
      have c_B1 := fun i => (B1.kept hw).cell i
      have c_B3 := fun i => (B3.kept hw).cell i
      simp only [Gives]
      go_simp
      exact ⟨Below.refl _ _, rfl, fun h => by cases h⟩
    refine And.intro (fun w hw hd => ?_) ?_
    · have d1 := hd 1 (by decide) rfl
      change vs 1 = _ at d1
      refine ite_yes rfl ?_
      simp only [Gives]
      go_simp
      exact ⟨Below.refl _ _, rfl, fun h => by cases h⟩
    refine And.intro (fun w hw hd => ?_) ?_
    · have d2 := hd 2 (by decide) rfl
      change vs 2 = _ at d2
      refine ite_yes rfl ?_
      simp only [Gives]
      go_simp
      exact ⟨Below.refl _ _, rfl, fun h => by cases h⟩
    refine And.intro (fun w hw hd => ?_) ?_
    · have d3 := hd 3 (by decide) rfl
      change vs 3 = _ at d3
      refine ite_yes rfl ?_
      simp only [Gives]
      go_simp
      exact ⟨Below.refl _ _, rfl, fun h => by cases h⟩
    refine And.intro (fun w hw hd => ?_) ?_
    · have d4 := hd 4 (by decide) rfl
      change vs 4 = _ at d4
      refine ite_yes (by simp [Region.wanted, yielded, d4]) ?_
      simp only [Gives]
      go_simp
      exact ⟨Below.refl _ _, rfl, fun h => by cases h⟩
    refine And.intro (fun w hw hd => ?_) ?_
    · have d5 := hd 5 (by decide) rfl
      change vs 5 = _ at d5
      have d4 := hd 4 (by decide) rfl
      change vs 4 = _ at d4
      refine ite_yes (by simp [Region.wanted, yielded, d4]) ?_
      have c_B1 := fun i => (B1.kept hw).cell i
      have c_B3 := fun i => (B3.kept hw).cell i
      simp only [Gives]
      go_simp
      exact ⟨Below.refl _ _, rfl, fun h => by cases h⟩
    refine And.intro (fun w hw hd => ?_) ?_
    · have d6 := hd 6 (by decide) rfl
      change vs 6 = _ at d6
      have d4 := hd 4 (by decide) rfl
      change vs 4 = _ at d4
      refine ite_yes (by simp [Region.wanted, yielded, d4]) ?_
      simp only [Gives]
      go_simp
      exact ⟨Below.refl _ _, rfl, fun h => by cases h⟩
    refine And.intro (fun w hw hd => ?_) ?_
    · have d7 := hd 7 (by decide) rfl
      change vs 7 = _ at d7
      have d4 := hd 4 (by decide) rfl
      change vs 4 = _ at d4
      refine ite_yes (by simp [Region.wanted, yielded, d4]) ?_
      simp only [Gives]
      go_simp
      exact ⟨Below.refl _ _, rfl, fun h => by cases h⟩
    refine And.intro (fun w hw hd => ?_) ?_
    · have d4 := hd 4 (by decide) rfl
      change vs 4 = _ at d4
      have d8 := hd 8 (by decide) rfl
      change vs 8 = _ at d8
      refine ite_yes rfl ?_
      simp only [Gives]
      go_simp
      exact ⟨Below.refl _ _, rfl, fun h => by cases h⟩
    refine And.intro (fun w hw hd => ?_) ?_
    · have d9 := hd 9 (by decide) rfl
      change vs 9 = _ at d9
      refine ite_yes rfl ?_
      simp only [Gives]
      go_simp
      exact ⟨Below.refl _ _, rfl, fun h => by cases h⟩
    refine And.intro (fun w hw hd => ?_) ?_
    · have d10 := hd 10 (by decide) rfl
      change vs 10 = _ at d10
      refine ite_yes (by simp [Region.wanted, yielded, d10]) ?_
      simp only [Gives]
      go_simp
      exact ⟨Below.refl _ _, rfl, fun h => by cases h⟩
    refine And.intro (fun w hw hd => ?_) ?_
    · have d11 := hd 11 (by decide) rfl
      change vs 11 = _ at d11
      have d10 := hd 10 (by decide) rfl
      change vs 10 = _ at d10
      refine ite_yes (by simp [Region.wanted, yielded, d10]) ?_
      have c_B1 := fun i => (B1.kept hw).cell i
      have c_B3 := fun i => (B3.kept hw).cell i
      simp only [Gives]
      go_simp
      exact ⟨Below.refl _ _, rfl, fun h => by cases h⟩
    refine And.intro (fun w hw hd => ?_) ?_
    · have d12 := hd 12 (by decide) rfl
      change vs 12 = _ at d12
      have d10 := hd 10 (by decide) rfl
      change vs 10 = _ at d10
      refine ite_yes (by simp [Region.wanted, yielded, d10]) ?_
      simp only [Gives]
      go_simp
      exact ⟨Below.refl _ _, rfl, fun h => by cases h⟩
    refine And.intro (fun w hw hd => ?_) ?_
    · have d13 := hd 13 (by decide) rfl
      change vs 13 = _ at d13
      have d10 := hd 10 (by decide) rfl
      change vs 10 = _ at d10
      refine ite_yes (by simp [Region.wanted, yielded, d10]) ?_
      simp only [Gives]
      go_simp
      exact ⟨Below.refl _ _, rfl, fun h => by cases h⟩
    refine And.intro (fun w hw hd => ?_) ?_
    · have d10 := hd 10 (by decide) rfl
      change vs 10 = _ at d10
      have d14 := hd 14 (by decide) rfl
      change vs 14 = _ at d14
      refine ite_yes rfl ?_
      simp only [Gives]
      go_simp
      exact ⟨Below.refl _ _, rfl, fun h => by cases h⟩
    refine And.intro (fun w hw hd => ?_) ?_
    · have d15 := hd 15 (by decide) rfl
      change vs 15 = _ at d15
      refine ite_yes rfl ?_
      simp only [Gives]
      go_simp
      exact ⟨Below.refl _ _, rfl, fun h => by cases h⟩
    refine And.intro (fun w hw hd => ?_) ?_
    · have d16 := hd 16 (by decide) rfl
      change vs 16 = _ at d16
      refine ite_yes (by simp [Region.wanted, yielded, d16]) ?_
      simp only [Gives]
      go_simp
      exact ⟨Below.refl _ _, rfl, fun h => by cases h⟩
    refine And.intro (fun w hw hd => ?_) ?_
    · have d17 := hd 17 (by decide) rfl
      change vs 17 = _ at d17
      have d16 := hd 16 (by decide) rfl
      change vs 16 = _ at d16
      refine ite_yes (by simp [Region.wanted, yielded, d16]) ?_
      have c_B1 := fun i => (B1.kept hw).cell i
      have c_B3 := fun i => (B3.kept hw).cell i
      simp only [Gives]
      go_simp
      exact ⟨Below.refl _ _, rfl, fun h => by cases h⟩
    refine And.intro (fun w hw hd => ?_) ?_
    · have d16 := hd 16 (by decide) rfl
      change vs 16 = _ at d16
      refine ite_yes (by simp [Region.wanted, yielded, d16]) ?_
      have c_B1 := fun i => (B1.kept hw).cell i
      have c_B3 := fun i => (B3.kept hw).cell i
      simp only [Gives]
      go_simp
      exact ⟨Below.refl _ _, rfl, fun h => by cases h⟩
    refine And.intro (fun w hw hd => ?_) ?_
    · have d19 := hd 19 (by decide) rfl
      change vs 19 = _ at d19
      have d16 := hd 16 (by decide) rfl
      change vs 16 = _ at d16
      refine ite_yes (by simp [Region.wanted, yielded, d16]) ?_
      simp only [Gives]
      go_simp
      exact ⟨Below.refl _ _, rfl, fun h => by cases h⟩
    refine And.intro (fun w hw hd => ?_) ?_
    · have d18 := hd 18 (by decide) rfl
      change vs 18 = _ at d18
      have d20 := hd 20 (by decide) rfl
      change vs 20 = _ at d20
      have d16 := hd 16 (by decide) rfl
      change vs 16 = _ at d16
      refine ite_yes (by simp [Region.wanted, yielded, d16]) ?_
      simp only [Gives]
      go_simp
      refine (stations_any _ _ L.st _ (HLt.out.kept hw).st).mono ?_
      rintro e w1 ⟨rfl, hb⟩
      exact ⟨_, rfl, hb, rfl, fun h => by cases h⟩
    refine And.intro (fun w hw hd => ?_) ?_
    · have d16 := hd 16 (by decide) rfl
      change vs 16 = _ at d16
      have d21 := hd 21 (by decide) rfl
      change vs 21 = _ at d21
      refine ite_yes rfl ?_
      simp only [Gives]
      go_simp
      exact ⟨Below.refl _ _, rfl, fun h => by cases h⟩
    refine And.intro (fun w hw hd => ?_) ?_
    · have d22 := hd 22 (by decide) rfl
      change vs 22 = _ at d22
      refine ite_yes rfl ?_
      simp only [Gives]
      go_simp
      exact ⟨Below.refl _ _, rfl, fun h => by cases h⟩
    refine And.intro (fun w hw hd => ?_) ?_
    · have d23 := hd 23 (by decide) rfl
      change vs 23 = _ at d23
      refine ite_no (by simp [Region.wanted, yielded, d23]) ?_
      exact ⟨rfl, rfl⟩
    refine And.intro (fun w hw hd => ?_) ?_
    · have d24 := hd 24 (by decide) rfl
      change vs 24 = _ at d24
      have d23 := hd 23 (by decide) rfl
      change vs 23 = _ at d23
      refine ite_no (by simp [Region.wanted, yielded, d23]) ?_
      exact ⟨rfl, rfl⟩
    refine And.intro (fun w hw hd => ?_) ?_
    · have d23 := hd 23 (by decide) rfl
      change vs 23 = _ at d23
      have d25 := hd 25 (by decide) rfl
      change vs 25 = _ at d25
      refine ite_yes rfl ?_
      simp only [Gives]
      go_simp
      exact ⟨Below.refl _ _, rfl, fun h => by cases h⟩
    refine And.intro (fun w hw hd => ?_) ?_
    · have d26 := hd 26 (by decide) rfl
      change vs 26 = _ at d26
      refine ite_yes rfl ?_
      simp only [Gives]
      go_simp
      exact ⟨Below.refl _ _, rfl, fun h => by cases h⟩
    refine And.intro (fun w hw hd => ?_) ?_
    · have d27 := hd 27 (by decide) rfl
      change vs 27 = _ at d27
      refine ite_no (by simp [Region.wanted, yielded, d27]) ?_
      exact ⟨rfl, rfl⟩
    refine And.intro (fun w hw hd => ?_) ?_
    · have d28 := hd 28 (by decide) rfl
      change vs 28 = _ at d28
      have d27 := hd 27 (by decide) rfl
      change vs 27 = _ at d27
      refine ite_no (by simp [Region.wanted, yielded, d27]) ?_
      exact ⟨rfl, rfl⟩
    refine And.intro (fun w hw hd => ?_) ?_
    · have d27 := hd 27 (by decide) rfl
      change vs 27 = _ at d27
      refine ite_no (by simp [Region.wanted, yielded, d27]) ?_
      exact ⟨rfl, rfl⟩
    refine And.intro (fun w hw hd => ?_) ?_
    · have d30 := hd 30 (by decide) rfl
      change vs 30 = _ at d30
      have d27 := hd 27 (by decide) rfl
      change vs 27 = _ at d27
      refine ite_no (by simp [Region.wanted, yielded, d27]) ?_
      exact ⟨rfl, rfl⟩
    refine And.intro (fun w hw hd => ?_) ?_
    · have d29 := hd 29 (by decide) rfl
      change vs 29 = _ at d29
      have d31 := hd 31 (by decide) rfl
      change vs 31 = _ at d31
      have d27 := hd 27 (by decide) rfl
      change vs 27 = _ at d27
      refine ite_no (by simp [Region.wanted, yielded, d27]) ?_
      exact ⟨rfl, rfl⟩
    refine And.intro (fun w hw hd => ?_) ?_
    · have d27 := hd 27 (by decide) rfl
      change vs 27 = _ at d27
      have d32 := hd 32 (by decide) rfl
      change vs 32 = _ at d32
      refine ite_yes rfl ?_
      simp only [Gives]
      go_simp
      exact ⟨Below.refl _ _, rfl, fun h => by cases h⟩
    refine And.intro (fun w hw hd => ?_) ?_
    · have d33 := hd 33 (by decide) rfl
      change vs 33 = _ at d33
      refine ite_yes rfl ?_
      simp only [Gives]
      go_simp
      exact ⟨Below.refl _ _, rfl, fun h => by cases h⟩
    refine And.intro (fun w hw hd => ?_) ?_
    · have d34 := hd 34 (by decide) rfl
      change vs 34 = _ at d34
      refine ite_no (by simp [Region.wanted, yielded, d34]) ?_
      exact ⟨rfl, rfl⟩
    refine And.intro (fun w hw hd => ?_) ?_
    · have d35 := hd 35 (by decide) rfl
      change vs 35 = _ at d35
      have d34 := hd 34 (by decide) rfl
      change vs 34 = _ at d34
      refine ite_no (by simp [Region.wanted, yielded, d34]) ?_
      exact ⟨rfl, rfl⟩
    refine And.intro (fun w hw hd => ?_) ?_
    · have d34 := hd 34 (by decide) rfl
      change vs 34 = _ at d34
      refine ite_no (by simp [Region.wanted, yielded, d34]) ?_
      exact ⟨rfl, rfl⟩
    refine And.intro (fun w hw hd => ?_) ?_
    · have d37 := hd 37 (by decide) rfl
      change vs 37 = _ at d37
      have d34 := hd 34 (by decide) rfl
      change vs 34 = _ at d34
      refine ite_no (by simp [Region.wanted, yielded, d34]) ?_
      exact ⟨rfl, rfl⟩
    refine And.intro (fun w hw hd => ?_) ?_
    · have d36 := hd 36 (by decide) rfl
      change vs 36 = _ at d36
      have d38 := hd 38 (by decide) rfl
      change vs 38 = _ at d38
      have d34 := hd 34 (by decide) rfl
      change vs 34 = _ at d34
      refine ite_no (by simp [Region.wanted, yielded, d34]) ?_
      exact ⟨rfl, rfl⟩
    refine And.intro (fun w hw hd => ?_) ?_
    · have d34 := hd 34 (by decide) rfl
      change vs 34 = _ at d34
      have d39 := hd 39 (by decide) rfl
      change vs 39 = _ at d39
      refine ite_yes rfl ?_
      simp only [Gives]
      go_simp
      exact ⟨Below.refl _ _, rfl, fun h => by cases h⟩
    refine And.intro (fun w hw hd => ?_) ?_
    · have d40 := hd 40 (by decide) rfl
      change vs 40 = _ at d40
      refine ite_yes rfl ?_
      simp only [Gives]
      go_simp
      exact ⟨Below.refl _ _, rfl, fun h => by cases h⟩
    refine And.intro (fun w hw hd => ?_) ?_
    · have d41 := hd 41 (by decide) rfl
      change vs 41 = _ at d41
      refine ite_no (by simp [Region.wanted, yielded, d41]) ?_
      exact ⟨rfl, rfl⟩
    refine And.intro (fun w hw hd => ?_) ?_
    · have d42 := hd 42 (by decide) rfl
      change vs 42 = _ at d42
      have d41 := hd 41 (by decide) rfl
      change vs 41 = _ at d41
      refine ite_no (by simp [Region.wanted, yielded, d41]) ?_
      exact ⟨rfl, rfl⟩
    refine And.intro (fun w hw hd => ?_) ?_
    · have d41 := hd 41 (by decide) rfl
      change vs 41 = _ at d41
      refine ite_no (by simp [Region.wanted, yielded, d41]) ?_
      exact ⟨rfl, rfl⟩
    refine And.intro (fun w hw hd => ?_) ?_
    · have d44 := hd 44 (by decide) rfl
      change vs 44 = _ at d44
      have d41 := hd 41 (by decide) rfl
      change vs 41 = _ at d41
      refine ite_no (by simp [Region.wanted, yielded, d41]) ?_
      exact ⟨rfl, rfl⟩
    refine And.intro (fun w hw hd => ?_) ?_
    · have d43 := hd 43 (by decide) rfl
      change vs 43 = _ at d43
      have d45 := hd 45 (by decide) rfl
      change vs 45 = _ at d45
      have d41 := hd 41 (by decide) rfl
      change vs 41 = _ at d41
      refine ite_no (by simp [Region.wanted, yielded, d41]) ?_
      exact ⟨rfl, rfl⟩
    refine And.intro (fun w hw hd => ?_) ?_
    · have d41 := hd 41 (by decide) rfl
      change vs 41 = _ at d41
      have d46 := hd 46 (by decide) rfl
      change vs 46 = _ at d46
      refine ite_yes rfl ?_
      simp only [Gives]
      go_simp
      exact ⟨Below.refl _ _, rfl, fun h => by cases h⟩
    refine And.intro (fun w hw hd => ?_) ?_
    · have d47 := hd 47 (by decide) rfl
      change vs 47 = _ at d47
      refine ite_yes rfl ?_
      simp only [Gives]
      go_simp
      exact ⟨Below.refl _ _, rfl, fun h => by cases h⟩
    exact trivial
  intro vs wt hw hd hne hlo
  have d0 := hd 0 (by decide)
  change vs 0 = _ at d0
  have d1 := hd 1 (by decide)
  change vs 1 = _ at d1
  have d2 := hd 2 (by decide)
  change vs 2 = _ at d2
  have d3 := hd 3 (by decide)
  change vs 3 = _ at d3
  have d4 := hd 4 (by decide)
  change vs 4 = _ at d4
  have d5 := hd 5 (by decide)
  change vs 5 = _ at d5
  have d6 := hd 6 (by decide)
  change vs 6 = _ at d6
  have d7 := hd 7 (by decide)
  change vs 7 = _ at d7
  have d8 := hd 8 (by decide)
  change vs 8 = _ at d8
  have d9 := hd 9 (by decide)
  change vs 9 = _ at d9
  have d10 := hd 10 (by decide)
  change vs 10 = _ at d10
  have d11 := hd 11 (by decide)
  change vs 11 = _ at d11
  have d12 := hd 12 (by decide)
  change vs 12 = _ at d12
  have d13 := hd 13 (by decide)
  change vs 13 = _ at d13
  have d14 := hd 14 (by decide)
  change vs 14 = _ at d14
  have d15 := hd 15 (by decide)
  change vs 15 = _ at d15
  have d16 := hd 16 (by decide)
  change vs 16 = _ at d16
  have d17 := hd 17 (by decide)
  change vs 17 = _ at d17
  have d18 := hd 18 (by decide)
  change vs 18 = _ at d18
  have d19 := hd 19 (by decide)
  change vs 19 = _ at d19
  have d20 := hd 20 (by decide)
  change vs 20 = _ at d20
  have d21 := hd 21 (by decide)
  change vs 21 = _ at d21
  have d22 := hd 22 (by decide)
  change vs 22 = _ at d22
  have d23 := hd 23 (by decide)
  change vs 23 = _ at d23
  have d24 := hd 24 (by decide)
  change vs 24 = _ at d24
  have d25 := hd 25 (by decide)
  change vs 25 = _ at d25
  have d26 := hd 26 (by decide)
  change vs 26 = _ at d26
  have d27 := hd 27 (by decide)
  change vs 27 = _ at d27
  have d28 := hd 28 (by decide)
  change vs 28 = _ at d28
  have d29 := hd 29 (by decide)
  change vs 29 = _ at d29
  have d30 := hd 30 (by decide)
  change vs 30 = _ at d30
  have d31 := hd 31 (by decide)
  change vs 31 = _ at d31
  have d32 := hd 32 (by decide)
  change vs 32 = _ at d32
  have d33 := hd 33 (by decide)
  change vs 33 = _ at d33
  have d34 := hd 34 (by decide)
  change vs 34 = _ at d34
  have d35 := hd 35 (by decide)
  change vs 35 = _ at d35
  have d36 := hd 36 (by decide)
  change vs 36 = _ at d36
  have d37 := hd 37 (by decide)
  change vs 37 = _ at d37
  have d38 := hd 38 (by decide)
  change vs 38 = _ at d38
  have d39 := hd 39 (by decide)
  change vs 39 = _ at d39
  have d40 := hd 40 (by decide)
  change vs 40 = _ at d40
  have d41 := hd 41 (by decide)
  change vs 41 = _ at d41
  have d42 := hd 42 (by decide)
  change vs 42 = _ at d42
  have d43 := hd 43 (by decide)
  change vs 43 = _ at d43
  have d44 := hd 44 (by decide)
  change vs 44 = _ at d44
  have d45 := hd 45 (by decide)
  change vs 45 = _ at d45
  have d46 := hd 46 (by decide)
  change vs 46 = _ at d46
  have d47 := hd 47 (by decide)
  change vs 47 = _ at d47
  have d48 := hd 48 (by decide)
  change vs 48 = _ at d48
  simp only [d0, d1, d2, d3, d4, d5, d6, d7, d8, d9, d10, d11, d12, d13, d14, d15, d16, d17, d18, d19, d20, d21, d22, d23, d24, d25, d26, d27, d28, d29, d30, d31, d32, d33, d34, d35, d36, d37, d38, d39, d40, d41, d42, d43, d44, d45, d46, d47, d48, List.drop_succ_cons, List.drop_nil]
  have B1 := B1.kept hw
  have B3 := B3.kept hw
  have c_B1 := fun i => B1.cell i
  have f_B1 := fun i => B1.free i
  have c_B3 := fun i => B3.cell i
  have f_B3 := fun i => B3.free i
  clear hd hne hlo d0 d1 d2 d3 d4 d5 d6 d7 d8 d9 d10 d11 d12 d13 d14 d15 d16 d17 d18 d19 d20 d21 d22 d23 d24 d25 d26 d27 d28 d29 d30 d31 d32 d33 d34 d35 d36 d37 d38 d39 d40 d41 d42 d43 d44 d45 d46 d47 d48
  go_wp2
  go_ret
  exact ⟨ret_bool (by rw [Hfin.out]; simp [*]), up_later hB hw⟩

end Go.Proofs.Ytojbdmdjepgpjaa
