/-
  WALK of '(frame).isWall'. Conditions: none.
-/
import Derived.Test.YtojbdmdjepgpjaaCc
import Derived.Test.YtojbdmdjepgpjaaRf
import Derived.Test.YtojbdmdjepgpjaaPl
import Derived.Deep.DeepCutAuto
namespace Go.Proofs.Ytojbdmdjepgpjaa
open Go.RowKit

theorem all4 (a b c d : Int) (p : Int → Bool) : [a, b, c, d].all p = (p a && p b && p c && p d) := by simp [Bool.and_assoc]

set_option maxRecDepth 100000 in
set_option maxHeartbeats 4000000 in
theorem isWall_any (h x1 y1 x2 y2 b t : Int) (w : World) :
    Calls Try.prog 95 #[frameV h, .agg #[.int .i64 x1, .int .i64 y1, .int .i64 x2, .int .i64 y2, .int .i64 b, .int .i64 t]] w fun e w' => e = .returned (.bool (wlB ⟨x1, y1, x2, y2, b, t⟩)) ∧ Below w.heap.size w w' := by
  unfold frameV
  have hfin : wlB ⟨x1, y1, x2, y2, b, t⟩ = ([x1, y1, x2, y2].all (inB 0 100) && !(x1 == x2 && y1 == y2) && inB 0 1000 b && inB 0 1000 t && decide (b ≤ t)) := by rw [all4]; rfl
  have Hfin := Lib.hid hfin
  clear hfin
  go_enter Try.func95, Try.ntmps95
  go_upto_region 2 with (go_at_call 103; refine (ends_any _ _ _ _ _ _ _).mono ?_; rintro e w1 ⟨rfl, hb1⟩)
  have B2 := ((Box.later hb1 ((Box.new (w := w) (t := 121) (cs := #[iv 0, iv 100, iv 0, iv 1000, iv 1, iv 2, iv (-100), iv 100, iv 0, iv h]) rfl).alloc _)).alloc (.cells #[iv x1, iv y1] 157)).alloc (.cells #[iv x2, iv y2] 157)
  have B3 := ((Box.later hb1 (Box.new (g := w.heap.size + 1) (t := 68) (cs := #[iv x1, iv y1, iv x2, iv y2, iv b, iv t]) (by simp))).alloc (.cells #[iv x1, iv y1] 157)).alloc (.cells #[iv x2, iv y2] 157)
  have B5 := (Box.new (w := w1) (t := 157) (cs := #[iv x1, iv y1]) rfl).alloc (.cells #[iv x2, iv y2] 157)
  have B6 := Box.new (w := w1.alloc (.cells #[iv x1, iv y1] 157)) (g := w1.heap.size + 1) (t := 157) (cs := #[iv x2, iv y2]) (by simp)
  have hB := up_alloc (up_alloc (up_later (up_alloc (up_alloc up0 _) _) hb1) (.cells #[iv x1, iv y1] 157)) (.cells #[iv x2, iv y2] 157)
  cases k1 : [x1, y1, x2, y2].all (inB 0 100) with
  | false =>
    apply wp_region_by 35 [(Fact.eq _), (Fact.eq _), (Fact.sl 2 41 _), (Fact.row 1 (fun n => [iv n]) [x1, y1, x2, y2]), (Fact.eq _), (Fact.eq _), (Fact.eq _), (Fact.eq _), (Fact.eq _), (Fact.eq _), (Fact.eq _), (Fact.eq _), (Fact.eq _), (Fact.eq _), (Fact.eq _), (Fact.eq _), (Fact.eq _), (Fact.eq _), (Fact.eq _), (Fact.eq _), (Fact.eq _), (Fact.eq _), (Fact.eq _), (Fact.eq _), (Fact.eq _), (Fact.eq _), (Fact.eq _), (Fact.eq _), (Fact.eq _), (Fact.eq _), (Fact.eq _), (Fact.eq _), (Fact.eq _), (Fact.eq _), (Fact.eq _)]
    case hm => kernel_rfl
    case hB => kernel_rfl
    case hA => (intro vs; simp only [List.take_succ_cons, List.take_zero, putAll, if_true, Act.put, List.setIfInBounds_toArray, List.set_cons_zero, List.set_cons_succ]; exact rfl)
    case hstep =>
      intro vs
      refine And.intro (fun w hw hd => ?_) ?_
      · refine ite_yes rfl ?_
        simp only [Gives]
        go_simp
        exact ⟨Below.refl _ _, rfl, fun h => by cases h⟩
      refine And.intro (fun w hw hd => ?_) ?_
      · refine ite_yes rfl ?_
        simp only [Gives]
        go_simp
        exact ⟨Below.refl _ _, rfl, fun h => by cases h⟩
      refine And.intro (fun w hw hd => ?_) ?_
      · have d0 := hd 0 (by decide) rfl
        change vs 0 = _ at d0
        have d1 := hd 1 (by decide) rfl
        change vs 1 = _ at d1
        refine ite_yes rfl ?_
        simp only [Gives]
        go_simp
        exact ⟨(Below.refl _ _).alloc (Nat.le_refl _) _, ⟨_, rfl, Box.new rfl⟩, fun h => by cases h⟩
      refine And.intro (fun w hw hd => ?_) ?_
      · have d2 := hd 2 (by decide) rfl
        obtain ⟨n2, d2, N2⟩ := d2
        refine ite_yes rfl ?_
        simp only [Gives]
        go_simp
        refine (Concat_any n2 2 _ _ 157 x1 y1 x2 y2 w (by simpa using N2.cell 0) (by simpa using N2.cell 1) N2.lt (B5.kept hw) (B6.kept hw)).mono ?_
        rintro e w2 ⟨v, rfl, hr, hb⟩
        exact ⟨v, rfl, hb, hr, fun h => by cases h⟩
      refine And.intro (fun w hw hd => ?_) ?_
      · refine ite_yes rfl ?_
        simp only [Gives]
        go_simp
        exact ⟨Below.refl _ _, rfl, fun h => by cases h⟩
      refine And.intro (fun w hw hd => ?_) ?_
      · have d4 := hd 4 (by decide) rfl
        change vs 4 = _ at d4
        refine ite_yes rfl ?_
        have c_B2 := fun i => (B2.kept hw).cell i
        have c_B3 := fun i => (B3.kept hw).cell i
        have c_B5 := fun i => (B5.kept hw).cell i
        have c_B6 := fun i => (B6.kept hw).cell i
        simp only [Gives]
        go_simp
        exact ⟨Below.refl _ _, rfl, fun h => by cases h⟩
      refine And.intro (fun w hw hd => ?_) ?_
      · have d5 := hd 5 (by decide) rfl
        change vs 5 = _ at d5
        refine ite_yes rfl ?_
        simp only [Gives]
        go_simp
        exact ⟨Below.refl _ _, rfl, fun h => by cases h⟩
      refine And.intro (fun w hw hd => ?_) ?_
      · have d3 := hd 3 (by decide) rfl
        have d6 := hd 6 (by decide) rfl
        change vs 6 = _ at d6
        refine ite_yes rfl ?_
        simp only [Gives]
        go_simp
        refine (every_int_any _ _ _ _ _ d3).mono ?_
        rintro e w1 ⟨rfl, hb⟩
        exact ⟨_, rfl, hb, rfl, fun h => by cases h⟩
      refine And.intro (fun w hw hd => ?_) ?_
      · have d7 := hd 7 (by decide) rfl
        change vs 7 = _ at d7
        refine ite_yes rfl ?_
        simp only [Gives]
        go_simp
        exact ⟨Below.refl _ _, rfl, fun h => by cases h⟩
      refine And.intro (fun w hw hd => ?_) ?_
      · have d8 := hd 8 (by decide) rfl
        change vs 8 = _ at d8
        refine ite_no (by simp [Region.wanted, yielded, d8]) ?_
        exact ⟨rfl, rfl⟩
      refine And.intro (fun w hw hd => ?_) ?_
      · have d8 := hd 8 (by decide) rfl
        change vs 8 = _ at d8
        refine ite_no (by simp [Region.wanted, yielded, d8]) ?_
        exact ⟨rfl, rfl⟩
      refine And.intro (fun w hw hd => ?_) ?_
      · have d9 := hd 9 (by decide) rfl
        change vs 9 = _ at d9
        have d10 := hd 10 (by decide) rfl
        change vs 10 = _ at d10
        have d8 := hd 8 (by decide) rfl
        change vs 8 = _ at d8
        refine ite_no (by simp [Region.wanted, yielded, d8]) ?_
        exact ⟨rfl, rfl⟩
      refine And.intro (fun w hw hd => ?_) ?_
      · have d8 := hd 8 (by decide) rfl
        change vs 8 = _ at d8
        have d11 := hd 11 (by decide) rfl
        change vs 11 = _ at d11
        refine ite_yes rfl ?_
        simp only [Gives]
        go_simp
        exact ⟨Below.refl _ _, rfl, fun h => by cases h⟩
      refine And.intro (fun w hw hd => ?_) ?_
      · have d12 := hd 12 (by decide) rfl
        change vs 12 = _ at d12
        refine ite_yes rfl ?_
        simp only [Gives]
        go_simp
        exact ⟨Below.refl _ _, rfl, fun h => by cases h⟩
      refine And.intro (fun w hw hd => ?_) ?_
      · have d13 := hd 13 (by decide) rfl
        change vs 13 = _ at d13
        refine ite_no (by simp [Region.wanted, yielded, d13]) ?_
        exact ⟨rfl, rfl⟩
      refine And.intro (fun w hw hd => ?_) ?_
      · have d14 := hd 14 (by decide) rfl
        change vs 14 = _ at d14
        have d13 := hd 13 (by decide) rfl
        change vs 13 = _ at d13
        refine ite_no (by simp [Region.wanted, yielded, d13]) ?_
        exact ⟨rfl, rfl⟩
      refine And.intro (fun w hw hd => ?_) ?_
      · have d13 := hd 13 (by decide) rfl
        change vs 13 = _ at d13
        refine ite_no (by simp [Region.wanted, yielded, d13]) ?_
        exact ⟨rfl, rfl⟩
      refine And.intro (fun w hw hd => ?_) ?_
      · have d16 := hd 16 (by decide) rfl
        change vs 16 = _ at d16
        have d13 := hd 13 (by decide) rfl
        change vs 13 = _ at d13
        refine ite_no (by simp [Region.wanted, yielded, d13]) ?_
        exact ⟨rfl, rfl⟩
      refine And.intro (fun w hw hd => ?_) ?_
      · have d15 := hd 15 (by decide) rfl
        change vs 15 = _ at d15
        have d17 := hd 17 (by decide) rfl
        change vs 17 = _ at d17
        have d13 := hd 13 (by decide) rfl
        change vs 13 = _ at d13
        refine ite_no (by simp [Region.wanted, yielded, d13]) ?_
        exact ⟨rfl, rfl⟩
      refine And.intro (fun w hw hd => ?_) ?_
      · have d13 := hd 13 (by decide) rfl
        change vs 13 = _ at d13
        have d18 := hd 18 (by decide) rfl
        change vs 18 = _ at d18
        refine ite_yes rfl ?_
        simp only [Gives]
        go_simp
        exact ⟨Below.refl _ _, rfl, fun h => by cases h⟩
      refine And.intro (fun w hw hd => ?_) ?_
      · have d19 := hd 19 (by decide) rfl
        change vs 19 = _ at d19
        refine ite_yes rfl ?_
        simp only [Gives]
        go_simp
        exact ⟨Below.refl _ _, rfl, fun h => by cases h⟩
      refine And.intro (fun w hw hd => ?_) ?_
      · have d20 := hd 20 (by decide) rfl
        change vs 20 = _ at d20
        refine ite_no (by simp [Region.wanted, yielded, d20]) ?_
        exact ⟨rfl, rfl⟩
      refine And.intro (fun w hw hd => ?_) ?_
      · have d21 := hd 21 (by decide) rfl
        change vs 21 = _ at d21
        have d20 := hd 20 (by decide) rfl
        change vs 20 = _ at d20
        refine ite_no (by simp [Region.wanted, yielded, d20]) ?_
        exact ⟨rfl, rfl⟩
      refine And.intro (fun w hw hd => ?_) ?_
      · have d20 := hd 20 (by decide) rfl
        change vs 20 = _ at d20
        refine ite_no (by simp [Region.wanted, yielded, d20]) ?_
        exact ⟨rfl, rfl⟩
      refine And.intro (fun w hw hd => ?_) ?_
      · have d23 := hd 23 (by decide) rfl
        change vs 23 = _ at d23
        have d20 := hd 20 (by decide) rfl
        change vs 20 = _ at d20
        refine ite_no (by simp [Region.wanted, yielded, d20]) ?_
        exact ⟨rfl, rfl⟩
      refine And.intro (fun w hw hd => ?_) ?_
      · have d22 := hd 22 (by decide) rfl
        change vs 22 = _ at d22
        have d24 := hd 24 (by decide) rfl
        change vs 24 = _ at d24
        have d20 := hd 20 (by decide) rfl
        change vs 20 = _ at d20
        refine ite_no (by simp [Region.wanted, yielded, d20]) ?_
        exact ⟨rfl, rfl⟩
      refine And.intro (fun w hw hd => ?_) ?_
      · have d20 := hd 20 (by decide) rfl
        change vs 20 = _ at d20
        have d25 := hd 25 (by decide) rfl
        change vs 25 = _ at d25
        refine ite_yes rfl ?_
        simp only [Gives]
        go_simp
        exact ⟨Below.refl _ _, rfl, fun h => by cases h⟩
      refine And.intro (fun w hw hd => ?_) ?_
      · have d26 := hd 26 (by decide) rfl
        change vs 26 = _ at d26
        refine ite_yes rfl ?_
        simp only [Gives]
        go_simp
        exact ⟨Below.refl _ _, rfl, fun h => by cases h⟩
      refine And.intro (fun w hw hd => ?_) ?_
      · have d27 := hd 27 (by decide) rfl
        change vs 27 = _ at d27
        refine ite_no (by simp [Region.wanted, yielded, d27]) ?_
        exact ⟨rfl, rfl⟩
      refine And.intro (fun w hw hd => ?_) ?_
      · have d28 := hd 28 (by decide) rfl
        change vs 28 = _ at d28
        have d27 := hd 27 (by decide) rfl
        change vs 27 = _ at d27
        refine ite_no (by simp [Region.wanted, yielded, d27]) ?_
        exact ⟨rfl, rfl⟩
      refine And.intro (fun w hw hd => ?_) ?_
      · have d27 := hd 27 (by decide) rfl
        change vs 27 = _ at d27
        refine ite_no (by simp [Region.wanted, yielded, d27]) ?_
        exact ⟨rfl, rfl⟩
      refine And.intro (fun w hw hd => ?_) ?_
      · have d30 := hd 30 (by decide) rfl
        change vs 30 = _ at d30
        have d27 := hd 27 (by decide) rfl
        change vs 27 = _ at d27
        refine ite_no (by simp [Region.wanted, yielded, d27]) ?_
        exact ⟨rfl, rfl⟩
      refine And.intro (fun w hw hd => ?_) ?_
      · have d29 := hd 29 (by decide) rfl
        change vs 29 = _ at d29
        have d31 := hd 31 (by decide) rfl
        change vs 31 = _ at d31
        have d27 := hd 27 (by decide) rfl
        change vs 27 = _ at d27
        refine ite_no (by simp [Region.wanted, yielded, d27]) ?_
        exact ⟨rfl, rfl⟩
      refine And.intro (fun w hw hd => ?_) ?_
      · have d27 := hd 27 (by decide) rfl
        change vs 27 = _ at d27
        have d32 := hd 32 (by decide) rfl
        change vs 32 = _ at d32
        refine ite_yes rfl ?_
        simp only [Gives]
        go_simp
        exact ⟨Below.refl _ _, rfl, fun h => by cases h⟩
      refine And.intro (fun w hw hd => ?_) ?_
      · have d33 := hd 33 (by decide) rfl
        change vs 33 = _ at d33
        refine ite_yes rfl ?_
        simp only [Gives]
        go_simp
        exact ⟨Below.refl _ _, rfl, fun h => by cases h⟩
      exact trivial
    intro vs wt hw hd hne hlo
    have d0 := hd 0 (by decide)
    change vs 0 = _ at d0
    have d1 := hd 1 (by decide)
    change vs 1 = _ at d1
    have d2 := hd 2 (by decide)
    obtain ⟨n2, d2, N2⟩ := d2
    have d3 := hd 3 (by decide)
    skip
    have d4 := hd 4 (by decide)
    change vs 4 = _ at d4
    have d5 := hd 5 (by decide)
    change vs 5 = _ at d5
    have d6 := hd 6 (by decide)
    change vs 6 = _ at d6
    have d7 := hd 7 (by decide)
    change vs 7 = _ at d7
    have d8 := hd 8 (by decide)
    change vs 8 = _ at d8
    have d9 := hd 9 (by decide)
    change vs 9 = _ at d9
    have d10 := hd 10 (by decide)
    change vs 10 = _ at d10
    have d11 := hd 11 (by decide)
    change vs 11 = _ at d11
    have d12 := hd 12 (by decide)
    change vs 12 = _ at d12
    have d13 := hd 13 (by decide)
    change vs 13 = _ at d13
    have d14 := hd 14 (by decide)
    change vs 14 = _ at d14
    have d15 := hd 15 (by decide)
    change vs 15 = _ at d15
    have d16 := hd 16 (by decide)
    change vs 16 = _ at d16
    have d17 := hd 17 (by decide)
    change vs 17 = _ at d17
    have d18 := hd 18 (by decide)
    change vs 18 = _ at d18
    have d19 := hd 19 (by decide)
    change vs 19 = _ at d19
    have d20 := hd 20 (by decide)
    change vs 20 = _ at d20
    have d21 := hd 21 (by decide)
    change vs 21 = _ at d21
    have d22 := hd 22 (by decide)
    change vs 22 = _ at d22
    have d23 := hd 23 (by decide)
    change vs 23 = _ at d23
    have d24 := hd 24 (by decide)
    change vs 24 = _ at d24
    have d25 := hd 25 (by decide)
    change vs 25 = _ at d25
    have d26 := hd 26 (by decide)
    change vs 26 = _ at d26
    have d27 := hd 27 (by decide)
    change vs 27 = _ at d27
    have d28 := hd 28 (by decide)
    change vs 28 = _ at d28
    have d29 := hd 29 (by decide)
    change vs 29 = _ at d29
    have d30 := hd 30 (by decide)
    change vs 30 = _ at d30
    have d31 := hd 31 (by decide)
    change vs 31 = _ at d31
    have d32 := hd 32 (by decide)
    change vs 32 = _ at d32
    have d33 := hd 33 (by decide)
    change vs 33 = _ at d33
    have d34 := hd 34 (by decide)
    change vs 34 = _ at d34
    simp only [d0, d1, d4, d5, d6, d7, d8, d9, d10, d11, d12, d13, d14, d15, d16, d17, d18, d19, d20, d21, d22, d23, d24, d25, d26, d27, d28, d29, d30, d31, d32, d33, d34, List.drop_succ_cons, List.drop_nil]
    have B2 := B2.kept hw
    have B3 := B3.kept hw
    have B5 := B5.kept hw
    have B6 := B6.kept hw
    have c_B2 := fun i => B2.cell i
    have f_B2 := fun i => B2.free i
    have c_B3 := fun i => B3.cell i
    have f_B3 := fun i => B3.free i
    have c_B5 := fun i => B5.cell i
    have f_B5 := fun i => B5.free i
    have c_B6 := fun i => B6.cell i
    have f_B6 := fun i => B6.free i
    clear hd hne hlo d0 d1 d4 d5 d6 d7 d8 d9 d10 d11 d12 d13 d14 d15 d16 d17 d18 d19 d20 d21 d22 d23 d24 d25 d26 d27 d28 d29 d30 d31 d32 d33 d34
    go_wp2
    go_ret
    exact ⟨ret_bool (by rw [Hfin.out]; simp [*]), up_later hB hw⟩
  | true =>
    cases q2 : (x1 == x2 && y1 == y2) with
    | true =>
      have hE := eq_place x1 y1 x2 y2
      rw [q2] at hE
      apply wp_region_by 35 [(Fact.eq _), (Fact.eq _), (Fact.sl 2 41 _), (Fact.row 1 (fun n => [iv n]) [x1, y1, x2, y2]), (Fact.eq _), (Fact.eq _), (Fact.eq _), (Fact.eq _), (Fact.eq _), (Fact.eq _), (Fact.eq _), (Fact.eq (.bool false)), (Fact.eq _), (Fact.eq _), (Fact.eq _), (Fact.eq _), (Fact.eq _), (Fact.eq _), (Fact.eq _), (Fact.eq _), (Fact.eq _), (Fact.eq _), (Fact.eq _), (Fact.eq _), (Fact.eq _), (Fact.eq _), (Fact.eq _), (Fact.eq _), (Fact.eq _), (Fact.eq _), (Fact.eq _), (Fact.eq _), (Fact.eq _), (Fact.eq _), (Fact.eq _)]
      case hm => kernel_rfl
      case hB => kernel_rfl
      case hA => (intro vs; simp only [List.take_succ_cons, List.take_zero, putAll, if_true, Act.put, List.setIfInBounds_toArray, List.set_cons_zero, List.set_cons_succ]; exact rfl)
      case hstep =>
        intro vs
        refine And.intro (fun w hw hd => ?_) ?_
        · refine ite_yes rfl ?_
          simp only [Gives]
          go_simp
          exact ⟨Below.refl _ _, rfl, fun h => by cases h⟩
        refine And.intro (fun w hw hd => ?_) ?_
        · refine ite_yes rfl ?_
          simp only [Gives]
          go_simp
          exact ⟨Below.refl _ _, rfl, fun h => by cases h⟩
        refine And.intro (fun w hw hd => ?_) ?_
        · have d0 := hd 0 (by decide) rfl
          change vs 0 = _ at d0
          have d1 := hd 1 (by decide) rfl
          change vs 1 = _ at d1
          refine ite_yes rfl ?_
          simp only [Gives]
          go_simp
          exact ⟨(Below.refl _ _).alloc (Nat.le_refl _) _, ⟨_, rfl, Box.new rfl⟩, fun h => by cases h⟩
        refine And.intro (fun w hw hd => ?_) ?_
        · have d2 := hd 2 (by decide) rfl
          obtain ⟨n2, d2, N2⟩ := d2
          refine ite_yes rfl ?_
          simp only [Gives]
          go_simp
          refine (Concat_any n2 2 _ _ 157 x1 y1 x2 y2 w (by simpa using N2.cell 0) (by simpa using N2.cell 1) N2.lt (B5.kept hw) (B6.kept hw)).mono ?_
          rintro e w2 ⟨v, rfl, hr, hb⟩
          exact ⟨v, rfl, hb, hr, fun h => by cases h⟩
        refine And.intro (fun w hw hd => ?_) ?_
        · refine ite_yes rfl ?_
          simp only [Gives]
          go_simp
          exact ⟨Below.refl _ _, rfl, fun h => by cases h⟩
        refine And.intro (fun w hw hd => ?_) ?_
        · have d4 := hd 4 (by decide) rfl
          change vs 4 = _ at d4
          refine ite_yes rfl ?_
          have c_B2 := fun i => (B2.kept hw).cell i
          have c_B3 := fun i => (B3.kept hw).cell i
          have c_B5 := fun i => (B5.kept hw).cell i
          have c_B6 := fun i => (B6.kept hw).cell i
          simp only [Gives]
          go_simp
          exact ⟨Below.refl _ _, rfl, fun h => by cases h⟩
        refine And.intro (fun w hw hd => ?_) ?_
        · have d5 := hd 5 (by decide) rfl
          change vs 5 = _ at d5
          refine ite_yes rfl ?_
          simp only [Gives]
          go_simp
          exact ⟨Below.refl _ _, rfl, fun h => by cases h⟩
        refine And.intro (fun w hw hd => ?_) ?_
        · have d3 := hd 3 (by decide) rfl
          have d6 := hd 6 (by decide) rfl
          change vs 6 = _ at d6
          refine ite_yes rfl ?_
          simp only [Gives]
          go_simp
          refine (every_int_any _ _ _ _ _ d3).mono ?_
          rintro e w1 ⟨rfl, hb⟩
          exact ⟨_, rfl, hb, rfl, fun h => by cases h⟩
        refine And.intro (fun w hw hd => ?_) ?_
        · have d7 := hd 7 (by decide) rfl
          change vs 7 = _ at d7
          refine ite_yes rfl ?_
          simp only [Gives]
          go_simp
          exact ⟨Below.refl _ _, rfl, fun h => by cases h⟩
        refine And.intro (fun w hw hd => ?_) ?_
        · have d8 := hd 8 (by decide) rfl
          change vs 8 = _ at d8
          refine ite_yes (by simp [Region.wanted, yielded, d8]) ?_
          have c_B2 := fun i => (B2.kept hw).cell i
          have c_B3 := fun i => (B3.kept hw).cell i
          have c_B5 := fun i => (B5.kept hw).cell i
          have c_B6 := fun i => (B6.kept hw).cell i
          simp only [Gives]
          go_simp
          exact ⟨Below.refl _ _, rfl, fun h => by cases h⟩
        refine And.intro (fun w hw hd => ?_) ?_
        · have d8 := hd 8 (by decide) rfl
          change vs 8 = _ at d8
          refine ite_yes (by simp [Region.wanted, yielded, d8]) ?_
          have c_B2 := fun i => (B2.kept hw).cell i
          have c_B3 := fun i => (B3.kept hw).cell i
          have c_B5 := fun i => (B5.kept hw).cell i
          have c_B6 := fun i => (B6.kept hw).cell i
          simp only [Gives]
          go_simp
          exact ⟨Below.refl _ _, rfl, fun h => by cases h⟩
        refine And.intro (fun w hw hd => ?_) ?_
        · have d9 := hd 9 (by decide) rfl
          change vs 9 = _ at d9
          have d10 := hd 10 (by decide) rfl
          change vs 10 = _ at d10
          have d8 := hd 8 (by decide) rfl
          change vs 8 = _ at d8
          refine ite_yes (by simp [Region.wanted, yielded, d8]) ?_
          simp only [Gives]
          go_simp
          exact ⟨Below.refl _ _, rfl, fun h => by cases h⟩
        refine And.intro (fun w hw hd => ?_) ?_
        · have d8 := hd 8 (by decide) rfl
          change vs 8 = _ at d8
          have d11 := hd 11 (by decide) rfl
          change vs 11 = _ at d11
          refine ite_yes rfl ?_
          simp only [Gives]
          go_simp
          exact ⟨Below.refl _ _, rfl, fun h => by cases h⟩
        refine And.intro (fun w hw hd => ?_) ?_
        · have d12 := hd 12 (by decide) rfl
          change vs 12 = _ at d12
          refine ite_yes rfl ?_
          simp only [Gives]
          go_simp
          exact ⟨Below.refl _ _, rfl, fun h => by cases h⟩
        refine And.intro (fun w hw hd => ?_) ?_
        · have d13 := hd 13 (by decide) rfl
          change vs 13 = _ at d13
          refine ite_no (by simp [Region.wanted, yielded, d13]) ?_
          exact ⟨rfl, rfl⟩
        refine And.intro (fun w hw hd => ?_) ?_
        · have d14 := hd 14 (by decide) rfl
          change vs 14 = _ at d14
          have d13 := hd 13 (by decide) rfl
          change vs 13 = _ at d13
          refine ite_no (by simp [Region.wanted, yielded, d13]) ?_
          exact ⟨rfl, rfl⟩
        refine And.intro (fun w hw hd => ?_) ?_
        · have d13 := hd 13 (by decide) rfl
          change vs 13 = _ at d13
          refine ite_no (by simp [Region.wanted, yielded, d13]) ?_
          exact ⟨rfl, rfl⟩
        refine And.intro (fun w hw hd => ?_) ?_
        · have d16 := hd 16 (by decide) rfl
          change vs 16 = _ at d16
          have d13 := hd 13 (by decide) rfl
          change vs 13 = _ at d13
          refine ite_no (by simp [Region.wanted, yielded, d13]) ?_
          exact ⟨rfl, rfl⟩
        refine And.intro (fun w hw hd => ?_) ?_
        · have d15 := hd 15 (by decide) rfl
          change vs 15 = _ at d15
          have d17 := hd 17 (by decide) rfl
          change vs 17 = _ at d17
          have d13 := hd 13 (by decide) rfl
          change vs 13 = _ at d13
          refine ite_no (by simp [Region.wanted, yielded, d13]) ?_
          exact ⟨rfl, rfl⟩
        refine And.intro (fun w hw hd => ?_) ?_
        · have d13 := hd 13 (by decide) rfl
          change vs 13 = _ at d13
          have d18 := hd 18 (by decide) rfl
          change vs 18 = _ at d18
          refine ite_yes rfl ?_
          simp only [Gives]
          go_simp
          exact ⟨Below.refl _ _, rfl, fun h => by cases h⟩
        refine And.intro (fun w hw hd => ?_) ?_
        · have d19 := hd 19 (by decide) rfl
          change vs 19 = _ at d19
          refine ite_yes rfl ?_
          simp only [Gives]
          go_simp
          exact ⟨Below.refl _ _, rfl, fun h => by cases h⟩
        refine And.intro (fun w hw hd => ?_) ?_
        · have d20 := hd 20 (by decide) rfl
          change vs 20 = _ at d20
          refine ite_no (by simp [Region.wanted, yielded, d20]) ?_
          exact ⟨rfl, rfl⟩
        refine And.intro (fun w hw hd => ?_) ?_
        · have d21 := hd 21 (by decide) rfl
          change vs 21 = _ at d21
          have d20 := hd 20 (by decide) rfl
          change vs 20 = _ at d20
          refine ite_no (by simp [Region.wanted, yielded, d20]) ?_
          exact ⟨rfl, rfl⟩
        refine And.intro (fun w hw hd => ?_) ?_
        · have d20 := hd 20 (by decide) rfl
          change vs 20 = _ at d20
          refine ite_no (by simp [Region.wanted, yielded, d20]) ?_
          exact ⟨rfl, rfl⟩
        refine And.intro (fun w hw hd => ?_) ?_
        · have d23 := hd 23 (by decide) rfl
          change vs 23 = _ at d23
          have d20 := hd 20 (by decide) rfl
          change vs 20 = _ at d20
          refine ite_no (by simp [Region.wanted, yielded, d20]) ?_
          exact ⟨rfl, rfl⟩
        refine And.intro (fun w hw hd => ?_) ?_
        · have d22 := hd 22 (by decide) rfl
          change vs 22 = _ at d22
          have d24 := hd 24 (by decide) rfl
          change vs 24 = _ at d24
          have d20 := hd 20 (by decide) rfl
          change vs 20 = _ at d20
          refine ite_no (by simp [Region.wanted, yielded, d20]) ?_
          exact ⟨rfl, rfl⟩
        refine And.intro (fun w hw hd => ?_) ?_
        · have d20 := hd 20 (by decide) rfl
          change vs 20 = _ at d20
          have d25 := hd 25 (by decide) rfl
          change vs 25 = _ at d25
          refine ite_yes rfl ?_
          simp only [Gives]
          go_simp
          exact ⟨Below.refl _ _, rfl, fun h => by cases h⟩
        refine And.intro (fun w hw hd => ?_) ?_
        · have d26 := hd 26 (by decide) rfl
          change vs 26 = _ at d26
          refine ite_yes rfl ?_
          simp only [Gives]
          go_simp
          exact ⟨Below.refl _ _, rfl, fun h => by cases h⟩
        refine And.intro (fun w hw hd => ?_) ?_
        · have d27 := hd 27 (by decide) rfl
          change vs 27 = _ at d27
          refine ite_no (by simp [Region.wanted, yielded, d27]) ?_
          exact ⟨rfl, rfl⟩
        refine And.intro (fun w hw hd => ?_) ?_
        · have d28 := hd 28 (by decide) rfl
          change vs 28 = _ at d28
          have d27 := hd 27 (by decide) rfl
          change vs 27 = _ at d27
          refine ite_no (by simp [Region.wanted, yielded, d27]) ?_
          exact ⟨rfl, rfl⟩
        refine And.intro (fun w hw hd => ?_) ?_
        · have d27 := hd 27 (by decide) rfl
          change vs 27 = _ at d27
          refine ite_no (by simp [Region.wanted, yielded, d27]) ?_
          exact ⟨rfl, rfl⟩
        refine And.intro (fun w hw hd => ?_) ?_
        · have d30 := hd 30 (by decide) rfl
          change vs 30 = _ at d30
          have d27 := hd 27 (by decide) rfl
          change vs 27 = _ at d27
          refine ite_no (by simp [Region.wanted, yielded, d27]) ?_
          exact ⟨rfl, rfl⟩
        refine And.intro (fun w hw hd => ?_) ?_
        · have d29 := hd 29 (by decide) rfl
          change vs 29 = _ at d29
          have d31 := hd 31 (by decide) rfl
          change vs 31 = _ at d31
          have d27 := hd 27 (by decide) rfl
          change vs 27 = _ at d27
          refine ite_no (by simp [Region.wanted, yielded, d27]) ?_
          exact ⟨rfl, rfl⟩
        refine And.intro (fun w hw hd => ?_) ?_
        · have d27 := hd 27 (by decide) rfl
          change vs 27 = _ at d27
          have d32 := hd 32 (by decide) rfl
          change vs 32 = _ at d32
          refine ite_yes rfl ?_
          simp only [Gives]
          go_simp
          exact ⟨Below.refl _ _, rfl, fun h => by cases h⟩
        refine And.intro (fun w hw hd => ?_) ?_
        · have d33 := hd 33 (by decide) rfl
          change vs 33 = _ at d33
          refine ite_yes rfl ?_
          simp only [Gives]
          go_simp
          exact ⟨Below.refl _ _, rfl, fun h => by cases h⟩
        exact trivial
      intro vs wt hw hd hne hlo
      have d0 := hd 0 (by decide)
      change vs 0 = _ at d0
      have d1 := hd 1 (by decide)
      change vs 1 = _ at d1
      have d2 := hd 2 (by decide)
      obtain ⟨n2, d2, N2⟩ := d2
      have d3 := hd 3 (by decide)
      skip
      have d4 := hd 4 (by decide)
      change vs 4 = _ at d4
      have d5 := hd 5 (by decide)
      change vs 5 = _ at d5
      have d6 := hd 6 (by decide)
      change vs 6 = _ at d6
      have d7 := hd 7 (by decide)
      change vs 7 = _ at d7
      have d8 := hd 8 (by decide)
      change vs 8 = _ at d8
      have d9 := hd 9 (by decide)
      change vs 9 = _ at d9
      have d10 := hd 10 (by decide)
      change vs 10 = _ at d10
      have d11 := hd 11 (by decide)
      change vs 11 = _ at d11
      have d12 := hd 12 (by decide)
      change vs 12 = _ at d12
      have d13 := hd 13 (by decide)
      change vs 13 = _ at d13
      have d14 := hd 14 (by decide)
      change vs 14 = _ at d14
      have d15 := hd 15 (by decide)
      change vs 15 = _ at d15
      have d16 := hd 16 (by decide)
      change vs 16 = _ at d16
      have d17 := hd 17 (by decide)
      change vs 17 = _ at d17
      have d18 := hd 18 (by decide)
      change vs 18 = _ at d18
      have d19 := hd 19 (by decide)
      change vs 19 = _ at d19
      have d20 := hd 20 (by decide)
      change vs 20 = _ at d20
      have d21 := hd 21 (by decide)
      change vs 21 = _ at d21
      have d22 := hd 22 (by decide)
      change vs 22 = _ at d22
      have d23 := hd 23 (by decide)
      change vs 23 = _ at d23
      have d24 := hd 24 (by decide)
      change vs 24 = _ at d24
      have d25 := hd 25 (by decide)
      change vs 25 = _ at d25
      have d26 := hd 26 (by decide)
      change vs 26 = _ at d26
      have d27 := hd 27 (by decide)
      change vs 27 = _ at d27
      have d28 := hd 28 (by decide)
      change vs 28 = _ at d28
      have d29 := hd 29 (by decide)
      change vs 29 = _ at d29
      have d30 := hd 30 (by decide)
      change vs 30 = _ at d30
      have d31 := hd 31 (by decide)
      change vs 31 = _ at d31
      have d32 := hd 32 (by decide)
      change vs 32 = _ at d32
      have d33 := hd 33 (by decide)
      change vs 33 = _ at d33
      have d34 := hd 34 (by decide)
      change vs 34 = _ at d34
      simp only [d0, d1, d4, d5, d6, d7, d8, d9, d10, d12, d13, d14, d15, d16, d17, d18, d19, d20, d21, d22, d23, d24, d25, d26, d27, d28, d29, d30, d31, d32, d33, d34, List.drop_succ_cons, List.drop_nil]
      have B2 := B2.kept hw
      have B3 := B3.kept hw
      have B5 := B5.kept hw
      have B6 := B6.kept hw
      have c_B2 := fun i => B2.cell i
      have f_B2 := fun i => B2.free i
      have c_B3 := fun i => B3.cell i
      have f_B3 := fun i => B3.free i
      have c_B5 := fun i => B5.cell i
      have f_B5 := fun i => B5.free i
      have c_B6 := fun i => B6.cell i
      have f_B6 := fun i => B6.free i
      clear hd hne hlo d0 d1 d4 d5 d6 d7 d8 d9 d10 d12 d13 d14 d15 d16 d17 d18 d19 d20 d21 d22 d23 d24 d25 d26 d27 d28 d29 d30 d31 d32 d33 d34
      go_wp2
      go_ret
      exact ⟨ret_bool (by rw [Hfin.out]; simp [*]), up_later hB hw⟩
    | false =>
      have hE := eq_place x1 y1 x2 y2
      rw [q2] at hE
      cases k3 : inB 0 1000 b with
      | false =>
        apply wp_region_by 35 [(Fact.eq _), (Fact.eq _), (Fact.sl 2 41 _), (Fact.row 1 (fun n => [iv n]) [x1, y1, x2, y2]), (Fact.eq _), (Fact.eq _), (Fact.eq _), (Fact.eq _), (Fact.eq _), (Fact.eq _), (Fact.eq _), (Fact.eq (.bool true)), (Fact.eq _), (Fact.eq _), (Fact.eq _), (Fact.eq _), (Fact.eq _), (Fact.eq _), (Fact.eq _), (Fact.eq _), (Fact.eq _), (Fact.eq _), (Fact.eq _), (Fact.eq _), (Fact.eq _), (Fact.eq _), (Fact.eq _), (Fact.eq _), (Fact.eq _), (Fact.eq _), (Fact.eq _), (Fact.eq _), (Fact.eq _), (Fact.eq _), (Fact.eq _)]
        case hm => kernel_rfl
        case hB => kernel_rfl
        case hA => (intro vs; simp only [List.take_succ_cons, List.take_zero, putAll, if_true, Act.put, List.setIfInBounds_toArray, List.set_cons_zero, List.set_cons_succ]; exact rfl)
        case hstep =>
          intro vs
          refine And.intro (fun w hw hd => ?_) ?_
          · refine ite_yes rfl ?_
            simp only [Gives]
            go_simp
            exact ⟨Below.refl _ _, rfl, fun h => by cases h⟩
          refine And.intro (fun w hw hd => ?_) ?_
          · refine ite_yes rfl ?_
            simp only [Gives]
            go_simp
            exact ⟨Below.refl _ _, rfl, fun h => by cases h⟩
          refine And.intro (fun w hw hd => ?_) ?_
          · have d0 := hd 0 (by decide) rfl
            change vs 0 = _ at d0
            have d1 := hd 1 (by decide) rfl
            change vs 1 = _ at d1
            refine ite_yes rfl ?_
            simp only [Gives]
            go_simp
            exact ⟨(Below.refl _ _).alloc (Nat.le_refl _) _, ⟨_, rfl, Box.new rfl⟩, fun h => by cases h⟩
          refine And.intro (fun w hw hd => ?_) ?_
          · have d2 := hd 2 (by decide) rfl
            obtain ⟨n2, d2, N2⟩ := d2
            refine ite_yes rfl ?_
            simp only [Gives]
            go_simp
            refine (Concat_any n2 2 _ _ 157 x1 y1 x2 y2 w (by simpa using N2.cell 0) (by simpa using N2.cell 1) N2.lt (B5.kept hw) (B6.kept hw)).mono ?_
            rintro e w2 ⟨v, rfl, hr, hb⟩
            exact ⟨v, rfl, hb, hr, fun h => by cases h⟩
          refine And.intro (fun w hw hd => ?_) ?_
          · refine ite_yes rfl ?_
            simp only [Gives]
            go_simp
            exact ⟨Below.refl _ _, rfl, fun h => by cases h⟩
          refine And.intro (fun w hw hd => ?_) ?_
          · have d4 := hd 4 (by decide) rfl
            change vs 4 = _ at d4
            refine ite_yes rfl ?_
            have c_B2 := fun i => (B2.kept hw).cell i
            have c_B3 := fun i => (B3.kept hw).cell i
            have c_B5 := fun i => (B5.kept hw).cell i
            have c_B6 := fun i => (B6.kept hw).cell i
            simp only [Gives]
            go_simp
            exact ⟨Below.refl _ _, rfl, fun h => by cases h⟩
          refine And.intro (fun w hw hd => ?_) ?_
          · have d5 := hd 5 (by decide) rfl
            change vs 5 = _ at d5
            refine ite_yes rfl ?_
            simp only [Gives]
            go_simp
            exact ⟨Below.refl _ _, rfl, fun h => by cases h⟩
          refine And.intro (fun w hw hd => ?_) ?_
          · have d3 := hd 3 (by decide) rfl
            have d6 := hd 6 (by decide) rfl
            change vs 6 = _ at d6
            refine ite_yes rfl ?_
            simp only [Gives]
            go_simp
            refine (every_int_any _ _ _ _ _ d3).mono ?_
            rintro e w1 ⟨rfl, hb⟩
            exact ⟨_, rfl, hb, rfl, fun h => by cases h⟩
          refine And.intro (fun w hw hd => ?_) ?_
          · have d7 := hd 7 (by decide) rfl
            change vs 7 = _ at d7
            refine ite_yes rfl ?_
            simp only [Gives]
            go_simp
            exact ⟨Below.refl _ _, rfl, fun h => by cases h⟩
          refine And.intro (fun w hw hd => ?_) ?_
          · have d8 := hd 8 (by decide) rfl
            change vs 8 = _ at d8
            refine ite_yes (by simp [Region.wanted, yielded, d8]) ?_
            have c_B2 := fun i => (B2.kept hw).cell i
            have c_B3 := fun i => (B3.kept hw).cell i
            have c_B5 := fun i => (B5.kept hw).cell i
            have c_B6 := fun i => (B6.kept hw).cell i
            simp only [Gives]
            go_simp
            exact ⟨Below.refl _ _, rfl, fun h => by cases h⟩
          refine And.intro (fun w hw hd => ?_) ?_
          · have d8 := hd 8 (by decide) rfl
            change vs 8 = _ at d8
            refine ite_yes (by simp [Region.wanted, yielded, d8]) ?_
            have c_B2 := fun i => (B2.kept hw).cell i
            have c_B3 := fun i => (B3.kept hw).cell i
            have c_B5 := fun i => (B5.kept hw).cell i
            have c_B6 := fun i => (B6.kept hw).cell i
            simp only [Gives]
            go_simp
            exact ⟨Below.refl _ _, rfl, fun h => by cases h⟩
          refine And.intro (fun w hw hd => ?_) ?_
          · have d9 := hd 9 (by decide) rfl
            change vs 9 = _ at d9
            have d10 := hd 10 (by decide) rfl
            change vs 10 = _ at d10
            have d8 := hd 8 (by decide) rfl
            change vs 8 = _ at d8
            refine ite_yes (by simp [Region.wanted, yielded, d8]) ?_
            simp only [Gives]
            go_simp
            exact ⟨Below.refl _ _, rfl, fun h => by cases h⟩
          refine And.intro (fun w hw hd => ?_) ?_
          · have d8 := hd 8 (by decide) rfl
            change vs 8 = _ at d8
            have d11 := hd 11 (by decide) rfl
            change vs 11 = _ at d11
            refine ite_yes rfl ?_
            simp only [Gives]
            go_simp
            exact ⟨Below.refl _ _, rfl, fun h => by cases h⟩
          refine And.intro (fun w hw hd => ?_) ?_
          · have d12 := hd 12 (by decide) rfl
            change vs 12 = _ at d12
            refine ite_yes rfl ?_
            simp only [Gives]
            go_simp
            exact ⟨Below.refl _ _, rfl, fun h => by cases h⟩
          refine And.intro (fun w hw hd => ?_) ?_
          · have d13 := hd 13 (by decide) rfl
            change vs 13 = _ at d13
            refine ite_yes (by simp [Region.wanted, yielded, d13]) ?_
            simp only [Gives]
            go_simp
            exact ⟨Below.refl _ _, rfl, fun h => by cases h⟩
          refine And.intro (fun w hw hd => ?_) ?_
          · have d14 := hd 14 (by decide) rfl
            change vs 14 = _ at d14
            have d13 := hd 13 (by decide) rfl
            change vs 13 = _ at d13
            refine ite_yes (by simp [Region.wanted, yielded, d13]) ?_
            have c_B2 := fun i => (B2.kept hw).cell i
            have c_B3 := fun i => (B3.kept hw).cell i
            have c_B5 := fun i => (B5.kept hw).cell i
            have c_B6 := fun i => (B6.kept hw).cell i
            simp only [Gives]
            go_simp
            exact ⟨Below.refl _ _, rfl, fun h => by cases h⟩
          refine And.intro (fun w hw hd => ?_) ?_
          · have d13 := hd 13 (by decide) rfl
            change vs 13 = _ at d13
            refine ite_yes (by simp [Region.wanted, yielded, d13]) ?_
            simp only [Gives]
            go_simp
            exact ⟨Below.refl _ _, rfl, fun h => by cases h⟩
          refine And.intro (fun w hw hd => ?_) ?_
          · have d16 := hd 16 (by decide) rfl
            change vs 16 = _ at d16
            have d13 := hd 13 (by decide) rfl
            change vs 13 = _ at d13
            refine ite_yes (by simp [Region.wanted, yielded, d13]) ?_
            have c_B2 := fun i => (B2.kept hw).cell i
            have c_B3 := fun i => (B3.kept hw).cell i
            have c_B5 := fun i => (B5.kept hw).cell i
            have c_B6 := fun i => (B6.kept hw).cell i
            simp only [Gives]
            go_simp
            exact ⟨Below.refl _ _, rfl, fun h => by cases h⟩
          refine And.intro (fun w hw hd => ?_) ?_
          · have d15 := hd 15 (by decide) rfl
            change vs 15 = _ at d15
            have d17 := hd 17 (by decide) rfl
            change vs 17 = _ at d17
            have d13 := hd 13 (by decide) rfl
            change vs 13 = _ at d13
            refine ite_yes (by simp [Region.wanted, yielded, d13]) ?_
            simp only [Gives]
            go_simp
            refine (hasB_any _ _ _ _).mono ?_
            rintro e w1 ⟨rfl, hb⟩
            exact ⟨_, rfl, hb, rfl, fun h => by cases h⟩
          refine And.intro (fun w hw hd => ?_) ?_
          · have d13 := hd 13 (by decide) rfl
            change vs 13 = _ at d13
            have d18 := hd 18 (by decide) rfl
            change vs 18 = _ at d18
            refine ite_yes rfl ?_
            simp only [Gives]
            go_simp
            exact ⟨Below.refl _ _, rfl, fun h => by cases h⟩
          refine And.intro (fun w hw hd => ?_) ?_
          · have d19 := hd 19 (by decide) rfl
            change vs 19 = _ at d19
            refine ite_yes rfl ?_
            simp only [Gives]
            go_simp
            exact ⟨Below.refl _ _, rfl, fun h => by cases h⟩
          refine And.intro (fun w hw hd => ?_) ?_
          · have d20 := hd 20 (by decide) rfl
            change vs 20 = _ at d20
            refine ite_no (by simp [Region.wanted, yielded, d20]) ?_
            exact ⟨rfl, rfl⟩
          refine And.intro (fun w hw hd => ?_) ?_
          · have d21 := hd 21 (by decide) rfl
            change vs 21 = _ at d21
            have d20 := hd 20 (by decide) rfl
            change vs 20 = _ at d20
            refine ite_no (by simp [Region.wanted, yielded, d20]) ?_
            exact ⟨rfl, rfl⟩
          refine And.intro (fun w hw hd => ?_) ?_
          · have d20 := hd 20 (by decide) rfl
            change vs 20 = _ at d20
            refine ite_no (by simp [Region.wanted, yielded, d20]) ?_
            exact ⟨rfl, rfl⟩
          refine And.intro (fun w hw hd => ?_) ?_
          · have d23 := hd 23 (by decide) rfl
            change vs 23 = _ at d23
            have d20 := hd 20 (by decide) rfl
            change vs 20 = _ at d20
            refine ite_no (by simp [Region.wanted, yielded, d20]) ?_
            exact ⟨rfl, rfl⟩
          refine And.intro (fun w hw hd => ?_) ?_
          · have d22 := hd 22 (by decide) rfl
            change vs 22 = _ at d22
            have d24 := hd 24 (by decide) rfl
            change vs 24 = _ at d24
            have d20 := hd 20 (by decide) rfl
            change vs 20 = _ at d20
            refine ite_no (by simp [Region.wanted, yielded, d20]) ?_
            exact ⟨rfl, rfl⟩
          refine And.intro (fun w hw hd => ?_) ?_
          · have d20 := hd 20 (by decide) rfl
            change vs 20 = _ at d20
            have d25 := hd 25 (by decide) rfl
            change vs 25 = _ at d25
            refine ite_yes rfl ?_
            simp only [Gives]
            go_simp
            exact ⟨Below.refl _ _, rfl, fun h => by cases h⟩
          refine And.intro (fun w hw hd => ?_) ?_
          · have d26 := hd 26 (by decide) rfl
            change vs 26 = _ at d26
            refine ite_yes rfl ?_
            simp only [Gives]
            go_simp
            exact ⟨Below.refl _ _, rfl, fun h => by cases h⟩
          refine And.intro (fun w hw hd => ?_) ?_
          · have d27 := hd 27 (by decide) rfl
            change vs 27 = _ at d27
            refine ite_no (by simp [Region.wanted, yielded, d27]) ?_
            exact ⟨rfl, rfl⟩
          refine And.intro (fun w hw hd => ?_) ?_
          · have d28 := hd 28 (by decide) rfl
            change vs 28 = _ at d28
            have d27 := hd 27 (by decide) rfl
            change vs 27 = _ at d27
            refine ite_no (by simp [Region.wanted, yielded, d27]) ?_
            exact ⟨rfl, rfl⟩
          refine And.intro (fun w hw hd => ?_) ?_
          · have d27 := hd 27 (by decide) rfl
            change vs 27 = _ at d27
            refine ite_no (by simp [Region.wanted, yielded, d27]) ?_
            exact ⟨rfl, rfl⟩
          refine And.intro (fun w hw hd => ?_) ?_
          · have d30 := hd 30 (by decide) rfl
            change vs 30 = _ at d30
            have d27 := hd 27 (by decide) rfl
            change vs 27 = _ at d27
            refine ite_no (by simp [Region.wanted, yielded, d27]) ?_
            exact ⟨rfl, rfl⟩
          refine And.intro (fun w hw hd => ?_) ?_
          · have d29 := hd 29 (by decide) rfl
            change vs 29 = _ at d29
            have d31 := hd 31 (by decide) rfl
            change vs 31 = _ at d31
            have d27 := hd 27 (by decide) rfl
            change vs 27 = _ at d27
            refine ite_no (by simp [Region.wanted, yielded, d27]) ?_
            exact ⟨rfl, rfl⟩
          refine And.intro (fun w hw hd => ?_) ?_
          · have d27 := hd 27 (by decide) rfl
            change vs 27 = _ at d27
            have d32 := hd 32 (by decide) rfl
            change vs 32 = _ at d32
            refine ite_yes rfl ?_
            simp only [Gives]
            go_simp
            exact ⟨Below.refl _ _, rfl, fun h => by cases h⟩
          refine And.intro (fun w hw hd => ?_) ?_
          · have d33 := hd 33 (by decide) rfl
            change vs 33 = _ at d33
            refine ite_yes rfl ?_
            simp only [Gives]
            go_simp
            exact ⟨Below.refl _ _, rfl, fun h => by cases h⟩
          exact trivial
        intro vs wt hw hd hne hlo
        have d0 := hd 0 (by decide)
        change vs 0 = _ at d0
        have d1 := hd 1 (by decide)
        change vs 1 = _ at d1
        have d2 := hd 2 (by decide)
        obtain ⟨n2, d2, N2⟩ := d2
        have d3 := hd 3 (by decide)
        skip
        have d4 := hd 4 (by decide)
        change vs 4 = _ at d4
        have d5 := hd 5 (by decide)
        change vs 5 = _ at d5
        have d6 := hd 6 (by decide)
        change vs 6 = _ at d6
        have d7 := hd 7 (by decide)
        change vs 7 = _ at d7
        have d8 := hd 8 (by decide)
        change vs 8 = _ at d8
        have d9 := hd 9 (by decide)
        change vs 9 = _ at d9
        have d10 := hd 10 (by decide)
        change vs 10 = _ at d10
        have d11 := hd 11 (by decide)
        change vs 11 = _ at d11
        have d12 := hd 12 (by decide)
        change vs 12 = _ at d12
        have d13 := hd 13 (by decide)
        change vs 13 = _ at d13
        have d14 := hd 14 (by decide)
        change vs 14 = _ at d14
        have d15 := hd 15 (by decide)
        change vs 15 = _ at d15
        have d16 := hd 16 (by decide)
        change vs 16 = _ at d16
        have d17 := hd 17 (by decide)
        change vs 17 = _ at d17
        have d18 := hd 18 (by decide)
        change vs 18 = _ at d18
        have d19 := hd 19 (by decide)
        change vs 19 = _ at d19
        have d20 := hd 20 (by decide)
        change vs 20 = _ at d20
        have d21 := hd 21 (by decide)
        change vs 21 = _ at d21
        have d22 := hd 22 (by decide)
        change vs 22 = _ at d22
        have d23 := hd 23 (by decide)
        change vs 23 = _ at d23
        have d24 := hd 24 (by decide)
        change vs 24 = _ at d24
        have d25 := hd 25 (by decide)
        change vs 25 = _ at d25
        have d26 := hd 26 (by decide)
        change vs 26 = _ at d26
        have d27 := hd 27 (by decide)
        change vs 27 = _ at d27
        have d28 := hd 28 (by decide)
        change vs 28 = _ at d28
        have d29 := hd 29 (by decide)
        change vs 29 = _ at d29
        have d30 := hd 30 (by decide)
        change vs 30 = _ at d30
        have d31 := hd 31 (by decide)
        change vs 31 = _ at d31
        have d32 := hd 32 (by decide)
        change vs 32 = _ at d32
        have d33 := hd 33 (by decide)
        change vs 33 = _ at d33
        have d34 := hd 34 (by decide)
        change vs 34 = _ at d34
        simp only [d0, d1, d4, d5, d6, d7, d8, d9, d10, d12, d13, d14, d15, d16, d17, d18, d19, d20, d21, d22, d23, d24, d25, d26, d27, d28, d29, d30, d31, d32, d33, d34, List.drop_succ_cons, List.drop_nil]
        have B2 := B2.kept hw
        have B3 := B3.kept hw
        have B5 := B5.kept hw
        have B6 := B6.kept hw
        have c_B2 := fun i => B2.cell i
        have f_B2 := fun i => B2.free i
        have c_B3 := fun i => B3.cell i
        have f_B3 := fun i => B3.free i
        have c_B5 := fun i => B5.cell i
        have f_B5 := fun i => B5.free i
        have c_B6 := fun i => B6.cell i
        have f_B6 := fun i => B6.free i
        clear hd hne hlo d0 d1 d4 d5 d6 d7 d8 d9 d10 d12 d13 d14 d15 d16 d17 d18 d19 d20 d21 d22 d23 d24 d25 d26 d27 d28 d29 d30 d31 d32 d33 d34
        go_wp2
        go_ret
        exact ⟨ret_bool (by rw [Hfin.out]; simp [*]), up_later hB hw⟩
      | true =>
        cases k4 : inB 0 1000 t with
        | false =>
          apply wp_region_by 35 [(Fact.eq _), (Fact.eq _), (Fact.sl 2 41 _), (Fact.row 1 (fun n => [iv n]) [x1, y1, x2, y2]), (Fact.eq _), (Fact.eq _), (Fact.eq _), (Fact.eq _), (Fact.eq _), (Fact.eq _), (Fact.eq _), (Fact.eq (.bool true)), (Fact.eq _), (Fact.eq _), (Fact.eq _), (Fact.eq _), (Fact.eq _), (Fact.eq _), (Fact.eq _), (Fact.eq _), (Fact.eq _), (Fact.eq _), (Fact.eq _), (Fact.eq _), (Fact.eq _), (Fact.eq _), (Fact.eq _), (Fact.eq _), (Fact.eq _), (Fact.eq _), (Fact.eq _), (Fact.eq _), (Fact.eq _), (Fact.eq _), (Fact.eq _)]
          case hm => kernel_rfl
          case hB => kernel_rfl
          case hA => (intro vs; simp only [List.take_succ_cons, List.take_zero, putAll, if_true, Act.put, List.setIfInBounds_toArray, List.set_cons_zero, List.set_cons_succ]; exact rfl)
          case hstep =>
            intro vs
            refine And.intro (fun w hw hd => ?_) ?_
            · refine ite_yes rfl ?_
              simp only [Gives]
              go_simp
              exact ⟨Below.refl _ _, rfl, fun h => by cases h⟩
            refine And.intro (fun w hw hd => ?_) ?_
            · refine ite_yes rfl ?_
              simp only [Gives]
              go_simp
              exact ⟨Below.refl _ _, rfl, fun h => by cases h⟩
            refine And.intro (fun w hw hd => ?_) ?_
            · have d0 := hd 0 (by decide) rfl
              change vs 0 = _ at d0
              have d1 := hd 1 (by decide) rfl
              change vs 1 = _ at d1
              refine ite_yes rfl ?_
              simp only [Gives]
              go_simp
              exact ⟨(Below.refl _ _).alloc (Nat.le_refl _) _, ⟨_, rfl, Box.new rfl⟩, fun h => by cases h⟩
            refine And.intro (fun w hw hd => ?_) ?_
            · have d2 := hd 2 (by decide) rfl
              obtain ⟨n2, d2, N2⟩ := d2
              refine ite_yes rfl ?_
              simp only [Gives]
              go_simp
              refine (Concat_any n2 2 _ _ 157 x1 y1 x2 y2 w (by simpa using N2.cell 0) (by simpa using N2.cell 1) N2.lt (B5.kept hw) (B6.kept hw)).mono ?_
              rintro e w2 ⟨v, rfl, hr, hb⟩
              exact ⟨v, rfl, hb, hr, fun h => by cases h⟩
            refine And.intro (fun w hw hd => ?_) ?_
            · refine ite_yes rfl ?_
              simp only [Gives]
              go_simp
              exact ⟨Below.refl _ _, rfl, fun h => by cases h⟩
            refine And.intro (fun w hw hd => ?_) ?_
            · have d4 := hd 4 (by decide) rfl
              change vs 4 = _ at d4
              refine ite_yes rfl ?_
              have c_B2 := fun i => (B2.kept hw).cell i
              have c_B3 := fun i => (B3.kept hw).cell i
              have c_B5 := fun i => (B5.kept hw).cell i
              have c_B6 := fun i => (B6.kept hw).cell i
              simp only [Gives]
              go_simp
              exact ⟨Below.refl _ _, rfl, fun h => by cases h⟩
            refine And.intro (fun w hw hd => ?_) ?_
            · have d5 := hd 5 (by decide) rfl
              change vs 5 = _ at d5
              refine ite_yes rfl ?_
              simp only [Gives]
              go_simp
              exact ⟨Below.refl _ _, rfl, fun h => by cases h⟩
            refine And.intro (fun w hw hd => ?_) ?_
            · have d3 := hd 3 (by decide) rfl
              have d6 := hd 6 (by decide) rfl
              change vs 6 = _ at d6
              refine ite_yes rfl ?_
              simp only [Gives]
              go_simp
              refine (every_int_any _ _ _ _ _ d3).mono ?_
              rintro e w1 ⟨rfl, hb⟩
              exact ⟨_, rfl, hb, rfl, fun h => by cases h⟩
            refine And.intro (fun w hw hd => ?_) ?_
            · have d7 := hd 7 (by decide) rfl
              change vs 7 = _ at d7
              refine ite_yes rfl ?_
              simp only [Gives]
              go_simp
              exact ⟨Below.refl _ _, rfl, fun h => by cases h⟩
            refine And.intro (fun w hw hd => ?_) ?_
            · have d8 := hd 8 (by decide) rfl
              change vs 8 = _ at d8
              refine ite_yes (by simp [Region.wanted, yielded, d8]) ?_
              have c_B2 := fun i => (B2.kept hw).cell i
              have c_B3 := fun i => (B3.kept hw).cell i
              have c_B5 := fun i => (B5.kept hw).cell i
              have c_B6 := fun i => (B6.kept hw).cell i
              simp only [Gives]
              go_simp
              exact ⟨Below.refl _ _, rfl, fun h => by cases h⟩
            refine And.intro (fun w hw hd => ?_) ?_
            · have d8 := hd 8 (by decide) rfl
              change vs 8 = _ at d8
              refine ite_yes (by simp [Region.wanted, yielded, d8]) ?_
              have c_B2 := fun i => (B2.kept hw).cell i
              have c_B3 := fun i => (B3.kept hw).cell i
              have c_B5 := fun i => (B5.kept hw).cell i
              have c_B6 := fun i => (B6.kept hw).cell i
              simp only [Gives]
              go_simp
              exact ⟨Below.refl _ _, rfl, fun h => by cases h⟩
            refine And.intro (fun w hw hd => ?_) ?_
            · have d9 := hd 9 (by decide) rfl
              change vs 9 = _ at d9
              have d10 := hd 10 (by decide) rfl
              change vs 10 = _ at d10
              have d8 := hd 8 (by decide) rfl
              change vs 8 = _ at d8
              refine ite_yes (by simp [Region.wanted, yielded, d8]) ?_
              simp only [Gives]
              go_simp
              exact ⟨Below.refl _ _, rfl, fun h => by cases h⟩
            refine And.intro (fun w hw hd => ?_) ?_
            · have d8 := hd 8 (by decide) rfl
              change vs 8 = _ at d8
              have d11 := hd 11 (by decide) rfl
              change vs 11 = _ at d11
              refine ite_yes rfl ?_
              simp only [Gives]
              go_simp
              exact ⟨Below.refl _ _, rfl, fun h => by cases h⟩
            refine And.intro (fun w hw hd => ?_) ?_
            · have d12 := hd 12 (by decide) rfl
              change vs 12 = _ at d12
              refine ite_yes rfl ?_
              simp only [Gives]
              go_simp
              exact ⟨Below.refl _ _, rfl, fun h => by cases h⟩
            refine And.intro (fun w hw hd => ?_) ?_
            · have d13 := hd 13 (by decide) rfl
              change vs 13 = _ at d13
              refine ite_yes (by simp [Region.wanted, yielded, d13]) ?_
              simp only [Gives]
              go_simp
              exact ⟨Below.refl _ _, rfl, fun h => by cases h⟩
            refine And.intro (fun w hw hd => ?_) ?_
            · have d14 := hd 14 (by decide) rfl
              change vs 14 = _ at d14
              have d13 := hd 13 (by decide) rfl
              change vs 13 = _ at d13
              refine ite_yes (by simp [Region.wanted, yielded, d13]) ?_
              have c_B2 := fun i => (B2.kept hw).cell i
              have c_B3 := fun i => (B3.kept hw).cell i
              have c_B5 := fun i => (B5.kept hw).cell i
              have c_B6 := fun i => (B6.kept hw).cell i
              simp only [Gives]
              go_simp
              exact ⟨Below.refl _ _, rfl, fun h => by cases h⟩
            refine And.intro (fun w hw hd => ?_) ?_
            · have d13 := hd 13 (by decide) rfl
              change vs 13 = _ at d13
              refine ite_yes (by simp [Region.wanted, yielded, d13]) ?_
              simp only [Gives]
              go_simp
              exact ⟨Below.refl _ _, rfl, fun h => by cases h⟩
            refine And.intro (fun w hw hd => ?_) ?_
            · have d16 := hd 16 (by decide) rfl
              change vs 16 = _ at d16
              have d13 := hd 13 (by decide) rfl
              change vs 13 = _ at d13
              refine ite_yes (by simp [Region.wanted, yielded, d13]) ?_
              have c_B2 := fun i => (B2.kept hw).cell i
              have c_B3 := fun i => (B3.kept hw).cell i
              have c_B5 := fun i => (B5.kept hw).cell i
              have c_B6 := fun i => (B6.kept hw).cell i
              simp only [Gives]
              go_simp
              exact ⟨Below.refl _ _, rfl, fun h => by cases h⟩
            refine And.intro (fun w hw hd => ?_) ?_
            · have d15 := hd 15 (by decide) rfl
              change vs 15 = _ at d15
              have d17 := hd 17 (by decide) rfl
              change vs 17 = _ at d17
              have d13 := hd 13 (by decide) rfl
              change vs 13 = _ at d13
              refine ite_yes (by simp [Region.wanted, yielded, d13]) ?_
              simp only [Gives]
              go_simp
              refine (hasB_any _ _ _ _).mono ?_
              rintro e w1 ⟨rfl, hb⟩
              exact ⟨_, rfl, hb, rfl, fun h => by cases h⟩
            refine And.intro (fun w hw hd => ?_) ?_
            · have d13 := hd 13 (by decide) rfl
              change vs 13 = _ at d13
              have d18 := hd 18 (by decide) rfl
              change vs 18 = _ at d18
              refine ite_yes rfl ?_
              simp only [Gives]
              go_simp
              exact ⟨Below.refl _ _, rfl, fun h => by cases h⟩
            refine And.intro (fun w hw hd => ?_) ?_
            · have d19 := hd 19 (by decide) rfl
              change vs 19 = _ at d19
              refine ite_yes rfl ?_
              simp only [Gives]
              go_simp
              exact ⟨Below.refl _ _, rfl, fun h => by cases h⟩
            refine And.intro (fun w hw hd => ?_) ?_
            · have d20 := hd 20 (by decide) rfl
              change vs 20 = _ at d20
              refine ite_yes (by simp [Region.wanted, yielded, d20]) ?_
              simp only [Gives]
              go_simp
              exact ⟨Below.refl _ _, rfl, fun h => by cases h⟩
            refine And.intro (fun w hw hd => ?_) ?_
            · have d21 := hd 21 (by decide) rfl
              change vs 21 = _ at d21
              have d20 := hd 20 (by decide) rfl
              change vs 20 = _ at d20
              refine ite_yes (by simp [Region.wanted, yielded, d20]) ?_
              have c_B2 := fun i => (B2.kept hw).cell i
              have c_B3 := fun i => (B3.kept hw).cell i
              have c_B5 := fun i => (B5.kept hw).cell i
              have c_B6 := fun i => (B6.kept hw).cell i
              simp only [Gives]
              go_simp
              exact ⟨Below.refl _ _, rfl, fun h => by cases h⟩
            refine And.intro (fun w hw hd => ?_) ?_
            · have d20 := hd 20 (by decide) rfl
              change vs 20 = _ at d20
              refine ite_yes (by simp [Region.wanted, yielded, d20]) ?_
              simp only [Gives]
              go_simp
              exact ⟨Below.refl _ _, rfl, fun h => by cases h⟩
            refine And.intro (fun w hw hd => ?_) ?_
            · have d23 := hd 23 (by decide) rfl
              change vs 23 = _ at d23
              have d20 := hd 20 (by decide) rfl
              change vs 20 = _ at d20
              refine ite_yes (by simp [Region.wanted, yielded, d20]) ?_
              have c_B2 := fun i => (B2.kept hw).cell i
              have c_B3 := fun i => (B3.kept hw).cell i
              have c_B5 := fun i => (B5.kept hw).cell i
              have c_B6 := fun i => (B6.kept hw).cell i
              simp only [Gives]
              go_simp
              exact ⟨Below.refl _ _, rfl, fun h => by cases h⟩
            refine And.intro (fun w hw hd => ?_) ?_
            · have d22 := hd 22 (by decide) rfl
              change vs 22 = _ at d22
              have d24 := hd 24 (by decide) rfl
              change vs 24 = _ at d24
              have d20 := hd 20 (by decide) rfl
              change vs 20 = _ at d20
              refine ite_yes (by simp [Region.wanted, yielded, d20]) ?_
              simp only [Gives]
              go_simp
              refine (hasB_any _ _ _ _).mono ?_
              rintro e w1 ⟨rfl, hb⟩
              exact ⟨_, rfl, hb, rfl, fun h => by cases h⟩
            refine And.intro (fun w hw hd => ?_) ?_
            · have d20 := hd 20 (by decide) rfl
              change vs 20 = _ at d20
              have d25 := hd 25 (by decide) rfl
              change vs 25 = _ at d25
              refine ite_yes rfl ?_
              simp only [Gives]
              go_simp
              exact ⟨Below.refl _ _, rfl, fun h => by cases h⟩
            refine And.intro (fun w hw hd => ?_) ?_
            · have d26 := hd 26 (by decide) rfl
              change vs 26 = _ at d26
              refine ite_yes rfl ?_
              simp only [Gives]
              go_simp
              exact ⟨Below.refl _ _, rfl, fun h => by cases h⟩
            refine And.intro (fun w hw hd => ?_) ?_
            · have d27 := hd 27 (by decide) rfl
              change vs 27 = _ at d27
              refine ite_no (by simp [Region.wanted, yielded, d27]) ?_
              exact ⟨rfl, rfl⟩
            refine And.intro (fun w hw hd => ?_) ?_
            · have d28 := hd 28 (by decide) rfl
              change vs 28 = _ at d28
              have d27 := hd 27 (by decide) rfl
              change vs 27 = _ at d27
              refine ite_no (by simp [Region.wanted, yielded, d27]) ?_
              exact ⟨rfl, rfl⟩
            refine And.intro (fun w hw hd => ?_) ?_
            · have d27 := hd 27 (by decide) rfl
              change vs 27 = _ at d27
              refine ite_no (by simp [Region.wanted, yielded, d27]) ?_
              exact ⟨rfl, rfl⟩
            refine And.intro (fun w hw hd => ?_) ?_
            · have d30 := hd 30 (by decide) rfl
              change vs 30 = _ at d30
              have d27 := hd 27 (by decide) rfl
              change vs 27 = _ at d27
              refine ite_no (by simp [Region.wanted, yielded, d27]) ?_
              exact ⟨rfl, rfl⟩
            refine And.intro (fun w hw hd => ?_) ?_
            · have d29 := hd 29 (by decide) rfl
              change vs 29 = _ at d29
              have d31 := hd 31 (by decide) rfl
              change vs 31 = _ at d31
              have d27 := hd 27 (by decide) rfl
              change vs 27 = _ at d27
              refine ite_no (by simp [Region.wanted, yielded, d27]) ?_
              exact ⟨rfl, rfl⟩
            refine And.intro (fun w hw hd => ?_) ?_
            · have d27 := hd 27 (by decide) rfl
              change vs 27 = _ at d27
              have d32 := hd 32 (by decide) rfl
              change vs 32 = _ at d32
              refine ite_yes rfl ?_
              simp only [Gives]
              go_simp
              exact ⟨Below.refl _ _, rfl, fun h => by cases h⟩
            refine And.intro (fun w hw hd => ?_) ?_
            · have d33 := hd 33 (by decide) rfl
              change vs 33 = _ at d33
              refine ite_yes rfl ?_
              simp only [Gives]
              go_simp
              exact ⟨Below.refl _ _, rfl, fun h => by cases h⟩
            exact trivial
          intro vs wt hw hd hne hlo
          have d0 := hd 0 (by decide)
          change vs 0 = _ at d0
          have d1 := hd 1 (by decide)
          change vs 1 = _ at d1
          have d2 := hd 2 (by decide)
          obtain ⟨n2, d2, N2⟩ := d2
          have d3 := hd 3 (by decide)
          skip
          have d4 := hd 4 (by decide)
          change vs 4 = _ at d4
          have d5 := hd 5 (by decide)
          change vs 5 = _ at d5
          have d6 := hd 6 (by decide)
          change vs 6 = _ at d6
          have d7 := hd 7 (by decide)
          change vs 7 = _ at d7
          have d8 := hd 8 (by decide)
          change vs 8 = _ at d8
          have d9 := hd 9 (by decide)
          change vs 9 = _ at d9
          have d10 := hd 10 (by decide)
          change vs 10 = _ at d10
          have d11 := hd 11 (by decide)
          change vs 11 = _ at d11
          have d12 := hd 12 (by decide)
          change vs 12 = _ at d12
          have d13 := hd 13 (by decide)
          change vs 13 = _ at d13
          have d14 := hd 14 (by decide)
          change vs 14 = _ at d14
          have d15 := hd 15 (by decide)
          change vs 15 = _ at d15
          have d16 := hd 16 (by decide)
          change vs 16 = _ at d16
          have d17 := hd 17 (by decide)
          change vs 17 = _ at d17
          have d18 := hd 18 (by decide)
          change vs 18 = _ at d18
          have d19 := hd 19 (by decide)
          change vs 19 = _ at d19
          have d20 := hd 20 (by decide)
          change vs 20 = _ at d20
          have d21 := hd 21 (by decide)
          change vs 21 = _ at d21
          have d22 := hd 22 (by decide)
          change vs 22 = _ at d22
          have d23 := hd 23 (by decide)
          change vs 23 = _ at d23
          have d24 := hd 24 (by decide)
          change vs 24 = _ at d24
          have d25 := hd 25 (by decide)
          change vs 25 = _ at d25
          have d26 := hd 26 (by decide)
          change vs 26 = _ at d26
          have d27 := hd 27 (by decide)
          change vs 27 = _ at d27
          have d28 := hd 28 (by decide)
          change vs 28 = _ at d28
          have d29 := hd 29 (by decide)
          change vs 29 = _ at d29
          have d30 := hd 30 (by decide)
          change vs 30 = _ at d30
          have d31 := hd 31 (by decide)
          change vs 31 = _ at d31
          have d32 := hd 32 (by decide)
          change vs 32 = _ at d32
          have d33 := hd 33 (by decide)
          change vs 33 = _ at d33
          have d34 := hd 34 (by decide)
          change vs 34 = _ at d34
          simp only [d0, d1, d4, d5, d6, d7, d8, d9, d10, d12, d13, d14, d15, d16, d17, d18, d19, d20, d21, d22, d23, d24, d25, d26, d27, d28, d29, d30, d31, d32, d33, d34, List.drop_succ_cons, List.drop_nil]
          have B2 := B2.kept hw
          have B3 := B3.kept hw
          have B5 := B5.kept hw
          have B6 := B6.kept hw
          have c_B2 := fun i => B2.cell i
          have f_B2 := fun i => B2.free i
          have c_B3 := fun i => B3.cell i
          have f_B3 := fun i => B3.free i
          have c_B5 := fun i => B5.cell i
          have f_B5 := fun i => B5.free i
          have c_B6 := fun i => B6.cell i
          have f_B6 := fun i => B6.free i
          clear hd hne hlo d0 d1 d4 d5 d6 d7 d8 d9 d10 d12 d13 d14 d15 d16 d17 d18 d19 d20 d21 d22 d23 d24 d25 d26 d27 d28 d29 d30 d31 d32 d33 d34
          go_wp2
          go_ret
          exact ⟨ret_bool (by rw [Hfin.out]; simp [*]), up_later hB hw⟩
        | true =>
          apply wp_region_by 35 [(Fact.eq _), (Fact.eq _), (Fact.sl 2 41 _), (Fact.row 1 (fun n => [iv n]) [x1, y1, x2, y2]), (Fact.eq _), (Fact.eq _), (Fact.eq _), (Fact.eq _), (Fact.eq _), (Fact.eq _), (Fact.eq _), (Fact.eq (.bool true)), (Fact.eq _), (Fact.eq _), (Fact.eq _), (Fact.eq _), (Fact.eq _), (Fact.eq _), (Fact.eq _), (Fact.eq _), (Fact.eq _), (Fact.eq _), (Fact.eq _), (Fact.eq _), (Fact.eq _), (Fact.eq _), (Fact.eq _), (Fact.eq _), (Fact.eq _), (Fact.eq _), (Fact.eq _), (Fact.eq _), (Fact.eq _), (Fact.eq _), (Fact.eq _)]
          case hm => kernel_rfl
          case hB => kernel_rfl
          case hA => (intro vs; simp only [List.take_succ_cons, List.take_zero, putAll, if_true, Act.put, List.setIfInBounds_toArray, List.set_cons_zero, List.set_cons_succ]; exact rfl)
          case hstep =>
            intro vs
            refine And.intro (fun w hw hd => ?_) ?_
            · refine ite_yes rfl ?_
              simp only [Gives]
              go_simp
              exact ⟨Below.refl _ _, rfl, fun h => by cases h⟩
            refine And.intro (fun w hw hd => ?_) ?_
            · refine ite_yes rfl ?_
              simp only [Gives]
              go_simp
              exact ⟨Below.refl _ _, rfl, fun h => by cases h⟩
            refine And.intro (fun w hw hd => ?_) ?_
            · have d0 := hd 0 (by decide) rfl
              change vs 0 = _ at d0
              have d1 := hd 1 (by decide) rfl
              change vs 1 = _ at d1
              refine ite_yes rfl ?_
              simp only [Gives]
              go_simp
              exact ⟨(Below.refl _ _).alloc (Nat.le_refl _) _, ⟨_, rfl, Box.new rfl⟩, fun h => by cases h⟩
            refine And.intro (fun w hw hd => ?_) ?_
            · have d2 := hd 2 (by decide) rfl
              obtain ⟨n2, d2, N2⟩ := d2
              refine ite_yes rfl ?_
              simp only [Gives]
              go_simp
              refine (Concat_any n2 2 _ _ 157 x1 y1 x2 y2 w (by simpa using N2.cell 0) (by simpa using N2.cell 1) N2.lt (B5.kept hw) (B6.kept hw)).mono ?_
              rintro e w2 ⟨v, rfl, hr, hb⟩
              exact ⟨v, rfl, hb, hr, fun h => by cases h⟩
            refine And.intro (fun w hw hd => ?_) ?_
            · refine ite_yes rfl ?_
              simp only [Gives]
              go_simp
              exact ⟨Below.refl _ _, rfl, fun h => by cases h⟩
            refine And.intro (fun w hw hd => ?_) ?_
            · have d4 := hd 4 (by decide) rfl
              change vs 4 = _ at d4
              refine ite_yes rfl ?_
              have c_B2 := fun i => (B2.kept hw).cell i
              have c_B3 := fun i => (B3.kept hw).cell i
              have c_B5 := fun i => (B5.kept hw).cell i
              have c_B6 := fun i => (B6.kept hw).cell i
              simp only [Gives]
              go_simp
              exact ⟨Below.refl _ _, rfl, fun h => by cases h⟩
            refine And.intro (fun w hw hd => ?_) ?_
            · have d5 := hd 5 (by decide) rfl
              change vs 5 = _ at d5
              refine ite_yes rfl ?_
              simp only [Gives]
              go_simp
              exact ⟨Below.refl _ _, rfl, fun h => by cases h⟩
            refine And.intro (fun w hw hd => ?_) ?_
            · have d3 := hd 3 (by decide) rfl
              have d6 := hd 6 (by decide) rfl
              change vs 6 = _ at d6
              refine ite_yes rfl ?_
              simp only [Gives]
              go_simp
              refine (every_int_any _ _ _ _ _ d3).mono ?_
              rintro e w1 ⟨rfl, hb⟩
              exact ⟨_, rfl, hb, rfl, fun h => by cases h⟩
            refine And.intro (fun w hw hd => ?_) ?_
            · have d7 := hd 7 (by decide) rfl
              change vs 7 = _ at d7
              refine ite_yes rfl ?_
              simp only [Gives]
              go_simp
              exact ⟨Below.refl _ _, rfl, fun h => by cases h⟩
            refine And.intro (fun w hw hd => ?_) ?_
            · have d8 := hd 8 (by decide) rfl
              change vs 8 = _ at d8
              refine ite_yes (by simp [Region.wanted, yielded, d8]) ?_
              have c_B2 := fun i => (B2.kept hw).cell i
              have c_B3 := fun i => (B3.kept hw).cell i
              have c_B5 := fun i => (B5.kept hw).cell i
              have c_B6 := fun i => (B6.kept hw).cell i
              simp only [Gives]
              go_simp
              exact ⟨Below.refl _ _, rfl, fun h => by cases h⟩
            refine And.intro (fun w hw hd => ?_) ?_
            · have d8 := hd 8 (by decide) rfl
              change vs 8 = _ at d8
              refine ite_yes (by simp [Region.wanted, yielded, d8]) ?_
              have c_B2 := fun i => (B2.kept hw).cell i
              have c_B3 := fun i => (B3.kept hw).cell i
              have c_B5 := fun i => (B5.kept hw).cell i
              have c_B6 := fun i => (B6.kept hw).cell i
              simp only [Gives]
              go_simp
              exact ⟨Below.refl _ _, rfl, fun h => by cases h⟩
            refine And.intro (fun w hw hd => ?_) ?_
            · have d9 := hd 9 (by decide) rfl
              change vs 9 = _ at d9
              have d10 := hd 10 (by decide) rfl
              change vs 10 = _ at d10
              have d8 := hd 8 (by decide) rfl
              change vs 8 = _ at d8
              refine ite_yes (by simp [Region.wanted, yielded, d8]) ?_
              simp only [Gives]
              go_simp
              exact ⟨Below.refl _ _, rfl, fun h => by cases h⟩
            refine And.intro (fun w hw hd => ?_) ?_
            · have d8 := hd 8 (by decide) rfl
              change vs 8 = _ at d8
              have d11 := hd 11 (by decide) rfl
              change vs 11 = _ at d11
              refine ite_yes rfl ?_
              simp only [Gives]
              go_simp
              exact ⟨Below.refl _ _, rfl, fun h => by cases h⟩
            refine And.intro (fun w hw hd => ?_) ?_
            · have d12 := hd 12 (by decide) rfl
              change vs 12 = _ at d12
              refine ite_yes rfl ?_
              simp only [Gives]
              go_simp
              exact ⟨Below.refl _ _, rfl, fun h => by cases h⟩
            refine And.intro (fun w hw hd => ?_) ?_
            · have d13 := hd 13 (by decide) rfl
              change vs 13 = _ at d13
              refine ite_yes (by simp [Region.wanted, yielded, d13]) ?_
              simp only [Gives]
              go_simp
              exact ⟨Below.refl _ _, rfl, fun h => by cases h⟩
            refine And.intro (fun w hw hd => ?_) ?_
            · have d14 := hd 14 (by decide) rfl
              change vs 14 = _ at d14
              have d13 := hd 13 (by decide) rfl
              change vs 13 = _ at d13
              refine ite_yes (by simp [Region.wanted, yielded, d13]) ?_
              have c_B2 := fun i => (B2.kept hw).cell i
              have c_B3 := fun i => (B3.kept hw).cell i
              have c_B5 := fun i => (B5.kept hw).cell i
              have c_B6 := fun i => (B6.kept hw).cell i
              simp only [Gives]
              go_simp
              exact ⟨Below.refl _ _, rfl, fun h => by cases h⟩
            refine And.intro (fun w hw hd => ?_) ?_
            · have d13 := hd 13 (by decide) rfl
              change vs 13 = _ at d13
              refine ite_yes (by simp [Region.wanted, yielded, d13]) ?_
              simp only [Gives]
              go_simp
              exact ⟨Below.refl _ _, rfl, fun h => by cases h⟩
            refine And.intro (fun w hw hd => ?_) ?_
            · have d16 := hd 16 (by decide) rfl
              change vs 16 = _ at d16
              have d13 := hd 13 (by decide) rfl
              change vs 13 = _ at d13
              refine ite_yes (by simp [Region.wanted, yielded, d13]) ?_
              have c_B2 := fun i => (B2.kept hw).cell i
              have c_B3 := fun i => (B3.kept hw).cell i
              have c_B5 := fun i => (B5.kept hw).cell i
              have c_B6 := fun i => (B6.kept hw).cell i
              simp only [Gives]
              go_simp
              exact ⟨Below.refl _ _, rfl, fun h => by cases h⟩
            refine And.intro (fun w hw hd => ?_) ?_
            · have d15 := hd 15 (by decide) rfl
              change vs 15 = _ at d15
              have d17 := hd 17 (by decide) rfl
              change vs 17 = _ at d17
              have d13 := hd 13 (by decide) rfl
              change vs 13 = _ at d13
              refine ite_yes (by simp [Region.wanted, yielded, d13]) ?_
              simp only [Gives]
              go_simp
              refine (hasB_any _ _ _ _).mono ?_
              rintro e w1 ⟨rfl, hb⟩
              exact ⟨_, rfl, hb, rfl, fun h => by cases h⟩
            refine And.intro (fun w hw hd => ?_) ?_
            · have d13 := hd 13 (by decide) rfl
              change vs 13 = _ at d13
              have d18 := hd 18 (by decide) rfl
              change vs 18 = _ at d18
              refine ite_yes rfl ?_
              simp only [Gives]
              go_simp
              exact ⟨Below.refl _ _, rfl, fun h => by cases h⟩
            refine And.intro (fun w hw hd => ?_) ?_
            · have d19 := hd 19 (by decide) rfl
              change vs 19 = _ at d19
              refine ite_yes rfl ?_
              simp only [Gives]
              go_simp
              exact ⟨Below.refl _ _, rfl, fun h => by cases h⟩
            refine And.intro (fun w hw hd => ?_) ?_
            · have d20 := hd 20 (by decide) rfl
              change vs 20 = _ at d20
              refine ite_yes (by simp [Region.wanted, yielded, d20]) ?_
              simp only [Gives]
              go_simp
              exact ⟨Below.refl _ _, rfl, fun h => by cases h⟩
            refine And.intro (fun w hw hd => ?_) ?_
            · have d21 := hd 21 (by decide) rfl
              change vs 21 = _ at d21
              have d20 := hd 20 (by decide) rfl
              change vs 20 = _ at d20
              refine ite_yes (by simp [Region.wanted, yielded, d20]) ?_
              have c_B2 := fun i => (B2.kept hw).cell i
              have c_B3 := fun i => (B3.kept hw).cell i
              have c_B5 := fun i => (B5.kept hw).cell i
              have c_B6 := fun i => (B6.kept hw).cell i
              simp only [Gives]
              go_simp
              exact ⟨Below.refl _ _, rfl, fun h => by cases h⟩
            refine And.intro (fun w hw hd => ?_) ?_
            · have d20 := hd 20 (by decide) rfl
              change vs 20 = _ at d20
              refine ite_yes (by simp [Region.wanted, yielded, d20]) ?_
              simp only [Gives]
              go_simp
              exact ⟨Below.refl _ _, rfl, fun h => by cases h⟩
            refine And.intro (fun w hw hd => ?_) ?_
            · have d23 := hd 23 (by decide) rfl
              change vs 23 = _ at d23
              have d20 := hd 20 (by decide) rfl
              change vs 20 = _ at d20
              refine ite_yes (by simp [Region.wanted, yielded, d20]) ?_
              have c_B2 := fun i => (B2.kept hw).cell i
              have c_B3 := fun i => (B3.kept hw).cell i
              have c_B5 := fun i => (B5.kept hw).cell i
              have c_B6 := fun i => (B6.kept hw).cell i
              simp only [Gives]
              go_simp
              exact ⟨Below.refl _ _, rfl, fun h => by cases h⟩
            refine And.intro (fun w hw hd => ?_) ?_
            · have d22 := hd 22 (by decide) rfl
              change vs 22 = _ at d22
              have d24 := hd 24 (by decide) rfl
              change vs 24 = _ at d24
              have d20 := hd 20 (by decide) rfl
              change vs 20 = _ at d20
              refine ite_yes (by simp [Region.wanted, yielded, d20]) ?_
              simp only [Gives]
              go_simp
              refine (hasB_any _ _ _ _).mono ?_
              rintro e w1 ⟨rfl, hb⟩
              exact ⟨_, rfl, hb, rfl, fun h => by cases h⟩
            refine And.intro (fun w hw hd => ?_) ?_
            · have d20 := hd 20 (by decide) rfl
              change vs 20 = _ at d20
              have d25 := hd 25 (by decide) rfl
              change vs 25 = _ at d25
              refine ite_yes rfl ?_
              simp only [Gives]
              go_simp
              exact ⟨Below.refl _ _, rfl, fun h => by cases h⟩
            refine And.intro (fun w hw hd => ?_) ?_
            · have d26 := hd 26 (by decide) rfl
              change vs 26 = _ at d26
              refine ite_yes rfl ?_
              simp only [Gives]
              go_simp
              exact ⟨Below.refl _ _, rfl, fun h => by cases h⟩
            refine And.intro (fun w hw hd => ?_) ?_
            · have d27 := hd 27 (by decide) rfl
              change vs 27 = _ at d27
              refine ite_yes (by simp [Region.wanted, yielded, d27]) ?_
              simp only [Gives]
              go_simp
              exact ⟨Below.refl _ _, rfl, fun h => by cases h⟩
            refine And.intro (fun w hw hd => ?_) ?_
            · have d28 := hd 28 (by decide) rfl
              change vs 28 = _ at d28
              have d27 := hd 27 (by decide) rfl
              change vs 27 = _ at d27
              refine ite_yes (by simp [Region.wanted, yielded, d27]) ?_
              have c_B2 := fun i => (B2.kept hw).cell i
              have c_B3 := fun i => (B3.kept hw).cell i
              have c_B5 := fun i => (B5.kept hw).cell i
              have c_B6 := fun i => (B6.kept hw).cell i
              simp only [Gives]
              go_simp
              exact ⟨Below.refl _ _, rfl, fun h => by cases h⟩
            refine And.intro (fun w hw hd => ?_) ?_
            · have d27 := hd 27 (by decide) rfl
              change vs 27 = _ at d27
              refine ite_yes (by simp [Region.wanted, yielded, d27]) ?_
              simp only [Gives]
              go_simp
              exact ⟨Below.refl _ _, rfl, fun h => by cases h⟩
            refine And.intro (fun w hw hd => ?_) ?_
            · have d30 := hd 30 (by decide) rfl
              change vs 30 = _ at d30
              have d27 := hd 27 (by decide) rfl
              change vs 27 = _ at d27
              refine ite_yes (by simp [Region.wanted, yielded, d27]) ?_
              have c_B2 := fun i => (B2.kept hw).cell i
              have c_B3 := fun i => (B3.kept hw).cell i
              have c_B5 := fun i => (B5.kept hw).cell i
              have c_B6 := fun i => (B6.kept hw).cell i
              simp only [Gives]
              go_simp
              exact ⟨Below.refl _ _, rfl, fun h => by cases h⟩
            refine And.intro (fun w hw hd => ?_) ?_
            · have d29 := hd 29 (by decide) rfl
              change vs 29 = _ at d29
              have d31 := hd 31 (by decide) rfl
              change vs 31 = _ at d31
              have d27 := hd 27 (by decide) rfl
              change vs 27 = _ at d27
              refine ite_yes (by simp [Region.wanted, yielded, d27]) ?_
              simp only [Gives]
              go_simp
              exact ⟨Below.refl _ _, rfl, fun h => by cases h⟩
            refine And.intro (fun w hw hd => ?_) ?_
            · have d27 := hd 27 (by decide) rfl
              change vs 27 = _ at d27
              have d32 := hd 32 (by decide) rfl
              change vs 32 = _ at d32
              refine ite_yes rfl ?_
              simp only [Gives]
              go_simp
              exact ⟨Below.refl _ _, rfl, fun h => by cases h⟩
            refine And.intro (fun w hw hd => ?_) ?_
            · have d33 := hd 33 (by decide) rfl
              change vs 33 = _ at d33
              refine ite_yes rfl ?_
              simp only [Gives]
              go_simp
              exact ⟨Below.refl _ _, rfl, fun h => by cases h⟩
            exact trivial
          intro vs wt hw hd hne hlo
          have d0 := hd 0 (by decide)
          change vs 0 = _ at d0
          have d1 := hd 1 (by decide)
          change vs 1 = _ at d1
          have d2 := hd 2 (by decide)
          obtain ⟨n2, d2, N2⟩ := d2
          have d3 := hd 3 (by decide)
          skip
          have d4 := hd 4 (by decide)
          change vs 4 = _ at d4
          have d5 := hd 5 (by decide)
          change vs 5 = _ at d5
          have d6 := hd 6 (by decide)
          change vs 6 = _ at d6
          have d7 := hd 7 (by decide)
          change vs 7 = _ at d7
          have d8 := hd 8 (by decide)
          change vs 8 = _ at d8
          have d9 := hd 9 (by decide)
          change vs 9 = _ at d9
          have d10 := hd 10 (by decide)
          change vs 10 = _ at d10
          have d11 := hd 11 (by decide)
          change vs 11 = _ at d11
          have d12 := hd 12 (by decide)
          change vs 12 = _ at d12
          have d13 := hd 13 (by decide)
          change vs 13 = _ at d13
          have d14 := hd 14 (by decide)
          change vs 14 = _ at d14
          have d15 := hd 15 (by decide)
          change vs 15 = _ at d15
          have d16 := hd 16 (by decide)
          change vs 16 = _ at d16
          have d17 := hd 17 (by decide)
          change vs 17 = _ at d17
          have d18 := hd 18 (by decide)
          change vs 18 = _ at d18
          have d19 := hd 19 (by decide)
          change vs 19 = _ at d19
          have d20 := hd 20 (by decide)
          change vs 20 = _ at d20
          have d21 := hd 21 (by decide)
          change vs 21 = _ at d21
          have d22 := hd 22 (by decide)
          change vs 22 = _ at d22
          have d23 := hd 23 (by decide)
          change vs 23 = _ at d23
          have d24 := hd 24 (by decide)
          change vs 24 = _ at d24
          have d25 := hd 25 (by decide)
          change vs 25 = _ at d25
          have d26 := hd 26 (by decide)
          change vs 26 = _ at d26
          have d27 := hd 27 (by decide)
          change vs 27 = _ at d27
          have d28 := hd 28 (by decide)
          change vs 28 = _ at d28
          have d29 := hd 29 (by decide)
          change vs 29 = _ at d29
          have d30 := hd 30 (by decide)
          change vs 30 = _ at d30
          have d31 := hd 31 (by decide)
          change vs 31 = _ at d31
          have d32 := hd 32 (by decide)
          change vs 32 = _ at d32
          have d33 := hd 33 (by decide)
          change vs 33 = _ at d33
          have d34 := hd 34 (by decide)
          change vs 34 = _ at d34
          simp only [d0, d1, d4, d5, d6, d7, d8, d9, d10, d12, d13, d14, d15, d16, d17, d18, d19, d20, d21, d22, d23, d24, d25, d26, d27, d28, d29, d30, d31, d32, d33, d34, List.drop_succ_cons, List.drop_nil]
          have B2 := B2.kept hw
          have B3 := B3.kept hw
          have B5 := B5.kept hw
          have B6 := B6.kept hw
          have c_B2 := fun i => B2.cell i
          have f_B2 := fun i => B2.free i
          have c_B3 := fun i => B3.cell i
          have f_B3 := fun i => B3.free i
          have c_B5 := fun i => B5.cell i
          have f_B5 := fun i => B5.free i
          have c_B6 := fun i => B6.cell i
          have f_B6 := fun i => B6.free i
          clear hd hne hlo d0 d1 d4 d5 d6 d7 d8 d9 d10 d12 d13 d14 d15 d16 d17 d18 d19 d20 d21 d22 d23 d24 d25 d26 d27 d28 d29 d30 d31 d32 d33 d34
          go_wp2
          go_ret
          exact ⟨ret_bool (by rw [Hfin.out]; simp [*]), up_later hB hw⟩

end Go.Proofs.Ytojbdmdjepgpjaa
