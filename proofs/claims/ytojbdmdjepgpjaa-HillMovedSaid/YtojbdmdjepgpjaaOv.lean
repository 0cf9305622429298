/-
  WALK of '(line).over': where a wall crosses the line of sight, its height there. Conditions: places from 0 to 100, heights from 0 to 1000.
-/
import Derived.Test.YtojbdmdjepgpjaaLf
import Derived.Test.YtojbdmdjepgpjaaPl
import Derived.Deep.RegionHeld3
import Derived.Test.YtojbdmdjepgpjaaRf
import Derived.Deep.DeepCutAuto
import Derived.Deep.DrawnRows
namespace Go.Proofs.Ytojbdmdjepgpjaa
open Go.RowKit
attribute [local go_sem] Later.cell Later.frozen
attribute [local go_sem ↓] Go.wp_at_zero Go.wp_at_succ

set_option maxRecDepth 100000 in
set_option maxHeartbeats 1000000 in
theorem over_any (ax ay az am bx b_y bz bm x1 y1 x2 y2 b t : Int) (w : World) (h1 : 0 ≤ ax ∧ ax ≤ 100) (h2 : 0 ≤ ay ∧ ay ≤ 100) (h3 : 0 ≤ bx ∧ bx ≤ 100) (h4 : 0 ≤ b_y ∧ b_y ≤ 100) (h5 : 0 ≤ x1 ∧ x1 ≤ 100) (h6 : 0 ≤ y1 ∧ y1 ≤ 100) (h7 : 0 ≤ x2 ∧ x2 ≤ 100) (h8 : 0 ≤ y2 ∧ y2 ≤ 100) (h9 : 0 ≤ az ∧ az ≤ 1000) (h10 : 0 ≤ bz ∧ bz ≤ 1000) :
    Calls Try.prog 89 #[.agg #[.int .i64 ax, .int .i64 ay, .int .i64 az, .int .i64 am, .int .i64 bx, .int .i64 b_y, .int .i64 bz, .int .i64 bm], .agg #[.int .i64 x1, .int .i64 y1, .int .i64 x2, .int .i64 y2, .int .i64 b, .int .i64 t]] w fun e w' =>
      e = .returned (.tuple #[.agg #[.int .i64 (overP ax ay az bx b_y bz x1 y1 x2 y2), .int .i64 (overQ ax ay bx b_y x1 y1 x2 y2)], .bool (crossB ax ay bx b_y x1 y1 x2 y2)]) ∧ Below w.heap.size w w' := by
  go_enter Try.func89, Try.ntmps89
  go_upto_region 1 with fail
  go_cut [6, 7] (fun s6 s7 wx => ∃ g6 g7 : Nat, s6 = .pointer (some ⟨g6, 0, none⟩) ∧ s7 = .pointer (some ⟨g7, 0, none⟩) ∧ Box wx w.heap.size 111 #[iv ax, iv ay, iv az, iv am, iv bx, iv b_y, iv bz, iv bm] ∧ Box wx (w.heap.size + 1 + 1) 145 #[iv 0, iv 0] ∧ Box wx g6 157 #[iv x1, iv y1] ∧ Box wx g7 157 #[iv x2, iv y2] ∧ Below w.heap.size w wx)
  case first =>
    go_wp2_with (go_at_call 103; refine (ends_any _ _ _ _ _ _ _).mono ?_; rintro e w1 ⟨rfl, hb1⟩)
    go_meet
    exact ⟨_, _, rfl, rfl, ((Box.later hb1 (((Box.new rfl).alloc _).alloc _)).alloc _).alloc _, ((Box.later hb1 (Box.new (by simp))).alloc _).alloc _, (Box.new rfl).alloc _, Box.new (by simp), up_alloc (up_alloc (up_later (up_alloc (up_alloc (up_alloc up0 _) _) _) hb1) _) _⟩
  case rest =>
    obtain ⟨g6, g7, rfl, rfl, B2, B4, B6, B7, hB⟩ := hcut
    go_upto_region 2 with fail
    go_cut [8, 9] (fun s8 s9 wx => ∃ g8 g9 : Nat, s8 = .pointer (some ⟨g8, 0, none⟩) ∧ s9 = .pointer (some ⟨g9, 0, none⟩) ∧ Box wx g8 157 #[iv ax, iv ay] ∧ Box wx g9 157 #[iv bx, iv b_y] ∧ Below wc.heap.size wc wx)
    case first =>
      have c2 := fun i => B2.cell i
      have l2 := B2.lt
      apply wp_region_by 8 [(Fact.eq _), (Fact.eq _), (Fact.eq _), (Fact.eq _), (Fact.eq _), (Fact.eq _), (Fact.box 157 _), (Fact.box 157 _)]
      case hm => kernel_rfl
      case hB => kernel_rfl
      case hA => (intro vs; simp only [List.take_succ_cons, List.take_zero, putAll, if_true, Act.put, List.setIfInBounds_toArray, List.set_cons_zero, List.set_cons_succ]; exact rfl)
      case hstep =>
        intro vs
        refine And.intro (fun w hw hd => ?_) ?_
        · refine ite_yes rfl ?_
          simp only [Gives]
          go_simp
          exact ⟨Below.refl _ _, rfl, fun h => by cases h⟩
        refine And.intro (fun w hw hd => ?_) ?_
        · have d0 := hd 0 (by decide) rfl
          change vs 0 = _ at d0
          refine ite_yes rfl ?_
          have c_B2 := fun i => (B2.kept hw).cell i
          simp only [Gives]
          go_simp
          exact ⟨Below.refl _ _, rfl, fun h => by cases h⟩
        refine And.intro (fun w hw hd => ?_) ?_
        · have d1 := hd 1 (by decide) rfl
          change vs 1 = _ at d1
          refine ite_yes rfl ?_
          simp only [Gives]
          go_simp
          refine (place_any _ _ _ _ _).mono ?_
          rintro e w1 ⟨rfl, hb⟩
          exact ⟨_, rfl, hb, rfl, fun h => by cases h⟩
        refine And.intro (fun w hw hd => ?_) ?_
        · refine ite_yes rfl ?_
          simp only [Gives]
          go_simp
          exact ⟨Below.refl _ _, rfl, fun h => by cases h⟩
        refine And.intro (fun w hw hd => ?_) ?_
        · have d3 := hd 3 (by decide) rfl
          change vs 3 = _ at d3
          refine ite_yes rfl ?_
          have c_B2 := fun i => (B2.kept hw).cell i
          simp only [Gives]
          go_simp
          exact ⟨Below.refl _ _, rfl, fun h => by cases h⟩
        refine And.intro (fun w hw hd => ?_) ?_
        · have d4 := hd 4 (by decide) rfl
          change vs 4 = _ at d4
          refine ite_yes rfl ?_
          simp only [Gives]
          go_simp
          refine (place_any _ _ _ _ _).mono ?_
          rintro e w1 ⟨rfl, hb⟩
          exact ⟨_, rfl, hb, rfl, fun h => by cases h⟩
        refine And.intro (fun w hw hd => ?_) ?_
        · refine ite_yes rfl ?_
          simp only [Gives]
          go_simp
          exact ⟨(Below.refl _ _).alloc (Nat.le_refl _) _, ⟨_, rfl, Box.new rfl⟩, fun _ => Nat.le_refl _⟩
        refine And.intro (fun w hw hd => ?_) ?_
        · refine ite_yes rfl ?_
          simp only [Gives]
          go_simp
          exact ⟨(Below.refl _ _).alloc (Nat.le_refl _) _, ⟨_, rfl, Box.new rfl⟩, fun _ => Nat.le_refl _⟩
        exact trivial
      intro vs wt hw hd hne hlo
      have d0 := hd 0 (by decide)
      change vs 0 = _ at d0
      have d1 := hd 1 (by decide)
      change vs 1 = _ at d1
      have d2 := hd 2 (by decide)
      change vs 2 = _ at d2
      have d3 := hd 3 (by decide)
      change vs 3 = _ at d3
      have d4 := hd 4 (by decide)
      change vs 4 = _ at d4
      have d5 := hd 5 (by decide)
      change vs 5 = _ at d5
      obtain ⟨n6, d6, N6⟩ := hd 6 (by decide)
      obtain ⟨n7, d7, N7⟩ := hd 7 (by decide)
      have l6 := hlo 6 (by decide) rfl
      have l7 := hlo 7 (by decide) rfl
      have e6_7 := hne 6 7 (by decide) (by decide) (by decide) rfl rfl
      simp only [d6, d7, blk] at l6 l7 e6_7
      simp only [d0, d1, d2, d3, d4, d5, d6, d7, List.drop_succ_cons, List.drop_zero]
      have B2 := B2.kept hw
      have c_B2 := fun i => B2.cell i
      have f_B2 := fun i => B2.free i
      have c_N6 := fun i => N6.cell i
      have f_N6 := fun i => N6.free i
      have c_N7 := fun i => N7.cell i
      have f_N7 := fun i => N7.free i
      clear hd hne hlo d0 d1 d2 d3 d4 d5 d6 d7
      go_wp2
      go_goals
      go_meet
      exact ⟨_, _, rfl, rfl, Box.far (Box.far (Box.put2 N6) e6_7 _) e6_7 _, Box.put2 (Box.far (Box.far N7 (Ne.symm e6_7) _) (Ne.symm e6_7) _), up_put (up_put (up_put (up_put hw l6 _) l6 _) l7 _) l7 _⟩
    case rest =>
      rename_i wd
      obtain ⟨g8, g9, rfl, rfl, B8, B9, hB2⟩ := hcut
      have B2 := B2.kept hB2
      have B4 := B4.kept hB2
      have B6 := B6.kept hB2
      have B7 := B7.kept hB2
      have hB := up_later hB hB2
      clear hB2
      go_upto_region 3 with fail
      apply wp_region_by 10 [(Fact.eq _), (Fact.eq _), (Fact.eq _), (Fact.eq _), (Fact.eq _), (Fact.eq _), (Fact.eq _), (Fact.eq _), (Fact.eq _), (Fact.eq _)]
      case hm => kernel_rfl
      case hB => kernel_rfl
      case hA => (intro vs; simp only [List.take_succ_cons, List.take_zero, putAll, if_true, Act.put, List.setIfInBounds_toArray, List.set_cons_zero, List.set_cons_succ]; exact rfl)
      case hstep =>
        intro vs
        refine And.intro (fun w hw hd => ?_) ?_
        · refine ite_yes rfl ?_
          have c_B2 := fun i => (B2.kept hw).cell i
          have c_B4 := fun i => (B4.kept hw).cell i
          have c_B6 := fun i => (B6.kept hw).cell i
          have c_B7 := fun i => (B7.kept hw).cell i
          have c_B8 := fun i => (B8.kept hw).cell i
          have c_B9 := fun i => (B9.kept hw).cell i
          simp only [Gives]
          go_simp
          exact ⟨Below.refl _ _, rfl, fun h => by cases h⟩
        refine And.intro (fun w hw hd => ?_) ?_
        · refine ite_yes rfl ?_
          have c_B2 := fun i => (B2.kept hw).cell i
          have c_B4 := fun i => (B4.kept hw).cell i
          have c_B6 := fun i => (B6.kept hw).cell i
          have c_B7 := fun i => (B7.kept hw).cell i
          have c_B8 := fun i => (B8.kept hw).cell i
          have c_B9 := fun i => (B9.kept hw).cell i
          simp only [Gives]
          go_simp
          exact ⟨Below.refl _ _, rfl, fun h => by cases h⟩
        refine And.intro (fun w hw hd => ?_) ?_
        · refine ite_yes rfl ?_
          have c_B2 := fun i => (B2.kept hw).cell i
          have c_B4 := fun i => (B4.kept hw).cell i
          have c_B6 := fun i => (B6.kept hw).cell i
          have c_B7 := fun i => (B7.kept hw).cell i
          have c_B8 := fun i => (B8.kept hw).cell i
          have c_B9 := fun i => (B9.kept hw).cell i
          simp only [Gives]
          go_simp
          exact ⟨Below.refl _ _, rfl, fun h => by cases h⟩
        refine And.intro (fun w hw hd => ?_) ?_
        · have d0 := hd 0 (by decide) rfl
          change vs 0 = _ at d0
          have d1 := hd 1 (by decide) rfl
          change vs 1 = _ at d1
          have d2 := hd 2 (by decide) rfl
          change vs 2 = _ at d2
          refine ite_yes rfl ?_
          simp only [Gives]
          go_simp
          refine (side_any x1 y1 x2 y2 ax ay _ h5 h6 h7 h8 h1 h2).mono ?_
          rintro e w1 ⟨rfl, hb⟩
          exact ⟨_, rfl, hb, rfl, fun h => by cases h⟩
        refine And.intro (fun w hw hd => ?_) ?_
        · refine ite_yes rfl ?_
          have c_B2 := fun i => (B2.kept hw).cell i
          have c_B4 := fun i => (B4.kept hw).cell i
          have c_B6 := fun i => (B6.kept hw).cell i
          have c_B7 := fun i => (B7.kept hw).cell i
          have c_B8 := fun i => (B8.kept hw).cell i
          have c_B9 := fun i => (B9.kept hw).cell i
          simp only [Gives]
          go_simp
          exact ⟨Below.refl _ _, rfl, fun h => by cases h⟩
        refine And.intro (fun w hw hd => ?_) ?_
        · refine ite_yes rfl ?_
          have c_B2 := fun i => (B2.kept hw).cell i
          have c_B4 := fun i => (B4.kept hw).cell i
          have c_B6 := fun i => (B6.kept hw).cell i
          have c_B7 := fun i => (B7.kept hw).cell i
          have c_B8 := fun i => (B8.kept hw).cell i
          have c_B9 := fun i => (B9.kept hw).cell i
          simp only [Gives]
          go_simp
          exact ⟨Below.refl _ _, rfl, fun h => by cases h⟩
        refine And.intro (fun w hw hd => ?_) ?_
        · refine ite_yes rfl ?_
          have c_B2 := fun i => (B2.kept hw).cell i
          have c_B4 := fun i => (B4.kept hw).cell i
          have c_B6 := fun i => (B6.kept hw).cell i
          have c_B7 := fun i => (B7.kept hw).cell i
          have c_B8 := fun i => (B8.kept hw).cell i
          have c_B9 := fun i => (B9.kept hw).cell i
          simp only [Gives]
          go_simp
          exact ⟨Below.refl _ _, rfl, fun h => by cases h⟩
        refine And.intro (fun w hw hd => ?_) ?_
        · have d4 := hd 4 (by decide) rfl
          change vs 4 = _ at d4
          have d5 := hd 5 (by decide) rfl
          change vs 5 = _ at d5
          have d6 := hd 6 (by decide) rfl
          change vs 6 = _ at d6
          refine ite_yes rfl ?_
          simp only [Gives]
          go_simp
          refine (side_any x1 y1 x2 y2 bx b_y _ h5 h6 h7 h8 h3 h4).mono ?_
          rintro e w1 ⟨rfl, hb⟩
          exact ⟨_, rfl, hb, rfl, fun h => by cases h⟩
        refine And.intro (fun w hw hd => ?_) ?_
        · have d3 := hd 3 (by decide) rfl
          change vs 3 = _ at d3
          refine ite_yes rfl ?_
          simp only [Gives]
          go_simp
          exact ⟨Below.refl _ _, rfl, fun h => by cases h⟩
        refine And.intro (fun w hw hd => ?_) ?_
        · have d7 := hd 7 (by decide) rfl
          change vs 7 = _ at d7
          refine ite_yes rfl ?_
          simp only [Gives]
          go_simp
          exact ⟨Below.refl _ _, rfl, fun h => by cases h⟩
        exact trivial
      intro vs wt hw hd hne hlo
      have d0 := hd 0 (by decide)
      change vs 0 = _ at d0
      have d1 := hd 1 (by decide)
      change vs 1 = _ at d1
      have d2 := hd 2 (by decide)
      change vs 2 = _ at d2
      have d3 := hd 3 (by decide)
      change vs 3 = _ at d3
      have d4 := hd 4 (by decide)
      change vs 4 = _ at d4
      have d5 := hd 5 (by decide)
      change vs 5 = _ at d5
      have d6 := hd 6 (by decide)
      change vs 6 = _ at d6
      have d7 := hd 7 (by decide)
      change vs 7 = _ at d7
      have d8 := hd 8 (by decide)
      change vs 8 = _ at d8
      have d9 := hd 9 (by decide)
      change vs 9 = _ at d9
      simp only [d0, d1, d2, d3, d4, d5, d6, d7, d8, d9, List.drop_succ_cons, List.drop_nil]
      have B2 := B2.kept hw
      have B4 := B4.kept hw
      have B6 := B6.kept hw
      have B7 := B7.kept hw
      have B8 := B8.kept hw
      have B9 := B9.kept hw
      have c_B2 := fun i => B2.cell i
      have f_B2 := fun i => B2.free i
      have c_B4 := fun i => B4.cell i
      have f_B4 := fun i => B4.free i
      have c_B6 := fun i => B6.cell i
      have f_B6 := fun i => B6.free i
      have c_B7 := fun i => B7.cell i
      have f_B7 := fun i => B7.free i
      have c_B8 := fun i => B8.cell i
      have f_B8 := fun i => B8.free i
      have c_B9 := fun i => B9.cell i
      have f_B9 := fun i => B9.free i
      clear hd hne hlo d0 d1 d2 d3 d4 d5 d6 d7 d8 d9
      have b1 := (side_bd x1 y1 x2 y2 ax ay h5 h6 h7 h8 h1 h2).2.2
      have b2 := (side_bd x1 y1 x2 y2 bx b_y h5 h6 h7 h8 h3 h4).2.2
      have b3 := (side_bd ax ay bx b_y x1 y1 h1 h2 h3 h4 h5 h6).2.2
      have b4 := (side_bd ax ay bx b_y x2 y2 h1 h2 h3 h4 h7 h8).2.2
      have hB := up_later hB hw
      clear hw
      have W1 := wrap_in _ 400000000 (by omega) (mul_in (sideI x1 y1 x2 y2 ax ay) (sideI x1 y1 x2 y2 bx b_y) 20000 20000 (by omega) (by omega) (by omega) (by omega))
      have W2 := wrap_in _ 400000000 (by omega) (mul_in (sideI ax ay bx b_y x1 y1) (sideI ax ay bx b_y x2 y2) 20000 20000 (by omega) (by omega) (by omega) (by omega))
      have K1 := wrapK_in _ 400000000 (by omega) (mul_in (sideI x1 y1 x2 y2 ax ay) (sideI x1 y1 x2 y2 bx b_y) 20000 20000 (by omega) (by omega) (by omega) (by omega))
      have K2 := wrapK_in _ 400000000 (by omega) (mul_in (sideI ax ay bx b_y x1 y1) (sideI ax ay bx b_y x2 y2) 20000 20000 (by omega) (by omega) (by omega) (by omega))
      go_upto_region 4 with fail
      by_cases hnf : 0 ≤ sideI x1 y1 x2 y2 ax ay * sideI x1 y1 x2 y2 bx b_y
      · have hd1 : decide (0 ≤ sideI x1 y1 x2 y2 ax ay * sideI x1 y1 x2 y2 bx b_y) = true := by simpa using hnf
        apply wp_region_by 16 [(Fact.eq _), (Fact.eq _), (Fact.eq _), (Fact.eq _), (Fact.eq _), (Fact.eq _), (Fact.eq _), (Fact.eq _), (Fact.eq _), (Fact.eq _), (Fact.eq _), (Fact.eq _), (Fact.eq _), (Fact.eq _), (Fact.eq _), (Fact.eq _)]
        case hm => kernel_rfl
        case hB => kernel_rfl
        case hA => (intro vs; simp only [List.take_succ_cons, List.take_zero, putAll, if_true, Act.put, List.setIfInBounds_toArray, List.set_cons_zero, List.set_cons_succ]; exact rfl)
        case hstep =>
          intro vs
          refine And.intro (fun w hw hd => ?_) ?_
          · refine ite_yes rfl ?_
            simp only [Gives]
            go_simp
            exact ⟨Below.refl _ _, rfl, fun h => by cases h⟩
          refine And.intro (fun w hw hd => ?_) ?_
          · refine ite_yes rfl ?_
            simp only [Gives]
            go_simp
            exact ⟨Below.refl _ _, rfl, fun h => by cases h⟩
          refine And.intro (fun w hw hd => ?_) ?_
          · have d0 := hd 0 (by decide) rfl
            change vs 0 = _ at d0
            have d1 := hd 1 (by decide) rfl
            change vs 1 = _ at d1
            refine ite_yes rfl ?_
            simp only [Gives]
            go_simp
            exact ⟨Below.refl _ _, rfl, fun h => by cases h⟩
          refine And.intro (fun w hw hd => ?_) ?_
          · have d2 := hd 2 (by decide) rfl
            change vs 2 = _ at d2
            refine ite_yes rfl ?_
            simp only [Gives]
            go_simp
            exact ⟨Below.refl _ _, rfl, fun h => by cases h⟩
          refine And.intro (fun w hw hd => ?_) ?_
          · have d3 := hd 3 (by decide) rfl
            change vs 3 = _ at d3
            refine ite_yes rfl ?_
            simp only [Gives]
            go_simp
            exact ⟨Below.refl _ _, rfl, fun h => by cases h⟩
          refine And.intro (fun w hw hd => ?_) ?_
          · have d4 := hd 4 (by decide) rfl
            change vs 4 = _ at d4
            refine ite_no (by simp [Region.wanted, yielded, d4]) ?_
            exact ⟨rfl, rfl⟩
          refine And.intro (fun w hw hd => ?_) ?_
          · have d4 := hd 4 (by decide) rfl
            change vs 4 = _ at d4
            refine ite_no (by simp [Region.wanted, yielded, d4]) ?_
            exact ⟨rfl, rfl⟩
          refine And.intro (fun w hw hd => ?_) ?_
          · have d4 := hd 4 (by decide) rfl
            change vs 4 = _ at d4
            refine ite_no (by simp [Region.wanted, yielded, d4]) ?_
            exact ⟨rfl, rfl⟩
          refine And.intro (fun w hw hd => ?_) ?_
          · have d5 := hd 5 (by decide) rfl
            change vs 5 = _ at d5
            have d6 := hd 6 (by decide) rfl
            change vs 6 = _ at d6
            have d7 := hd 7 (by decide) rfl
            change vs 7 = _ at d7
            have d4 := hd 4 (by decide) rfl
            change vs 4 = _ at d4
            refine ite_no (by simp [Region.wanted, yielded, d4]) ?_
            exact ⟨rfl, rfl⟩
          refine And.intro (fun w hw hd => ?_) ?_
          · have d4 := hd 4 (by decide) rfl
            change vs 4 = _ at d4
            refine ite_no (by simp [Region.wanted, yielded, d4]) ?_
            exact ⟨rfl, rfl⟩
          refine And.intro (fun w hw hd => ?_) ?_
          · have d4 := hd 4 (by decide) rfl
            change vs 4 = _ at d4
            refine ite_no (by simp [Region.wanted, yielded, d4]) ?_
            exact ⟨rfl, rfl⟩
          refine And.intro (fun w hw hd => ?_) ?_
          · have d4 := hd 4 (by decide) rfl
            change vs 4 = _ at d4
            refine ite_no (by simp [Region.wanted, yielded, d4]) ?_
            exact ⟨rfl, rfl⟩
          refine And.intro (fun w hw hd => ?_) ?_
          · have d9 := hd 9 (by decide) rfl
            change vs 9 = _ at d9
            have d10 := hd 10 (by decide) rfl
            change vs 10 = _ at d10
            have d11 := hd 11 (by decide) rfl
            change vs 11 = _ at d11
            have d4 := hd 4 (by decide) rfl
            change vs 4 = _ at d4
            refine ite_no (by simp [Region.wanted, yielded, d4]) ?_
            exact ⟨rfl, rfl⟩
          refine And.intro (fun w hw hd => ?_) ?_
          · have d8 := hd 8 (by decide) rfl
            change vs 8 = _ at d8
            have d12 := hd 12 (by decide) rfl
            change vs 12 = _ at d12
            have d4 := hd 4 (by decide) rfl
            change vs 4 = _ at d4
            refine ite_no (by simp [Region.wanted, yielded, d4]) ?_
            exact ⟨rfl, rfl⟩
          refine And.intro (fun w hw hd => ?_) ?_
          · have d13 := hd 13 (by decide) rfl
            change vs 13 = _ at d13
            have d4 := hd 4 (by decide) rfl
            change vs 4 = _ at d4
            refine ite_no (by simp [Region.wanted, yielded, d4]) ?_
            exact ⟨rfl, rfl⟩
          refine And.intro (fun w hw hd => ?_) ?_
          · have d4 := hd 4 (by decide) rfl
            change vs 4 = _ at d4
            have d14 := hd 14 (by decide) rfl
            change vs 14 = _ at d14
            refine ite_yes rfl ?_
            simp only [Gives]
            go_simp
            exact ⟨Below.refl _ _, rfl, fun h => by cases h⟩
          exact trivial
        intro vs wt hw hd hne hlo
        have d0 := hd 0 (by decide)
        change vs 0 = _ at d0
        have d1 := hd 1 (by decide)
        change vs 1 = _ at d1
        have d2 := hd 2 (by decide)
        change vs 2 = _ at d2
        have d3 := hd 3 (by decide)
        change vs 3 = _ at d3
        have d4 := hd 4 (by decide)
        change vs 4 = _ at d4
        have d5 := hd 5 (by decide)
        change vs 5 = _ at d5
        have d6 := hd 6 (by decide)
        change vs 6 = _ at d6
        have d7 := hd 7 (by decide)
        change vs 7 = _ at d7
        have d8 := hd 8 (by decide)
        change vs 8 = _ at d8
        have d9 := hd 9 (by decide)
        change vs 9 = _ at d9
        have d10 := hd 10 (by decide)
        change vs 10 = _ at d10
        have d11 := hd 11 (by decide)
        change vs 11 = _ at d11
        have d12 := hd 12 (by decide)
        change vs 12 = _ at d12
        have d13 := hd 13 (by decide)
        change vs 13 = _ at d13
        have d14 := hd 14 (by decide)
        change vs 14 = _ at d14
        have d15 := hd 15 (by decide)
        change vs 15 = _ at d15
        simp only [d0, d1, d2, d3, d4, d5, d6, d7, d8, d9, d10, d11, d12, d13, d14, d15, List.drop_succ_cons, List.drop_nil]
        have B4 := B4.kept hw
        have c_B4 := fun i => B4.cell i
        have f_B4 := fun i => B4.free i
        clear hd hne hlo d0 d1 d2 d3 d4 d5 d6 d7 d8 d9 d10 d11 d12 d13 d14 d15
        go_wp2
        refine bodyPost_ret (v := .tuple #[.agg #[.int .i64 0, .int .i64 0], .bool false]) (by have c0 := fun i => (B4.put 0 (.int .i64 0)).cell i; simp [results, Try.results89, go_sem, c0]) rfl ⟨?_, up_put (up_put (up_later hB hw) (by simp; omega) _) (by simp; omega) _⟩
        have hx : crossB ax ay bx b_y x1 y1 x2 y2 = false := by unfold crossB; simp; omega
        unfold overP overQ; rw [hx]; rfl
      · have hd1 : decide (0 ≤ sideI x1 y1 x2 y2 ax ay * sideI x1 y1 x2 y2 bx b_y) = false := by simpa using hnf
        by_cases hcd : 0 < sideI ax ay bx b_y x1 y1 * sideI ax ay bx b_y x2 y2
        · have hd2 : decide (0 < sideI ax ay bx b_y x1 y1 * sideI ax ay bx b_y x2 y2) = true := by simpa using hcd
          apply wp_region_by 16 [(Fact.eq _), (Fact.eq _), (Fact.eq _), (Fact.eq _), (Fact.eq _), (Fact.eq _), (Fact.eq _), (Fact.eq _), (Fact.eq _), (Fact.eq _), (Fact.eq _), (Fact.eq _), (Fact.eq _), (Fact.eq _), (Fact.eq _), (Fact.eq _)]
          case hm => kernel_rfl
          case hB => kernel_rfl
          case hA => (intro vs; simp only [List.take_succ_cons, List.take_zero, putAll, if_true, Act.put, List.setIfInBounds_toArray, List.set_cons_zero, List.set_cons_succ]; exact rfl)
          case hstep =>
            intro vs
            refine And.intro (fun w hw hd => ?_) ?_
            · refine ite_yes rfl ?_
              simp only [Gives]
              go_simp
              exact ⟨Below.refl _ _, rfl, fun h => by cases h⟩
            refine And.intro (fun w hw hd => ?_) ?_
            · refine ite_yes rfl ?_
              simp only [Gives]
              go_simp
              exact ⟨Below.refl _ _, rfl, fun h => by cases h⟩
            refine And.intro (fun w hw hd => ?_) ?_
            · have d0 := hd 0 (by decide) rfl
              change vs 0 = _ at d0
              have d1 := hd 1 (by decide) rfl
              change vs 1 = _ at d1
              refine ite_yes rfl ?_
              simp only [Gives]
              go_simp
              exact ⟨Below.refl _ _, rfl, fun h => by cases h⟩
            refine And.intro (fun w hw hd => ?_) ?_
            · have d2 := hd 2 (by decide) rfl
              change vs 2 = _ at d2
              refine ite_yes rfl ?_
              simp only [Gives]
              go_simp
              exact ⟨Below.refl _ _, rfl, fun h => by cases h⟩
            refine And.intro (fun w hw hd => ?_) ?_
            · have d3 := hd 3 (by decide) rfl
              change vs 3 = _ at d3
              refine ite_yes rfl ?_
              simp only [Gives]
              go_simp
              exact ⟨Below.refl _ _, rfl, fun h => by cases h⟩
            refine And.intro (fun w hw hd => ?_) ?_
            · have d4 := hd 4 (by decide) rfl
              change vs 4 = _ at d4
              refine ite_yes (by simp [Region.wanted, yielded, d4]) ?_
              have c_B4 := fun i => (B4.kept hw).cell i
              have c_B6 := fun i => (B6.kept hw).cell i
              have c_B7 := fun i => (B7.kept hw).cell i
              have c_B8 := fun i => (B8.kept hw).cell i
              have c_B9 := fun i => (B9.kept hw).cell i
              simp only [Gives]
              go_simp
              exact ⟨Below.refl _ _, rfl, fun h => by cases h⟩
            refine And.intro (fun w hw hd => ?_) ?_
            · have d4 := hd 4 (by decide) rfl
              change vs 4 = _ at d4
              refine ite_yes (by simp [Region.wanted, yielded, d4]) ?_
              have c_B4 := fun i => (B4.kept hw).cell i
              have c_B6 := fun i => (B6.kept hw).cell i
              have c_B7 := fun i => (B7.kept hw).cell i
              have c_B8 := fun i => (B8.kept hw).cell i
              have c_B9 := fun i => (B9.kept hw).cell i
              simp only [Gives]
              go_simp
              exact ⟨Below.refl _ _, rfl, fun h => by cases h⟩
            refine And.intro (fun w hw hd => ?_) ?_
            · have d4 := hd 4 (by decide) rfl
              change vs 4 = _ at d4
              refine ite_yes (by simp [Region.wanted, yielded, d4]) ?_
              have c_B4 := fun i => (B4.kept hw).cell i
              have c_B6 := fun i => (B6.kept hw).cell i
              have c_B7 := fun i => (B7.kept hw).cell i
              have c_B8 := fun i => (B8.kept hw).cell i
              have c_B9 := fun i => (B9.kept hw).cell i
              simp only [Gives]
              go_simp
              exact ⟨Below.refl _ _, rfl, fun h => by cases h⟩
            refine And.intro (fun w hw hd => ?_) ?_
            · have d5 := hd 5 (by decide) rfl
              change vs 5 = _ at d5
              have d6 := hd 6 (by decide) rfl
              change vs 6 = _ at d6
              have d7 := hd 7 (by decide) rfl
              change vs 7 = _ at d7
              have d4 := hd 4 (by decide) rfl
              change vs 4 = _ at d4
              refine ite_yes (by simp [Region.wanted, yielded, d4]) ?_
              simp only [Gives]
              go_simp
              refine (side_any ax ay bx b_y x1 y1 _ h1 h2 h3 h4 h5 h6).mono ?_
              rintro e w1 ⟨rfl, hb⟩
              exact ⟨_, rfl, hb, rfl, fun h => by cases h⟩
            refine And.intro (fun w hw hd => ?_) ?_
            · have d4 := hd 4 (by decide) rfl
              change vs 4 = _ at d4
              refine ite_yes (by simp [Region.wanted, yielded, d4]) ?_
              have c_B4 := fun i => (B4.kept hw).cell i
              have c_B6 := fun i => (B6.kept hw).cell i
              have c_B7 := fun i => (B7.kept hw).cell i
              have c_B8 := fun i => (B8.kept hw).cell i
              have c_B9 := fun i => (B9.kept hw).cell i
              simp only [Gives]
              go_simp
              exact ⟨Below.refl _ _, rfl, fun h => by cases h⟩
            refine And.intro (fun w hw hd => ?_) ?_
            · have d4 := hd 4 (by decide) rfl
              change vs 4 = _ at d4
              refine ite_yes (by simp [Region.wanted, yielded, d4]) ?_
              have c_B4 := fun i => (B4.kept hw).cell i
              have c_B6 := fun i => (B6.kept hw).cell i
              have c_B7 := fun i => (B7.kept hw).cell i
              have c_B8 := fun i => (B8.kept hw).cell i
              have c_B9 := fun i => (B9.kept hw).cell i
              simp only [Gives]
              go_simp
              exact ⟨Below.refl _ _, rfl, fun h => by cases h⟩
            refine And.intro (fun w hw hd => ?_) ?_
            · have d4 := hd 4 (by decide) rfl
              change vs 4 = _ at d4
              refine ite_yes (by simp [Region.wanted, yielded, d4]) ?_
              have c_B4 := fun i => (B4.kept hw).cell i
              have c_B6 := fun i => (B6.kept hw).cell i
              have c_B7 := fun i => (B7.kept hw).cell i
              have c_B8 := fun i => (B8.kept hw).cell i
              have c_B9 := fun i => (B9.kept hw).cell i
              simp only [Gives]
              go_simp
              exact ⟨Below.refl _ _, rfl, fun h => by cases h⟩
            refine And.intro (fun w hw hd => ?_) ?_
            · have d9 := hd 9 (by decide) rfl
              change vs 9 = _ at d9
              have d10 := hd 10 (by decide) rfl
              change vs 10 = _ at d10
              have d11 := hd 11 (by decide) rfl
              change vs 11 = _ at d11
              have d4 := hd 4 (by decide) rfl
              change vs 4 = _ at d4
              refine ite_yes (by simp [Region.wanted, yielded, d4]) ?_
              simp only [Gives]
              go_simp
              refine (side_any ax ay bx b_y x2 y2 _ h1 h2 h3 h4 h7 h8).mono ?_
              rintro e w1 ⟨rfl, hb⟩
              exact ⟨_, rfl, hb, rfl, fun h => by cases h⟩
            refine And.intro (fun w hw hd => ?_) ?_
            · have d8 := hd 8 (by decide) rfl
              change vs 8 = _ at d8
              have d12 := hd 12 (by decide) rfl
              change vs 12 = _ at d12
              have d4 := hd 4 (by decide) rfl
              change vs 4 = _ at d4
              refine ite_yes (by simp [Region.wanted, yielded, d4]) ?_
              simp only [Gives]
              go_simp
              exact ⟨Below.refl _ _, rfl, fun h => by cases h⟩
            refine And.intro (fun w hw hd => ?_) ?_
            · have d13 := hd 13 (by decide) rfl
              change vs 13 = _ at d13
              have d4 := hd 4 (by decide) rfl
              change vs 4 = _ at d4
              refine ite_yes (by simp [Region.wanted, yielded, d4]) ?_
              simp only [Gives]
              go_simp
              exact ⟨Below.refl _ _, rfl, fun h => by cases h⟩
            refine And.intro (fun w hw hd => ?_) ?_
            · have d4 := hd 4 (by decide) rfl
              change vs 4 = _ at d4
              have d14 := hd 14 (by decide) rfl
              change vs 14 = _ at d14
              refine ite_yes rfl ?_
              simp only [Gives]
              go_simp
              exact ⟨Below.refl _ _, rfl, fun h => by cases h⟩
            exact trivial
          intro vs wt hw hd hne hlo
          have d0 := hd 0 (by decide)
          change vs 0 = _ at d0
          have d1 := hd 1 (by decide)
          change vs 1 = _ at d1
          have d2 := hd 2 (by decide)
          change vs 2 = _ at d2
          have d3 := hd 3 (by decide)
          change vs 3 = _ at d3
          have d4 := hd 4 (by decide)
          change vs 4 = _ at d4
          have d5 := hd 5 (by decide)
          change vs 5 = _ at d5
          have d6 := hd 6 (by decide)
          change vs 6 = _ at d6
          have d7 := hd 7 (by decide)
          change vs 7 = _ at d7
          have d8 := hd 8 (by decide)
          change vs 8 = _ at d8
          have d9 := hd 9 (by decide)
          change vs 9 = _ at d9
          have d10 := hd 10 (by decide)
          change vs 10 = _ at d10
          have d11 := hd 11 (by decide)
          change vs 11 = _ at d11
          have d12 := hd 12 (by decide)
          change vs 12 = _ at d12
          have d13 := hd 13 (by decide)
          change vs 13 = _ at d13
          have d14 := hd 14 (by decide)
          change vs 14 = _ at d14
          have d15 := hd 15 (by decide)
          change vs 15 = _ at d15
          simp only [d0, d1, d2, d3, d4, d5, d6, d7, d8, d9, d10, d11, d12, d13, d14, d15, List.drop_succ_cons, List.drop_nil]
          have B4 := B4.kept hw
          have B6 := B6.kept hw
          have B7 := B7.kept hw
          have B8 := B8.kept hw
          have B9 := B9.kept hw
          have c_B4 := fun i => B4.cell i
          have f_B4 := fun i => B4.free i
          have c_B6 := fun i => B6.cell i
          have f_B6 := fun i => B6.free i
          have c_B7 := fun i => B7.cell i
          have f_B7 := fun i => B7.free i
          have c_B8 := fun i => B8.cell i
          have f_B8 := fun i => B8.free i
          have c_B9 := fun i => B9.cell i
          have f_B9 := fun i => B9.free i
          clear hd hne hlo d0 d1 d2 d3 d4 d5 d6 d7 d8 d9 d10 d11 d12 d13 d14 d15
          go_wp2
          refine bodyPost_ret (v := .tuple #[.agg #[.int .i64 0, .int .i64 0], .bool false]) (by have c0 := fun i => (B4.put 0 (.int .i64 0)).cell i; simp [results, Try.results89, go_sem, c0]) rfl ⟨?_, up_put (up_put (up_later hB hw) (by simp; omega) _) (by simp; omega) _⟩
          have hx : crossB ax ay bx b_y x1 y1 x2 y2 = false := by unfold crossB; simp; omega
          unfold overP overQ; rw [hx]; rfl
        · have hd2 : decide (0 < sideI ax ay bx b_y x1 y1 * sideI ax ay bx b_y x2 y2) = false := by simpa using hcd
          apply wp_region_by 16 [(Fact.eq _), (Fact.eq _), (Fact.eq _), (Fact.eq _), (Fact.eq _), (Fact.eq _), (Fact.eq _), (Fact.eq _), (Fact.eq _), (Fact.eq _), (Fact.eq _), (Fact.eq _), (Fact.eq _), (Fact.eq _), (Fact.eq _), (Fact.eq _)]
          case hm => kernel_rfl
          case hB => kernel_rfl
          case hA => (intro vs; simp only [List.take_succ_cons, List.take_zero, putAll, if_true, Act.put, List.setIfInBounds_toArray, List.set_cons_zero, List.set_cons_succ]; exact rfl)
          case hstep =>
            intro vs
            refine And.intro (fun w hw hd => ?_) ?_
            · refine ite_yes rfl ?_
              simp only [Gives]
              go_simp
              exact ⟨Below.refl _ _, rfl, fun h => by cases h⟩
            refine And.intro (fun w hw hd => ?_) ?_
            · refine ite_yes rfl ?_
              simp only [Gives]
              go_simp
              exact ⟨Below.refl _ _, rfl, fun h => by cases h⟩
            refine And.intro (fun w hw hd => ?_) ?_
            · have d0 := hd 0 (by decide) rfl
              change vs 0 = _ at d0
              have d1 := hd 1 (by decide) rfl
              change vs 1 = _ at d1
              refine ite_yes rfl ?_
              simp only [Gives]
              go_simp
              exact ⟨Below.refl _ _, rfl, fun h => by cases h⟩
            refine And.intro (fun w hw hd => ?_) ?_
            · have d2 := hd 2 (by decide) rfl
              change vs 2 = _ at d2
              refine ite_yes rfl ?_
              simp only [Gives]
              go_simp
              exact ⟨Below.refl _ _, rfl, fun h => by cases h⟩
            refine And.intro (fun w hw hd => ?_) ?_
            · have d3 := hd 3 (by decide) rfl
              change vs 3 = _ at d3
              refine ite_yes rfl ?_
              simp only [Gives]
              go_simp
              exact ⟨Below.refl _ _, rfl, fun h => by cases h⟩
            refine And.intro (fun w hw hd => ?_) ?_
            · have d4 := hd 4 (by decide) rfl
              change vs 4 = _ at d4
              refine ite_yes (by simp [Region.wanted, yielded, d4]) ?_
              have c_B2 := fun i => (B2.kept hw).cell i
              have c_B4 := fun i => (B4.kept hw).cell i
              have c_B6 := fun i => (B6.kept hw).cell i
              have c_B7 := fun i => (B7.kept hw).cell i
              have c_B8 := fun i => (B8.kept hw).cell i
              have c_B9 := fun i => (B9.kept hw).cell i
              simp only [Gives]
              go_simp
              exact ⟨Below.refl _ _, rfl, fun h => by cases h⟩
            refine And.intro (fun w hw hd => ?_) ?_
            · have d4 := hd 4 (by decide) rfl
              change vs 4 = _ at d4
              refine ite_yes (by simp [Region.wanted, yielded, d4]) ?_
              have c_B2 := fun i => (B2.kept hw).cell i
              have c_B4 := fun i => (B4.kept hw).cell i
              have c_B6 := fun i => (B6.kept hw).cell i
              have c_B7 := fun i => (B7.kept hw).cell i
              have c_B8 := fun i => (B8.kept hw).cell i
              have c_B9 := fun i => (B9.kept hw).cell i
              simp only [Gives]
              go_simp
              exact ⟨Below.refl _ _, rfl, fun h => by cases h⟩
            refine And.intro (fun w hw hd => ?_) ?_
            · have d4 := hd 4 (by decide) rfl
              change vs 4 = _ at d4
              refine ite_yes (by simp [Region.wanted, yielded, d4]) ?_
              have c_B2 := fun i => (B2.kept hw).cell i
              have c_B4 := fun i => (B4.kept hw).cell i
              have c_B6 := fun i => (B6.kept hw).cell i
              have c_B7 := fun i => (B7.kept hw).cell i
              have c_B8 := fun i => (B8.kept hw).cell i
              have c_B9 := fun i => (B9.kept hw).cell i
              simp only [Gives]
              go_simp
              exact ⟨Below.refl _ _, rfl, fun h => by cases h⟩
            refine And.intro (fun w hw hd => ?_) ?_
            · have d5 := hd 5 (by decide) rfl
              change vs 5 = _ at d5
              have d6 := hd 6 (by decide) rfl
              change vs 6 = _ at d6
              have d7 := hd 7 (by decide) rfl
              change vs 7 = _ at d7
              have d4 := hd 4 (by decide) rfl
              change vs 4 = _ at d4
              refine ite_yes (by simp [Region.wanted, yielded, d4]) ?_
              simp only [Gives]
              go_simp
              refine (side_any ax ay bx b_y x1 y1 _ h1 h2 h3 h4 h5 h6).mono ?_
              rintro e w1 ⟨rfl, hb⟩
              exact ⟨_, rfl, hb, rfl, fun h => by cases h⟩
            refine And.intro (fun w hw hd => ?_) ?_
            · have d4 := hd 4 (by decide) rfl
              change vs 4 = _ at d4
              refine ite_yes (by simp [Region.wanted, yielded, d4]) ?_
              have c_B2 := fun i => (B2.kept hw).cell i
              have c_B4 := fun i => (B4.kept hw).cell i
              have c_B6 := fun i => (B6.kept hw).cell i
              have c_B7 := fun i => (B7.kept hw).cell i
              have c_B8 := fun i => (B8.kept hw).cell i
              have c_B9 := fun i => (B9.kept hw).cell i
              simp only [Gives]
              go_simp
              exact ⟨Below.refl _ _, rfl, fun h => by cases h⟩
            refine And.intro (fun w hw hd => ?_) ?_
            · have d4 := hd 4 (by decide) rfl
              change vs 4 = _ at d4
              refine ite_yes (by simp [Region.wanted, yielded, d4]) ?_
              have c_B2 := fun i => (B2.kept hw).cell i
              have c_B4 := fun i => (B4.kept hw).cell i
              have c_B6 := fun i => (B6.kept hw).cell i
              have c_B7 := fun i => (B7.kept hw).cell i
              have c_B8 := fun i => (B8.kept hw).cell i
              have c_B9 := fun i => (B9.kept hw).cell i
              simp only [Gives]
              go_simp
              exact ⟨Below.refl _ _, rfl, fun h => by cases h⟩
            refine And.intro (fun w hw hd => ?_) ?_
            · have d4 := hd 4 (by decide) rfl
              change vs 4 = _ at d4
              refine ite_yes (by simp [Region.wanted, yielded, d4]) ?_
              have c_B2 := fun i => (B2.kept hw).cell i
              have c_B4 := fun i => (B4.kept hw).cell i
              have c_B6 := fun i => (B6.kept hw).cell i
              have c_B7 := fun i => (B7.kept hw).cell i
              have c_B8 := fun i => (B8.kept hw).cell i
              have c_B9 := fun i => (B9.kept hw).cell i
              simp only [Gives]
              go_simp
              exact ⟨Below.refl _ _, rfl, fun h => by cases h⟩
            refine And.intro (fun w hw hd => ?_) ?_
            · have d9 := hd 9 (by decide) rfl
              change vs 9 = _ at d9
              have d10 := hd 10 (by decide) rfl
              change vs 10 = _ at d10
              have d11 := hd 11 (by decide) rfl
              change vs 11 = _ at d11
              have d4 := hd 4 (by decide) rfl
              change vs 4 = _ at d4
              refine ite_yes (by simp [Region.wanted, yielded, d4]) ?_
              simp only [Gives]
              go_simp
              refine (side_any ax ay bx b_y x2 y2 _ h1 h2 h3 h4 h7 h8).mono ?_
              rintro e w1 ⟨rfl, hb⟩
              exact ⟨_, rfl, hb, rfl, fun h => by cases h⟩
            refine And.intro (fun w hw hd => ?_) ?_
            · have d8 := hd 8 (by decide) rfl
              change vs 8 = _ at d8
              have d12 := hd 12 (by decide) rfl
              change vs 12 = _ at d12
              have d4 := hd 4 (by decide) rfl
              change vs 4 = _ at d4
              refine ite_yes (by simp [Region.wanted, yielded, d4]) ?_
              simp only [Gives]
              go_simp
              exact ⟨Below.refl _ _, rfl, fun h => by cases h⟩
            refine And.intro (fun w hw hd => ?_) ?_
            · have d13 := hd 13 (by decide) rfl
              change vs 13 = _ at d13
              have d4 := hd 4 (by decide) rfl
              change vs 4 = _ at d4
              refine ite_yes (by simp [Region.wanted, yielded, d4]) ?_
              simp only [Gives]
              go_simp
              exact ⟨Below.refl _ _, rfl, fun h => by cases h⟩
            refine And.intro (fun w hw hd => ?_) ?_
            · have d4 := hd 4 (by decide) rfl
              change vs 4 = _ at d4
              have d14 := hd 14 (by decide) rfl
              change vs 14 = _ at d14
              refine ite_yes rfl ?_
              simp only [Gives]
              go_simp
              exact ⟨Below.refl _ _, rfl, fun h => by cases h⟩
            exact trivial
          intro vs wt hw hd hne hlo
          have d0 := hd 0 (by decide)
          change vs 0 = _ at d0
          have d1 := hd 1 (by decide)
          change vs 1 = _ at d1
          have d2 := hd 2 (by decide)
          change vs 2 = _ at d2
          have d3 := hd 3 (by decide)
          change vs 3 = _ at d3
          have d4 := hd 4 (by decide)
          change vs 4 = _ at d4
          have d5 := hd 5 (by decide)
          change vs 5 = _ at d5
          have d6 := hd 6 (by decide)
          change vs 6 = _ at d6
          have d7 := hd 7 (by decide)
          change vs 7 = _ at d7
          have d8 := hd 8 (by decide)
          change vs 8 = _ at d8
          have d9 := hd 9 (by decide)
          change vs 9 = _ at d9
          have d10 := hd 10 (by decide)
          change vs 10 = _ at d10
          have d11 := hd 11 (by decide)
          change vs 11 = _ at d11
          have d12 := hd 12 (by decide)
          change vs 12 = _ at d12
          have d13 := hd 13 (by decide)
          change vs 13 = _ at d13
          have d14 := hd 14 (by decide)
          change vs 14 = _ at d14
          have d15 := hd 15 (by decide)
          change vs 15 = _ at d15
          simp only [d0, d1, d2, d3, d4, d5, d6, d7, d8, d9, d10, d11, d12, d13, d14, d15, List.drop_succ_cons, List.drop_nil]
          have B2 := B2.kept hw
          have B4 := B4.kept hw
          have B6 := B6.kept hw
          have B7 := B7.kept hw
          have B8 := B8.kept hw
          have B9 := B9.kept hw
          have c_B2 := fun i => B2.cell i
          have f_B2 := fun i => B2.free i
          have c_B4 := fun i => B4.cell i
          have f_B4 := fun i => B4.free i
          have c_B6 := fun i => B6.cell i
          have f_B6 := fun i => B6.free i
          have c_B7 := fun i => B7.cell i
          have f_B7 := fun i => B7.free i
          have c_B8 := fun i => B8.cell i
          have f_B8 := fun i => B8.free i
          have c_B9 := fun i => B9.cell i
          have f_B9 := fun i => B9.free i
          clear hd hne hlo d0 d1 d2 d3 d4 d5 d6 d7 d8 d9 d10 d11 d12 d13 d14 d15
          go_wp2_with (go_at_call 105; refine (size_any _ _ (by omega) (by omega)).mono ?_; rintro e w1 ⟨rfl, rfl⟩)
          have s1 := sizeI_bd _ 20000 b1
          have s2 := sizeI_bd _ 20000 b2
          have hx : crossB ax ay bx b_y x1 y1 x2 y2 = true := by unfold crossB; simp; omega
          clear W1 W2 K1 K2
          have m1 := mul_in az (sizeI (sideI x1 y1 x2 y2 bx b_y)) 1000 20000 (by omega) (by omega) (by omega) (by omega)
          have m2 := mul_in bz (sizeI (sideI x1 y1 x2 y2 ax ay)) 1000 20000 (by omega) (by omega) (by omega) (by omega)
          refine bodyPost_ret (v := .tuple #[.agg #[.int .i64 (overP ax ay az bx b_y bz x1 y1 x2 y2), .int .i64 (overQ ax ay bx b_y x1 y1 x2 y2)], .bool (crossB ax ay bx b_y x1 y1 x2 y2)]) (by
            have e1 : overP ax ay az bx b_y bz x1 y1 x2 y2 = wrap64 (wrap64 (az * sizeI (sideI x1 y1 x2 y2 bx b_y)) + wrap64 (bz * sizeI (sideI x1 y1 x2 y2 ax ay))) := by
              unfold overP
              rw [hx, wrap_in _ 20000000 (by omega) m1, wrap_in _ 20000000 (by omega) m2, wrap_in _ 40000000 (by omega) (by omega)]
              rfl
            have e2 : overQ ax ay bx b_y x1 y1 x2 y2 = sizeI (sideI x1 y1 x2 y2 ax ay) + sizeI (sideI x1 y1 x2 y2 bx b_y) := by unfold overQ; rw [hx]; rfl
            rw [e1, e2, hx]
            have c0 := fun i v => (B4.put 0 v).cell i
            simp [results, Try.results89, go_sem, c0]
            exact wrap_in _ 40000 (by omega) (by omega)) rfl ⟨rfl, up_put (up_put (up_later hB hw) (by simp; omega) _) (by simp; omega) _⟩
end Go.Proofs.Ytojbdmdjepgpjaa
