/-
  WALK of '(line).blockedBy'. Conditions: places from 0 to 100, heights from 0 to 1000.
-/
import Derived.Test.YtojbdmdjepgpjaaOv
import Derived.Laws.EntriesVeiled
namespace Go.Proofs.Ytojbdmdjepgpjaa
open Go.RowKit
attribute [local go_sem ↓] Go.wp_at_zero Go.wp_at_succ

set_option maxRecDepth 100000 in
set_option maxHeartbeats 1000000 in
theorem blockedBy_any (ax ay az am bx b_y bz bm x1 y1 x2 y2 b t : Int) (w : World) (h1 : 0 ≤ ax ∧ ax ≤ 100) (h2 : 0 ≤ ay ∧ ay ≤ 100) (h3 : 0 ≤ bx ∧ bx ≤ 100) (h4 : 0 ≤ b_y ∧ b_y ≤ 100) (h5 : 0 ≤ x1 ∧ x1 ≤ 100) (h6 : 0 ≤ y1 ∧ y1 ≤ 100) (h7 : 0 ≤ x2 ∧ x2 ≤ 100) (h8 : 0 ≤ y2 ∧ y2 ≤ 100) (h9 : 0 ≤ az ∧ az ≤ 1000) (h10 : 0 ≤ bz ∧ bz ≤ 1000) (h11 : 0 ≤ b ∧ b ≤ 1000) (h12 : 0 ≤ t ∧ t ≤ 1000) :
    Calls Try.prog 65 #[.agg #[.int .i64 ax, .int .i64 ay, .int .i64 az, .int .i64 am, .int .i64 bx, .int .i64 b_y, .int .i64 bz, .int .i64 bm], .agg #[.int .i64 x1, .int .i64 y1, .int .i64 x2, .int .i64 y2, .int .i64 b, .int .i64 t]] w fun e w' =>
      e = .returned (.bool (blockI ax ay az bx b_y bz x1 y1 x2 y2 b t)) ∧ Below w.heap.size w w' := by
  obtain ⟨p, hp⟩ : ∃ p, p = overP ax ay az bx b_y bz x1 y1 x2 y2 := ⟨_, rfl⟩
  obtain ⟨q, hq⟩ : ∃ q, q = overQ ax ay bx b_y x1 y1 x2 y2 := ⟨_, rfl⟩
  have hbd := over_bd ax ay az bx b_y bz x1 y1 x2 y2 h1 h2 h3 h4 h5 h6 h7 h8 h9 h10
  rw [← hp, ← hq] at hbd
  have hres : blockI ax ay az bx b_y bz x1 y1 x2 y2 b t = (crossB ax ay bx b_y x1 y1 x2 y2 && (decide (b * q ≤ p) && decide (p ≤ t * q))) := by rw [hp, hq]; rfl
  have Hp := Lib.hid hp
  have Hq := Lib.hid hq
  have Hres := Lib.hid hres
  clear hp hq hres
  cases hcr : crossB ax ay bx b_y x1 y1 x2 y2 with
  | false =>
    have Hcr := Lib.hid hcr
    clear hcr
    go_enter Try.func65, Try.ntmps65
    go_wp2_with (go_at_call 89; refine (over_any _ _ _ _ _ _ _ _ _ _ _ _ _ _ _ h1 h2 h3 h4 h5 h6 h7 h8 h9 h10).mono ?_; rintro e w1 ⟨rfl, hb1⟩; rw [Hcr.out])
    go_ret
    exact ⟨ret_bool (by rw [Hres.out, Hcr.out]; rfl), up_alloc (up_later (up_alloc (up_alloc up0 _) _) hb1) _⟩
  | true =>
    have Hcr := Lib.hid hcr
    clear hcr
    go_enter Try.func65, Try.ntmps65
    go_wp2_with (go_at_call 89; refine (over_any _ _ _ _ _ _ _ _ _ _ _ _ _ _ _ h1 h2 h3 h4 h5 h6 h7 h8 h9 h10).mono ?_; rintro e w1 ⟨rfl, hb1⟩; rw [Hcr.out, ← Hp.out, ← Hq.out])
    have B2 := (Box.later hb1 ((Box.new (w := w) (t := 111) (cs := #[iv ax, iv ay, iv az, iv am, iv bx, iv b_y, iv bz, iv bm]) rfl).alloc _)).alloc (.cells #[.int .i64 p, .int .i64 q] 145)
    have B3 := (Box.later hb1 (Box.new (g := w.heap.size + 1) (t := 68) (cs := #[iv x1, iv y1, iv x2, iv y2, iv b, iv t]) (by simp))).alloc (.cells #[.int .i64 p, .int .i64 q] 145)
    have B5 := Box.new (w := w1) (t := 145) (cs := #[.int .i64 p, .int .i64 q]) rfl
    have hB := up_alloc (up_later (up_alloc (up_alloc up0 _) _) hb1) (.cells #[.int .i64 p, .int .i64 q] 145)
    have i0 : ∀ w, (Instr.index 152 (.agg #[.func (.func 90) #[] #[], .int .i64 1, .func (.func 91) #[] #[], .int .i64 (-1)]) (.int .i64 0)).run Try.prog w = .ok (.agg #[.func (.func 90) #[] #[], .int .i64 1]) w := fun _ => by kernel_rfl
    have i1 : ∀ w, (Instr.index 152 (.agg #[.func (.func 90) #[] #[], .int .i64 1, .func (.func 91) #[] #[], .int .i64 (-1)]) (.int .i64 1)).run Try.prog w = .ok (.agg #[.func (.func 91) #[] #[], .int .i64 (-1)]) w := fun _ => by kernel_rfl
    have m1 := mul_in b q 1000 40000 (by omega) (by omega) (by omega) (by omega)
    have m2 := mul_in t q 1000 40000 (by omega) (by omega) (by omega) (by omega)
    have K1 := wrapK_in (p - b * q) 100000000 (by omega) (by omega)
    have K2 := wrapK_in (-(p - t * q)) 100000000 (by omega) (by omega)
    have K3 := wrapK_in (t * q - p) 100000000 (by omega) (by omega)
    go_loopw [20] (fun i wr => (i = .int .i64 0 ∨ (i = .int .i64 1 ∧ b * q ≤ p) ∨ (i = .int .i64 2 ∧ b * q ≤ p ∧ p ≤ t * q)) ∧ Box wr w.heap.size 111 #[iv ax, iv ay, iv az, iv am, iv bx, iv b_y, iv bz, iv bm] ∧ Box wr (w.heap.size + 1) 68 #[iv x1, iv y1, iv x2, iv y2, iv b, iv t] ∧ Box wr w1.heap.size 145 #[iv p, iv q] ∧ Below w.heap.size w wr) (fun i _ => 2 - (intOf i).toNat)
    case atStart => exact ⟨.inl rfl, B2, B3, B5, hB⟩
    case round =>
      clear B2 B3 B5 hB
      obtain ⟨hk, B2, B3, B5, hB⟩ := hrel
      rcases hk with rfl | ⟨rfl, hk1⟩ | ⟨rfl, hk1, hk2⟩
      · by_cases hlow : p - b * q < 0
        · go_upto_region 7 with fail
          have B8 := Box.new (w := wr) (t := 151) (cs := #[.func (.func 90) #[] #[], .int .i64 1]) rfl
          have B2 := B2.alloc (.cells #[.func (.func 90) #[] #[], .int .i64 1] 151)
          have B3 := B3.alloc (.cells #[.func (.func 90) #[] #[], .int .i64 1] 151)
          have B5 := B5.alloc (.cells #[.func (.func 90) #[] #[], .int .i64 1] 151)
          have hB := up_alloc hB (.cells #[.func (.func 90) #[] #[], .int .i64 1] 151)
          apply wp_region_by 10 [(Fact.eq _), (Fact.eq _), (Fact.eq _), (Fact.eq _), (Fact.eq _), (Fact.eq _), (Fact.eq _), (Fact.eq _), (Fact.eq _), (Fact.eq _)]
          case hm => kernel_rfl
          case hB => kernel_rfl
          case hA => (intro vs; simp only [List.take_succ_cons, List.take_zero, putAll, if_true, Act.put, List.setIfInBounds_toArray, List.set_cons_zero, List.set_cons_succ]; exact rfl)
          case hstep =>
            intro vs
            refine And.intro (fun w hw hd => ?_) ?_
            · refine ite_yes rfl ?_
              simp only [Gives]
              go_simp
              exact ⟨Below.refl _ _, rfl, fun h => by cases h⟩
            refine And.intro (fun w hw hd => ?_) ?_
            · have d0 := hd 0 (by decide) rfl
              change vs 0 = _ at d0
              refine ite_yes rfl ?_
              have c_B2 := fun i => (B2.kept hw).cell i
              have c_B3 := fun i => (B3.kept hw).cell i
              have c_B5 := fun i => (B5.kept hw).cell i
              have c_B8 := fun i => (B8.kept hw).cell i
              simp only [Gives]
              go_simp
              exact ⟨Below.refl _ _, rfl, fun h => by cases h⟩
            refine And.intro (fun w hw hd => ?_) ?_
            · refine ite_yes rfl ?_
              have c_B2 := fun i => (B2.kept hw).cell i
              have c_B3 := fun i => (B3.kept hw).cell i
              have c_B5 := fun i => (B5.kept hw).cell i
              have c_B8 := fun i => (B8.kept hw).cell i
              simp only [Gives]
              go_simp
              exact ⟨Below.refl _ _, rfl, fun h => by cases h⟩
            refine And.intro (fun w hw hd => ?_) ?_
            · refine ite_yes rfl ?_
              simp only [Gives]
              go_simp
              exact ⟨Below.refl _ _, rfl, fun h => by cases h⟩
            refine And.intro (fun w hw hd => ?_) ?_
            · have d3 := hd 3 (by decide) rfl
              change vs 3 = _ at d3
              refine ite_yes rfl ?_
              have c_B2 := fun i => (B2.kept hw).cell i
              have c_B3 := fun i => (B3.kept hw).cell i
              have c_B5 := fun i => (B5.kept hw).cell i
              have c_B8 := fun i => (B8.kept hw).cell i
              simp only [Gives]
              go_simp
              exact ⟨Below.refl _ _, rfl, fun h => by cases h⟩
            refine And.intro (fun w hw hd => ?_) ?_
            · refine ite_yes rfl ?_
              have c_B2 := fun i => (B2.kept hw).cell i
              have c_B3 := fun i => (B3.kept hw).cell i
              have c_B5 := fun i => (B5.kept hw).cell i
              have c_B8 := fun i => (B8.kept hw).cell i
              simp only [Gives]
              go_simp
              exact ⟨Below.refl _ _, rfl, fun h => by cases h⟩
            refine And.intro (fun w hw hd => ?_) ?_
            · have d4 := hd 4 (by decide) rfl
              change vs 4 = _ at d4
              have d5 := hd 5 (by decide) rfl
              change vs 5 = _ at d5
              refine ite_yes rfl ?_
              simp only [Gives]
              go_simp
              refine (base_any _ _ _ _ _ _ _).mono ?_
              rintro e w1 ⟨rfl, hb⟩
              exact ⟨_, rfl, hb, rfl, fun h => by cases h⟩
            refine And.intro (fun w hw hd => ?_) ?_
            · have d2 := hd 2 (by decide) rfl
              change vs 2 = _ at d2
              have d6 := hd 6 (by decide) rfl
              change vs 6 = _ at d6
              refine ite_yes rfl ?_
              simp only [Gives]
              go_simp
              refine (above_any _ _ _ _ (by omega) (by omega) (by omega) (by omega) (by omega) (by omega)).mono ?_
              rintro e w1 ⟨rfl, hb⟩
              exact ⟨_, rfl, hb, rfl, fun h => by cases h⟩
            refine And.intro (fun w hw hd => ?_) ?_
            · have d1 := hd 1 (by decide) rfl
              change vs 1 = _ at d1
              have d7 := hd 7 (by decide) rfl
              change vs 7 = _ at d7
              refine ite_yes rfl ?_
              simp only [Gives]
              go_simp
              exact ⟨Below.refl _ _, rfl, fun h => by cases h⟩
            refine And.intro (fun w hw hd => ?_) ?_
            · have d8 := hd 8 (by decide) rfl
              change vs 8 = _ at d8
              refine ite_yes rfl ?_
              simp only [Gives]
              go_simp
              exact ⟨Below.refl _ _, rfl, fun h => by cases h⟩
            exact trivial
          intro vs wt hw hd hne hlo
          have d0 := hd 0 (by decide)
          change vs 0 = _ at d0
          have d1 := hd 1 (by decide)
          change vs 1 = _ at d1
          have d2 := hd 2 (by decide)
          change vs 2 = _ at d2
          have d3 := hd 3 (by decide)
          change vs 3 = _ at d3
          have d4 := hd 4 (by decide)
          change vs 4 = _ at d4
          have d5 := hd 5 (by decide)
          change vs 5 = _ at d5
          have d6 := hd 6 (by decide)
          change vs 6 = _ at d6
          have d7 := hd 7 (by decide)
          change vs 7 = _ at d7
          have d8 := hd 8 (by decide)
          change vs 8 = _ at d8
          have d9 := hd 9 (by decide)
          change vs 9 = _ at d9
          simp only [d0, d1, d2, d3, d4, d5, d6, d7, d8, d9, List.drop_succ_cons, List.drop_nil]
          have B2 := B2.kept hw
          have B3 := B3.kept hw
          have B5 := B5.kept hw
          have B8 := B8.kept hw
          have c_B2 := fun i => B2.cell i
          have f_B2 := fun i => B2.free i
          have c_B3 := fun i => B3.cell i
          have f_B3 := fun i => B3.free i
          have c_B5 := fun i => B5.cell i
          have f_B5 := fun i => B5.free i
          have c_B8 := fun i => B8.cell i
          have f_B8 := fun i => B8.free i
          clear hd hne hlo d0 d1 d2 d3 d4 d5 d6 d7 d8 d9
          go_wp2
          go_ret
          exact ⟨ret_bool (by rw [Hres.out, Hcr.out]; simp; omega), up_later hB hw⟩
        · go_upto_region 7 with fail
          have B8 := Box.new (w := wr) (t := 151) (cs := #[.func (.func 90) #[] #[], .int .i64 1]) rfl
          have B2 := B2.alloc (.cells #[.func (.func 90) #[] #[], .int .i64 1] 151)
          have B3 := B3.alloc (.cells #[.func (.func 90) #[] #[], .int .i64 1] 151)
          have B5 := B5.alloc (.cells #[.func (.func 90) #[] #[], .int .i64 1] 151)
          have hB := up_alloc hB (.cells #[.func (.func 90) #[] #[], .int .i64 1] 151)
          apply wp_region_by 10 [(Fact.eq _), (Fact.eq _), (Fact.eq _), (Fact.eq _), (Fact.eq _), (Fact.eq _), (Fact.eq _), (Fact.eq _), (Fact.eq _), (Fact.eq _)]
          case hm => kernel_rfl
          case hB => kernel_rfl
          case hA => (intro vs; simp only [List.take_succ_cons, List.take_zero, putAll, if_true, Act.put, List.setIfInBounds_toArray, List.set_cons_zero, List.set_cons_succ]; exact rfl)
          case hstep =>
            intro vs
            refine And.intro (fun w hw hd => ?_) ?_
            · refine ite_yes rfl ?_
              simp only [Gives]
              go_simp
              exact ⟨Below.refl _ _, rfl, fun h => by cases h⟩
            refine And.intro (fun w hw hd => ?_) ?_
            · have d0 := hd 0 (by decide) rfl
              change vs 0 = _ at d0
              refine ite_yes rfl ?_
              have c_B2 := fun i => (B2.kept hw).cell i
              have c_B3 := fun i => (B3.kept hw).cell i
              have c_B5 := fun i => (B5.kept hw).cell i
              have c_B8 := fun i => (B8.kept hw).cell i
              simp only [Gives]
              go_simp
              exact ⟨Below.refl _ _, rfl, fun h => by cases h⟩
            refine And.intro (fun w hw hd => ?_) ?_
            · refine ite_yes rfl ?_
              have c_B2 := fun i => (B2.kept hw).cell i
              have c_B3 := fun i => (B3.kept hw).cell i
              have c_B5 := fun i => (B5.kept hw).cell i
              have c_B8 := fun i => (B8.kept hw).cell i
              simp only [Gives]
              go_simp
              exact ⟨Below.refl _ _, rfl, fun h => by cases h⟩
            refine And.intro (fun w hw hd => ?_) ?_
            · refine ite_yes rfl ?_
              simp only [Gives]
              go_simp
              exact ⟨Below.refl _ _, rfl, fun h => by cases h⟩
            refine And.intro (fun w hw hd => ?_) ?_
            · have d3 := hd 3 (by decide) rfl
              change vs 3 = _ at d3
              refine ite_yes rfl ?_
              have c_B2 := fun i => (B2.kept hw).cell i
              have c_B3 := fun i => (B3.kept hw).cell i
              have c_B5 := fun i => (B5.kept hw).cell i
              have c_B8 := fun i => (B8.kept hw).cell i
              simp only [Gives]
              go_simp
              exact ⟨Below.refl _ _, rfl, fun h => by cases h⟩
            refine And.intro (fun w hw hd => ?_) ?_
            · refine ite_yes rfl ?_
              have c_B2 := fun i => (B2.kept hw).cell i
              have c_B3 := fun i => (B3.kept hw).cell i
              have c_B5 := fun i => (B5.kept hw).cell i
              have c_B8 := fun i => (B8.kept hw).cell i
              simp only [Gives]
              go_simp
              exact ⟨Below.refl _ _, rfl, fun h => by cases h⟩
            refine And.intro (fun w hw hd => ?_) ?_
            · have d4 := hd 4 (by decide) rfl
              change vs 4 = _ at d4
              have d5 := hd 5 (by decide) rfl
              change vs 5 = _ at d5
              refine ite_yes rfl ?_
              simp only [Gives]
              go_simp
              refine (base_any _ _ _ _ _ _ _).mono ?_
              rintro e w1 ⟨rfl, hb⟩
              exact ⟨_, rfl, hb, rfl, fun h => by cases h⟩
            refine And.intro (fun w hw hd => ?_) ?_
            · have d2 := hd 2 (by decide) rfl
              change vs 2 = _ at d2
              have d6 := hd 6 (by decide) rfl
              change vs 6 = _ at d6
              refine ite_yes rfl ?_
              simp only [Gives]
              go_simp
              refine (above_any _ _ _ _ (by omega) (by omega) (by omega) (by omega) (by omega) (by omega)).mono ?_
              rintro e w1 ⟨rfl, hb⟩
              exact ⟨_, rfl, hb, rfl, fun h => by cases h⟩
            refine And.intro (fun w hw hd => ?_) ?_
            · have d1 := hd 1 (by decide) rfl
              change vs 1 = _ at d1
              have d7 := hd 7 (by decide) rfl
              change vs 7 = _ at d7
              refine ite_yes rfl ?_
              simp only [Gives]
              go_simp
              exact ⟨Below.refl _ _, rfl, fun h => by cases h⟩
            refine And.intro (fun w hw hd => ?_) ?_
            · have d8 := hd 8 (by decide) rfl
              change vs 8 = _ at d8
              refine ite_yes rfl ?_
              simp only [Gives]
              go_simp
              exact ⟨Below.refl _ _, rfl, fun h => by cases h⟩
            exact trivial
          intro vs wt hw hd hne hlo
          have d0 := hd 0 (by decide)
          change vs 0 = _ at d0
          have d1 := hd 1 (by decide)
          change vs 1 = _ at d1
          have d2 := hd 2 (by decide)
          change vs 2 = _ at d2
          have d3 := hd 3 (by decide)
          change vs 3 = _ at d3
          have d4 := hd 4 (by decide)
          change vs 4 = _ at d4
          have d5 := hd 5 (by decide)
          change vs 5 = _ at d5
          have d6 := hd 6 (by decide)
          change vs 6 = _ at d6
          have d7 := hd 7 (by decide)
          change vs 7 = _ at d7
          have d8 := hd 8 (by decide)
          change vs 8 = _ at d8
          have d9 := hd 9 (by decide)
          change vs 9 = _ at d9
          simp only [d0, d1, d2, d3, d4, d5, d6, d7, d8, d9, List.drop_succ_cons, List.drop_nil]
          have B2 := B2.kept hw
          have B3 := B3.kept hw
          have B5 := B5.kept hw
          have B8 := B8.kept hw
          have c_B2 := fun i => B2.cell i
          have f_B2 := fun i => B2.free i
          have c_B3 := fun i => B3.cell i
          have f_B3 := fun i => B3.free i
          have c_B5 := fun i => B5.cell i
          have f_B5 := fun i => B5.free i
          have c_B8 := fun i => B8.cell i
          have f_B8 := fun i => B8.free i
          clear hd hne hlo d0 d1 d2 d3 d4 d5 d6 d7 d8 d9
          go_wp2
          exact ⟨⟨.inr (.inl ⟨rfl, by omega⟩), B2, B3, B5, up_later hB hw⟩, by simp [intOf]⟩
      · by_cases hlow : t * q - p < 0
        · go_upto_region 7 with fail
          have B8 := Box.new (w := wr) (t := 151) (cs := #[.func (.func 91) #[] #[], .int .i64 (-1)]) rfl
          have B2 := B2.alloc (.cells #[.func (.func 91) #[] #[], .int .i64 (-1)] 151)
          have B3 := B3.alloc (.cells #[.func (.func 91) #[] #[], .int .i64 (-1)] 151)
          have B5 := B5.alloc (.cells #[.func (.func 91) #[] #[], .int .i64 (-1)] 151)
          have hB := up_alloc hB (.cells #[.func (.func 91) #[] #[], .int .i64 (-1)] 151)
          apply wp_region_by 10 [(Fact.eq _), (Fact.eq _), (Fact.eq _), (Fact.eq _), (Fact.eq _), (Fact.eq _), (Fact.eq _), (Fact.eq _), (Fact.eq _), (Fact.eq _)]
          case hm => kernel_rfl
          case hB => kernel_rfl
          case hA => (intro vs; simp only [List.take_succ_cons, List.take_zero, putAll, if_true, Act.put, List.setIfInBounds_toArray, List.set_cons_zero, List.set_cons_succ]; exact rfl)
          case hstep =>
            intro vs
            refine And.intro (fun w hw hd => ?_) ?_
            · refine ite_yes rfl ?_
              simp only [Gives]
              go_simp
              exact ⟨Below.refl _ _, rfl, fun h => by cases h⟩
            refine And.intro (fun w hw hd => ?_) ?_
            · have d0 := hd 0 (by decide) rfl
              change vs 0 = _ at d0
              refine ite_yes rfl ?_
              have c_B2 := fun i => (B2.kept hw).cell i
              have c_B3 := fun i => (B3.kept hw).cell i
              have c_B5 := fun i => (B5.kept hw).cell i
              have c_B8 := fun i => (B8.kept hw).cell i
              simp only [Gives]
              go_simp
              exact ⟨Below.refl _ _, rfl, fun h => by cases h⟩
            refine And.intro (fun w hw hd => ?_) ?_
            · refine ite_yes rfl ?_
              have c_B2 := fun i => (B2.kept hw).cell i
              have c_B3 := fun i => (B3.kept hw).cell i
              have c_B5 := fun i => (B5.kept hw).cell i
              have c_B8 := fun i => (B8.kept hw).cell i
              simp only [Gives]
              go_simp
              exact ⟨Below.refl _ _, rfl, fun h => by cases h⟩
            refine And.intro (fun w hw hd => ?_) ?_
            · refine ite_yes rfl ?_
              simp only [Gives]
              go_simp
              exact ⟨Below.refl _ _, rfl, fun h => by cases h⟩
            refine And.intro (fun w hw hd => ?_) ?_
            · have d3 := hd 3 (by decide) rfl
              change vs 3 = _ at d3
              refine ite_yes rfl ?_
              have c_B2 := fun i => (B2.kept hw).cell i
              have c_B3 := fun i => (B3.kept hw).cell i
              have c_B5 := fun i => (B5.kept hw).cell i
              have c_B8 := fun i => (B8.kept hw).cell i
              simp only [Gives]
              go_simp
              exact ⟨Below.refl _ _, rfl, fun h => by cases h⟩
            refine And.intro (fun w hw hd => ?_) ?_
            · refine ite_yes rfl ?_
              have c_B2 := fun i => (B2.kept hw).cell i
              have c_B3 := fun i => (B3.kept hw).cell i
              have c_B5 := fun i => (B5.kept hw).cell i
              have c_B8 := fun i => (B8.kept hw).cell i
              simp only [Gives]
              go_simp
              exact ⟨Below.refl _ _, rfl, fun h => by cases h⟩
            refine And.intro (fun w hw hd => ?_) ?_
            · have d4 := hd 4 (by decide) rfl
              change vs 4 = _ at d4
              have d5 := hd 5 (by decide) rfl
              change vs 5 = _ at d5
              refine ite_yes rfl ?_
              simp only [Gives]
              go_simp
              refine (top_any _ _ _ _ _ _ _).mono ?_
              rintro e w1 ⟨rfl, hb⟩
              exact ⟨_, rfl, hb, rfl, fun h => by cases h⟩
            refine And.intro (fun w hw hd => ?_) ?_
            · have d2 := hd 2 (by decide) rfl
              change vs 2 = _ at d2
              have d6 := hd 6 (by decide) rfl
              change vs 6 = _ at d6
              refine ite_yes rfl ?_
              simp only [Gives]
              go_simp
              refine (above_any _ _ _ _ (by omega) (by omega) (by omega) (by omega) (by omega) (by omega)).mono ?_
              rintro e w1 ⟨rfl, hb⟩
              exact ⟨_, rfl, hb, rfl, fun h => by cases h⟩
            refine And.intro (fun w hw hd => ?_) ?_
            · have d1 := hd 1 (by decide) rfl
              change vs 1 = _ at d1
              have d7 := hd 7 (by decide) rfl
              change vs 7 = _ at d7
              refine ite_yes rfl ?_
              simp only [Gives]
              go_simp
              exact ⟨Below.refl _ _, rfl, fun h => by cases h⟩
            refine And.intro (fun w hw hd => ?_) ?_
            · have d8 := hd 8 (by decide) rfl
              change vs 8 = _ at d8
              refine ite_yes rfl ?_
              simp only [Gives]
              go_simp
              exact ⟨Below.refl _ _, rfl, fun h => by cases h⟩
            exact trivial
          intro vs wt hw hd hne hlo
          have d0 := hd 0 (by decide)
          change vs 0 = _ at d0
          have d1 := hd 1 (by decide)
          change vs 1 = _ at d1
          have d2 := hd 2 (by decide)
          change vs 2 = _ at d2
          have d3 := hd 3 (by decide)
          change vs 3 = _ at d3
          have d4 := hd 4 (by decide)
          change vs 4 = _ at d4
          have d5 := hd 5 (by decide)
          change vs 5 = _ at d5
          have d6 := hd 6 (by decide)
          change vs 6 = _ at d6
          have d7 := hd 7 (by decide)
          change vs 7 = _ at d7
          have d8 := hd 8 (by decide)
          change vs 8 = _ at d8
          have d9 := hd 9 (by decide)
          change vs 9 = _ at d9
          simp only [d0, d1, d2, d3, d4, d5, d6, d7, d8, d9, List.drop_succ_cons, List.drop_nil]
          have B2 := B2.kept hw
          have B3 := B3.kept hw
          have B5 := B5.kept hw
          have B8 := B8.kept hw
          have c_B2 := fun i => B2.cell i
          have f_B2 := fun i => B2.free i
          have c_B3 := fun i => B3.cell i
          have f_B3 := fun i => B3.free i
          have c_B5 := fun i => B5.cell i
          have f_B5 := fun i => B5.free i
          have c_B8 := fun i => B8.cell i
          have f_B8 := fun i => B8.free i
          clear hd hne hlo d0 d1 d2 d3 d4 d5 d6 d7 d8 d9
          go_wp2
          go_ret
          exact ⟨ret_bool (by rw [Hres.out, Hcr.out]; simp; omega), up_later hB hw⟩
        · go_upto_region 7 with fail
          have B8 := Box.new (w := wr) (t := 151) (cs := #[.func (.func 91) #[] #[], .int .i64 (-1)]) rfl
          have B2 := B2.alloc (.cells #[.func (.func 91) #[] #[], .int .i64 (-1)] 151)
          have B3 := B3.alloc (.cells #[.func (.func 91) #[] #[], .int .i64 (-1)] 151)
          have B5 := B5.alloc (.cells #[.func (.func 91) #[] #[], .int .i64 (-1)] 151)
          have hB := up_alloc hB (.cells #[.func (.func 91) #[] #[], .int .i64 (-1)] 151)
          apply wp_region_by 10 [(Fact.eq _), (Fact.eq _), (Fact.eq _), (Fact.eq _), (Fact.eq _), (Fact.eq _), (Fact.eq _), (Fact.eq _), (Fact.eq _), (Fact.eq _)]
          case hm => kernel_rfl
          case hB => kernel_rfl
          case hA => (intro vs; simp only [List.take_succ_cons, List.take_zero, putAll, if_true, Act.put, List.setIfInBounds_toArray, List.set_cons_zero, List.set_cons_succ]; exact rfl)
          case hstep =>
            intro vs
            refine And.intro (fun w hw hd => ?_) ?_
            · refine ite_yes rfl ?_
              simp only [Gives]
              go_simp
              exact ⟨Below.refl _ _, rfl, fun h => by cases h⟩
            refine And.intro (fun w hw hd => ?_) ?_
            · have d0 := hd 0 (by decide) rfl
              change vs 0 = _ at d0
              refine ite_yes rfl ?_
              have c_B2 := fun i => (B2.kept hw).cell i
              have c_B3 := fun i => (B3.kept hw).cell i
              have c_B5 := fun i => (B5.kept hw).cell i
              have c_B8 := fun i => (B8.kept hw).cell i
              simp only [Gives]
              go_simp
              exact ⟨Below.refl _ _, rfl, fun h => by cases h⟩
            refine And.intro (fun w hw hd => ?_) ?_
            · refine ite_yes rfl ?_
              have c_B2 := fun i => (B2.kept hw).cell i
              have c_B3 := fun i => (B3.kept hw).cell i
              have c_B5 := fun i => (B5.kept hw).cell i
              have c_B8 := fun i => (B8.kept hw).cell i
              simp only [Gives]
              go_simp
              exact ⟨Below.refl _ _, rfl, fun h => by cases h⟩
            refine And.intro (fun w hw hd => ?_) ?_
            · refine ite_yes rfl ?_
              simp only [Gives]
              go_simp
              exact ⟨Below.refl _ _, rfl, fun h => by cases h⟩
            refine And.intro (fun w hw hd => ?_) ?_
            · have d3 := hd 3 (by decide) rfl
              change vs 3 = _ at d3
              refine ite_yes rfl ?_
              have c_B2 := fun i => (B2.kept hw).cell i
              have c_B3 := fun i => (B3.kept hw).cell i
              have c_B5 := fun i => (B5.kept hw).cell i
              have c_B8 := fun i => (B8.kept hw).cell i
              simp only [Gives]
              go_simp
              exact ⟨Below.refl _ _, rfl, fun h => by cases h⟩
            refine And.intro (fun w hw hd => ?_) ?_
            · refine ite_yes rfl ?_
              have c_B2 := fun i => (B2.kept hw).cell i
              have c_B3 := fun i => (B3.kept hw).cell i
              have c_B5 := fun i => (B5.kept hw).cell i
              have c_B8 := fun i => (B8.kept hw).cell i
              simp only [Gives]
              go_simp
              exact ⟨Below.refl _ _, rfl, fun h => by cases h⟩
            refine And.intro (fun w hw hd => ?_) ?_
            · have d4 := hd 4 (by decide) rfl
              change vs 4 = _ at d4
              have d5 := hd 5 (by decide) rfl
              change vs 5 = _ at d5
              refine ite_yes rfl ?_
              simp only [Gives]
              go_simp
              refine (top_any _ _ _ _ _ _ _).mono ?_
              rintro e w1 ⟨rfl, hb⟩
              exact ⟨_, rfl, hb, rfl, fun h => by cases h⟩
            refine And.intro (fun w hw hd => ?_) ?_
            · have d2 := hd 2 (by decide) rfl
              change vs 2 = _ at d2
              have d6 := hd 6 (by decide) rfl
              change vs 6 = _ at d6
              refine ite_yes rfl ?_
              simp only [Gives]
              go_simp
              refine (above_any _ _ _ _ (by omega) (by omega) (by omega) (by omega) (by omega) (by omega)).mono ?_
              rintro e w1 ⟨rfl, hb⟩
              exact ⟨_, rfl, hb, rfl, fun h => by cases h⟩
            refine And.intro (fun w hw hd => ?_) ?_
            · have d1 := hd 1 (by decide) rfl
              change vs 1 = _ at d1
              have d7 := hd 7 (by decide) rfl
              change vs 7 = _ at d7
              refine ite_yes rfl ?_
              simp only [Gives]
              go_simp
              exact ⟨Below.refl _ _, rfl, fun h => by cases h⟩
            refine And.intro (fun w hw hd => ?_) ?_
            · have d8 := hd 8 (by decide) rfl
              change vs 8 = _ at d8
              refine ite_yes rfl ?_
              simp only [Gives]
              go_simp
              exact ⟨Below.refl _ _, rfl, fun h => by cases h⟩
            exact trivial
          intro vs wt hw hd hne hlo
          have d0 := hd 0 (by decide)
          change vs 0 = _ at d0
          have d1 := hd 1 (by decide)
          change vs 1 = _ at d1
          have d2 := hd 2 (by decide)
          change vs 2 = _ at d2
          have d3 := hd 3 (by decide)
          change vs 3 = _ at d3
          have d4 := hd 4 (by decide)
          change vs 4 = _ at d4
          have d5 := hd 5 (by decide)
          change vs 5 = _ at d5
          have d6 := hd 6 (by decide)
          change vs 6 = _ at d6
          have d7 := hd 7 (by decide)
          change vs 7 = _ at d7
          have d8 := hd 8 (by decide)
          change vs 8 = _ at d8
          have d9 := hd 9 (by decide)
          change vs 9 = _ at d9
          simp only [d0, d1, d2, d3, d4, d5, d6, d7, d8, d9, List.drop_succ_cons, List.drop_nil]
          have B2 := B2.kept hw
          have B3 := B3.kept hw
          have B5 := B5.kept hw
          have B8 := B8.kept hw
          have c_B2 := fun i => B2.cell i
          have f_B2 := fun i => B2.free i
          have c_B3 := fun i => B3.cell i
          have f_B3 := fun i => B3.free i
          have c_B5 := fun i => B5.cell i
          have f_B5 := fun i => B5.free i
          have c_B8 := fun i => B8.cell i
          have f_B8 := fun i => B8.free i
          clear hd hne hlo d0 d1 d2 d3 d4 d5 d6 d7 d8 d9
          go_wp2
          exact ⟨⟨.inr (.inr ⟨rfl, hk1, by omega⟩), B2, B3, B5, up_later hB hw⟩, by simp [intOf]⟩
      · go_wp2
        go_ret
        exact ⟨ret_bool (by rw [Hres.out, Hcr.out]; simp; omega), hB⟩

end Go.Proofs.Ytojbdmdjepgpjaa
