/-
  WALKS: the reference's geometry: Side, sign, Crosses, Blocks. Conditions: places from 0 to 100, heights from 0 to 1000.
-/
import Derived.Test.YtlnagjdokfkjoaaMa
namespace Go.Proofs.Ytlnagjdokfkjoaa
open Go.RowKit

def signI (n : Int) : Int := if 0 < n then 1 else if n < 0 then -1 else 0
theorem sign_bd (n : Int) : -1 ≤ signI n ∧ signI n ≤ 1 := by unfold signI; split <;> (try split) <;> omega
theorem sign_mul (a b : Int) : signI a * signI b = signI (a * b) := by
  rcases Int.lt_trichotomy a 0 with ha | rfl | ha
  · rcases Int.lt_trichotomy b 0 with hb | rfl | hb
    · have := Int.mul_pos_of_neg_of_neg ha hb
      unfold signI
      rw [if_neg (by omega), if_pos ha, if_neg (by omega), if_pos hb, if_pos this]; rfl
    · simp [signI]
    · have := Int.mul_neg_of_neg_of_pos ha hb
      unfold signI
      rw [if_neg (by omega), if_pos ha, if_pos hb, if_neg (by omega), if_pos this]; rfl
  · simp [signI]
  · rcases Int.lt_trichotomy b 0 with hb | rfl | hb
    · have := Int.mul_neg_of_pos_of_neg ha hb
      unfold signI
      rw [if_pos ha, if_neg (by omega), if_pos hb, if_neg (by omega), if_pos this]; rfl
    · simp [signI]
    · have := Int.mul_pos ha hb
      unfold signI
      rw [if_pos ha, if_pos hb, if_pos this]; rfl
theorem sign_neg (n : Int) : (signI n == -1) = decide (n < 0) := by
  unfold signI
  split
  · simp; omega
  · split <;> simp <;> omega
theorem sign_pos (n : Int) : (signI n != 1) = decide (n ≤ 0) := by
  unfold signI
  split
  · simp; omega
  · split <;> simp <;> omega

set_option maxHeartbeats 400000 in
theorem RSide_any (ax ay bx b_y px py : Int) (w : World) (h1 : 0 ≤ ax ∧ ax ≤ 100) (h2 : 0 ≤ ay ∧ ay ≤ 100) (h3 : 0 ≤ bx ∧ bx ≤ 100) (h4 : 0 ≤ b_y ∧ b_y ≤ 100) (h5 : 0 ≤ px ∧ px ≤ 100) (h6 : 0 ≤ py ∧ py ≤ 100) :
    Calls Try.prog 86 #[.int .i64 ax, .int .i64 ay, .int .i64 bx, .int .i64 b_y, .int .i64 px, .int .i64 py] w fun e w' => e = .returned (.int .i64 (sideI ax ay bx b_y px py)) ∧ Below w.heap.size w w' := by
  have H := Lib.hid (side_wrap ax ay bx b_y px py h1 h2 h3 h4 h5 h6)
  obtain ⟨h1, h1'⟩ := h1
  obtain ⟨h2, h2'⟩ := h2
  obtain ⟨h3, h3'⟩ := h3
  obtain ⟨h4, h4'⟩ := h4
  obtain ⟨h5, h5'⟩ := h5
  obtain ⟨h6, h6'⟩ := h6
  go_enter Try.func86, Try.ntmps86
  go_wp2
  go_ret
  exact ⟨ret_int H.out, up0⟩
set_option maxHeartbeats 400000 in
theorem Rsign_any (n : Int) (w : World) : Calls Try.prog 102 #[.int .i64 n] w fun e w' => e = .returned (.int .i64 (signI n)) ∧ w = w' := by
  by_cases h : 0 < n
  · have H := Lib.hid (show signI n = 1 by unfold signI; rw [if_pos h])
    go_enter Try.func102, Try.ntmps102
    go_wp2
    go_ret
    exact ⟨by rw [H.out]; rfl, rfl⟩
  · by_cases h2 : n < 0
    · have H := Lib.hid (show signI n = -1 by unfold signI; rw [if_neg h, if_pos h2])
      go_enter Try.func102, Try.ntmps102
      go_wp2
      go_ret
      exact ⟨by rw [H.out]; rfl, rfl⟩
    · have H := Lib.hid (show signI n = 0 by unfold signI; rw [if_neg h, if_neg h2])
      go_enter Try.func102, Try.ntmps102
      go_wp2
      go_ret
      exact ⟨by rw [H.out]; rfl, rfl⟩

set_option maxRecDepth 100000 in
set_option maxHeartbeats 1000000 in
theorem RCrosses_any (x : Wl) (a b : St) (w : World) (hx : WlOK x) (ha : StOK a) (hb : StOK b) :
    Calls Try.prog 85 #[.agg #[.int .i64 x.x1, .int .i64 x.y1, .int .i64 x.x2, .int .i64 x.y2, .int .i64 x.b, .int .i64 x.t], .agg #[.int .i64 a.x, .int .i64 a.y, .int .i64 a.z, .int .i64 a.m], .agg #[.int .i64 b.x, .int .i64 b.y, .int .i64 b.z, .int .i64 b.m]] w fun e w' =>
      e = .returned (.bool (crossB a.x a.y b.x b.y x.x1 x.y1 x.x2 x.y2)) ∧ Below w.heap.size w w' := by
  obtain ⟨hx1, hx2, hx3, hx4, hx5, hx6⟩ := hx
  obtain ⟨ha1, ha2, ha3⟩ := ha
  obtain ⟨hb1, hb2, hb3⟩ := hb
  obtain ⟨s, hs⟩ : ∃ s, s = sideI x.x1 x.y1 x.x2 x.y2 a.x a.y := ⟨_, rfl⟩
  obtain ⟨t, ht⟩ : ∃ t, t = sideI x.x1 x.y1 x.x2 x.y2 b.x b.y := ⟨_, rfl⟩
  obtain ⟨u, hu⟩ : ∃ u, u = sideI a.x a.y b.x b.y x.x1 x.y1 := ⟨_, rfl⟩
  obtain ⟨v, hv⟩ : ∃ v, v = sideI a.x a.y b.x b.y x.x2 x.y2 := ⟨_, rfl⟩
  have hfin : crossB a.x a.y b.x b.y x.x1 x.y1 x.x2 x.y2 = (decide (s * t < 0) && decide (u * v ≤ 0)) := by rw [hs, ht, hu, hv]; rfl
  have Hfin := Lib.hid hfin
  have Hs := Lib.hid hs
  have Ht := Lib.hid ht
  have Hu := Lib.hid hu
  have Hv := Lib.hid hv
  clear hs ht hu hv hfin
  go_enter Try.func85, Try.ntmps85
  go_upto_region 1 with fail
  have B3 := ((Box.new (w := w) (t := 79) (cs := #[iv x.x1, iv x.y1, iv x.x2, iv x.y2, iv x.b, iv x.t]) rfl).alloc (.cells #[iv a.x, iv a.y, iv a.z, iv a.m] 74)).alloc (.cells #[iv b.x, iv b.y, iv b.z, iv b.m] 74)
  have B4 := (Box.new (w := w.alloc (.cells #[iv x.x1, iv x.y1, iv x.x2, iv x.y2, iv x.b, iv x.t] 79)) (g := w.heap.size + 1) (t := 74) (cs := #[iv a.x, iv a.y, iv a.z, iv a.m]) (by simp)).alloc (.cells #[iv b.x, iv b.y, iv b.z, iv b.m] 74)
  have B5 := Box.new (w := (w.alloc (.cells #[iv x.x1, iv x.y1, iv x.x2, iv x.y2, iv x.b, iv x.t] 79)).alloc (.cells #[iv a.x, iv a.y, iv a.z, iv a.m] 74)) (g := w.heap.size + 1 + 1) (t := 74) (cs := #[iv b.x, iv b.y, iv b.z, iv b.m]) (by simp)
  have hB := up_alloc (up_alloc (up_alloc (up0 (w := w)) (.cells #[iv x.x1, iv x.y1, iv x.x2, iv x.y2, iv x.b, iv x.t] 79)) (.cells #[iv a.x, iv a.y, iv a.z, iv a.m] 74)) (.cells #[iv b.x, iv b.y, iv b.z, iv b.m] 74)
  apply wp_region_by 26 [(Fact.eq _), (Fact.eq _), (Fact.eq _), (Fact.eq _), (Fact.eq _), (Fact.eq _), (Fact.eq _), (Fact.eq _), (Fact.eq _), (Fact.eq _), (Fact.eq _), (Fact.eq _), (Fact.eq _), (Fact.eq _), (Fact.eq _), (Fact.eq _), (Fact.eq _), (Fact.eq _), (Fact.eq _), (Fact.eq _), (Fact.eq _), (Fact.eq _), (Fact.eq _), (Fact.eq _), (Fact.eq _), (Fact.eq _)]
  case hm => kernel_rfl
  case hB => kernel_rfl
  case hA => (intro vs; simp only [List.take_succ_cons, List.take_zero, putAll, if_true, Act.put, List.setIfInBounds_toArray, List.set_cons_zero, List.set_cons_succ]; exact rfl)
  case hstep =>
    intro vs
    refine And.intro (fun w hw hd => ?_) ?_
    · refine ite_yes rfl ?_
      simp only [Gives]
      go_simp
      exact ⟨Below.refl _ _, rfl, fun h => by cases h⟩
    refine And.intro (fun w hw hd => ?_) ?_
    · have d0 := hd 0 (by decide) rfl
      change vs 0 = _ at d0
      refine ite_yes rfl ?_
      have c_B3 := fun i => (B3.kept hw).cell i
      have c_B4 := fun i => (B4.kept hw).cell i
      have c_B5 := fun i => (B5.kept hw).cell i
      simp only [Gives]
      go_simp
      exact ⟨Below.refl _ _, rfl, fun h => by cases h⟩
    refine And.intro (fun w hw hd => ?_) ?_
    · refine ite_yes rfl ?_
      simp only [Gives]
      go_simp
      exact ⟨Below.refl _ _, rfl, fun h => by cases h⟩
    refine And.intro (fun w hw hd => ?_) ?_
    · have d2 := hd 2 (by decide) rfl
      change vs 2 = _ at d2
      refine ite_yes rfl ?_
      have c_B3 := fun i => (B3.kept hw).cell i
      have c_B4 := fun i => (B4.kept hw).cell i
      have c_B5 := fun i => (B5.kept hw).cell i
      simp only [Gives]
      go_simp
      exact ⟨Below.refl _ _, rfl, fun h => by cases h⟩
    refine And.intro (fun w hw hd => ?_) ?_
    · refine ite_yes rfl ?_
      simp only [Gives]
      go_simp
      exact ⟨Below.refl _ _, rfl, fun h => by cases h⟩
    refine And.intro (fun w hw hd => ?_) ?_
    · have d4 := hd 4 (by decide) rfl
      change vs 4 = _ at d4
      refine ite_yes rfl ?_
      have c_B3 := fun i => (B3.kept hw).cell i
      have c_B4 := fun i => (B4.kept hw).cell i
      have c_B5 := fun i => (B5.kept hw).cell i
      simp only [Gives]
      go_simp
      exact ⟨Below.refl _ _, rfl, fun h => by cases h⟩
    refine And.intro (fun w hw hd => ?_) ?_
    · refine ite_yes rfl ?_
      simp only [Gives]
      go_simp
      exact ⟨Below.refl _ _, rfl, fun h => by cases h⟩
    refine And.intro (fun w hw hd => ?_) ?_
    · have d6 := hd 6 (by decide) rfl
      change vs 6 = _ at d6
      refine ite_yes rfl ?_
      have c_B3 := fun i => (B3.kept hw).cell i
      have c_B4 := fun i => (B4.kept hw).cell i
      have c_B5 := fun i => (B5.kept hw).cell i
      simp only [Gives]
      go_simp
      exact ⟨Below.refl _ _, rfl, fun h => by cases h⟩
    refine And.intro (fun w hw hd => ?_) ?_
    · refine ite_yes rfl ?_
      simp only [Gives]
      go_simp
      exact ⟨Below.refl _ _, rfl, fun h => by cases h⟩
    refine And.intro (fun w hw hd => ?_) ?_
    · have d8 := hd 8 (by decide) rfl
      change vs 8 = _ at d8
      refine ite_yes rfl ?_
      have c_B3 := fun i => (B3.kept hw).cell i
      have c_B4 := fun i => (B4.kept hw).cell i
      have c_B5 := fun i => (B5.kept hw).cell i
      simp only [Gives]
      go_simp
      exact ⟨Below.refl _ _, rfl, fun h => by cases h⟩
    refine And.intro (fun w hw hd => ?_) ?_
    · refine ite_yes rfl ?_
      simp only [Gives]
      go_simp
      exact ⟨Below.refl _ _, rfl, fun h => by cases h⟩
    refine And.intro (fun w hw hd => ?_) ?_
    · have d10 := hd 10 (by decide) rfl
      change vs 10 = _ at d10
      refine ite_yes rfl ?_
      have c_B3 := fun i => (B3.kept hw).cell i
      have c_B4 := fun i => (B4.kept hw).cell i
      have c_B5 := fun i => (B5.kept hw).cell i
      simp only [Gives]
      go_simp
      exact ⟨Below.refl _ _, rfl, fun h => by cases h⟩
    refine And.intro (fun w hw hd => ?_) ?_
    · have d1 := hd 1 (by decide) rfl
      change vs 1 = _ at d1
      have d3 := hd 3 (by decide) rfl
      change vs 3 = _ at d3
      have d5 := hd 5 (by decide) rfl
      change vs 5 = _ at d5
      have d7 := hd 7 (by decide) rfl
      change vs 7 = _ at d7
      have d9 := hd 9 (by decide) rfl
      change vs 9 = _ at d9
      have d11 := hd 11 (by decide) rfl
      change vs 11 = _ at d11
      refine ite_yes rfl ?_
      simp only [Gives]
      go_simp
      refine (RSide_any x.x1 x.y1 x.x2 x.y2 a.x a.y _ hx1 hx2 hx3 hx4 ha1 ha2).mono ?_
      rintro e w1 ⟨rfl, hb⟩
      exact ⟨_, rfl, hb, rfl, fun h => by cases h⟩
    refine And.intro (fun w hw hd => ?_) ?_
    · refine ite_yes rfl ?_
      simp only [Gives]
      go_simp
      exact ⟨Below.refl _ _, rfl, fun h => by cases h⟩
    refine And.intro (fun w hw hd => ?_) ?_
    · have d13 := hd 13 (by decide) rfl
      change vs 13 = _ at d13
      refine ite_yes rfl ?_
      have c_B3 := fun i => (B3.kept hw).cell i
      have c_B4 := fun i => (B4.kept hw).cell i
      have c_B5 := fun i => (B5.kept hw).cell i
      simp only [Gives]
      go_simp
      exact ⟨Below.refl _ _, rfl, fun h => by cases h⟩
    refine And.intro (fun w hw hd => ?_) ?_
    · refine ite_yes rfl ?_
      simp only [Gives]
      go_simp
      exact ⟨Below.refl _ _, rfl, fun h => by cases h⟩
    refine And.intro (fun w hw hd => ?_) ?_
    · have d15 := hd 15 (by decide) rfl
      change vs 15 = _ at d15
      refine ite_yes rfl ?_
      have c_B3 := fun i => (B3.kept hw).cell i
      have c_B4 := fun i => (B4.kept hw).cell i
      have c_B5 := fun i => (B5.kept hw).cell i
      simp only [Gives]
      go_simp
      exact ⟨Below.refl _ _, rfl, fun h => by cases h⟩
    refine And.intro (fun w hw hd => ?_) ?_
    · refine ite_yes rfl ?_
      simp only [Gives]
      go_simp
      exact ⟨Below.refl _ _, rfl, fun h => by cases h⟩
    refine And.intro (fun w hw hd => ?_) ?_
    · have d17 := hd 17 (by decide) rfl
      change vs 17 = _ at d17
      refine ite_yes rfl ?_
      have c_B3 := fun i => (B3.kept hw).cell i
      have c_B4 := fun i => (B4.kept hw).cell i
      have c_B5 := fun i => (B5.kept hw).cell i
      simp only [Gives]
      go_simp
      exact ⟨Below.refl _ _, rfl, fun h => by cases h⟩
    refine And.intro (fun w hw hd => ?_) ?_
    · refine ite_yes rfl ?_
      simp only [Gives]
      go_simp
      exact ⟨Below.refl _ _, rfl, fun h => by cases h⟩
    refine And.intro (fun w hw hd => ?_) ?_
    · have d19 := hd 19 (by decide) rfl
      change vs 19 = _ at d19
      refine ite_yes rfl ?_
      have c_B3 := fun i => (B3.kept hw).cell i
      have c_B4 := fun i => (B4.kept hw).cell i
      have c_B5 := fun i => (B5.kept hw).cell i
      simp only [Gives]
      go_simp
      exact ⟨Below.refl _ _, rfl, fun h => by cases h⟩
    refine And.intro (fun w hw hd => ?_) ?_
    · refine ite_yes rfl ?_
      simp only [Gives]
      go_simp
      exact ⟨Below.refl _ _, rfl, fun h => by cases h⟩
    refine And.intro (fun w hw hd => ?_) ?_
    · have d21 := hd 21 (by decide) rfl
      change vs 21 = _ at d21
      refine ite_yes rfl ?_
      have c_B3 := fun i => (B3.kept hw).cell i
      have c_B4 := fun i => (B4.kept hw).cell i
      have c_B5 := fun i => (B5.kept hw).cell i
      simp only [Gives]
      go_simp
      exact ⟨Below.refl _ _, rfl, fun h => by cases h⟩
    refine And.intro (fun w hw hd => ?_) ?_
    · refine ite_yes rfl ?_
      simp only [Gives]
      go_simp
      exact ⟨Below.refl _ _, rfl, fun h => by cases h⟩
    refine And.intro (fun w hw hd => ?_) ?_
    · have d23 := hd 23 (by decide) rfl
      change vs 23 = _ at d23
      refine ite_yes rfl ?_
      have c_B3 := fun i => (B3.kept hw).cell i
      have c_B4 := fun i => (B4.kept hw).cell i
      have c_B5 := fun i => (B5.kept hw).cell i
      simp only [Gives]
      go_simp
      exact ⟨Below.refl _ _, rfl, fun h => by cases h⟩
    refine And.intro (fun w hw hd => ?_) ?_
    · have d14 := hd 14 (by decide) rfl
      change vs 14 = _ at d14
      have d16 := hd 16 (by decide) rfl
      change vs 16 = _ at d16
      have d18 := hd 18 (by decide) rfl
      change vs 18 = _ at d18
      have d20 := hd 20 (by decide) rfl
      change vs 20 = _ at d20
      have d22 := hd 22 (by decide) rfl
      change vs 22 = _ at d22
      have d24 := hd 24 (by decide) rfl
      change vs 24 = _ at d24
      refine ite_yes rfl ?_
      simp only [Gives]
      go_simp
      refine (RSide_any x.x1 x.y1 x.x2 x.y2 b.x b.y _ hx1 hx2 hx3 hx4 hb1 hb2).mono ?_
      rintro e w1 ⟨rfl, hb⟩
      exact ⟨_, rfl, hb, rfl, fun h => by cases h⟩
    exact trivial
  intro vs wt hw hd hne hlo
  have d0 := hd 0 (by decide)
  change vs 0 = _ at d0
  have d1 := hd 1 (by decide)
  change vs 1 = _ at d1
  have d2 := hd 2 (by decide)
  change vs 2 = _ at d2
  have d3 := hd 3 (by decide)
  change vs 3 = _ at d3
  have d4 := hd 4 (by decide)
  change vs 4 = _ at d4
  have d5 := hd 5 (by decide)
  change vs 5 = _ at d5
  have d6 := hd 6 (by decide)
  change vs 6 = _ at d6
  have d7 := hd 7 (by decide)
  change vs 7 = _ at d7
  have d8 := hd 8 (by decide)
  change vs 8 = _ at d8
  have d9 := hd 9 (by decide)
  change vs 9 = _ at d9
  have d10 := hd 10 (by decide)
  change vs 10 = _ at d10
  have d11 := hd 11 (by decide)
  change vs 11 = _ at d11
  have d12 := hd 12 (by decide)
  change vs 12 = _ at d12
  have d13 := hd 13 (by decide)
  change vs 13 = _ at d13
  have d14 := hd 14 (by decide)
  change vs 14 = _ at d14
  have d15 := hd 15 (by decide)
  change vs 15 = _ at d15
  have d16 := hd 16 (by decide)
  change vs 16 = _ at d16
  have d17 := hd 17 (by decide)
  change vs 17 = _ at d17
  have d18 := hd 18 (by decide)
  change vs 18 = _ at d18
  have d19 := hd 19 (by decide)
  change vs 19 = _ at d19
  have d20 := hd 20 (by decide)
  change vs 20 = _ at d20
  have d21 := hd 21 (by decide)
  change vs 21 = _ at d21
  have d22 := hd 22 (by decide)
  change vs 22 = _ at d22
  have d23 := hd 23 (by decide)
  change vs 23 = _ at d23
  have d24 := hd 24 (by decide)
  change vs 24 = _ at d24
  have d25 := hd 25 (by decide)
  change vs 25 = _ at d25
  simp only [d0, d1, d2, d3, d4, d5, d6, d7, d8, d9, d10, d11, d12, d13, d14, d15, d16, d17, d18, d19, d20, d21, d22, d23, d24, d25, List.drop_succ_cons, List.drop_zero]
  have B3 := B3.kept hw
  have B4 := B4.kept hw
  have B5 := B5.kept hw
  have c_B3 := fun i => B3.cell i
  have f_B3 := fun i => B3.free i
  have c_B4 := fun i => B4.cell i
  have f_B4 := fun i => B4.free i
  have c_B5 := fun i => B5.cell i
  have f_B5 := fun i => B5.free i
  clear hd hne hlo d0 d1 d2 d3 d4 d5 d6 d7 d8 d9 d10 d11 d12 d13 d14 d15 d16 d17 d18 d19 d20 d21 d22 d23 d24 d25
  have hB := up_later hB hw
  rw [← Hs.out, ← Ht.out]
  clear hw
  go_upto_region 2 with fail
  apply wp_region_by 26 [(Fact.eq _), (Fact.eq _), (Fact.eq _), (Fact.eq _), (Fact.eq _), (Fact.eq _), (Fact.eq _), (Fact.eq _), (Fact.eq _), (Fact.eq _), (Fact.eq _), (Fact.eq _), (Fact.eq _), (Fact.eq _), (Fact.eq _), (Fact.eq _), (Fact.eq _), (Fact.eq _), (Fact.eq _), (Fact.eq _), (Fact.eq _), (Fact.eq _), (Fact.eq _), (Fact.eq _), (Fact.eq _), (Fact.eq _)]
  case hm => kernel_rfl
  case hB => kernel_rfl
  case hA => (intro vs; simp only [List.take_succ_cons, List.take_zero, putAll, if_true, Act.put, List.setIfInBounds_toArray, List.set_cons_zero, List.set_cons_succ]; exact rfl)
  case hstep =>
    intro vs
    refine And.intro (fun w hw hd => ?_) ?_
    · refine ite_yes rfl ?_
      simp only [Gives]
      go_simp
      exact ⟨Below.refl _ _, rfl, fun h => by cases h⟩
    refine And.intro (fun w hw hd => ?_) ?_
    · have d0 := hd 0 (by decide) rfl
      change vs 0 = _ at d0
      refine ite_yes rfl ?_
      have c_B3 := fun i => (B3.kept hw).cell i
      have c_B4 := fun i => (B4.kept hw).cell i
      have c_B5 := fun i => (B5.kept hw).cell i
      simp only [Gives]
      go_simp
      exact ⟨Below.refl _ _, rfl, fun h => by cases h⟩
    refine And.intro (fun w hw hd => ?_) ?_
    · refine ite_yes rfl ?_
      simp only [Gives]
      go_simp
      exact ⟨Below.refl _ _, rfl, fun h => by cases h⟩
    refine And.intro (fun w hw hd => ?_) ?_
    · have d2 := hd 2 (by decide) rfl
      change vs 2 = _ at d2
      refine ite_yes rfl ?_
      have c_B3 := fun i => (B3.kept hw).cell i
      have c_B4 := fun i => (B4.kept hw).cell i
      have c_B5 := fun i => (B5.kept hw).cell i
      simp only [Gives]
      go_simp
      exact ⟨Below.refl _ _, rfl, fun h => by cases h⟩
    refine And.intro (fun w hw hd => ?_) ?_
    · refine ite_yes rfl ?_
      simp only [Gives]
      go_simp
      exact ⟨Below.refl _ _, rfl, fun h => by cases h⟩
    refine And.intro (fun w hw hd => ?_) ?_
    · have d4 := hd 4 (by decide) rfl
      change vs 4 = _ at d4
      refine ite_yes rfl ?_
      have c_B3 := fun i => (B3.kept hw).cell i
      have c_B4 := fun i => (B4.kept hw).cell i
      have c_B5 := fun i => (B5.kept hw).cell i
      simp only [Gives]
      go_simp
      exact ⟨Below.refl _ _, rfl, fun h => by cases h⟩
    refine And.intro (fun w hw hd => ?_) ?_
    · refine ite_yes rfl ?_
      simp only [Gives]
      go_simp
      exact ⟨Below.refl _ _, rfl, fun h => by cases h⟩
    refine And.intro (fun w hw hd => ?_) ?_
    · have d6 := hd 6 (by decide) rfl
      change vs 6 = _ at d6
      refine ite_yes rfl ?_
      have c_B3 := fun i => (B3.kept hw).cell i
      have c_B4 := fun i => (B4.kept hw).cell i
      have c_B5 := fun i => (B5.kept hw).cell i
      simp only [Gives]
      go_simp
      exact ⟨Below.refl _ _, rfl, fun h => by cases h⟩
    refine And.intro (fun w hw hd => ?_) ?_
    · refine ite_yes rfl ?_
      simp only [Gives]
      go_simp
      exact ⟨Below.refl _ _, rfl, fun h => by cases h⟩
    refine And.intro (fun w hw hd => ?_) ?_
    · have d8 := hd 8 (by decide) rfl
      change vs 8 = _ at d8
      refine ite_yes rfl ?_
      have c_B3 := fun i => (B3.kept hw).cell i
      have c_B4 := fun i => (B4.kept hw).cell i
      have c_B5 := fun i => (B5.kept hw).cell i
      simp only [Gives]
      go_simp
      exact ⟨Below.refl _ _, rfl, fun h => by cases h⟩
    refine And.intro (fun w hw hd => ?_) ?_
    · refine ite_yes rfl ?_
      simp only [Gives]
      go_simp
      exact ⟨Below.refl _ _, rfl, fun h => by cases h⟩
    refine And.intro (fun w hw hd => ?_) ?_
    · have d10 := hd 10 (by decide) rfl
      change vs 10 = _ at d10
      refine ite_yes rfl ?_
      have c_B3 := fun i => (B3.kept hw).cell i
      have c_B4 := fun i => (B4.kept hw).cell i
      have c_B5 := fun i => (B5.kept hw).cell i
      simp only [Gives]
      go_simp
      exact ⟨Below.refl _ _, rfl, fun h => by cases h⟩
    refine And.intro (fun w hw hd => ?_) ?_
    · have d1 := hd 1 (by decide) rfl
      change vs 1 = _ at d1
      have d3 := hd 3 (by decide) rfl
      change vs 3 = _ at d3
      have d5 := hd 5 (by decide) rfl
      change vs 5 = _ at d5
      have d7 := hd 7 (by decide) rfl
      change vs 7 = _ at d7
      have d9 := hd 9 (by decide) rfl
      change vs 9 = _ at d9
      have d11 := hd 11 (by decide) rfl
      change vs 11 = _ at d11
      refine ite_yes rfl ?_
      simp only [Gives]
      go_simp
      refine (RSide_any a.x a.y b.x b.y x.x1 x.y1 _ ha1 ha2 hb1 hb2 hx1 hx2).mono ?_
      rintro e w1 ⟨rfl, hb⟩
      exact ⟨_, rfl, hb, rfl, fun h => by cases h⟩
    refine And.intro (fun w hw hd => ?_) ?_
    · refine ite_yes rfl ?_
      simp only [Gives]
      go_simp
      exact ⟨Below.refl _ _, rfl, fun h => by cases h⟩
    refine And.intro (fun w hw hd => ?_) ?_
    · have d13 := hd 13 (by decide) rfl
      change vs 13 = _ at d13
      refine ite_yes rfl ?_
      have c_B3 := fun i => (B3.kept hw).cell i
      have c_B4 := fun i => (B4.kept hw).cell i
      have c_B5 := fun i => (B5.kept hw).cell i
      simp only [Gives]
      go_simp
      exact ⟨Below.refl _ _, rfl, fun h => by cases h⟩
    refine And.intro (fun w hw hd => ?_) ?_
    · refine ite_yes rfl ?_
      simp only [Gives]
      go_simp
      exact ⟨Below.refl _ _, rfl, fun h => by cases h⟩
    refine And.intro (fun w hw hd => ?_) ?_
    · have d15 := hd 15 (by decide) rfl
      change vs 15 = _ at d15
      refine ite_yes rfl ?_
      have c_B3 := fun i => (B3.kept hw).cell i
      have c_B4 := fun i => (B4.kept hw).cell i
      have c_B5 := fun i => (B5.kept hw).cell i
      simp only [Gives]
      go_simp
      exact ⟨Below.refl _ _, rfl, fun h => by cases h⟩
    refine And.intro (fun w hw hd => ?_) ?_
    · refine ite_yes rfl ?_
      simp only [Gives]
      go_simp
      exact ⟨Below.refl _ _, rfl, fun h => by cases h⟩
    refine And.intro (fun w hw hd => ?_) ?_
    · have d17 := hd 17 (by decide) rfl
      change vs 17 = _ at d17
      refine ite_yes rfl ?_
      have c_B3 := fun i => (B3.kept hw).cell i
      have c_B4 := fun i => (B4.kept hw).cell i
      have c_B5 := fun i => (B5.kept hw).cell i
      simp only [Gives]
      go_simp
      exact ⟨Below.refl _ _, rfl, fun h => by cases h⟩
    refine And.intro (fun w hw hd => ?_) ?_
    · refine ite_yes rfl ?_
      simp only [Gives]
      go_simp
      exact ⟨Below.refl _ _, rfl, fun h => by cases h⟩
    refine And.intro (fun w hw hd => ?_) ?_
    · have d19 := hd 19 (by decide) rfl
      change vs 19 = _ at d19
      refine ite_yes rfl ?_
      have c_B3 := fun i => (B3.kept hw).cell i
      have c_B4 := fun i => (B4.kept hw).cell i
      have c_B5 := fun i => (B5.kept hw).cell i
      simp only [Gives]
      go_simp
      exact ⟨Below.refl _ _, rfl, fun h => by cases h⟩
    refine And.intro (fun w hw hd => ?_) ?_
    · refine ite_yes rfl ?_
      simp only [Gives]
      go_simp
      exact ⟨Below.refl _ _, rfl, fun h => by cases h⟩
    refine And.intro (fun w hw hd => ?_) ?_
    · have d21 := hd 21 (by decide) rfl
      change vs 21 = _ at d21
      refine ite_yes rfl ?_
      have c_B3 := fun i => (B3.kept hw).cell i
      have c_B4 := fun i => (B4.kept hw).cell i
      have c_B5 := fun i => (B5.kept hw).cell i
      simp only [Gives]
      go_simp
      exact ⟨Below.refl _ _, rfl, fun h => by cases h⟩
    refine And.intro (fun w hw hd => ?_) ?_
    · refine ite_yes rfl ?_
      simp only [Gives]
      go_simp
      exact ⟨Below.refl _ _, rfl, fun h => by cases h⟩
    refine And.intro (fun w hw hd => ?_) ?_
    · have d23 := hd 23 (by decide) rfl
      change vs 23 = _ at d23
      refine ite_yes rfl ?_
      have c_B3 := fun i => (B3.kept hw).cell i
      have c_B4 := fun i => (B4.kept hw).cell i
      have c_B5 := fun i => (B5.kept hw).cell i
      simp only [Gives]
      go_simp
      exact ⟨Below.refl _ _, rfl, fun h => by cases h⟩
    refine And.intro (fun w hw hd => ?_) ?_
    · have d14 := hd 14 (by decide) rfl
      change vs 14 = _ at d14
      have d16 := hd 16 (by decide) rfl
      change vs 16 = _ at d16
      have d18 := hd 18 (by decide) rfl
      change vs 18 = _ at d18
      have d20 := hd 20 (by decide) rfl
      change vs 20 = _ at d20
      have d22 := hd 22 (by decide) rfl
      change vs 22 = _ at d22
      have d24 := hd 24 (by decide) rfl
      change vs 24 = _ at d24
      refine ite_yes rfl ?_
      simp only [Gives]
      go_simp
      refine (RSide_any a.x a.y b.x b.y x.x2 x.y2 _ ha1 ha2 hb1 hb2 hx3 hx4).mono ?_
      rintro e w1 ⟨rfl, hb⟩
      exact ⟨_, rfl, hb, rfl, fun h => by cases h⟩
    exact trivial
  intro vs wt hw hd hne hlo
  have d0 := hd 0 (by decide)
  change vs 0 = _ at d0
  have d1 := hd 1 (by decide)
  change vs 1 = _ at d1
  have d2 := hd 2 (by decide)
  change vs 2 = _ at d2
  have d3 := hd 3 (by decide)
  change vs 3 = _ at d3
  have d4 := hd 4 (by decide)
  change vs 4 = _ at d4
  have d5 := hd 5 (by decide)
  change vs 5 = _ at d5
  have d6 := hd 6 (by decide)
  change vs 6 = _ at d6
  have d7 := hd 7 (by decide)
  change vs 7 = _ at d7
  have d8 := hd 8 (by decide)
  change vs 8 = _ at d8
  have d9 := hd 9 (by decide)
  change vs 9 = _ at d9
  have d10 := hd 10 (by decide)
  change vs 10 = _ at d10
  have d11 := hd 11 (by decide)
  change vs 11 = _ at d11
  have d12 := hd 12 (by decide)
  change vs 12 = _ at d12
  have d13 := hd 13 (by decide)
  change vs 13 = _ at d13
  have d14 := hd 14 (by decide)
  change vs 14 = _ at d14
  have d15 := hd 15 (by decide)
  change vs 15 = _ at d15
  have d16 := hd 16 (by decide)
  change vs 16 = _ at d16
  have d17 := hd 17 (by decide)
  change vs 17 = _ at d17
  have d18 := hd 18 (by decide)
  change vs 18 = _ at d18
  have d19 := hd 19 (by decide)
  change vs 19 = _ at d19
  have d20 := hd 20 (by decide)
  change vs 20 = _ at d20
  have d21 := hd 21 (by decide)
  change vs 21 = _ at d21
  have d22 := hd 22 (by decide)
  change vs 22 = _ at d22
  have d23 := hd 23 (by decide)
  change vs 23 = _ at d23
  have d24 := hd 24 (by decide)
  change vs 24 = _ at d24
  have d25 := hd 25 (by decide)
  change vs 25 = _ at d25
  simp only [d0, d1, d2, d3, d4, d5, d6, d7, d8, d9, d10, d11, d12, d13, d14, d15, d16, d17, d18, d19, d20, d21, d22, d23, d24, d25, List.drop_succ_cons, List.drop_zero]
  have B3 := B3.kept hw
  have B4 := B4.kept hw
  have B5 := B5.kept hw
  have c_B3 := fun i => B3.cell i
  have f_B3 := fun i => B3.free i
  have c_B4 := fun i => B4.cell i
  have f_B4 := fun i => B4.free i
  have c_B5 := fun i => B5.cell i
  have f_B5 := fun i => B5.free i
  clear hd hne hlo d0 d1 d2 d3 d4 d5 d6 d7 d8 d9 d10 d11 d12 d13 d14 d15 d16 d17 d18 d19 d20 d21 d22 d23 d24 d25
  have hB := up_later hB hw
  rw [← Hu.out, ← Hv.out]
  have q1 : wrap64 (signI s * signI t) = signI (s * t) := by rw [sign_mul]; have := sign_bd (s * t); exact wrap_in _ 1 (by omega) (by omega)
  have q2 : wrap64 (signI u * signI v) = signI (u * v) := by rw [sign_mul]; have := sign_bd (u * v); exact wrap_in _ 1 (by omega) (by omega)
  have k1 := sign_neg (s * t)
  have k2 := sign_pos (u * v)
  clear hw
  by_cases hst : s * t < 0
  · rw [decide_eq_true hst] at k1
    have d1 : decide (s * t < 0) = true := decide_eq_true hst
    rw [d1] at Hfin
    clear hst d1
    go_wp2_with (go_at_call 102; refine (Rsign_any _ _).mono ?_; rintro e w1 ⟨rfl, rfl⟩)
    go_ret
    exact ⟨ret_bool (by rw [Hfin.out]; simp), hB⟩
  · rw [decide_eq_false hst] at k1
    have d1 : decide (s * t < 0) = false := decide_eq_false hst
    rw [d1] at Hfin
    clear hst d1
    go_wp2_with (go_at_call 102; refine (Rsign_any _ _).mono ?_; rintro e w1 ⟨rfl, rfl⟩)
    go_ret
    exact ⟨ret_bool (by rw [Hfin.out]; simp), hB⟩

theorem mul_neg_cases {s t : Int} (h : s * t < 0) : (s < 0 ∧ 0 < t) ∨ (0 < s ∧ t < 0) := by
  rcases Int.lt_trichotomy s 0 with hs | rfl | hs
  · rcases Int.lt_trichotomy t 0 with ht | rfl | ht
    · have := Int.mul_pos_of_neg_of_neg hs ht; omega
    · simp at h
    · exact .inl ⟨hs, ht⟩
  · simp at h
  · rcases Int.lt_trichotomy t 0 with ht | rfl | ht
    · exact .inr ⟨hs, ht⟩
    · simp at h
    · have := Int.mul_pos hs ht; omega

set_option maxRecDepth 100000 in
set_option maxHeartbeats 1000000 in
theorem RBlocks_any (x : Wl) (a b : St) (w : World) (hx : WlOK x) (ha : StOK a) (hb : StOK b) :
    Calls Try.prog 53 #[.agg #[.int .i64 x.x1, .int .i64 x.y1, .int .i64 x.x2, .int .i64 x.y2, .int .i64 x.b, .int .i64 x.t], .agg #[.int .i64 a.x, .int .i64 a.y, .int .i64 a.z, .int .i64 a.m], .agg #[.int .i64 b.x, .int .i64 b.y, .int .i64 b.z, .int .i64 b.m]] w fun e w' =>
      e = .returned (.bool (blocksW a b x)) ∧ Below w.heap.size w w' := by
  have HX := Lib.hid hx
  have HA := Lib.hid ha
  have HBB := Lib.hid hb
  cases hcr : crossB a.x a.y b.x b.y x.x1 x.y1 x.x2 x.y2 with
  | false =>
    have Hcr := Lib.hid hcr
    have Hfin := Lib.hid (show blocksW a b x = false by unfold blocksW blockI; rw [hcr]; rfl)
    clear hcr hx ha hb
    go_enter Try.func53, Try.ntmps53
    go_wp2_with (go_at_call 85; refine (RCrosses_any x a b _ HX.out HA.out HBB.out).mono ?_; rintro e w1 ⟨rfl, hb1⟩; rw [Hcr.out])
    go_ret
    exact ⟨by rw [Hfin.out]; rfl, up_later (up_alloc (up_alloc (up_alloc up0 _) _) _) hb1⟩
  | true =>
    obtain ⟨hx1, hx2, hx3, hx4, hx5, hx6⟩ := hx
    obtain ⟨ha1, ha2, ha3⟩ := ha
    obtain ⟨hb1, hb2, hb3⟩ := hb
    obtain ⟨s, hs⟩ : ∃ s, s = sideI x.x1 x.y1 x.x2 x.y2 a.x a.y := ⟨_, rfl⟩
    obtain ⟨t, ht⟩ : ∃ t, t = sideI x.x1 x.y1 x.x2 x.y2 b.x b.y := ⟨_, rfl⟩
    have hst : s * t < 0 := by
      have := hcr
      unfold crossB at this
      rw [Bool.and_eq_true, decide_eq_true_eq, ← hs, ← ht] at this
      exact this.1
    have bs := (side_bd x.x1 x.y1 x.x2 x.y2 a.x a.y hx1 hx2 hx3 hx4 ha1 ha2).2.2
    have bt := (side_bd x.x1 x.y1 x.x2 x.y2 b.x b.y hx1 hx2 hx3 hx4 hb1 hb2).2.2
    rw [← hs] at bs
    rw [← ht] at bt
    have hfin : blocksW a b x = (decide (x.b * (sizeI s + sizeI t) ≤ a.z * sizeI t + b.z * sizeI s) && decide (a.z * sizeI t + b.z * sizeI s ≤ x.t * (sizeI s + sizeI t))) := by
      unfold blocksW blockI overP overQ
      rw [hcr, hs, ht]; rfl
    have Hcr := Lib.hid hcr
    have Hs := Lib.hid hs
    have Ht := Lib.hid ht
    clear hcr hs ht
    rcases mul_neg_cases hst with ⟨hs0, ht0⟩ | ⟨hs0, ht0⟩
    · have e1 : sizeI s = -s := by unfold sizeI; rw [if_pos hs0]
      have e2 : sizeI t = t := by unfold sizeI; rw [if_neg (by omega)]
      rw [e1, e2] at hfin
      have Hfin := Lib.hid hfin
      have m1 := mul_in a.z t 1000 20000 (by omega) (by omega) (by omega) (by omega)
      have m2 := mul_in b.z (-s) 1000 20000 (by omega) (by omega) (by omega) (by omega)
      have m3 := mul_in x.b (-s + t) 1000 40000 (by omega) (by omega) (by omega) (by omega)
      have m4 := mul_in x.t (-s + t) 1000 40000 (by omega) (by omega) (by omega) (by omega)
      have E1 := Lib.hid (show wrap64 (wrap64 (a.z * t) + wrap64 (b.z * -s)) = a.z * t + b.z * -s by
        rw [wrap_in (a.z * t) 20000000 (by omega) (by omega), wrap_in (b.z * -s) 20000000 (by omega) (by omega)]; exact wrap_in _ 40000000 (by omega) (by omega))
      have E2 := Lib.hid (wrap_in (x.b * (-s + t)) 40000000 (by omega) (by omega))
      have E3 := Lib.hid (wrap_in (x.t * (-s + t)) 40000000 (by omega) (by omega))
      clear hfin e1 e2 hst m1 m2 m3 m4
      go_enter Try.func53, Try.ntmps53
      have B3 := ((Box.new (w := w) (t := 79) (cs := #[iv x.x1, iv x.y1, iv x.x2, iv x.y2, iv x.b, iv x.t]) rfl).alloc (.cells #[iv a.x, iv a.y, iv a.z, iv a.m] 74)).alloc (.cells #[iv b.x, iv b.y, iv b.z, iv b.m] 74)
      have B4 := (Box.new (w := w.alloc (.cells #[iv x.x1, iv x.y1, iv x.x2, iv x.y2, iv x.b, iv x.t] 79)) (g := w.heap.size + 1) (t := 74) (cs := #[iv a.x, iv a.y, iv a.z, iv a.m]) (by simp)).alloc (.cells #[iv b.x, iv b.y, iv b.z, iv b.m] 74)
      have B5 := Box.new (w := (w.alloc (.cells #[iv x.x1, iv x.y1, iv x.x2, iv x.y2, iv x.b, iv x.t] 79)).alloc (.cells #[iv a.x, iv a.y, iv a.z, iv a.m] 74)) (g := w.heap.size + 1 + 1) (t := 74) (cs := #[iv b.x, iv b.y, iv b.z, iv b.m]) (by simp)
      have hB := up_alloc (up_alloc (up_alloc (up0 (w := w)) (.cells #[iv x.x1, iv x.y1, iv x.x2, iv x.y2, iv x.b, iv x.t] 79)) (.cells #[iv a.x, iv a.y, iv a.z, iv a.m] 74)) (.cells #[iv b.x, iv b.y, iv b.z, iv b.m] 74)
      have BB3 := Lib.hid B3
      have BB4 := Lib.hid B4
      have BB5 := Lib.hid B5
      have HB := Lib.hid hB
      clear B3 B4 B5 hB
      go_wp2_with (go_at_call 85; refine (RCrosses_any x a b _ HX.out HA.out HBB.out).mono ?_; rintro e w1 ⟨rfl, hb1⟩; rw [Hcr.out])
      have B3 := BB3.out.kept hb1
      have B4 := BB4.out.kept hb1
      have B5 := BB5.out.kept hb1
      have HB := Lib.hid (up_later HB.out hb1)
      clear hb1 BB3 BB4 BB5
      go_upto_region 3 with fail
      apply wp_region_by 26 [(Fact.eq _), (Fact.eq _), (Fact.eq _), (Fact.eq _), (Fact.eq _), (Fact.eq _), (Fact.eq _), (Fact.eq _), (Fact.eq _), (Fact.eq _), (Fact.eq _), (Fact.eq _), (Fact.eq _), (Fact.eq _), (Fact.eq _), (Fact.eq _), (Fact.eq _), (Fact.eq _), (Fact.eq _), (Fact.eq _), (Fact.eq _), (Fact.eq _), (Fact.eq _), (Fact.eq _), (Fact.eq _), (Fact.eq _)]
      case hm => kernel_rfl
      case hB => kernel_rfl
      case hA => (intro vs; simp only [List.take_succ_cons, List.take_zero, putAll, if_true, Act.put, List.setIfInBounds_toArray, List.set_cons_zero, List.set_cons_succ]; exact rfl)
      case hstep =>
        intro vs
        refine And.intro (fun w hw hd => ?_) ?_
        · refine ite_yes rfl ?_
          simp only [Gives]
          go_simp
          exact ⟨Below.refl _ _, rfl, fun h => by cases h⟩
        refine And.intro (fun w hw hd => ?_) ?_
        · have d0 := hd 0 (by decide) rfl
          change vs 0 = _ at d0
          refine ite_yes rfl ?_
          have c_B3 := fun i => (B3.kept hw).cell i
          have c_B4 := fun i => (B4.kept hw).cell i
          have c_B5 := fun i => (B5.kept hw).cell i
          simp only [Gives]
          go_simp
          exact ⟨Below.refl _ _, rfl, fun h => by cases h⟩
        refine And.intro (fun w hw hd => ?_) ?_
        · refine ite_yes rfl ?_
          simp only [Gives]
          go_simp
          exact ⟨Below.refl _ _, rfl, fun h => by cases h⟩
        refine And.intro (fun w hw hd => ?_) ?_
        · have d2 := hd 2 (by decide) rfl
          change vs 2 = _ at d2
          refine ite_yes rfl ?_
          have c_B3 := fun i => (B3.kept hw).cell i
          have c_B4 := fun i => (B4.kept hw).cell i
          have c_B5 := fun i => (B5.kept hw).cell i
          simp only [Gives]
          go_simp
          exact ⟨Below.refl _ _, rfl, fun h => by cases h⟩
        refine And.intro (fun w hw hd => ?_) ?_
        · refine ite_yes rfl ?_
          simp only [Gives]
          go_simp
          exact ⟨Below.refl _ _, rfl, fun h => by cases h⟩
        refine And.intro (fun w hw hd => ?_) ?_
        · have d4 := hd 4 (by decide) rfl
          change vs 4 = _ at d4
          refine ite_yes rfl ?_
          have c_B3 := fun i => (B3.kept hw).cell i
          have c_B4 := fun i => (B4.kept hw).cell i
          have c_B5 := fun i => (B5.kept hw).cell i
          simp only [Gives]
          go_simp
          exact ⟨Below.refl _ _, rfl, fun h => by cases h⟩
        refine And.intro (fun w hw hd => ?_) ?_
        · refine ite_yes rfl ?_
          simp only [Gives]
          go_simp
          exact ⟨Below.refl _ _, rfl, fun h => by cases h⟩
        refine And.intro (fun w hw hd => ?_) ?_
        · have d6 := hd 6 (by decide) rfl
          change vs 6 = _ at d6
          refine ite_yes rfl ?_
          have c_B3 := fun i => (B3.kept hw).cell i
          have c_B4 := fun i => (B4.kept hw).cell i
          have c_B5 := fun i => (B5.kept hw).cell i
          simp only [Gives]
          go_simp
          exact ⟨Below.refl _ _, rfl, fun h => by cases h⟩
        refine And.intro (fun w hw hd => ?_) ?_
        · refine ite_yes rfl ?_
          simp only [Gives]
          go_simp
          exact ⟨Below.refl _ _, rfl, fun h => by cases h⟩
        refine And.intro (fun w hw hd => ?_) ?_
        · have d8 := hd 8 (by decide) rfl
          change vs 8 = _ at d8
          refine ite_yes rfl ?_
          have c_B3 := fun i => (B3.kept hw).cell i
          have c_B4 := fun i => (B4.kept hw).cell i
          have c_B5 := fun i => (B5.kept hw).cell i
          simp only [Gives]
          go_simp
          exact ⟨Below.refl _ _, rfl, fun h => by cases h⟩
        refine And.intro (fun w hw hd => ?_) ?_
        · refine ite_yes rfl ?_
          simp only [Gives]
          go_simp
          exact ⟨Below.refl _ _, rfl, fun h => by cases h⟩
        refine And.intro (fun w hw hd => ?_) ?_
        · have d10 := hd 10 (by decide) rfl
          change vs 10 = _ at d10
          refine ite_yes rfl ?_
          have c_B3 := fun i => (B3.kept hw).cell i
          have c_B4 := fun i => (B4.kept hw).cell i
          have c_B5 := fun i => (B5.kept hw).cell i
          simp only [Gives]
          go_simp
          exact ⟨Below.refl _ _, rfl, fun h => by cases h⟩
        refine And.intro (fun w hw hd => ?_) ?_
        · have d1 := hd 1 (by decide) rfl
          change vs 1 = _ at d1
          have d3 := hd 3 (by decide) rfl
          change vs 3 = _ at d3
          have d5 := hd 5 (by decide) rfl
          change vs 5 = _ at d5
          have d7 := hd 7 (by decide) rfl
          change vs 7 = _ at d7
          have d9 := hd 9 (by decide) rfl
          change vs 9 = _ at d9
          have d11 := hd 11 (by decide) rfl
          change vs 11 = _ at d11
          refine ite_yes rfl ?_
          simp only [Gives]
          go_simp
          refine (RSide_any x.x1 x.y1 x.x2 x.y2 a.x a.y _ hx1 hx2 hx3 hx4 ha1 ha2).mono ?_
          rintro e w1 ⟨rfl, hb⟩
          exact ⟨_, rfl, hb, rfl, fun h => by cases h⟩
        refine And.intro (fun w hw hd => ?_) ?_
        · refine ite_yes rfl ?_
          simp only [Gives]
          go_simp
          exact ⟨Below.refl _ _, rfl, fun h => by cases h⟩
        refine And.intro (fun w hw hd => ?_) ?_
        · have d13 := hd 13 (by decide) rfl
          change vs 13 = _ at d13
          refine ite_yes rfl ?_
          have c_B3 := fun i => (B3.kept hw).cell i
          have c_B4 := fun i => (B4.kept hw).cell i
          have c_B5 := fun i => (B5.kept hw).cell i
          simp only [Gives]
          go_simp
          exact ⟨Below.refl _ _, rfl, fun h => by cases h⟩
        refine And.intro (fun w hw hd => ?_) ?_
        · refine ite_yes rfl ?_
          simp only [Gives]
          go_simp
          exact ⟨Below.refl _ _, rfl, fun h => by cases h⟩
        refine And.intro (fun w hw hd => ?_) ?_
        · have d15 := hd 15 (by decide) rfl
          change vs 15 = _ at d15
          refine ite_yes rfl ?_
          have c_B3 := fun i => (B3.kept hw).cell i
          have c_B4 := fun i => (B4.kept hw).cell i
          have c_B5 := fun i => (B5.kept hw).cell i
          simp only [Gives]
          go_simp
          exact ⟨Below.refl _ _, rfl, fun h => by cases h⟩
        refine And.intro (fun w hw hd => ?_) ?_
        · refine ite_yes rfl ?_
          simp only [Gives]
          go_simp
          exact ⟨Below.refl _ _, rfl, fun h => by cases h⟩
        refine And.intro (fun w hw hd => ?_) ?_
        · have d17 := hd 17 (by decide) rfl
          change vs 17 = _ at d17
          refine ite_yes rfl ?_
          have c_B3 := fun i => (B3.kept hw).cell i
          have c_B4 := fun i => (B4.kept hw).cell i
          have c_B5 := fun i => (B5.kept hw).cell i
          simp only [Gives]
          go_simp
          exact ⟨Below.refl _ _, rfl, fun h => by cases h⟩
        refine And.intro (fun w hw hd => ?_) ?_
        · refine ite_yes rfl ?_
          simp only [Gives]
          go_simp
          exact ⟨Below.refl _ _, rfl, fun h => by cases h⟩
        refine And.intro (fun w hw hd => ?_) ?_
        · have d19 := hd 19 (by decide) rfl
          change vs 19 = _ at d19
          refine ite_yes rfl ?_
          have c_B3 := fun i => (B3.kept hw).cell i
          have c_B4 := fun i => (B4.kept hw).cell i
          have c_B5 := fun i => (B5.kept hw).cell i
          simp only [Gives]
          go_simp
          exact ⟨Below.refl _ _, rfl, fun h => by cases h⟩
        refine And.intro (fun w hw hd => ?_) ?_
        · refine ite_yes rfl ?_
          simp only [Gives]
          go_simp
          exact ⟨Below.refl _ _, rfl, fun h => by cases h⟩
        refine And.intro (fun w hw hd => ?_) ?_
        · have d21 := hd 21 (by decide) rfl
          change vs 21 = _ at d21
          refine ite_yes rfl ?_
          have c_B3 := fun i => (B3.kept hw).cell i
          have c_B4 := fun i => (B4.kept hw).cell i
          have c_B5 := fun i => (B5.kept hw).cell i
          simp only [Gives]
          go_simp
          exact ⟨Below.refl _ _, rfl, fun h => by cases h⟩
        refine And.intro (fun w hw hd => ?_) ?_
        · refine ite_yes rfl ?_
          simp only [Gives]
          go_simp
          exact ⟨Below.refl _ _, rfl, fun h => by cases h⟩
        refine And.intro (fun w hw hd => ?_) ?_
        · have d23 := hd 23 (by decide) rfl
          change vs 23 = _ at d23
          refine ite_yes rfl ?_
          have c_B3 := fun i => (B3.kept hw).cell i
          have c_B4 := fun i => (B4.kept hw).cell i
          have c_B5 := fun i => (B5.kept hw).cell i
          simp only [Gives]
          go_simp
          exact ⟨Below.refl _ _, rfl, fun h => by cases h⟩
        refine And.intro (fun w hw hd => ?_) ?_
        · have d14 := hd 14 (by decide) rfl
          change vs 14 = _ at d14
          have d16 := hd 16 (by decide) rfl
          change vs 16 = _ at d16
          have d18 := hd 18 (by decide) rfl
          change vs 18 = _ at d18
          have d20 := hd 20 (by decide) rfl
          change vs 20 = _ at d20
          have d22 := hd 22 (by decide) rfl
          change vs 22 = _ at d22
          have d24 := hd 24 (by decide) rfl
          change vs 24 = _ at d24
          refine ite_yes rfl ?_
          simp only [Gives]
          go_simp
          refine (RSide_any x.x1 x.y1 x.x2 x.y2 b.x b.y _ hx1 hx2 hx3 hx4 hb1 hb2).mono ?_
          rintro e w1 ⟨rfl, hb⟩
          exact ⟨_, rfl, hb, rfl, fun h => by cases h⟩
        exact trivial
      intro vs wt hw hd hne hlo
      have d0 := hd 0 (by decide)
      change vs 0 = _ at d0
      have d1 := hd 1 (by decide)
      change vs 1 = _ at d1
      have d2 := hd 2 (by decide)
      change vs 2 = _ at d2
      have d3 := hd 3 (by decide)
      change vs 3 = _ at d3
      have d4 := hd 4 (by decide)
      change vs 4 = _ at d4
      have d5 := hd 5 (by decide)
      change vs 5 = _ at d5
      have d6 := hd 6 (by decide)
      change vs 6 = _ at d6
      have d7 := hd 7 (by decide)
      change vs 7 = _ at d7
      have d8 := hd 8 (by decide)
      change vs 8 = _ at d8
      have d9 := hd 9 (by decide)
      change vs 9 = _ at d9
      have d10 := hd 10 (by decide)
      change vs 10 = _ at d10
      have d11 := hd 11 (by decide)
      change vs 11 = _ at d11
      have d12 := hd 12 (by decide)
      change vs 12 = _ at d12
      have d13 := hd 13 (by decide)
      change vs 13 = _ at d13
      have d14 := hd 14 (by decide)
      change vs 14 = _ at d14
      have d15 := hd 15 (by decide)
      change vs 15 = _ at d15
      have d16 := hd 16 (by decide)
      change vs 16 = _ at d16
      have d17 := hd 17 (by decide)
      change vs 17 = _ at d17
      have d18 := hd 18 (by decide)
      change vs 18 = _ at d18
      have d19 := hd 19 (by decide)
      change vs 19 = _ at d19
      have d20 := hd 20 (by decide)
      change vs 20 = _ at d20
      have d21 := hd 21 (by decide)
      change vs 21 = _ at d21
      have d22 := hd 22 (by decide)
      change vs 22 = _ at d22
      have d23 := hd 23 (by decide)
      change vs 23 = _ at d23
      have d24 := hd 24 (by decide)
      change vs 24 = _ at d24
      have d25 := hd 25 (by decide)
      change vs 25 = _ at d25
      simp only [d0, d1, d2, d3, d4, d5, d6, d7, d8, d9, d10, d11, d12, d13, d14, d15, d16, d17, d18, d19, d20, d21, d22, d23, d24, d25, List.drop_succ_cons, List.drop_zero]
      have B3 := B3.kept hw
      have B4 := B4.kept hw
      have B5 := B5.kept hw
      have c_B3 := fun i => B3.cell i
      have f_B3 := fun i => B3.free i
      have c_B4 := fun i => B4.cell i
      have f_B4 := fun i => B4.free i
      have c_B5 := fun i => B5.cell i
      have f_B5 := fun i => B5.free i
      clear hd hne hlo d0 d1 d2 d3 d4 d5 d6 d7 d8 d9 d10 d11 d12 d13 d14 d15 d16 d17 d18 d19 d20 d21 d22 d23 d24 d25
      rw [← Hs.out, ← Ht.out]
      have HB := Lib.hid (up_later HB.out hw)
      clear hw
      go_wp2_with fail
      rw [E1.out, E2.out, E3.out]
      refine (In_any _ _ _ _).mono ?_
      rintro e w1 ⟨rfl, rfl⟩
      go_wp2_with fail
      go_ret
      exact ⟨ret_bool (by rw [Hfin.out]; unfold inB; first | rfl | (congr 2 <;> (congr 1; grind))), HB.out⟩
    · have e1 : sizeI s = s := by unfold sizeI; rw [if_neg (by omega)]
      have e2 : sizeI t = -t := by unfold sizeI; rw [if_pos (by omega)]
      rw [e1, e2] at hfin
      have Hfin := Lib.hid hfin
      have m1 := mul_in a.z (-t) 1000 20000 (by omega) (by omega) (by omega) (by omega)
      have m2 := mul_in b.z s 1000 20000 (by omega) (by omega) (by omega) (by omega)
      have m3 := mul_in x.b (s - t) 1000 40000 (by omega) (by omega) (by omega) (by omega)
      have m4 := mul_in x.t (s - t) 1000 40000 (by omega) (by omega) (by omega) (by omega)
      have E1 := Lib.hid (show wrap64 (wrap64 (a.z * -t) + wrap64 (b.z * s)) = a.z * -t + b.z * s by
        rw [wrap_in (a.z * -t) 20000000 (by omega) (by omega), wrap_in (b.z * s) 20000000 (by omega) (by omega)]; exact wrap_in _ 40000000 (by omega) (by omega))
      have E2 := Lib.hid (wrap_in (x.b * (s - t)) 40000000 (by omega) (by omega))
      have E3 := Lib.hid (wrap_in (x.t * (s - t)) 40000000 (by omega) (by omega))
      clear hfin e1 e2 hst m1 m2 m3 m4
      go_enter Try.func53, Try.ntmps53
      have B3 := ((Box.new (w := w) (t := 79) (cs := #[iv x.x1, iv x.y1, iv x.x2, iv x.y2, iv x.b, iv x.t]) rfl).alloc (.cells #[iv a.x, iv a.y, iv a.z, iv a.m] 74)).alloc (.cells #[iv b.x, iv b.y, iv b.z, iv b.m] 74)
      have B4 := (Box.new (w := w.alloc (.cells #[iv x.x1, iv x.y1, iv x.x2, iv x.y2, iv x.b, iv x.t] 79)) (g := w.heap.size + 1) (t := 74) (cs := #[iv a.x, iv a.y, iv a.z, iv a.m]) (by simp)).alloc (.cells #[iv b.x, iv b.y, iv b.z, iv b.m] 74)
      have B5 := Box.new (w := (w.alloc (.cells #[iv x.x1, iv x.y1, iv x.x2, iv x.y2, iv x.b, iv x.t] 79)).alloc (.cells #[iv a.x, iv a.y, iv a.z, iv a.m] 74)) (g := w.heap.size + 1 + 1) (t := 74) (cs := #[iv b.x, iv b.y, iv b.z, iv b.m]) (by simp)
      have hB := up_alloc (up_alloc (up_alloc (up0 (w := w)) (.cells #[iv x.x1, iv x.y1, iv x.x2, iv x.y2, iv x.b, iv x.t] 79)) (.cells #[iv a.x, iv a.y, iv a.z, iv a.m] 74)) (.cells #[iv b.x, iv b.y, iv b.z, iv b.m] 74)
      have BB3 := Lib.hid B3
      have BB4 := Lib.hid B4
      have BB5 := Lib.hid B5
      have HB := Lib.hid hB
      clear B3 B4 B5 hB
      go_wp2_with (go_at_call 85; refine (RCrosses_any x a b _ HX.out HA.out HBB.out).mono ?_; rintro e w1 ⟨rfl, hb1⟩; rw [Hcr.out])
      have B3 := BB3.out.kept hb1
      have B4 := BB4.out.kept hb1
      have B5 := BB5.out.kept hb1
      have HB := Lib.hid (up_later HB.out hb1)
      clear hb1 BB3 BB4 BB5
      go_upto_region 3 with fail
      apply wp_region_by 26 [(Fact.eq _), (Fact.eq _), (Fact.eq _), (Fact.eq _), (Fact.eq _), (Fact.eq _), (Fact.eq _), (Fact.eq _), (Fact.eq _), (Fact.eq _), (Fact.eq _), (Fact.eq _), (Fact.eq _), (Fact.eq _), (Fact.eq _), (Fact.eq _), (Fact.eq _), (Fact.eq _), (Fact.eq _), (Fact.eq _), (Fact.eq _), (Fact.eq _), (Fact.eq _), (Fact.eq _), (Fact.eq _), (Fact.eq _)]
      case hm => kernel_rfl
      case hB => kernel_rfl
      case hA => (intro vs; simp only [List.take_succ_cons, List.take_zero, putAll, if_true, Act.put, List.setIfInBounds_toArray, List.set_cons_zero, List.set_cons_succ]; exact rfl)
      case hstep =>
        intro vs
        refine And.intro (fun w hw hd => ?_) ?_
        · refine ite_yes rfl ?_
          simp only [Gives]
          go_simp
          exact ⟨Below.refl _ _, rfl, fun h => by cases h⟩
        refine And.intro (fun w hw hd => ?_) ?_
        · have d0 := hd 0 (by decide) rfl
          change vs 0 = _ at d0
          refine ite_yes rfl ?_
          have c_B3 := fun i => (B3.kept hw).cell i
          have c_B4 := fun i => (B4.kept hw).cell i
          have c_B5 := fun i => (B5.kept hw).cell i
          simp only [Gives]
          go_simp
          exact ⟨Below.refl _ _, rfl, fun h => by cases h⟩
        refine And.intro (fun w hw hd => ?_) ?_
        · refine ite_yes rfl ?_
          simp only [Gives]
          go_simp
          exact ⟨Below.refl _ _, rfl, fun h => by cases h⟩
        refine And.intro (fun w hw hd => ?_) ?_
        · have d2 := hd 2 (by decide) rfl
          change vs 2 = _ at d2
          refine ite_yes rfl ?_
          have c_B3 := fun i => (B3.kept hw).cell i
          have c_B4 := fun i => (B4.kept hw).cell i
          have c_B5 := fun i => (B5.kept hw).cell i
          simp only [Gives]
          go_simp
          exact ⟨Below.refl _ _, rfl, fun h => by cases h⟩
        refine And.intro (fun w hw hd => ?_) ?_
        · refine ite_yes rfl ?_
          simp only [Gives]
          go_simp
          exact ⟨Below.refl _ _, rfl, fun h => by cases h⟩
        refine And.intro (fun w hw hd => ?_) ?_
        · have d4 := hd 4 (by decide) rfl
          change vs 4 = _ at d4
          refine ite_yes rfl ?_
          have c_B3 := fun i => (B3.kept hw).cell i
          have c_B4 := fun i => (B4.kept hw).cell i
          have c_B5 := fun i => (B5.kept hw).cell i
          simp only [Gives]
          go_simp
          exact ⟨Below.refl _ _, rfl, fun h => by cases h⟩
        refine And.intro (fun w hw hd => ?_) ?_
        · refine ite_yes rfl ?_
          simp only [Gives]
          go_simp
          exact ⟨Below.refl _ _, rfl, fun h => by cases h⟩
        refine And.intro (fun w hw hd => ?_) ?_
        · have d6 := hd 6 (by decide) rfl
          change vs 6 = _ at d6
          refine ite_yes rfl ?_
          have c_B3 := fun i => (B3.kept hw).cell i
          have c_B4 := fun i => (B4.kept hw).cell i
          have c_B5 := fun i => (B5.kept hw).cell i
          simp only [Gives]
          go_simp
          exact ⟨Below.refl _ _, rfl, fun h => by cases h⟩
        refine And.intro (fun w hw hd => ?_) ?_
        · refine ite_yes rfl ?_
          simp only [Gives]
          go_simp
          exact ⟨Below.refl _ _, rfl, fun h => by cases h⟩
        refine And.intro (fun w hw hd => ?_) ?_
        · have d8 := hd 8 (by decide) rfl
          change vs 8 = _ at d8
          refine ite_yes rfl ?_
          have c_B3 := fun i => (B3.kept hw).cell i
          have c_B4 := fun i => (B4.kept hw).cell i
          have c_B5 := fun i => (B5.kept hw).cell i
          simp only [Gives]
          go_simp
          exact ⟨Below.refl _ _, rfl, fun h => by cases h⟩
        refine And.intro (fun w hw hd => ?_) ?_
        · refine ite_yes rfl ?_
          simp only [Gives]
          go_simp
          exact ⟨Below.refl _ _, rfl, fun h => by cases h⟩
        refine And.intro (fun w hw hd => ?_) ?_
        · have d10 := hd 10 (by decide) rfl
          change vs 10 = _ at d10
          refine ite_yes rfl ?_
          have c_B3 := fun i => (B3.kept hw).cell i
          have c_B4 := fun i => (B4.kept hw).cell i
          have c_B5 := fun i => (B5.kept hw).cell i
          simp only [Gives]
          go_simp
          exact ⟨Below.refl _ _, rfl, fun h => by cases h⟩
        refine And.intro (fun w hw hd => ?_) ?_
        · have d1 := hd 1 (by decide) rfl
          change vs 1 = _ at d1
          have d3 := hd 3 (by decide) rfl
          change vs 3 = _ at d3
          have d5 := hd 5 (by decide) rfl
          change vs 5 = _ at d5
          have d7 := hd 7 (by decide) rfl
          change vs 7 = _ at d7
          have d9 := hd 9 (by decide) rfl
          change vs 9 = _ at d9
          have d11 := hd 11 (by decide) rfl
          change vs 11 = _ at d11
          refine ite_yes rfl ?_
          simp only [Gives]
          go_simp
          refine (RSide_any x.x1 x.y1 x.x2 x.y2 a.x a.y _ hx1 hx2 hx3 hx4 ha1 ha2).mono ?_
          rintro e w1 ⟨rfl, hb⟩
          exact ⟨_, rfl, hb, rfl, fun h => by cases h⟩
        refine And.intro (fun w hw hd => ?_) ?_
        · refine ite_yes rfl ?_
          simp only [Gives]
          go_simp
          exact ⟨Below.refl _ _, rfl, fun h => by cases h⟩
        refine And.intro (fun w hw hd => ?_) ?_
        · have d13 := hd 13 (by decide) rfl
          change vs 13 = _ at d13
          refine ite_yes rfl ?_
          have c_B3 := fun i => (B3.kept hw).cell i
          have c_B4 := fun i => (B4.kept hw).cell i
          have c_B5 := fun i => (B5.kept hw).cell i
          simp only [Gives]
          go_simp
          exact ⟨Below.refl _ _, rfl, fun h => by cases h⟩
        refine And.intro (fun w hw hd => ?_) ?_
        · refine ite_yes rfl ?_
          simp only [Gives]
          go_simp
          exact ⟨Below.refl _ _, rfl, fun h => by cases h⟩
        refine And.intro (fun w hw hd => ?_) ?_
        · have d15 := hd 15 (by decide) rfl
          change vs 15 = _ at d15
          refine ite_yes rfl ?_
          have c_B3 := fun i => (B3.kept hw).cell i
          have c_B4 := fun i => (B4.kept hw).cell i
          have c_B5 := fun i => (B5.kept hw).cell i
          simp only [Gives]
          go_simp
          exact ⟨Below.refl _ _, rfl, fun h => by cases h⟩
        refine And.intro (fun w hw hd => ?_) ?_
        · refine ite_yes rfl ?_
          simp only [Gives]
          go_simp
          exact ⟨Below.refl _ _, rfl, fun h => by cases h⟩
        refine And.intro (fun w hw hd => ?_) ?_
        · have d17 := hd 17 (by decide) rfl
          change vs 17 = _ at d17
          refine ite_yes rfl ?_
          have c_B3 := fun i => (B3.kept hw).cell i
          have c_B4 := fun i => (B4.kept hw).cell i
          have c_B5 := fun i => (B5.kept hw).cell i
          simp only [Gives]
          go_simp
          exact ⟨Below.refl _ _, rfl, fun h => by cases h⟩
        refine And.intro (fun w hw hd => ?_) ?_
        · refine ite_yes rfl ?_
          simp only [Gives]
          go_simp
          exact ⟨Below.refl _ _, rfl, fun h => by cases h⟩
        refine And.intro (fun w hw hd => ?_) ?_
        · have d19 := hd 19 (by decide) rfl
          change vs 19 = _ at d19
          refine ite_yes rfl ?_
          have c_B3 := fun i => (B3.kept hw).cell i
          have c_B4 := fun i => (B4.kept hw).cell i
          have c_B5 := fun i => (B5.kept hw).cell i
          simp only [Gives]
          go_simp
          exact ⟨Below.refl _ _, rfl, fun h => by cases h⟩
        refine And.intro (fun w hw hd => ?_) ?_
        · refine ite_yes rfl ?_
          simp only [Gives]
          go_simp
          exact ⟨Below.refl _ _, rfl, fun h => by cases h⟩
        refine And.intro (fun w hw hd => ?_) ?_
        · have d21 := hd 21 (by decide) rfl
          change vs 21 = _ at d21
          refine ite_yes rfl ?_
          have c_B3 := fun i => (B3.kept hw).cell i
          have c_B4 := fun i => (B4.kept hw).cell i
          have c_B5 := fun i => (B5.kept hw).cell i
          simp only [Gives]
          go_simp
          exact ⟨Below.refl _ _, rfl, fun h => by cases h⟩
        refine And.intro (fun w hw hd => ?_) ?_
        · refine ite_yes rfl ?_
          simp only [Gives]
          go_simp
          exact ⟨Below.refl _ _, rfl, fun h => by cases h⟩
        refine And.intro (fun w hw hd => ?_) ?_
        · have d23 := hd 23 (by decide) rfl
          change vs 23 = _ at d23
          refine ite_yes rfl ?_
          have c_B3 := fun i => (B3.kept hw).cell i
          have c_B4 := fun i => (B4.kept hw).cell i
          have c_B5 := fun i => (B5.kept hw).cell i
          simp only [Gives]
          go_simp
          exact ⟨Below.refl _ _, rfl, fun h => by cases h⟩
        refine And.intro (fun w hw hd => ?_) ?_
        · have d14 := hd 14 (by decide) rfl
          change vs 14 = _ at d14
          have d16 := hd 16 (by decide) rfl
          change vs 16 = _ at d16
          have d18 := hd 18 (by decide) rfl
          change vs 18 = _ at d18
          have d20 := hd 20 (by decide) rfl
          change vs 20 = _ at d20
          have d22 := hd 22 (by decide) rfl
          change vs 22 = _ at d22
          have d24 := hd 24 (by decide) rfl
          change vs 24 = _ at d24
          refine ite_yes rfl ?_
          simp only [Gives]
          go_simp
          refine (RSide_any x.x1 x.y1 x.x2 x.y2 b.x b.y _ hx1 hx2 hx3 hx4 hb1 hb2).mono ?_
          rintro e w1 ⟨rfl, hb⟩
          exact ⟨_, rfl, hb, rfl, fun h => by cases h⟩
        exact trivial
      intro vs wt hw hd hne hlo
      have d0 := hd 0 (by decide)
      change vs 0 = _ at d0
      have d1 := hd 1 (by decide)
      change vs 1 = _ at d1
      have d2 := hd 2 (by decide)
      change vs 2 = _ at d2
      have d3 := hd 3 (by decide)
      change vs 3 = _ at d3
      have d4 := hd 4 (by decide)
      change vs 4 = _ at d4
      have d5 := hd 5 (by decide)
      change vs 5 = _ at d5
      have d6 := hd 6 (by decide)
      change vs 6 = _ at d6
      have d7 := hd 7 (by decide)
      change vs 7 = _ at d7
      have d8 := hd 8 (by decide)
      change vs 8 = _ at d8
      have d9 := hd 9 (by decide)
      change vs 9 = _ at d9
      have d10 := hd 10 (by decide)
      change vs 10 = _ at d10
      have d11 := hd 11 (by decide)
      change vs 11 = _ at d11
      have d12 := hd 12 (by decide)
      change vs 12 = _ at d12
      have d13 := hd 13 (by decide)
      change vs 13 = _ at d13
      have d14 := hd 14 (by decide)
      change vs 14 = _ at d14
      have d15 := hd 15 (by decide)
      change vs 15 = _ at d15
      have d16 := hd 16 (by decide)
      change vs 16 = _ at d16
      have d17 := hd 17 (by decide)
      change vs 17 = _ at d17
      have d18 := hd 18 (by decide)
      change vs 18 = _ at d18
      have d19 := hd 19 (by decide)
      change vs 19 = _ at d19
      have d20 := hd 20 (by decide)
      change vs 20 = _ at d20
      have d21 := hd 21 (by decide)
      change vs 21 = _ at d21
      have d22 := hd 22 (by decide)
      change vs 22 = _ at d22
      have d23 := hd 23 (by decide)
      change vs 23 = _ at d23
      have d24 := hd 24 (by decide)
      change vs 24 = _ at d24
      have d25 := hd 25 (by decide)
      change vs 25 = _ at d25
      simp only [d0, d1, d2, d3, d4, d5, d6, d7, d8, d9, d10, d11, d12, d13, d14, d15, d16, d17, d18, d19, d20, d21, d22, d23, d24, d25, List.drop_succ_cons, List.drop_zero]
      have B3 := B3.kept hw
      have B4 := B4.kept hw
      have B5 := B5.kept hw
      have c_B3 := fun i => B3.cell i
      have f_B3 := fun i => B3.free i
      have c_B4 := fun i => B4.cell i
      have f_B4 := fun i => B4.free i
      have c_B5 := fun i => B5.cell i
      have f_B5 := fun i => B5.free i
      clear hd hne hlo d0 d1 d2 d3 d4 d5 d6 d7 d8 d9 d10 d11 d12 d13 d14 d15 d16 d17 d18 d19 d20 d21 d22 d23 d24 d25
      rw [← Hs.out, ← Ht.out]
      have HB := Lib.hid (up_later HB.out hw)
      clear hw
      go_wp2_with fail
      rw [E1.out, E2.out, E3.out]
      refine (In_any _ _ _ _).mono ?_
      rintro e w1 ⟨rfl, rfl⟩
      go_wp2_with fail
      go_ret
      exact ⟨ret_bool (by rw [Hfin.out]; unfold inB; first | rfl | (congr 2 <;> (congr 1; grind))), HB.out⟩

end Go.Proofs.Ytlnagjdokfkjoaa
