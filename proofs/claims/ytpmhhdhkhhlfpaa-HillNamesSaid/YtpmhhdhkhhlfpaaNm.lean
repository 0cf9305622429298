/-
  WALK of 'HillNames': the document's examples, and errors. No condition.
-/
import Derived.Test.YtpmhhdhkhhlfpaaNl
namespace Go.Proofs.Ytpmhhdhkhhlfpaa
open Go.RowKit

set_option maxRecDepth 100000 in
set_option maxHeartbeats 4000000 in
theorem names_any (w : World) : Calls Try.prog 7 #[] w fun e w' => e = .returned (.bool true) ∧ Below w.heap.size w w' := by
  have hB : Below w.heap.size w w := up0
  go_enter Try.func7, Try.ntmps7
  go_wp2_with fail
  refine (three_any _ _).mono ?_
  rintro e wa ⟨rfl, h3, hb3⟩
  have hB := up_later hB hb3
  go_wp2_with fail
  have A1 := Why_any _ _ _ _ (threeL 149) _ 0 1 0 0 wa h3.land
  rw [na1] at A1
  refine A1.mono ?_
  rintro e w1 ⟨rfl, hb⟩
  have hB := up_later hB hb
  clear h3 hb3 hb A1
  go_wp2_with fail
  refine (three_any _ _).mono ?_
  rintro e wa ⟨rfl, h3, hb3⟩
  have hB := up_later hB hb3
  go_wp2_with fail
  have A1 := Why_any _ _ _ _ (threeL 149) _ 0 1 0 1 wa h3.land
  rw [na2] at A1
  refine A1.mono ?_
  rintro e w1 ⟨rfl, hb⟩
  have hB := up_later hB hb
  clear h3 hb3 hb A1
  go_wp2_with fail
  refine (three_any _ _).mono ?_
  rintro e wa ⟨rfl, h3, hb3⟩
  have hB := up_later hB hb3
  go_wp2_with fail
  have A1 := Why_any _ _ _ _ (threeL 150) _ 0 1 0 1 wa h3.land
  rw [na3] at A1
  refine A1.mono ?_
  rintro e w1 ⟨rfl, hb⟩
  have hB := up_later hB hb
  clear h3 hb3 hb A1
  go_wp2_with fail
  refine (three_any _ _).mono ?_
  rintro e wa ⟨rfl, h3, hb3⟩
  have hB := up_later hB hb3
  go_wp2_with fail
  have A1 := Why_any _ _ _ _ (threeL 149) _ 1 2 1 2 wa h3.land
  rw [na4] at A1
  refine A1.mono ?_
  rintro e w1 ⟨rfl, hb⟩
  have hB := up_later hB hb
  clear h3 hb3 hb A1
  go_wp2_with fail
  refine (three_any _ _).mono ?_
  rintro e wa ⟨rfl, h3, hb3⟩
  have hB := up_later hB hb3
  go_wp2_with fail
  have A1 := Always_any _ _ _ _ (threeL 149) _ 0 2 wa h3.land
  rw [na5] at A1
  refine A1.mono ?_
  rintro e w1 ⟨u5, rfl, hr5, hb⟩
  obtain ⟨_, A5, cap5, hu5, _, _⟩ := hr5.form
  simp only [List.length_nil] at hu5
  subst hu5
  have hB := up_later hB hb
  clear h3 hb3 hb A1 hr5
  go_wp2_with fail
  refine (three_any _ _).mono ?_
  rintro e wa ⟨rfl, h3, hb3⟩
  have hB := up_later hB hb3
  go_wp2_with fail
  have A1 := Walls_any _ _ _ _ (threeL 150) _ 0 1 1 1 wa h3.land
  rw [na6] at A1
  refine A1.mono ?_
  rintro e w1 ⟨u6, u7, rfl, hr6, hr7, hb⟩
  obtain ⟨_, A7, cap7, hu7, _, _⟩ := hr7.form
  simp only [List.length_nil] at hu7
  subst hu7
  have hB := up_later hB hb
  clear h3 hb3 hb A1 hr7
  go_wp2_with fail
  refine (ints_any _ _ [0] [0] _ (hr6.kept (up_alloc up0 _)) (ints_row1 (Box.new rfl))).mono ?_
  rintro e w1 ⟨rfl, hb⟩
  have hb := up_later (up_alloc up0 _) hb
  have hB := up_later hB hb
  have e0 : ([0] == ([0] : List Int)) = true := by decide
  clear hr6 hb
  go_wp2_with fail
  refine (three_any _ _).mono ?_
  rintro e wa ⟨rfl, h3, hb3⟩
  have hB := up_later hB hb3
  go_wp2_with fail
  have A1 := Why_any _ _ _ _ (threeL 149) _ 0 3 0 0 wa h3.land
  rw [nb1] at A1
  refine A1.mono ?_
  rintro e w1 ⟨rfl, hb⟩
  have hB := up_later hB hb
  clear h3 hb3 hb A1
  clear e0
  go_wp2_with fail
  refine (three_any _ _).mono ?_
  rintro e wa ⟨rfl, h3, hb3⟩
  have hB := up_later hB hb3
  go_wp2_with fail
  have A1 := Walls_any _ _ _ _ (threeL 149) _ 0 1 2 0 wa h3.land
  rw [nb2] at A1
  refine A1.mono ?_
  rintro e w1 ⟨u8, u9, rfl, _, _, hb⟩
  have hB := up_later hB hb
  clear h3 hb3 hb A1
  go_wp2_with fail
  refine (three_any _ _).mono ?_
  rintro e wa ⟨rfl, h3, hb3⟩
  have hB := up_later hB hb3
  go_wp2_with fail
  have A1 := Why_any _ _ _ _ (threeL 149) _ 0 1 0 3 wa h3.land
  rw [nb3] at A1
  refine A1.mono ?_
  rintro e w1 ⟨rfl, hb⟩
  have hB := up_later hB hb
  clear h3 hb3 hb A1
  go_wp2_with fail
  refine (three_any _ _).mono ?_
  rintro e wa ⟨rfl, h3, hb3⟩
  have hB := up_later hB hb3
  go_wp2_with fail
  have A1 := Hours_any _ _ _ _ (threeL 149) _ 1 1 0 wa h3.land
  rw [nb4] at A1
  refine A1.mono ?_
  rintro e w1 ⟨u10, rfl, _, hb⟩
  have hB := up_later hB hb
  clear h3 hb3 hb A1
  go_wp2_with fail
  refine (three_any _ _).mono ?_
  rintro e wa ⟨rfl, h3, hb3⟩
  have hB := up_later hB hb3
  go_wp2_with fail
  have A1 := Stick_any _ _ _ _ (threeL 149) _ 0 1 1 wa h3.land
  rw [nb5] at A1
  refine A1.mono ?_
  rintro e w1 ⟨rfl, hb⟩
  have hB := up_later hB hb
  clear h3 hb3 hb A1
  go_wp2_with fail
  refine (three_any _ _).mono ?_
  rintro e wa ⟨rfl, h3, hb3⟩
  have hB := up_later hB hb3
  go_wp2_with fail
  have A1 := Mirrors_any _ _ _ _ (threeL 149) _ 0 1 0 wa h3.land
  rw [nb6] at A1
  refine A1.mono ?_
  rintro e w1 ⟨rfl, hb⟩
  have hB := up_later hB hb
  clear h3 hb3 hb A1
  go_wp2_with fail
  refine (three_any _ _).mono ?_
  rintro e wa ⟨rfl, h3, hb3⟩
  have hB := up_later hB hb3
  go_wp2_with fail
  have A1 := Rise_any _ _ _ _ (threeL 1000) _ 0 1 wa h3.land
  rw [nb7] at A1
  refine A1.mono ?_
  rintro e w1 ⟨rfl, hb⟩
  have hB := up_later hB hb
  clear h3 hb3 hb A1
  go_wp2_with fail
  refine (three_any _ _).mono ?_
  rintro e wa ⟨rfl, h3, hb3⟩
  have hB := up_later hB hb3
  go_wp2_with fail
  have A1 := Reach_any _ _ _ _ (threeL 149) _ (-1) 0 0 wa h3.land
  rw [nb8] at A1
  refine A1.mono ?_
  rintro e w1 ⟨u11, rfl, _, hb⟩
  have hB := up_later hB hb
  clear h3 hb3 hb A1
  go_wp2_with fail
  have hB0 := hB.size
  refine (three_any _ _).mono ?_
  rintro e x1 ⟨rfl, T1, hb⟩
  have hB := up_later hB hb
  have z1 := T1.sn.lt
  clear hb
  go_wp2_with fail
  refine (three_any _ _).mono ?_
  rintro e x2 ⟨rfl, T2, hb⟩
  have hB := up_later hB hb
  have T1 := T1.kept hb
  have z2 := T2.sn.lt
  clear hb
  go_wp2_with fail
  refine (three_any _ _).mono ?_
  rintro e x3 ⟨rfl, T3, hb⟩
  have hB := up_later hB hb
  have T1 := T1.kept hb
  have T2 := T2.kept hb
  have z3 := T3.sn.lt
  clear hb
  go_wp2_with fail
  refine (three_any _ _).mono ?_
  rintro e x4 ⟨rfl, T4, hb⟩
  have hB := up_later hB hb
  have T1 := T1.kept hb
  have T2 := T2.kept hb
  have T3 := T3.kept hb
  have z4 := T4.sn.lt
  clear hb
  go_wp2_with fail
  refine (three_any _ _).mono ?_
  rintro e x5 ⟨rfl, T5, hb⟩
  have hB := up_later hB hb
  have T1 := T1.kept hb
  have T2 := T2.kept hb
  have T3 := T3.kept hb
  have T4 := T4.kept hb
  have z5 := T5.sn.lt
  clear hb
  go_wp2_with fail
  refine (three_any _ _).mono ?_
  rintro e x6 ⟨rfl, T6, hb⟩
  have hB := up_later hB hb
  have T1 := T1.kept hb
  have T2 := T2.kept hb
  have T3 := T3.kept hb
  have T4 := T4.kept hb
  have T5 := T5.kept hb
  have z6 := T6.sn.lt
  clear hb
  go_wp2_with fail
  have D1 := ((((((Box.new (g := x6.heap.size) (w := x6) (t := 37) (cs := #[.slice (some ⟨w1.heap.size + 1, 0, none⟩) 3 3, .slice (some ⟨w1.heap.size + 2, 0, none⟩) 1 1, .slice (some ⟨w1.heap.size + 4, 0, none⟩) 2 2, .slice (some ⟨w1.heap.size + 5, 0, none⟩) 3 3]) (by simp)).alloc (.cells #[.slice (some ⟨x1.heap.size + 1, 0, none⟩) 3 3, .slice (some ⟨x1.heap.size + 2, 0, none⟩) 1 1, .slice (some ⟨x1.heap.size + 4, 0, none⟩) 2 2, .slice (some ⟨x1.heap.size + 5, 0, none⟩) 3 3] 37)).alloc (.cells #[.slice (some ⟨x2.heap.size + 1, 0, none⟩) 3 3, .slice (some ⟨x2.heap.size + 2, 0, none⟩) 1 1, .slice (some ⟨x2.heap.size + 4, 0, none⟩) 2 2, .slice (some ⟨x2.heap.size + 5, 0, none⟩) 3 3] 37)).alloc (.cells #[.slice (some ⟨x3.heap.size + 1, 0, none⟩) 3 3, .slice (some ⟨x3.heap.size + 2, 0, none⟩) 1 1, .slice (some ⟨x3.heap.size + 4, 0, none⟩) 2 2, .slice (some ⟨x3.heap.size + 5, 0, none⟩) 3 3] 37)).alloc (.cells #[.slice (some ⟨x4.heap.size + 1, 0, none⟩) 3 3, .slice (some ⟨x4.heap.size + 2, 0, none⟩) 1 1, .slice (some ⟨x4.heap.size + 4, 0, none⟩) 2 2, .slice (some ⟨x4.heap.size + 5, 0, none⟩) 3 3] 37)).alloc (.cells #[.slice (some ⟨x5.heap.size + 1, 0, none⟩) 3 3, .slice (some ⟨x5.heap.size + 2, 0, none⟩) 1 1, .slice (some ⟨x5.heap.size + 4, 0, none⟩) 2 2, .slice (some ⟨x5.heap.size + 5, 0, none⟩) 3 3] 37))
  have D2 := (((((Box.new (g := x6.heap.size + 1) (w := (x6.alloc (.cells #[.slice (some ⟨w1.heap.size + 1, 0, none⟩) 3 3, .slice (some ⟨w1.heap.size + 2, 0, none⟩) 1 1, .slice (some ⟨w1.heap.size + 4, 0, none⟩) 2 2, .slice (some ⟨w1.heap.size + 5, 0, none⟩) 3 3] 37))) (t := 37) (cs := #[.slice (some ⟨x1.heap.size + 1, 0, none⟩) 3 3, .slice (some ⟨x1.heap.size + 2, 0, none⟩) 1 1, .slice (some ⟨x1.heap.size + 4, 0, none⟩) 2 2, .slice (some ⟨x1.heap.size + 5, 0, none⟩) 3 3]) (by simp)).alloc (.cells #[.slice (some ⟨x2.heap.size + 1, 0, none⟩) 3 3, .slice (some ⟨x2.heap.size + 2, 0, none⟩) 1 1, .slice (some ⟨x2.heap.size + 4, 0, none⟩) 2 2, .slice (some ⟨x2.heap.size + 5, 0, none⟩) 3 3] 37)).alloc (.cells #[.slice (some ⟨x3.heap.size + 1, 0, none⟩) 3 3, .slice (some ⟨x3.heap.size + 2, 0, none⟩) 1 1, .slice (some ⟨x3.heap.size + 4, 0, none⟩) 2 2, .slice (some ⟨x3.heap.size + 5, 0, none⟩) 3 3] 37)).alloc (.cells #[.slice (some ⟨x4.heap.size + 1, 0, none⟩) 3 3, .slice (some ⟨x4.heap.size + 2, 0, none⟩) 1 1, .slice (some ⟨x4.heap.size + 4, 0, none⟩) 2 2, .slice (some ⟨x4.heap.size + 5, 0, none⟩) 3 3] 37)).alloc (.cells #[.slice (some ⟨x5.heap.size + 1, 0, none⟩) 3 3, .slice (some ⟨x5.heap.size + 2, 0, none⟩) 1 1, .slice (some ⟨x5.heap.size + 4, 0, none⟩) 2 2, .slice (some ⟨x5.heap.size + 5, 0, none⟩) 3 3] 37))
  have D3 := ((((Box.new (g := x6.heap.size + 1 + 1) (w := ((x6.alloc (.cells #[.slice (some ⟨w1.heap.size + 1, 0, none⟩) 3 3, .slice (some ⟨w1.heap.size + 2, 0, none⟩) 1 1, .slice (some ⟨w1.heap.size + 4, 0, none⟩) 2 2, .slice (some ⟨w1.heap.size + 5, 0, none⟩) 3 3] 37)).alloc (.cells #[.slice (some ⟨x1.heap.size + 1, 0, none⟩) 3 3, .slice (some ⟨x1.heap.size + 2, 0, none⟩) 1 1, .slice (some ⟨x1.heap.size + 4, 0, none⟩) 2 2, .slice (some ⟨x1.heap.size + 5, 0, none⟩) 3 3] 37))) (t := 37) (cs := #[.slice (some ⟨x2.heap.size + 1, 0, none⟩) 3 3, .slice (some ⟨x2.heap.size + 2, 0, none⟩) 1 1, .slice (some ⟨x2.heap.size + 4, 0, none⟩) 2 2, .slice (some ⟨x2.heap.size + 5, 0, none⟩) 3 3]) (by simp)).alloc (.cells #[.slice (some ⟨x3.heap.size + 1, 0, none⟩) 3 3, .slice (some ⟨x3.heap.size + 2, 0, none⟩) 1 1, .slice (some ⟨x3.heap.size + 4, 0, none⟩) 2 2, .slice (some ⟨x3.heap.size + 5, 0, none⟩) 3 3] 37)).alloc (.cells #[.slice (some ⟨x4.heap.size + 1, 0, none⟩) 3 3, .slice (some ⟨x4.heap.size + 2, 0, none⟩) 1 1, .slice (some ⟨x4.heap.size + 4, 0, none⟩) 2 2, .slice (some ⟨x4.heap.size + 5, 0, none⟩) 3 3] 37)).alloc (.cells #[.slice (some ⟨x5.heap.size + 1, 0, none⟩) 3 3, .slice (some ⟨x5.heap.size + 2, 0, none⟩) 1 1, .slice (some ⟨x5.heap.size + 4, 0, none⟩) 2 2, .slice (some ⟨x5.heap.size + 5, 0, none⟩) 3 3] 37))
  have D4 := (((Box.new (g := x6.heap.size + 1 + 1 + 1) (w := (((x6.alloc (.cells #[.slice (some ⟨w1.heap.size + 1, 0, none⟩) 3 3, .slice (some ⟨w1.heap.size + 2, 0, none⟩) 1 1, .slice (some ⟨w1.heap.size + 4, 0, none⟩) 2 2, .slice (some ⟨w1.heap.size + 5, 0, none⟩) 3 3] 37)).alloc (.cells #[.slice (some ⟨x1.heap.size + 1, 0, none⟩) 3 3, .slice (some ⟨x1.heap.size + 2, 0, none⟩) 1 1, .slice (some ⟨x1.heap.size + 4, 0, none⟩) 2 2, .slice (some ⟨x1.heap.size + 5, 0, none⟩) 3 3] 37)).alloc (.cells #[.slice (some ⟨x2.heap.size + 1, 0, none⟩) 3 3, .slice (some ⟨x2.heap.size + 2, 0, none⟩) 1 1, .slice (some ⟨x2.heap.size + 4, 0, none⟩) 2 2, .slice (some ⟨x2.heap.size + 5, 0, none⟩) 3 3] 37))) (t := 37) (cs := #[.slice (some ⟨x3.heap.size + 1, 0, none⟩) 3 3, .slice (some ⟨x3.heap.size + 2, 0, none⟩) 1 1, .slice (some ⟨x3.heap.size + 4, 0, none⟩) 2 2, .slice (some ⟨x3.heap.size + 5, 0, none⟩) 3 3]) (by simp)).alloc (.cells #[.slice (some ⟨x4.heap.size + 1, 0, none⟩) 3 3, .slice (some ⟨x4.heap.size + 2, 0, none⟩) 1 1, .slice (some ⟨x4.heap.size + 4, 0, none⟩) 2 2, .slice (some ⟨x4.heap.size + 5, 0, none⟩) 3 3] 37)).alloc (.cells #[.slice (some ⟨x5.heap.size + 1, 0, none⟩) 3 3, .slice (some ⟨x5.heap.size + 2, 0, none⟩) 1 1, .slice (some ⟨x5.heap.size + 4, 0, none⟩) 2 2, .slice (some ⟨x5.heap.size + 5, 0, none⟩) 3 3] 37))
  have D5 := ((Box.new (g := x6.heap.size + 1 + 1 + 1 + 1) (w := ((((x6.alloc (.cells #[.slice (some ⟨w1.heap.size + 1, 0, none⟩) 3 3, .slice (some ⟨w1.heap.size + 2, 0, none⟩) 1 1, .slice (some ⟨w1.heap.size + 4, 0, none⟩) 2 2, .slice (some ⟨w1.heap.size + 5, 0, none⟩) 3 3] 37)).alloc (.cells #[.slice (some ⟨x1.heap.size + 1, 0, none⟩) 3 3, .slice (some ⟨x1.heap.size + 2, 0, none⟩) 1 1, .slice (some ⟨x1.heap.size + 4, 0, none⟩) 2 2, .slice (some ⟨x1.heap.size + 5, 0, none⟩) 3 3] 37)).alloc (.cells #[.slice (some ⟨x2.heap.size + 1, 0, none⟩) 3 3, .slice (some ⟨x2.heap.size + 2, 0, none⟩) 1 1, .slice (some ⟨x2.heap.size + 4, 0, none⟩) 2 2, .slice (some ⟨x2.heap.size + 5, 0, none⟩) 3 3] 37)).alloc (.cells #[.slice (some ⟨x3.heap.size + 1, 0, none⟩) 3 3, .slice (some ⟨x3.heap.size + 2, 0, none⟩) 1 1, .slice (some ⟨x3.heap.size + 4, 0, none⟩) 2 2, .slice (some ⟨x3.heap.size + 5, 0, none⟩) 3 3] 37))) (t := 37) (cs := #[.slice (some ⟨x4.heap.size + 1, 0, none⟩) 3 3, .slice (some ⟨x4.heap.size + 2, 0, none⟩) 1 1, .slice (some ⟨x4.heap.size + 4, 0, none⟩) 2 2, .slice (some ⟨x4.heap.size + 5, 0, none⟩) 3 3]) (by simp)).alloc (.cells #[.slice (some ⟨x5.heap.size + 1, 0, none⟩) 3 3, .slice (some ⟨x5.heap.size + 2, 0, none⟩) 1 1, .slice (some ⟨x5.heap.size + 4, 0, none⟩) 2 2, .slice (some ⟨x5.heap.size + 5, 0, none⟩) 3 3] 37))
  have D6 := (Box.new (g := x6.heap.size + 1 + 1 + 1 + 1 + 1) (w := (((((x6.alloc (.cells #[.slice (some ⟨w1.heap.size + 1, 0, none⟩) 3 3, .slice (some ⟨w1.heap.size + 2, 0, none⟩) 1 1, .slice (some ⟨w1.heap.size + 4, 0, none⟩) 2 2, .slice (some ⟨w1.heap.size + 5, 0, none⟩) 3 3] 37)).alloc (.cells #[.slice (some ⟨x1.heap.size + 1, 0, none⟩) 3 3, .slice (some ⟨x1.heap.size + 2, 0, none⟩) 1 1, .slice (some ⟨x1.heap.size + 4, 0, none⟩) 2 2, .slice (some ⟨x1.heap.size + 5, 0, none⟩) 3 3] 37)).alloc (.cells #[.slice (some ⟨x2.heap.size + 1, 0, none⟩) 3 3, .slice (some ⟨x2.heap.size + 2, 0, none⟩) 1 1, .slice (some ⟨x2.heap.size + 4, 0, none⟩) 2 2, .slice (some ⟨x2.heap.size + 5, 0, none⟩) 3 3] 37)).alloc (.cells #[.slice (some ⟨x3.heap.size + 1, 0, none⟩) 3 3, .slice (some ⟨x3.heap.size + 2, 0, none⟩) 1 1, .slice (some ⟨x3.heap.size + 4, 0, none⟩) 2 2, .slice (some ⟨x3.heap.size + 5, 0, none⟩) 3 3] 37)).alloc (.cells #[.slice (some ⟨x4.heap.size + 1, 0, none⟩) 3 3, .slice (some ⟨x4.heap.size + 2, 0, none⟩) 1 1, .slice (some ⟨x4.heap.size + 4, 0, none⟩) 2 2, .slice (some ⟨x4.heap.size + 5, 0, none⟩) 3 3] 37))) (t := 37) (cs := #[.slice (some ⟨x5.heap.size + 1, 0, none⟩) 3 3, .slice (some ⟨x5.heap.size + 2, 0, none⟩) 1 1, .slice (some ⟨x5.heap.size + 4, 0, none⟩) 2 2, .slice (some ⟨x5.heap.size + 5, 0, none⟩) 3 3]) (by simp))
  have U := (up_alloc (up_alloc (up_alloc (up_alloc (up_alloc (up_alloc (up0 (w := x6)) (.cells #[.slice (some ⟨w1.heap.size + 1, 0, none⟩) 3 3, .slice (some ⟨w1.heap.size + 2, 0, none⟩) 1 1, .slice (some ⟨w1.heap.size + 4, 0, none⟩) 2 2, .slice (some ⟨w1.heap.size + 5, 0, none⟩) 3 3] 37)) (.cells #[.slice (some ⟨x1.heap.size + 1, 0, none⟩) 3 3, .slice (some ⟨x1.heap.size + 2, 0, none⟩) 1 1, .slice (some ⟨x1.heap.size + 4, 0, none⟩) 2 2, .slice (some ⟨x1.heap.size + 5, 0, none⟩) 3 3] 37)) (.cells #[.slice (some ⟨x2.heap.size + 1, 0, none⟩) 3 3, .slice (some ⟨x2.heap.size + 2, 0, none⟩) 1 1, .slice (some ⟨x2.heap.size + 4, 0, none⟩) 2 2, .slice (some ⟨x2.heap.size + 5, 0, none⟩) 3 3] 37)) (.cells #[.slice (some ⟨x3.heap.size + 1, 0, none⟩) 3 3, .slice (some ⟨x3.heap.size + 2, 0, none⟩) 1 1, .slice (some ⟨x3.heap.size + 4, 0, none⟩) 2 2, .slice (some ⟨x3.heap.size + 5, 0, none⟩) 3 3] 37)) (.cells #[.slice (some ⟨x4.heap.size + 1, 0, none⟩) 3 3, .slice (some ⟨x4.heap.size + 2, 0, none⟩) 1 1, .slice (some ⟨x4.heap.size + 4, 0, none⟩) 2 2, .slice (some ⟨x4.heap.size + 5, 0, none⟩) 3 3] 37)) (.cells #[.slice (some ⟨x5.heap.size + 1, 0, none⟩) 3 3, .slice (some ⟨x5.heap.size + 2, 0, none⟩) 1 1, .slice (some ⟨x5.heap.size + 4, 0, none⟩) 2 2, .slice (some ⟨x5.heap.size + 5, 0, none⟩) 3 3] 37))
  have T1 := T1.kept U
  have T2 := T2.kept U
  have T3 := T3.kept U
  have T4 := T4.kept U
  have T5 := T5.kept U
  have T6 := T6.kept U
  have hB := up_later hB U
  obtain ⟨V, hV⟩ : ∃ V, ((((((x6.alloc (.cells #[.slice (some ⟨w1.heap.size + 1, 0, none⟩) 3 3, .slice (some ⟨w1.heap.size + 2, 0, none⟩) 1 1, .slice (some ⟨w1.heap.size + 4, 0, none⟩) 2 2, .slice (some ⟨w1.heap.size + 5, 0, none⟩) 3 3] 37)).alloc (.cells #[.slice (some ⟨x1.heap.size + 1, 0, none⟩) 3 3, .slice (some ⟨x1.heap.size + 2, 0, none⟩) 1 1, .slice (some ⟨x1.heap.size + 4, 0, none⟩) 2 2, .slice (some ⟨x1.heap.size + 5, 0, none⟩) 3 3] 37)).alloc (.cells #[.slice (some ⟨x2.heap.size + 1, 0, none⟩) 3 3, .slice (some ⟨x2.heap.size + 2, 0, none⟩) 1 1, .slice (some ⟨x2.heap.size + 4, 0, none⟩) 2 2, .slice (some ⟨x2.heap.size + 5, 0, none⟩) 3 3] 37)).alloc (.cells #[.slice (some ⟨x3.heap.size + 1, 0, none⟩) 3 3, .slice (some ⟨x3.heap.size + 2, 0, none⟩) 1 1, .slice (some ⟨x3.heap.size + 4, 0, none⟩) 2 2, .slice (some ⟨x3.heap.size + 5, 0, none⟩) 3 3] 37)).alloc (.cells #[.slice (some ⟨x4.heap.size + 1, 0, none⟩) 3 3, .slice (some ⟨x4.heap.size + 2, 0, none⟩) 1 1, .slice (some ⟨x4.heap.size + 4, 0, none⟩) 2 2, .slice (some ⟨x4.heap.size + 5, 0, none⟩) 3 3] 37)).alloc (.cells #[.slice (some ⟨x5.heap.size + 1, 0, none⟩) 3 3, .slice (some ⟨x5.heap.size + 2, 0, none⟩) 1 1, .slice (some ⟨x5.heap.size + 4, 0, none⟩) 2 2, .slice (some ⟨x5.heap.size + 5, 0, none⟩) 3 3] 37)) = V := ⟨_, rfl⟩
  rw [hV] at D1 D2 D3 D4 D5 D6 T1 T2 T3 T4 T5 T6 hB ⊢
  clear hV U
  have c1 := fun i => D1.cell i
  have c2 := fun i => T1.st.cell i
  have f2 := fun i => T1.st.free i
  have HT1 := Lib.hid T1.lay
  have HT2 := Lib.hid T2.lay
  have HT3 := Lib.hid T3.lay
  have HT4 := Lib.hid T4.lay
  have HT5 := Lib.hid T5.lay
  have HT6 := Lib.hid T6.lay
  have HD1 := Lib.hid D1
  have HD2 := Lib.hid D2
  have HD3 := Lib.hid D3
  have HD4 := Lib.hid D4
  have HD5 := Lib.hid D5
  have HD6 := Lib.hid D6
  have HB := Lib.hid hB
  have hne : ¬ w1.heap.size + 1 = x6.heap.size := by omega
  have hne' : ¬ x6.heap.size = w1.heap.size + 1 := by omega
  clear T1 T2 T3 T4 T5 T6 D1 D2 D3 D4 D5 D6 hB
  go_region
  have O := ((Only.set V (w1.heap.size + 1) 8 (iv 30)).trans (Only.set _ (w1.heap.size + 1) 9 (iv 10))).drew
  have L1 : Lay w1.heap.size #[iv 10, iv 10, iv 100, iv 1, iv 30, iv 10, iv 200, iv 1, iv 30, iv 10, iv 50, iv 2] _ _ _ _ ((V.setCell ⟨w1.heap.size + 1, 8, none⟩ (iv 30)).setCell ⟨w1.heap.size + 1, 9, none⟩ (iv 10)).drew :=
    ⟨((HT1.out.st.put 8 (iv 30)).put 9 (iv 10)).drew, HT1.out.rg.only O (by omega), HT1.out.cl.only O (by omega), HT1.out.cs.only O (by omega), HT1.out.sn.only O (by omega)⟩
  have L2 := HT2.out.only O (by omega)
  have L3 := HT3.out.only O (by omega)
  have L4 := HT4.out.only O (by omega)
  have L5 := HT5.out.only O (by omega)
  have L6 := HT6.out.only O (by omega)
  have D1 := HD1.out.only O (by omega)
  have D2 := HD2.out.only O (by omega)
  have D3 := HD3.out.only O (by omega)
  have D4 := HD4.out.only O (by omega)
  have D5 := HD5.out.only O (by omega)
  have D6 := HD6.out.only O (by omega)
  have hB := up_drew (up_put (up_put HB.out (p := ⟨w1.heap.size + 1, 8, none⟩) (by simp; omega) (iv 30)) (p := ⟨w1.heap.size + 1, 9, none⟩) (by simp; omega) (iv 10))
  obtain ⟨V1, hV⟩ : ∃ V1, ((V.setCell ⟨w1.heap.size + 1, 8, none⟩ (iv 30)).setCell ⟨w1.heap.size + 1, 9, none⟩ (iv 10)).drew = V1 := ⟨_, rfl⟩
  rw [hV] at L1 L2 L3 L4 L5 L6 D1 D2 D3 D4 D5 D6 hB ⊢
  clear hV O HT1 HT2 HT3 HT4 HT5 HT6 HD1 HD2 HD3 HD4 HD5 HD6 HB c1 c2 f2 hne hne'
  have D2a := D2.alloc (.cells #[.slice none 0 0, .slice none 0 0, .slice none 0 0, .slice none 0 0, .slice none 0 0] 71)
  have c2 := fun i => D2a.cell i
  have f2 := fun i => D2a.free i
  have hm : ∀ w, (Instr.makeSlice 34 (.int .i64 5) (.int .i64 5)).run Try.prog w = .ok (.slice (some ⟨w.heap.size, 0, none⟩) 5 5) (w.alloc (.cells #[.slice none 0 0, .slice none 0 0, .slice none 0 0, .slice none 0 0, .slice none 0 0] 71)) := fun w => by kernel_rfl
  have zV : x6.heap.size + 5 < V1.heap.size := D6.lt
  have HL1 := Lib.hid L1
  have HL2 := Lib.hid L2
  have HL3 := Lib.hid L3
  have HL4 := Lib.hid L4
  have HL5 := Lib.hid L5
  have HL6 := Lib.hid L6
  have HD1 := Lib.hid D1
  have HD2 := Lib.hid D2
  have HD3 := Lib.hid D3
  have HD4 := Lib.hid D4
  have HD5 := Lib.hid D5
  have HD6 := Lib.hid D6
  have HB := Lib.hid hB
  clear L1 L2 L3 L4 L5 L6 D1 D2 D3 D4 D5 D6 hB
  go_upto_region 20 with fail
  clear c2 f2 hm D2a
  have U := up_alloc (up0 (w := V1)) (.cells #[.slice none 0 0, .slice none 0 0, .slice none 0 0, .slice none 0 0, .slice none 0 0] 71)
  have O := Only.set (V1.alloc (.cells #[.slice none 0 0, .slice none 0 0, .slice none 0 0, .slice none 0 0, .slice none 0 0] 71)) (x6.heap.size + 1) 2 (.slice (some ⟨V1.heap.size, 0, none⟩) 5 5)
  have M : Box ((V1.alloc (.cells #[.slice none 0 0, .slice none 0 0, .slice none 0 0, .slice none 0 0, .slice none 0 0] 71)).setCell ⟨x6.heap.size + 1, 2, none⟩ (.slice (some ⟨V1.heap.size, 0, none⟩) 5 5)) V1.heap.size 71 #[.slice none 0 0, .slice none 0 0, .slice none 0 0, .slice none 0 0, .slice none 0 0] := (Box.new rfl).only O (by omega)
  have L1 := (HL1.out.kept U).only O (by omega)
  have L2 := (HL2.out.kept U).only O (by omega)
  have L3 := (HL3.out.kept U).only O (by omega)
  have L4 := (HL4.out.kept U).only O (by omega)
  have L5 := (HL5.out.kept U).only O (by omega)
  have L6 := (HL6.out.kept U).only O (by omega)
  have D1 := (HD1.out.kept U).only O (by omega)
  have D2 : Box ((V1.alloc (.cells #[.slice none 0 0, .slice none 0 0, .slice none 0 0, .slice none 0 0, .slice none 0 0] 71)).setCell ⟨x6.heap.size + 1, 2, none⟩ (.slice (some ⟨V1.heap.size, 0, none⟩) 5 5)) (x6.heap.size + 1) 37 #[.slice (some ⟨x1.heap.size + 1, 0, none⟩) 3 3, .slice (some ⟨x1.heap.size + 2, 0, none⟩) 1 1, .slice (some ⟨V1.heap.size, 0, none⟩) 5 5, .slice (some ⟨x1.heap.size + 5, 0, none⟩) 3 3] := (HD2.out.kept U).put 2 (.slice (some ⟨V1.heap.size, 0, none⟩) 5 5)
  have D3 := (HD3.out.kept U).only O (by omega)
  have D4 := (HD4.out.kept U).only O (by omega)
  have D5 := (HD5.out.kept U).only O (by omega)
  have D6 := (HD6.out.kept U).only O (by omega)
  have hB := up_put (up_later HB.out U) (p := ⟨x6.heap.size + 1, 2, none⟩) (by simp; omega) (.slice (some ⟨V1.heap.size, 0, none⟩) 5 5)
  obtain ⟨V2, hV⟩ : ∃ V2, ((V1.alloc (.cells #[.slice none 0 0, .slice none 0 0, .slice none 0 0, .slice none 0 0, .slice none 0 0] 71)).setCell ⟨x6.heap.size + 1, 2, none⟩ (.slice (some ⟨V1.heap.size, 0, none⟩) 5 5)) = V2 := ⟨_, rfl⟩
  rw [hV] at L1 L2 L3 L4 L5 L6 D1 D2 D3 D4 D5 D6 hB M ⊢
  clear hV O HL1 HL2 HL3 HL4 HL5 HL6 HD1 HD2 HD3 HD4 HD5 HD6 HB U
  have c3 := fun i => D3.cell i
  have e3 := fun i => L3.st.cell i
  have f3 := fun i => L3.st.free i
  have HL1 := Lib.hid L1
  have HL2 := Lib.hid L2
  have HL3 := Lib.hid L3
  have HL4 := Lib.hid L4
  have HL5 := Lib.hid L5
  have HL6 := Lib.hid L6
  have HD1 := Lib.hid D1
  have HD2 := Lib.hid D2
  have HD3 := Lib.hid D3
  have HD4 := Lib.hid D4
  have HD5 := Lib.hid D5
  have HD6 := Lib.hid D6
  have HB := Lib.hid hB
  clear L1 L2 L3 L4 L5 L6 D1 D2 D3 D4 D5 D6 hB
  have HM := Lib.hid M
  clear M
  go_upto_region 21 with fail
  clear c3 e3 f3
  have O := Only.set V2 (x2.heap.size + 1) 2 (iv 1001)
  have M := HM.out.only O (by omega)
  have L1 := HL1.out.only O (by omega)
  have L2 := HL2.out.only O (by omega)
  have L3 : Lay x2.heap.size #[iv 10, iv 10, iv 1001, iv 1, iv 30, iv 10, iv 200, iv 1, iv 10, iv 30, iv 50, iv 2] _ _ _ _ (V2.setCell ⟨x2.heap.size + 1, 2, none⟩ (iv 1001)) := ⟨HL3.out.st.put 2 (iv 1001), HL3.out.rg.only O (by omega), HL3.out.cl.only O (by omega), HL3.out.cs.only O (by omega), HL3.out.sn.only O (by omega)⟩
  have L4 := HL4.out.only O (by omega)
  have L5 := HL5.out.only O (by omega)
  have L6 := HL6.out.only O (by omega)
  have D1 := HD1.out.only O (by omega)
  have D2 := HD2.out.only O (by omega)
  have D3 := HD3.out.only O (by omega)
  have D4 := HD4.out.only O (by omega)
  have D5 := HD5.out.only O (by omega)
  have D6 := HD6.out.only O (by omega)
  have hB := up_put HB.out (p := ⟨x2.heap.size + 1, 2, none⟩) (by simp; omega) (iv 1001)
  obtain ⟨V3, hV⟩ : ∃ V3, (V2.setCell ⟨x2.heap.size + 1, 2, none⟩ (iv 1001)) = V3 := ⟨_, rfl⟩
  rw [hV] at L1 L2 L3 L4 L5 L6 D1 D2 D3 D4 D5 D6 hB M ⊢
  clear hV O HL1 HL2 HL3 HL4 HL5 HL6 HD1 HD2 HD3 HD4 HD5 HD6 HB HM
  have c3 := fun i => D4.cell i
  have e4 := fun i => L4.cs.cell i
  have e3 := fun i => L4.cl.cell i
  have f3 := fun i => L4.cl.free i
  have HL1 := Lib.hid L1
  have HL2 := Lib.hid L2
  have HL3 := Lib.hid L3
  have HL4 := Lib.hid L4
  have HL5 := Lib.hid L5
  have HL6 := Lib.hid L6
  have HD1 := Lib.hid D1
  have HD2 := Lib.hid D2
  have HD3 := Lib.hid D3
  have HD4 := Lib.hid D4
  have HD5 := Lib.hid D5
  have HD6 := Lib.hid D6
  have HB := Lib.hid hB
  clear L1 L2 L3 L4 L5 L6 D1 D2 D3 D4 D5 D6 hB
  have HM := Lib.hid M
  clear M
  go_upto_region 22 with fail
  clear c3 e4 e3 f3
  have O := Only.set V3 (x3.heap.size + 3) 7 (iv 3)
  have M := HM.out.only O (by omega)
  have L1 := HL1.out.only O (by omega)
  have L2 := HL2.out.only O (by omega)
  have L3 := HL3.out.only O (by omega)
  have L4 : Lay x3.heap.size _ _ #[iv 5, iv 20, iv 25, iv 20, iv 0, iv 80, iv 1, iv 3] _ _ (V3.setCell ⟨x3.heap.size + 3, 7, none⟩ (iv 3)) := ⟨HL4.out.st.only O (by omega), HL4.out.rg.only O (by omega), HL4.out.cl.put 7 (iv 3), HL4.out.cs.only O (by omega), HL4.out.sn.only O (by omega)⟩
  have L5 := HL5.out.only O (by omega)
  have L6 := HL6.out.only O (by omega)
  have D1 := HD1.out.only O (by omega)
  have D2 := HD2.out.only O (by omega)
  have D3 := HD3.out.only O (by omega)
  have D4 := HD4.out.only O (by omega)
  have D5 := HD5.out.only O (by omega)
  have D6 := HD6.out.only O (by omega)
  have hB := up_put HB.out (p := ⟨x3.heap.size + 3, 7, none⟩) (by simp; omega) (iv 3)
  obtain ⟨V4, hV⟩ : ∃ V4, (V3.setCell ⟨x3.heap.size + 3, 7, none⟩ (iv 3)) = V4 := ⟨_, rfl⟩
  rw [hV] at L1 L2 L3 L4 L5 L6 D1 D2 D3 D4 D5 D6 hB M ⊢
  clear hV O HL1 HL2 HL3 HL4 HL5 HL6 HD1 HD2 HD3 HD4 HD5 HD6 HB HM
  have c3 := fun i => D5.cell i
  have e3 := fun i => L5.rg.cell i
  have f3 := fun i => L5.rg.free i
  have HL1 := Lib.hid L1
  have HL2 := Lib.hid L2
  have HL3 := Lib.hid L3
  have HL4 := Lib.hid L4
  have HL5 := Lib.hid L5
  have HL6 := Lib.hid L6
  have HD1 := Lib.hid D1
  have HD2 := Lib.hid D2
  have HD3 := Lib.hid D3
  have HD4 := Lib.hid D4
  have HD5 := Lib.hid D5
  have HD6 := Lib.hid D6
  have HB := Lib.hid hB
  clear L1 L2 L3 L4 L5 L6 D1 D2 D3 D4 D5 D6 hB
  have HM := Lib.hid M
  clear M
  go_upto_region 23 with fail
  clear c3 e3 f3
  have O := Only.set V4 (x4.heap.size + 2) 3 (iv 5)
  have M := HM.out.only O (by omega)
  have L1 := HL1.out.only O (by omega)
  have L2 := HL2.out.only O (by omega)
  have L3 := HL3.out.only O (by omega)
  have L4 := HL4.out.only O (by omega)
  have L5 : Lay x4.heap.size _ #[iv 20, iv 5, iv 20, iv 5, iv 0, iv 149] _ _ _ (V4.setCell ⟨x4.heap.size + 2, 3, none⟩ (iv 5)) := ⟨HL5.out.st.only O (by omega), HL5.out.rg.put 3 (iv 5), HL5.out.cl.only O (by omega), HL5.out.cs.only O (by omega), HL5.out.sn.only O (by omega)⟩
  have L6 := HL6.out.only O (by omega)
  have D1 := HD1.out.only O (by omega)
  have D2 := HD2.out.only O (by omega)
  have D3 := HD3.out.only O (by omega)
  have D4 := HD4.out.only O (by omega)
  have D5 := HD5.out.only O (by omega)
  have D6 := HD6.out.only O (by omega)
  have hB := up_put HB.out (p := ⟨x4.heap.size + 2, 3, none⟩) (by simp; omega) (iv 5)
  obtain ⟨V5, hV⟩ : ∃ V5, (V4.setCell ⟨x4.heap.size + 2, 3, none⟩ (iv 5)) = V5 := ⟨_, rfl⟩
  rw [hV] at L1 L2 L3 L4 L5 L6 D1 D2 D3 D4 D5 D6 hB M ⊢
  clear hV O HL1 HL2 HL3 HL4 HL5 HL6 HD1 HD2 HD3 HD4 HD5 HD6 HB HM
  have c3 := fun i => D6.cell i
  have e3 := fun i => L6.rg.cell i
  have f3 := fun i => L6.rg.free i
  have O := Only.set V5 (x5.heap.size + 2) 4 (iv 1)
  have MM := M.only O (by omega)
  have K1 := L1.only O (by omega)
  have K2 := L2.only O (by omega)
  have K3 := L3.only O (by omega)
  have K4 := L4.only O (by omega)
  have K5 := L5.only O (by omega)
  have K6 : Lay x5.heap.size _ #[iv 20, iv 5, iv 20, iv 15, iv 1, iv 149] _ _ _ (V5.setCell ⟨x5.heap.size + 2, 4, none⟩ (iv 1)) := ⟨L6.st.only O (by omega), L6.rg.put 4 (iv 1), L6.cl.only O (by omega), L6.cs.only O (by omega), L6.sn.only O (by omega)⟩
  have F1 := D1.only O (by omega)
  have F2 := D2.only O (by omega)
  have F3 := D3.only O (by omega)
  have F4 := D4.only O (by omega)
  have F5 := D5.only O (by omega)
  have F6 := D6.only O (by omega)
  have hB6 := up_put hB (p := ⟨x5.heap.size + 2, 4, none⟩) (by simp; omega) (iv 1)
  have Q1 := Lay.land [⟨10, 10, 100, 1⟩, ⟨30, 10, 200, 1⟩, ⟨30, 10, 50, 2⟩] [⟨20, 5, 20, 15, 0, 149⟩] [⟨⟨5, 20, 25, 20, 0, 80⟩, 1, 2⟩] [⟨50, 0, 0⟩, ⟨50, 0, 20⟩, ⟨-50, 0, 30⟩] K1 rfl rfl rfl rfl
  have Q2 := Lay.five [⟨10, 10, 100, 1⟩, ⟨30, 10, 200, 1⟩, ⟨10, 30, 50, 2⟩] [⟨20, 5, 20, 15, 0, 149⟩] [⟨⟨5, 20, 25, 20, 0, 80⟩, 1, 2⟩] [⟨50, 0, 0⟩, ⟨50, 0, 20⟩, ⟨-50, 0, 30⟩] K2 MM rfl rfl rfl
  have Q3 := Lay.land [⟨10, 10, 1001, 1⟩, ⟨30, 10, 200, 1⟩, ⟨10, 30, 50, 2⟩] [⟨20, 5, 20, 15, 0, 149⟩] [⟨⟨5, 20, 25, 20, 0, 80⟩, 1, 2⟩] [⟨50, 0, 0⟩, ⟨50, 0, 20⟩, ⟨-50, 0, 30⟩] K3 rfl rfl rfl rfl
  have Q4 := Lay.land [⟨10, 10, 100, 1⟩, ⟨30, 10, 200, 1⟩, ⟨10, 30, 50, 2⟩] [⟨20, 5, 20, 15, 0, 149⟩] [⟨⟨5, 20, 25, 20, 0, 80⟩, 1, 3⟩] [⟨50, 0, 0⟩, ⟨50, 0, 20⟩, ⟨-50, 0, 30⟩] K4 rfl rfl rfl rfl
  have Q5 := Lay.land [⟨10, 10, 100, 1⟩, ⟨30, 10, 200, 1⟩, ⟨10, 30, 50, 2⟩] [⟨20, 5, 20, 5, 0, 149⟩] [⟨⟨5, 20, 25, 20, 0, 80⟩, 1, 2⟩] [⟨50, 0, 0⟩, ⟨50, 0, 20⟩, ⟨-50, 0, 30⟩] K5 rfl rfl rfl rfl
  have Q6 := Lay.land [⟨10, 10, 100, 1⟩, ⟨30, 10, 200, 1⟩, ⟨10, 30, 50, 2⟩] [⟨20, 5, 20, 15, 1, 149⟩] [⟨⟨5, 20, 25, 20, 0, 80⟩, 1, 2⟩] [⟨50, 0, 0⟩, ⟨50, 0, 20⟩, ⟨-50, 0, 30⟩] K6 rfl rfl rfl rfl
  have HQ1 := Lib.hid Q1
  have HQ2 := Lib.hid Q2
  have HQ3 := Lib.hid Q3
  have HQ4 := Lib.hid Q4
  have HQ5 := Lib.hid Q5
  have HQ6 := Lib.hid Q6
  have HF1 := Lib.hid F1
  have HF2 := Lib.hid F2
  have HF3 := Lib.hid F3
  have HF4 := Lib.hid F4
  have HF5 := Lib.hid F5
  have HF6 := Lib.hid F6
  have HB := Lib.hid hB6
  clear L1 D1 K1 Q1 L2 D2 K2 Q2 L3 D3 K3 Q3 L4 D4 K4 Q4 L5 D5 K5 Q5 L6 D6 K6 Q6 hB M MM O
  have g1 := fun i => F1.cell i
  clear F1 F2 F3 F4 F5 F6 hB6
  have ne1 : ¬ x5.heap.size + 2 = x6.heap.size := by omega
  have ne2 : ¬ x6.heap.size = x5.heap.size + 2 := by omega
  go_wp2_with fail
  clear c3 e3 f3 g1 ne1 ne2
  have A1 := CheckLand_any _ _ _ _ _ _ _ HQ1.out
  rw [nc1] at A1
  refine A1.mono ?_
  rintro e y1 ⟨rfl, hb⟩
  clear A1
  have HQ2 := Lib.hid (HQ2.out.kept hb)
  have HF2 := Lib.hid (HF2.out.kept hb)
  have HQ3 := Lib.hid (HQ3.out.kept hb)
  have HF3 := Lib.hid (HF3.out.kept hb)
  have HQ4 := Lib.hid (HQ4.out.kept hb)
  have HF4 := Lib.hid (HF4.out.kept hb)
  have HQ5 := Lib.hid (HQ5.out.kept hb)
  have HF5 := Lib.hid (HF5.out.kept hb)
  have HQ6 := Lib.hid (HQ6.out.kept hb)
  have HF6 := Lib.hid (HF6.out.kept hb)
  have HB := Lib.hid (up_later HB.out hb)
  have F := HF2.out
  have g := fun i => F.cell i
  clear F hb
  go_wp2_with fail
  clear g
  have A1 := CheckLand_any _ _ _ _ _ _ _ HQ2.out
  rw [nc2] at A1
  refine A1.mono ?_
  rintro e y2 ⟨rfl, hb⟩
  clear A1
  have HQ3 := Lib.hid (HQ3.out.kept hb)
  have HF3 := Lib.hid (HF3.out.kept hb)
  have HQ4 := Lib.hid (HQ4.out.kept hb)
  have HF4 := Lib.hid (HF4.out.kept hb)
  have HQ5 := Lib.hid (HQ5.out.kept hb)
  have HF5 := Lib.hid (HF5.out.kept hb)
  have HQ6 := Lib.hid (HQ6.out.kept hb)
  have HF6 := Lib.hid (HF6.out.kept hb)
  have HB := Lib.hid (up_later HB.out hb)
  have F := HF3.out
  have g := fun i => F.cell i
  clear F hb
  go_wp2_with fail
  clear g
  have A1 := CheckLand_any _ _ _ _ _ _ _ HQ3.out
  rw [nc3] at A1
  refine A1.mono ?_
  rintro e y3 ⟨rfl, hb⟩
  clear A1
  have HQ4 := Lib.hid (HQ4.out.kept hb)
  have HF4 := Lib.hid (HF4.out.kept hb)
  have HQ5 := Lib.hid (HQ5.out.kept hb)
  have HF5 := Lib.hid (HF5.out.kept hb)
  have HQ6 := Lib.hid (HQ6.out.kept hb)
  have HF6 := Lib.hid (HF6.out.kept hb)
  have HB := Lib.hid (up_later HB.out hb)
  have F := HF4.out
  have g := fun i => F.cell i
  clear F hb
  go_wp2_with fail
  clear g
  have A1 := CheckLand_any _ _ _ _ _ _ _ HQ4.out
  rw [nc4] at A1
  refine A1.mono ?_
  rintro e y4 ⟨rfl, hb⟩
  clear A1
  have HQ5 := Lib.hid (HQ5.out.kept hb)
  have HF5 := Lib.hid (HF5.out.kept hb)
  have HQ6 := Lib.hid (HQ6.out.kept hb)
  have HF6 := Lib.hid (HF6.out.kept hb)
  have HB := Lib.hid (up_later HB.out hb)
  have F := HF5.out
  have g := fun i => F.cell i
  clear F hb
  go_wp2_with fail
  clear g
  have A1 := CheckLand_any _ _ _ _ _ _ _ HQ5.out
  rw [nc5] at A1
  refine A1.mono ?_
  rintro e y5 ⟨rfl, hb⟩
  clear A1
  have HQ6 := Lib.hid (HQ6.out.kept hb)
  have HF6 := Lib.hid (HF6.out.kept hb)
  have HB := Lib.hid (up_later HB.out hb)
  have F := HF6.out
  have g := fun i => F.cell i
  clear F hb
  go_wp2_with fail
  clear g
  have A1 := CheckLand_any _ _ _ _ _ _ _ HQ6.out
  rw [nc6] at A1
  refine A1.mono ?_
  rintro e y6 ⟨rfl, hb⟩
  clear A1
  have HB := Lib.hid (up_later HB.out hb)
  clear hb
  go_wp2_with fail
  have A1 := CheckLand_any _ _ _ _ _ _ y6 (LandAt.empty y6)
  rw [nc7] at A1
  refine A1.mono ?_
  rintro e y7 ⟨rfl, hb⟩
  have HB := Lib.hid (up_later HB.out hb)
  clear A1 hb
  go_wp2_with fail
  refine (awake_any _).mono ?_
  rintro e y8 ⟨rfl, hb⟩
  have HB := Lib.hid (up_later HB.out hb)
  clear hb
  go_wp2_with fail
  go_ret
  exact ⟨by simp [go_sem], HB.out⟩

end Go.Proofs.Ytpmhhdhkhhlfpaa
