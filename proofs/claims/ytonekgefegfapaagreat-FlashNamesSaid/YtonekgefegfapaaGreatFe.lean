/-
  WALKS of (lines).after. Conditions: the place lies in both strings.
-/
import Derived.Test.YtonekgefegfapaaGreatFd
import Derived.Test.YtonekgefegfapaaGreatRf
import Derived.Laws.EntriesVeiled
namespace Go.Proofs.YtonekgefegfapaaGreat
open Go.RowKit

def aftV (o : Option (Nat × Nat)) : Value := match o with
  | some (a, b) => .tuple #[.agg #[iv a, iv b], .bool true]
  | none => .tuple #[.agg #[iv 0, iv 0], .bool false]
theorem extract_rest (s : ByteArray) (i : Nat) : (s.extract i s.size).data.toList = s.data.toList.drop i := by
  rw [Lib.extract_data, List.take_of_length_le (by rw [List.length_drop, Lib.size_eq]; exact Nat.le_refl _)]
theorem HasPrefix_b (s p : ByteArray) (c : Bool) (w : World) (h : Lib.hasPrefix s.data.toList p.data.toList = c) : Calls Tryz.prog 113 #[.string s, .string p] w fun e w' => e = .returned (.bool c) ∧ Below w.heap.size w w' :=
  (HasPrefix_any s p w).mono fun e w' ⟨h1, h2⟩ => ⟨by rw [h1, h], h2 ▸ Below.refl _ _⟩
theorem writes_in (k : Nat) (l : By) : (writesL k l).length ≤ 2 := by
  rcases k with _ | _ | _ | _ | _ | _ | k <;> simp [writesL] <;> omega
set_option maxRecDepth 100000 in
set_option maxHeartbeats 1000000 in
theorem after0_any (g i j : Nat) (s r : ByteArray) (w : World) (h : Box w g 137 (linesC s r)) (hi : i ≤ s.size) (hj : j ≤ r.size) (hs9 : s.size ≤ 1000) (hr9 : r.size ≤ 1000) :
    Calls Tryz.prog 85 #[.pointer (some ⟨g, 0, none⟩), .agg #[iv i, iv j], iv 0] w fun e w' => e = .returned (aftV (aftI s.data.toList r.data.toList (i, j) 0)) ∧ Below w.heap.size w w' := by
  have hl := h.lt
  have N := (h.alloc (.cells #[iv i, iv j] 89)).alloc (.cells #[iv 0, iv 0] 89)
  have q0 : _ = some (sv s) := N.cell 0
  have p0 : ∀ o, _ = some (sv s) := fun o => (N.alloc o).cell 0
  have q1 : _ = some (sv r) := N.cell 1
  have p1 : ∀ o, _ = some (sv r) := fun o => (N.alloc o).cell 1
  have q2 : _ = some (fnV 102) := N.cell 2
  have p2 : ∀ o, _ = some (fnV 102) := fun o => (N.alloc o).cell 2
  have q3 : _ = some (fnV 103) := N.cell 3
  have p3 : ∀ o, _ = some (fnV 103) := fun o => (N.alloc o).cell 3
  have q4 : _ = some (iv 1) := N.cell 4
  have p4 : ∀ o, _ = some (iv 1) := fun o => (N.alloc o).cell 4
  have q5 : _ = some (iv 0) := N.cell 5
  have p5 : ∀ o, _ = some (iv 0) := fun o => (N.alloc o).cell 5
  have i0 : (0 : Int) ≤ (i : Int) := by omega
  have i1 : (i : Int) ≤ (s.size : Int) := by omega
  have j0 : (0 : Int) ≤ (j : Int) := by omega
  have j1 : (j : Int) ≤ (r.size : Int) := by omega
  unfold fnV at q2 q3 p2 p3
  have HN := Lib.hid h
  clear h N
  go_enter Tryz.func85, Tryz.ntmps85
  go_wp2_with fail
  go_region
  clear q0 q1 q2 q3 q4 q5 p0 p1 p2 p3 p4 p5
  obtain ⟨W, hW⟩ : ∃ W, (((w.alloc (.cells #[iv i, iv j] 89)).alloc (.cells #[iv 0, iv 0] 89)).alloc (.cells #[.func (.func 102) #[] #[], .func (.func 103) #[] #[], iv 1, iv 0] 133)).drew = W := ⟨_, rfl⟩
  have M1 : Box W w.heap.size 89 #[iv i, iv j] := hW ▸ (((Box.new rfl).alloc _).alloc _).drew
  have M2 : Box W (w.heap.size + 1) 89 #[iv 0, iv 0] := hW ▸ ((Box.new (by simp)).alloc _).drew
  have M3 : Box W (w.heap.size + 1 + 1) 133 #[.func (.func 102) #[] #[], .func (.func 103) #[] #[], iv 1, iv 0] := hW ▸ (Box.new (by simp)).drew
  have HB : Below w.heap.size w W := hW ▸ up_drew (up_alloc (up_alloc (up_alloc up0 _) _) _)
  have M0 := HN.out.kept HB
  have hWs := HB.size
  rw [hW]
  clear hW
  have c3 := fun i => M3.cell i
  have c2 := fun i => M2.cell i
  have f2 := fun i => M2.free i
  have l2 := M2.lt
  have hx := extract_rest s i
  go_wp2_with fail
  refine (some_any _ _).mono ?_
  rintro e w1 ⟨rfl, rfl⟩
  rw [hx]
  cases hn : needsB 0 (s.data.toList.drop i) with
  | false =>
    have Hr := Lib.hid (show aftI s.data.toList r.data.toList (i, j) 0 = none by unfold aftI; rw [hn]; rfl)
    clear hn
    go_wp2_with fail
    refine bodyPost_ret (v := .tuple #[.agg #[iv 0, iv 0], .bool false]) (results_cell_tmp rfl rfl rfl (Box.put2 M2) (d := .struct (Tryz.prog.fieldsOf 89)) (by kernel_rfl) rfl (by kernel_rfl)) rfl ⟨by rw [Hr.out]; rfl, ?_⟩
    exact up_put (up_put HB (by simp) _) (by simp) _
  | true =>
    go_wp2_with fail
    refine (same_any' (s.extract i s.size) _ (by rw [Lib.size_eq, hx]; simpa [needsB] using hn)).mono ?_
    rintro e w2 ⟨t, rfl, ht, rfl⟩
    rw [hx] at ht
    obtain ⟨n, hn9⟩ : ∃ n, (writesL 0 (s.data.toList.drop i)).length = n := ⟨_, rfl⟩
    have hts : t.size = n := by rw [Lib.size_eq, ht, hn9]
    have hn2 : n ≤ 2 := by rw [← hn9]; exact writes_in _ _
    have hy := extract_rest r j
    have c1 := fun i => M1.cell i
    cases hp : Lib.hasPrefix (r.data.toList.drop j) (writesL 0 (s.data.toList.drop i)) with
    | false =>
      have HP := Lib.hid (show Lib.hasPrefix (r.extract j r.size).data.toList t.data.toList = false by rw [hy, ht, hp])
      have Hr := Lib.hid (show aftI s.data.toList r.data.toList (i, j) 0 = none by unfold aftI; rw [hp, Bool.and_false]; rfl)
      clear hn hp ht hy hx hts hn9 c1 c2 c3 f2 l2
      go_wp2_with fail
      apply wp_region_by 10 [(Fact.eq _), (Fact.eq _), (Fact.eq _), (Fact.eq _), (Fact.eq _), (Fact.eq _), (Fact.eq _), (Fact.eq _), (Fact.eq _), (Fact.eq _)]
      case hm => kernel_rfl
      case hB => kernel_rfl
      case hA => (intro vs; simp only [List.take_succ_cons, List.take_zero, putAll, if_true, Act.put, List.setIfInBounds_toArray, List.set_cons_zero, List.set_cons_succ]; exact rfl)
      case hstep =>
        intro vs
        refine And.intro (fun w hw hd => ?_) ?_
        · refine ite_yes rfl ?_
          simp only [Gives]
          go_simp
          exact ⟨Below.refl _ _, rfl, fun h => by cases h⟩
        refine And.intro (fun w hw hd => ?_) ?_
        · have d0 := hd 0 (by decide) rfl
          change vs 0 = _ at d0
          refine ite_yes rfl ?_
          simp only [Gives]
          go_simp
          exact ⟨Below.refl _ _, rfl, fun h => by cases h⟩
        refine And.intro (fun w hw hd => ?_) ?_
        · have d1 := hd 1 (by decide) rfl
          change vs 1 = _ at d1
          refine ite_yes rfl ?_
          simp only [Gives]
          go_simp
          exact ⟨Below.refl _ _, rfl, fun h => by cases h⟩
        refine And.intro (fun w hw hd => ?_) ?_
        · have d2 := hd 2 (by decide) rfl
          change vs 2 = _ at d2
          refine ite_yes rfl ?_
          have c_M1 := fun i => (M1.kept hw).cell i
          have q1 : w.cell? ⟨g, 1, none⟩ = some (sv r) := (M0.kept hw).cell 1
          simp only [Gives]
          go_simp
          exact ⟨Below.refl _ _, rfl, fun h => by cases h⟩
        refine And.intro (fun w hw hd => ?_) ?_
        · refine ite_yes rfl ?_
          simp only [Gives]
          go_simp
          exact ⟨Below.refl _ _, rfl, fun h => by cases h⟩
        refine And.intro (fun w hw hd => ?_) ?_
        · have d4 := hd 4 (by decide) rfl
          change vs 4 = _ at d4
          refine ite_yes rfl ?_
          have c_M1 := fun i => (M1.kept hw).cell i
          simp only [Gives]
          go_simp
          exact ⟨Below.refl _ _, rfl, fun h => by cases h⟩
        refine And.intro (fun w hw hd => ?_) ?_
        · have d3 := hd 3 (by decide) rfl
          change vs 3 = _ at d3
          have d5 := hd 5 (by decide) rfl
          change vs 5 = _ at d5
          refine ite_yes rfl ?_
          simp only [Gives]
          go_simp
          exact ⟨Below.refl _ _, rfl, fun h => by cases h⟩
        refine And.intro (fun w hw hd => ?_) ?_
        · refine ite_yes rfl ?_
          simp only [Gives]
          go_simp
          exact ⟨Below.refl _ _, rfl, fun h => by cases h⟩
        refine And.intro (fun w hw hd => ?_) ?_
        · have d6 := hd 6 (by decide) rfl
          change vs 6 = _ at d6
          have d7 := hd 7 (by decide) rfl
          change vs 7 = _ at d7
          refine ite_yes rfl ?_
          simp only [Gives]
          go_simp
          refine (HasPrefix_b (r.extract j r.size) t false w HP.out).mono ?_
          rintro e w1 ⟨rfl, hb⟩
          exact ⟨_, rfl, hb, rfl, fun h => by cases h⟩
        refine And.intro (fun w hw hd => ?_) ?_
        · have d8 := hd 8 (by decide) rfl
          change vs 8 = _ at d8
          refine ite_yes rfl ?_
          simp only [Gives]
          go_simp
          exact ⟨Below.refl _ _, rfl, fun h => by cases h⟩
        exact trivial
      intro vs wt hw hd hne hlo
      have d0 := hd 0 (by decide)
      change vs 0 = _ at d0
      have d1 := hd 1 (by decide)
      change vs 1 = _ at d1
      have d2 := hd 2 (by decide)
      change vs 2 = _ at d2
      have d3 := hd 3 (by decide)
      change vs 3 = _ at d3
      have d4 := hd 4 (by decide)
      change vs 4 = _ at d4
      have d5 := hd 5 (by decide)
      change vs 5 = _ at d5
      have d6 := hd 6 (by decide)
      change vs 6 = _ at d6
      have d7 := hd 7 (by decide)
      change vs 7 = _ at d7
      have d8 := hd 8 (by decide)
      change vs 8 = _ at d8
      have d9 := hd 9 (by decide)
      change vs 9 = _ at d9
      simp only [d0, d1, d2, d3, d4, d5, d6, d7, d8, d9, List.drop_succ_cons, List.drop_nil]
      have M1 := M1.kept hw
      have c_M1 := fun i => M1.cell i
      have f_M1 := fun i => M1.free i
      clear hd hne hlo d0 d1 d2 d3 d4 d5 d6 d7 d8 d9
      have N2 := M2.kept hw
      have c2 := fun i => N2.cell i
      have f2 := fun i => N2.free i
      have l2 := N2.lt
      go_wp2_with fail
      refine bodyPost_ret (v := .tuple #[.agg #[iv 0, iv 0], .bool false]) (results_cell_tmp rfl rfl rfl (Box.put2 N2) (d := .struct (Tryz.prog.fieldsOf 89)) (by kernel_rfl) rfl (by kernel_rfl)) rfl ⟨by rw [Hr.out]; rfl, ?_⟩
      exact up_put (up_put (up_later HB hw) (by simp) _) (by simp) _
    | true =>
      have HP := Lib.hid (show Lib.hasPrefix (r.extract j r.size).data.toList t.data.toList = true by rw [hy, ht, hp])
      have Hr := Lib.hid (show aftI s.data.toList r.data.toList (i, j) 0 = some (i + takesN 0, j + n) by unfold aftI; rw [hp, hn, hn9]; rfl)
      clear hn hp ht hy hx hn9 c1 c2 c3 f2 l2
      go_wp2_with fail
      apply wp_region_by 10 [(Fact.eq _), (Fact.eq _), (Fact.eq _), (Fact.eq _), (Fact.eq _), (Fact.eq _), (Fact.eq _), (Fact.eq _), (Fact.eq _), (Fact.eq _)]
      case hm => kernel_rfl
      case hB => kernel_rfl
      case hA => (intro vs; simp only [List.take_succ_cons, List.take_zero, putAll, if_true, Act.put, List.setIfInBounds_toArray, List.set_cons_zero, List.set_cons_succ]; exact rfl)
      case hstep =>
        intro vs
        refine And.intro (fun w hw hd => ?_) ?_
        · refine ite_yes rfl ?_
          simp only [Gives]
          go_simp
          exact ⟨Below.refl _ _, rfl, fun h => by cases h⟩
        refine And.intro (fun w hw hd => ?_) ?_
        · have d0 := hd 0 (by decide) rfl
          change vs 0 = _ at d0
          refine ite_yes rfl ?_
          simp only [Gives]
          go_simp
          exact ⟨Below.refl _ _, rfl, fun h => by cases h⟩
        refine And.intro (fun w hw hd => ?_) ?_
        · have d1 := hd 1 (by decide) rfl
          change vs 1 = _ at d1
          refine ite_yes rfl ?_
          simp only [Gives]
          go_simp
          exact ⟨Below.refl _ _, rfl, fun h => by cases h⟩
        refine And.intro (fun w hw hd => ?_) ?_
        · have d2 := hd 2 (by decide) rfl
          change vs 2 = _ at d2
          refine ite_yes rfl ?_
          have c_M1 := fun i => (M1.kept hw).cell i
          have q1 : w.cell? ⟨g, 1, none⟩ = some (sv r) := (M0.kept hw).cell 1
          simp only [Gives]
          go_simp
          exact ⟨Below.refl _ _, rfl, fun h => by cases h⟩
        refine And.intro (fun w hw hd => ?_) ?_
        · refine ite_yes rfl ?_
          simp only [Gives]
          go_simp
          exact ⟨Below.refl _ _, rfl, fun h => by cases h⟩
        refine And.intro (fun w hw hd => ?_) ?_
        · have d4 := hd 4 (by decide) rfl
          change vs 4 = _ at d4
          refine ite_yes rfl ?_
          have c_M1 := fun i => (M1.kept hw).cell i
          simp only [Gives]
          go_simp
          exact ⟨Below.refl _ _, rfl, fun h => by cases h⟩
        refine And.intro (fun w hw hd => ?_) ?_
        · have d3 := hd 3 (by decide) rfl
          change vs 3 = _ at d3
          have d5 := hd 5 (by decide) rfl
          change vs 5 = _ at d5
          refine ite_yes rfl ?_
          simp only [Gives]
          go_simp
          exact ⟨Below.refl _ _, rfl, fun h => by cases h⟩
        refine And.intro (fun w hw hd => ?_) ?_
        · refine ite_yes rfl ?_
          simp only [Gives]
          go_simp
          exact ⟨Below.refl _ _, rfl, fun h => by cases h⟩
        refine And.intro (fun w hw hd => ?_) ?_
        · have d6 := hd 6 (by decide) rfl
          change vs 6 = _ at d6
          have d7 := hd 7 (by decide) rfl
          change vs 7 = _ at d7
          refine ite_yes rfl ?_
          simp only [Gives]
          go_simp
          refine (HasPrefix_b (r.extract j r.size) t true w HP.out).mono ?_
          rintro e w1 ⟨rfl, hb⟩
          exact ⟨_, rfl, hb, rfl, fun h => by cases h⟩
        refine And.intro (fun w hw hd => ?_) ?_
        · have d8 := hd 8 (by decide) rfl
          change vs 8 = _ at d8
          refine ite_yes rfl ?_
          simp only [Gives]
          go_simp
          exact ⟨Below.refl _ _, rfl, fun h => by cases h⟩
        exact trivial
      intro vs wt hw hd hne hlo
      have d0 := hd 0 (by decide)
      change vs 0 = _ at d0
      have d1 := hd 1 (by decide)
      change vs 1 = _ at d1
      have d2 := hd 2 (by decide)
      change vs 2 = _ at d2
      have d3 := hd 3 (by decide)
      change vs 3 = _ at d3
      have d4 := hd 4 (by decide)
      change vs 4 = _ at d4
      have d5 := hd 5 (by decide)
      change vs 5 = _ at d5
      have d6 := hd 6 (by decide)
      change vs 6 = _ at d6
      have d7 := hd 7 (by decide)
      change vs 7 = _ at d7
      have d8 := hd 8 (by decide)
      change vs 8 = _ at d8
      have d9 := hd 9 (by decide)
      change vs 9 = _ at d9
      simp only [d0, d1, d2, d3, d4, d5, d6, d7, d8, d9, List.drop_succ_cons, List.drop_nil]
      have M1 := M1.kept hw
      have c_M1 := fun i => M1.cell i
      have f_M1 := fun i => M1.free i
      clear hd hne hlo d0 d1 d2 d3 d4 d5 d6 d7 d8 d9
      have N1 := M1
      have N2 := M2.kept hw
      have N3 := M3.kept hw
      have c1 := fun i => N1.cell i
      have c2 := fun i => N2.cell i
      have c3 := fun i => N3.cell i
      have f2 := fun i => N2.free i
      have l2 := N2.lt
      have hW1 : IntKind.i64.wrap ((i : Int) + 1) = (i : Int) + 1 := wrapK_in _ 3000 (by omega) (by omega)
      have hW2 : IntKind.i64.wrap ((j : Int) + (n : Int)) = (j : Int) + (n : Int) := wrapK_in _ 3000 (by omega) (by omega)
      go_wp2_with fail
      refine bodyPost_ret (v := .tuple #[.agg #[iv ((i : Int) + 1), iv ((j : Int) + (n : Int))], .bool true]) (results_cell_tmp rfl rfl rfl (Box.put2 N2) (d := .struct (Tryz.prog.fieldsOf 89)) (by kernel_rfl) rfl (by kernel_rfl)) rfl ⟨by rw [Hr.out]; rfl, ?_⟩
      exact up_put (up_put (up_later HB hw) (by simp) _) (by simp) _
set_option maxRecDepth 100000 in
set_option maxHeartbeats 1000000 in
theorem after1_any (g i j : Nat) (s r : ByteArray) (w : World) (h : Box w g 137 (linesC s r)) (hi : i ≤ s.size) (hj : j ≤ r.size) (hs9 : s.size ≤ 1000) (hr9 : r.size ≤ 1000) :
    Calls Tryz.prog 85 #[.pointer (some ⟨g, 0, none⟩), .agg #[iv i, iv j], iv 1] w fun e w' => e = .returned (aftV (aftI s.data.toList r.data.toList (i, j) 1)) ∧ Below w.heap.size w w' := by
  have hl := h.lt
  have N := (h.alloc (.cells #[iv i, iv j] 89)).alloc (.cells #[iv 0, iv 0] 89)
  have q0 : _ = some (sv s) := N.cell 0
  have p0 : ∀ o, _ = some (sv s) := fun o => (N.alloc o).cell 0
  have q1 : _ = some (sv r) := N.cell 1
  have p1 : ∀ o, _ = some (sv r) := fun o => (N.alloc o).cell 1
  have q2 : _ = some (fnV 104) := N.cell 6
  have p2 : ∀ o, _ = some (fnV 104) := fun o => (N.alloc o).cell 6
  have q3 : _ = some (fnV 105) := N.cell 7
  have p3 : ∀ o, _ = some (fnV 105) := fun o => (N.alloc o).cell 7
  have q4 : _ = some (iv 1) := N.cell 8
  have p4 : ∀ o, _ = some (iv 1) := fun o => (N.alloc o).cell 8
  have q5 : _ = some (iv 1) := N.cell 9
  have p5 : ∀ o, _ = some (iv 1) := fun o => (N.alloc o).cell 9
  have i0 : (0 : Int) ≤ (i : Int) := by omega
  have i1 : (i : Int) ≤ (s.size : Int) := by omega
  have j0 : (0 : Int) ≤ (j : Int) := by omega
  have j1 : (j : Int) ≤ (r.size : Int) := by omega
  unfold fnV at q2 q3 p2 p3
  have HN := Lib.hid h
  clear h N
  go_enter Tryz.func85, Tryz.ntmps85
  go_wp2_with fail
  go_region
  clear q0 q1 q2 q3 q4 q5 p0 p1 p2 p3 p4 p5
  obtain ⟨W, hW⟩ : ∃ W, (((w.alloc (.cells #[iv i, iv j] 89)).alloc (.cells #[iv 0, iv 0] 89)).alloc (.cells #[.func (.func 104) #[] #[], .func (.func 105) #[] #[], iv 1, iv 1] 133)).drew = W := ⟨_, rfl⟩
  have M1 : Box W w.heap.size 89 #[iv i, iv j] := hW ▸ (((Box.new rfl).alloc _).alloc _).drew
  have M2 : Box W (w.heap.size + 1) 89 #[iv 0, iv 0] := hW ▸ ((Box.new (by simp)).alloc _).drew
  have M3 : Box W (w.heap.size + 1 + 1) 133 #[.func (.func 104) #[] #[], .func (.func 105) #[] #[], iv 1, iv 1] := hW ▸ (Box.new (by simp)).drew
  have HB : Below w.heap.size w W := hW ▸ up_drew (up_alloc (up_alloc (up_alloc up0 _) _) _)
  have M0 := HN.out.kept HB
  have hWs := HB.size
  rw [hW]
  clear hW
  have c3 := fun i => M3.cell i
  have c2 := fun i => M2.cell i
  have f2 := fun i => M2.free i
  have l2 := M2.lt
  have hx := extract_rest s i
  go_wp2_with fail
  refine (flash_any _ _).mono ?_
  rintro e w1 ⟨rfl, rfl⟩
  rw [hx]
  cases hn : needsB 1 (s.data.toList.drop i) with
  | false =>
    have Hr := Lib.hid (show aftI s.data.toList r.data.toList (i, j) 1 = none by unfold aftI; rw [hn]; rfl)
    clear hn
    go_wp2_with fail
    refine bodyPost_ret (v := .tuple #[.agg #[iv 0, iv 0], .bool false]) (results_cell_tmp rfl rfl rfl (Box.put2 M2) (d := .struct (Tryz.prog.fieldsOf 89)) (by kernel_rfl) rfl (by kernel_rfl)) rfl ⟨by rw [Hr.out]; rfl, ?_⟩
    exact up_put (up_put HB (by simp) _) (by simp) _
  | true =>
    go_wp2_with fail
    refine (nothing1_any _ _).mono ?_
    rintro e w2 ⟨t, rfl, ht, rfl⟩
    rw [hx] at ht
    obtain ⟨n, hn9⟩ : ∃ n, (writesL 1 (s.data.toList.drop i)).length = n := ⟨_, rfl⟩
    have hts : t.size = n := by rw [Lib.size_eq, ht, hn9]
    have hn2 : n ≤ 2 := by rw [← hn9]; exact writes_in _ _
    have hy := extract_rest r j
    have c1 := fun i => M1.cell i
    cases hp : Lib.hasPrefix (r.data.toList.drop j) (writesL 1 (s.data.toList.drop i)) with
    | false =>
      have HP := Lib.hid (show Lib.hasPrefix (r.extract j r.size).data.toList t.data.toList = false by rw [hy, ht, hp])
      have Hr := Lib.hid (show aftI s.data.toList r.data.toList (i, j) 1 = none by unfold aftI; rw [hp, Bool.and_false]; rfl)
      clear hn hp ht hy hx hts hn9 c1 c2 c3 f2 l2
      go_wp2_with fail
      apply wp_region_by 10 [(Fact.eq _), (Fact.eq _), (Fact.eq _), (Fact.eq _), (Fact.eq _), (Fact.eq _), (Fact.eq _), (Fact.eq _), (Fact.eq _), (Fact.eq _)]
      case hm => kernel_rfl
      case hB => kernel_rfl
      case hA => (intro vs; simp only [List.take_succ_cons, List.take_zero, putAll, if_true, Act.put, List.setIfInBounds_toArray, List.set_cons_zero, List.set_cons_succ]; exact rfl)
      case hstep =>
        intro vs
        refine And.intro (fun w hw hd => ?_) ?_
        · refine ite_yes rfl ?_
          simp only [Gives]
          go_simp
          exact ⟨Below.refl _ _, rfl, fun h => by cases h⟩
        refine And.intro (fun w hw hd => ?_) ?_
        · have d0 := hd 0 (by decide) rfl
          change vs 0 = _ at d0
          refine ite_yes rfl ?_
          simp only [Gives]
          go_simp
          exact ⟨Below.refl _ _, rfl, fun h => by cases h⟩
        refine And.intro (fun w hw hd => ?_) ?_
        · have d1 := hd 1 (by decide) rfl
          change vs 1 = _ at d1
          refine ite_yes rfl ?_
          simp only [Gives]
          go_simp
          exact ⟨Below.refl _ _, rfl, fun h => by cases h⟩
        refine And.intro (fun w hw hd => ?_) ?_
        · have d2 := hd 2 (by decide) rfl
          change vs 2 = _ at d2
          refine ite_yes rfl ?_
          have c_M1 := fun i => (M1.kept hw).cell i
          have q1 : w.cell? ⟨g, 1, none⟩ = some (sv r) := (M0.kept hw).cell 1
          simp only [Gives]
          go_simp
          exact ⟨Below.refl _ _, rfl, fun h => by cases h⟩
        refine And.intro (fun w hw hd => ?_) ?_
        · refine ite_yes rfl ?_
          simp only [Gives]
          go_simp
          exact ⟨Below.refl _ _, rfl, fun h => by cases h⟩
        refine And.intro (fun w hw hd => ?_) ?_
        · have d4 := hd 4 (by decide) rfl
          change vs 4 = _ at d4
          refine ite_yes rfl ?_
          have c_M1 := fun i => (M1.kept hw).cell i
          simp only [Gives]
          go_simp
          exact ⟨Below.refl _ _, rfl, fun h => by cases h⟩
        refine And.intro (fun w hw hd => ?_) ?_
        · have d3 := hd 3 (by decide) rfl
          change vs 3 = _ at d3
          have d5 := hd 5 (by decide) rfl
          change vs 5 = _ at d5
          refine ite_yes rfl ?_
          simp only [Gives]
          go_simp
          exact ⟨Below.refl _ _, rfl, fun h => by cases h⟩
        refine And.intro (fun w hw hd => ?_) ?_
        · refine ite_yes rfl ?_
          simp only [Gives]
          go_simp
          exact ⟨Below.refl _ _, rfl, fun h => by cases h⟩
        refine And.intro (fun w hw hd => ?_) ?_
        · have d6 := hd 6 (by decide) rfl
          change vs 6 = _ at d6
          have d7 := hd 7 (by decide) rfl
          change vs 7 = _ at d7
          refine ite_yes rfl ?_
          simp only [Gives]
          go_simp
          refine (HasPrefix_b (r.extract j r.size) t false w HP.out).mono ?_
          rintro e w1 ⟨rfl, hb⟩
          exact ⟨_, rfl, hb, rfl, fun h => by cases h⟩
        refine And.intro (fun w hw hd => ?_) ?_
        · have d8 := hd 8 (by decide) rfl
          change vs 8 = _ at d8
          refine ite_yes rfl ?_
          simp only [Gives]
          go_simp
          exact ⟨Below.refl _ _, rfl, fun h => by cases h⟩
        exact trivial
      intro vs wt hw hd hne hlo
      have d0 := hd 0 (by decide)
      change vs 0 = _ at d0
      have d1 := hd 1 (by decide)
      change vs 1 = _ at d1
      have d2 := hd 2 (by decide)
      change vs 2 = _ at d2
      have d3 := hd 3 (by decide)
      change vs 3 = _ at d3
      have d4 := hd 4 (by decide)
      change vs 4 = _ at d4
      have d5 := hd 5 (by decide)
      change vs 5 = _ at d5
      have d6 := hd 6 (by decide)
      change vs 6 = _ at d6
      have d7 := hd 7 (by decide)
      change vs 7 = _ at d7
      have d8 := hd 8 (by decide)
      change vs 8 = _ at d8
      have d9 := hd 9 (by decide)
      change vs 9 = _ at d9
      simp only [d0, d1, d2, d3, d4, d5, d6, d7, d8, d9, List.drop_succ_cons, List.drop_nil]
      have M1 := M1.kept hw
      have c_M1 := fun i => M1.cell i
      have f_M1 := fun i => M1.free i
      clear hd hne hlo d0 d1 d2 d3 d4 d5 d6 d7 d8 d9
      have N2 := M2.kept hw
      have c2 := fun i => N2.cell i
      have f2 := fun i => N2.free i
      have l2 := N2.lt
      go_wp2_with fail
      refine bodyPost_ret (v := .tuple #[.agg #[iv 0, iv 0], .bool false]) (results_cell_tmp rfl rfl rfl (Box.put2 N2) (d := .struct (Tryz.prog.fieldsOf 89)) (by kernel_rfl) rfl (by kernel_rfl)) rfl ⟨by rw [Hr.out]; rfl, ?_⟩
      exact up_put (up_put (up_later HB hw) (by simp) _) (by simp) _
    | true =>
      have HP := Lib.hid (show Lib.hasPrefix (r.extract j r.size).data.toList t.data.toList = true by rw [hy, ht, hp])
      have Hr := Lib.hid (show aftI s.data.toList r.data.toList (i, j) 1 = some (i + takesN 1, j + n) by unfold aftI; rw [hp, hn, hn9]; rfl)
      clear hn hp ht hy hx hn9 c1 c2 c3 f2 l2
      go_wp2_with fail
      apply wp_region_by 10 [(Fact.eq _), (Fact.eq _), (Fact.eq _), (Fact.eq _), (Fact.eq _), (Fact.eq _), (Fact.eq _), (Fact.eq _), (Fact.eq _), (Fact.eq _)]
      case hm => kernel_rfl
      case hB => kernel_rfl
      case hA => (intro vs; simp only [List.take_succ_cons, List.take_zero, putAll, if_true, Act.put, List.setIfInBounds_toArray, List.set_cons_zero, List.set_cons_succ]; exact rfl)
      case hstep =>
        intro vs
        refine And.intro (fun w hw hd => ?_) ?_
        · refine ite_yes rfl ?_
          simp only [Gives]
          go_simp
          exact ⟨Below.refl _ _, rfl, fun h => by cases h⟩
        refine And.intro (fun w hw hd => ?_) ?_
        · have d0 := hd 0 (by decide) rfl
          change vs 0 = _ at d0
          refine ite_yes rfl ?_
          simp only [Gives]
          go_simp
          exact ⟨Below.refl _ _, rfl, fun h => by cases h⟩
        refine And.intro (fun w hw hd => ?_) ?_
        · have d1 := hd 1 (by decide) rfl
          change vs 1 = _ at d1
          refine ite_yes rfl ?_
          simp only [Gives]
          go_simp
          exact ⟨Below.refl _ _, rfl, fun h => by cases h⟩
        refine And.intro (fun w hw hd => ?_) ?_
        · have d2 := hd 2 (by decide) rfl
          change vs 2 = _ at d2
          refine ite_yes rfl ?_
          have c_M1 := fun i => (M1.kept hw).cell i
          have q1 : w.cell? ⟨g, 1, none⟩ = some (sv r) := (M0.kept hw).cell 1
          simp only [Gives]
          go_simp
          exact ⟨Below.refl _ _, rfl, fun h => by cases h⟩
        refine And.intro (fun w hw hd => ?_) ?_
        · refine ite_yes rfl ?_
          simp only [Gives]
          go_simp
          exact ⟨Below.refl _ _, rfl, fun h => by cases h⟩
        refine And.intro (fun w hw hd => ?_) ?_
        · have d4 := hd 4 (by decide) rfl
          change vs 4 = _ at d4
          refine ite_yes rfl ?_
          have c_M1 := fun i => (M1.kept hw).cell i
          simp only [Gives]
          go_simp
          exact ⟨Below.refl _ _, rfl, fun h => by cases h⟩
        refine And.intro (fun w hw hd => ?_) ?_
        · have d3 := hd 3 (by decide) rfl
          change vs 3 = _ at d3
          have d5 := hd 5 (by decide) rfl
          change vs 5 = _ at d5
          refine ite_yes rfl ?_
          simp only [Gives]
          go_simp
          exact ⟨Below.refl _ _, rfl, fun h => by cases h⟩
        refine And.intro (fun w hw hd => ?_) ?_
        · refine ite_yes rfl ?_
          simp only [Gives]
          go_simp
          exact ⟨Below.refl _ _, rfl, fun h => by cases h⟩
        refine And.intro (fun w hw hd => ?_) ?_
        · have d6 := hd 6 (by decide) rfl
          change vs 6 = _ at d6
          have d7 := hd 7 (by decide) rfl
          change vs 7 = _ at d7
          refine ite_yes rfl ?_
          simp only [Gives]
          go_simp
          refine (HasPrefix_b (r.extract j r.size) t true w HP.out).mono ?_
          rintro e w1 ⟨rfl, hb⟩
          exact ⟨_, rfl, hb, rfl, fun h => by cases h⟩
        refine And.intro (fun w hw hd => ?_) ?_
        · have d8 := hd 8 (by decide) rfl
          change vs 8 = _ at d8
          refine ite_yes rfl ?_
          simp only [Gives]
          go_simp
          exact ⟨Below.refl _ _, rfl, fun h => by cases h⟩
        exact trivial
      intro vs wt hw hd hne hlo
      have d0 := hd 0 (by decide)
      change vs 0 = _ at d0
      have d1 := hd 1 (by decide)
      change vs 1 = _ at d1
      have d2 := hd 2 (by decide)
      change vs 2 = _ at d2
      have d3 := hd 3 (by decide)
      change vs 3 = _ at d3
      have d4 := hd 4 (by decide)
      change vs 4 = _ at d4
      have d5 := hd 5 (by decide)
      change vs 5 = _ at d5
      have d6 := hd 6 (by decide)
      change vs 6 = _ at d6
      have d7 := hd 7 (by decide)
      change vs 7 = _ at d7
      have d8 := hd 8 (by decide)
      change vs 8 = _ at d8
      have d9 := hd 9 (by decide)
      change vs 9 = _ at d9
      simp only [d0, d1, d2, d3, d4, d5, d6, d7, d8, d9, List.drop_succ_cons, List.drop_nil]
      have M1 := M1.kept hw
      have c_M1 := fun i => M1.cell i
      have f_M1 := fun i => M1.free i
      clear hd hne hlo d0 d1 d2 d3 d4 d5 d6 d7 d8 d9
      have N1 := M1
      have N2 := M2.kept hw
      have N3 := M3.kept hw
      have c1 := fun i => N1.cell i
      have c2 := fun i => N2.cell i
      have c3 := fun i => N3.cell i
      have f2 := fun i => N2.free i
      have l2 := N2.lt
      have hW1 : IntKind.i64.wrap ((i : Int) + 1) = (i : Int) + 1 := wrapK_in _ 3000 (by omega) (by omega)
      have hW2 : IntKind.i64.wrap ((j : Int) + (n : Int)) = (j : Int) + (n : Int) := wrapK_in _ 3000 (by omega) (by omega)
      go_wp2_with fail
      refine bodyPost_ret (v := .tuple #[.agg #[iv ((i : Int) + 1), iv ((j : Int) + (n : Int))], .bool true]) (results_cell_tmp rfl rfl rfl (Box.put2 N2) (d := .struct (Tryz.prog.fieldsOf 89)) (by kernel_rfl) rfl (by kernel_rfl)) rfl ⟨by rw [Hr.out]; rfl, ?_⟩
      exact up_put (up_put (up_later HB hw) (by simp) _) (by simp) _
set_option maxRecDepth 100000 in
set_option maxHeartbeats 1000000 in
theorem after2_any (g i j : Nat) (s r : ByteArray) (w : World) (h : Box w g 137 (linesC s r)) (hi : i ≤ s.size) (hj : j ≤ r.size) (hs9 : s.size ≤ 1000) (hr9 : r.size ≤ 1000) :
    Calls Tryz.prog 85 #[.pointer (some ⟨g, 0, none⟩), .agg #[iv i, iv j], iv 2] w fun e w' => e = .returned (aftV (aftI s.data.toList r.data.toList (i, j) 2)) ∧ Below w.heap.size w w' := by
  have hl := h.lt
  have N := (h.alloc (.cells #[iv i, iv j] 89)).alloc (.cells #[iv 0, iv 0] 89)
  have q0 : _ = some (sv s) := N.cell 0
  have p0 : ∀ o, _ = some (sv s) := fun o => (N.alloc o).cell 0
  have q1 : _ = some (sv r) := N.cell 1
  have p1 : ∀ o, _ = some (sv r) := fun o => (N.alloc o).cell 1
  have q2 : _ = some (fnV 106) := N.cell 10
  have p2 : ∀ o, _ = some (fnV 106) := fun o => (N.alloc o).cell 10
  have q3 : _ = some (fnV 107) := N.cell 11
  have p3 : ∀ o, _ = some (fnV 107) := fun o => (N.alloc o).cell 11
  have q4 : _ = some (iv 1) := N.cell 12
  have p4 : ∀ o, _ = some (iv 1) := fun o => (N.alloc o).cell 12
  have q5 : _ = some (iv 1) := N.cell 13
  have p5 : ∀ o, _ = some (iv 1) := fun o => (N.alloc o).cell 13
  have i0 : (0 : Int) ≤ (i : Int) := by omega
  have i1 : (i : Int) ≤ (s.size : Int) := by omega
  have j0 : (0 : Int) ≤ (j : Int) := by omega
  have j1 : (j : Int) ≤ (r.size : Int) := by omega
  unfold fnV at q2 q3 p2 p3
  have HN := Lib.hid h
  clear h N
  go_enter Tryz.func85, Tryz.ntmps85
  go_wp2_with fail
  go_region
  clear q0 q1 q2 q3 q4 q5 p0 p1 p2 p3 p4 p5
  obtain ⟨W, hW⟩ : ∃ W, (((w.alloc (.cells #[iv i, iv j] 89)).alloc (.cells #[iv 0, iv 0] 89)).alloc (.cells #[.func (.func 106) #[] #[], .func (.func 107) #[] #[], iv 1, iv 1] 133)).drew = W := ⟨_, rfl⟩
  have M1 : Box W w.heap.size 89 #[iv i, iv j] := hW ▸ (((Box.new rfl).alloc _).alloc _).drew
  have M2 : Box W (w.heap.size + 1) 89 #[iv 0, iv 0] := hW ▸ ((Box.new (by simp)).alloc _).drew
  have M3 : Box W (w.heap.size + 1 + 1) 133 #[.func (.func 106) #[] #[], .func (.func 107) #[] #[], iv 1, iv 1] := hW ▸ (Box.new (by simp)).drew
  have HB : Below w.heap.size w W := hW ▸ up_drew (up_alloc (up_alloc (up_alloc up0 _) _) _)
  have M0 := HN.out.kept HB
  have hWs := HB.size
  rw [hW]
  clear hW
  have c3 := fun i => M3.cell i
  have c2 := fun i => M2.cell i
  have f2 := fun i => M2.free i
  have l2 := M2.lt
  have hx := extract_rest s i
  go_wp2_with fail
  refine (long_any _ _).mono ?_
  rintro e w1 ⟨rfl, rfl⟩
  rw [hx]
  cases hn : needsB 2 (s.data.toList.drop i) with
  | false =>
    have Hr := Lib.hid (show aftI s.data.toList r.data.toList (i, j) 2 = none by unfold aftI; rw [hn]; rfl)
    clear hn
    go_wp2_with fail
    refine bodyPost_ret (v := .tuple #[.agg #[iv 0, iv 0], .bool false]) (results_cell_tmp rfl rfl rfl (Box.put2 M2) (d := .struct (Tryz.prog.fieldsOf 89)) (by kernel_rfl) rfl (by kernel_rfl)) rfl ⟨by rw [Hr.out]; rfl, ?_⟩
    exact up_put (up_put HB (by simp) _) (by simp) _
  | true =>
    go_wp2_with fail
    refine (asShort_any _ _).mono ?_
    rintro e w2 ⟨t, rfl, ht, rfl⟩
    rw [hx] at ht
    obtain ⟨n, hn9⟩ : ∃ n, (writesL 2 (s.data.toList.drop i)).length = n := ⟨_, rfl⟩
    have hts : t.size = n := by rw [Lib.size_eq, ht, hn9]
    have hn2 : n ≤ 2 := by rw [← hn9]; exact writes_in _ _
    have hy := extract_rest r j
    have c1 := fun i => M1.cell i
    cases hp : Lib.hasPrefix (r.data.toList.drop j) (writesL 2 (s.data.toList.drop i)) with
    | false =>
      have HP := Lib.hid (show Lib.hasPrefix (r.extract j r.size).data.toList t.data.toList = false by rw [hy, ht, hp])
      have Hr := Lib.hid (show aftI s.data.toList r.data.toList (i, j) 2 = none by unfold aftI; rw [hp, Bool.and_false]; rfl)
      clear hn hp ht hy hx hts hn9 c1 c2 c3 f2 l2
      go_wp2_with fail
      apply wp_region_by 10 [(Fact.eq _), (Fact.eq _), (Fact.eq _), (Fact.eq _), (Fact.eq _), (Fact.eq _), (Fact.eq _), (Fact.eq _), (Fact.eq _), (Fact.eq _)]
      case hm => kernel_rfl
      case hB => kernel_rfl
      case hA => (intro vs; simp only [List.take_succ_cons, List.take_zero, putAll, if_true, Act.put, List.setIfInBounds_toArray, List.set_cons_zero, List.set_cons_succ]; exact rfl)
      case hstep =>
        intro vs
        refine And.intro (fun w hw hd => ?_) ?_
        · refine ite_yes rfl ?_
          simp only [Gives]
          go_simp
          exact ⟨Below.refl _ _, rfl, fun h => by cases h⟩
        refine And.intro (fun w hw hd => ?_) ?_
        · have d0 := hd 0 (by decide) rfl
          change vs 0 = _ at d0
          refine ite_yes rfl ?_
          simp only [Gives]
          go_simp
          exact ⟨Below.refl _ _, rfl, fun h => by cases h⟩
        refine And.intro (fun w hw hd => ?_) ?_
        · have d1 := hd 1 (by decide) rfl
          change vs 1 = _ at d1
          refine ite_yes rfl ?_
          simp only [Gives]
          go_simp
          exact ⟨Below.refl _ _, rfl, fun h => by cases h⟩
        refine And.intro (fun w hw hd => ?_) ?_
        · have d2 := hd 2 (by decide) rfl
          change vs 2 = _ at d2
          refine ite_yes rfl ?_
          have c_M1 := fun i => (M1.kept hw).cell i
          have q1 : w.cell? ⟨g, 1, none⟩ = some (sv r) := (M0.kept hw).cell 1
          simp only [Gives]
          go_simp
          exact ⟨Below.refl _ _, rfl, fun h => by cases h⟩
        refine And.intro (fun w hw hd => ?_) ?_
        · refine ite_yes rfl ?_
          simp only [Gives]
          go_simp
          exact ⟨Below.refl _ _, rfl, fun h => by cases h⟩
        refine And.intro (fun w hw hd => ?_) ?_
        · have d4 := hd 4 (by decide) rfl
          change vs 4 = _ at d4
          refine ite_yes rfl ?_
          have c_M1 := fun i => (M1.kept hw).cell i
          simp only [Gives]
          go_simp
          exact ⟨Below.refl _ _, rfl, fun h => by cases h⟩
        refine And.intro (fun w hw hd => ?_) ?_
        · have d3 := hd 3 (by decide) rfl
          change vs 3 = _ at d3
          have d5 := hd 5 (by decide) rfl
          change vs 5 = _ at d5
          refine ite_yes rfl ?_
          simp only [Gives]
          go_simp
          exact ⟨Below.refl _ _, rfl, fun h => by cases h⟩
        refine And.intro (fun w hw hd => ?_) ?_
        · refine ite_yes rfl ?_
          simp only [Gives]
          go_simp
          exact ⟨Below.refl _ _, rfl, fun h => by cases h⟩
        refine And.intro (fun w hw hd => ?_) ?_
        · have d6 := hd 6 (by decide) rfl
          change vs 6 = _ at d6
          have d7 := hd 7 (by decide) rfl
          change vs 7 = _ at d7
          refine ite_yes rfl ?_
          simp only [Gives]
          go_simp
          refine (HasPrefix_b (r.extract j r.size) t false w HP.out).mono ?_
          rintro e w1 ⟨rfl, hb⟩
          exact ⟨_, rfl, hb, rfl, fun h => by cases h⟩
        refine And.intro (fun w hw hd => ?_) ?_
        · have d8 := hd 8 (by decide) rfl
          change vs 8 = _ at d8
          refine ite_yes rfl ?_
          simp only [Gives]
          go_simp
          exact ⟨Below.refl _ _, rfl, fun h => by cases h⟩
        exact trivial
      intro vs wt hw hd hne hlo
      have d0 := hd 0 (by decide)
      change vs 0 = _ at d0
      have d1 := hd 1 (by decide)
      change vs 1 = _ at d1
      have d2 := hd 2 (by decide)
      change vs 2 = _ at d2
      have d3 := hd 3 (by decide)
      change vs 3 = _ at d3
      have d4 := hd 4 (by decide)
      change vs 4 = _ at d4
      have d5 := hd 5 (by decide)
      change vs 5 = _ at d5
      have d6 := hd 6 (by decide)
      change vs 6 = _ at d6
      have d7 := hd 7 (by decide)
      change vs 7 = _ at d7
      have d8 := hd 8 (by decide)
      change vs 8 = _ at d8
      have d9 := hd 9 (by decide)
      change vs 9 = _ at d9
      simp only [d0, d1, d2, d3, d4, d5, d6, d7, d8, d9, List.drop_succ_cons, List.drop_nil]
      have M1 := M1.kept hw
      have c_M1 := fun i => M1.cell i
      have f_M1 := fun i => M1.free i
      clear hd hne hlo d0 d1 d2 d3 d4 d5 d6 d7 d8 d9
      have N2 := M2.kept hw
      have c2 := fun i => N2.cell i
      have f2 := fun i => N2.free i
      have l2 := N2.lt
      go_wp2_with fail
      refine bodyPost_ret (v := .tuple #[.agg #[iv 0, iv 0], .bool false]) (results_cell_tmp rfl rfl rfl (Box.put2 N2) (d := .struct (Tryz.prog.fieldsOf 89)) (by kernel_rfl) rfl (by kernel_rfl)) rfl ⟨by rw [Hr.out]; rfl, ?_⟩
      exact up_put (up_put (up_later HB hw) (by simp) _) (by simp) _
    | true =>
      have HP := Lib.hid (show Lib.hasPrefix (r.extract j r.size).data.toList t.data.toList = true by rw [hy, ht, hp])
      have Hr := Lib.hid (show aftI s.data.toList r.data.toList (i, j) 2 = some (i + takesN 2, j + n) by unfold aftI; rw [hp, hn, hn9]; rfl)
      clear hn hp ht hy hx hn9 c1 c2 c3 f2 l2
      go_wp2_with fail
      apply wp_region_by 10 [(Fact.eq _), (Fact.eq _), (Fact.eq _), (Fact.eq _), (Fact.eq _), (Fact.eq _), (Fact.eq _), (Fact.eq _), (Fact.eq _), (Fact.eq _)]
      case hm => kernel_rfl
      case hB => kernel_rfl
      case hA => (intro vs; simp only [List.take_succ_cons, List.take_zero, putAll, if_true, Act.put, List.setIfInBounds_toArray, List.set_cons_zero, List.set_cons_succ]; exact rfl)
      case hstep =>
        intro vs
        refine And.intro (fun w hw hd => ?_) ?_
        · refine ite_yes rfl ?_
          simp only [Gives]
          go_simp
          exact ⟨Below.refl _ _, rfl, fun h => by cases h⟩
        refine And.intro (fun w hw hd => ?_) ?_
        · have d0 := hd 0 (by decide) rfl
          change vs 0 = _ at d0
          refine ite_yes rfl ?_
          simp only [Gives]
          go_simp
          exact ⟨Below.refl _ _, rfl, fun h => by cases h⟩
        refine And.intro (fun w hw hd => ?_) ?_
        · have d1 := hd 1 (by decide) rfl
          change vs 1 = _ at d1
          refine ite_yes rfl ?_
          simp only [Gives]
          go_simp
          exact ⟨Below.refl _ _, rfl, fun h => by cases h⟩
        refine And.intro (fun w hw hd => ?_) ?_
        · have d2 := hd 2 (by decide) rfl
          change vs 2 = _ at d2
          refine ite_yes rfl ?_
          have c_M1 := fun i => (M1.kept hw).cell i
          have q1 : w.cell? ⟨g, 1, none⟩ = some (sv r) := (M0.kept hw).cell 1
          simp only [Gives]
          go_simp
          exact ⟨Below.refl _ _, rfl, fun h => by cases h⟩
        refine And.intro (fun w hw hd => ?_) ?_
        · refine ite_yes rfl ?_
          simp only [Gives]
          go_simp
          exact ⟨Below.refl _ _, rfl, fun h => by cases h⟩
        refine And.intro (fun w hw hd => ?_) ?_
        · have d4 := hd 4 (by decide) rfl
          change vs 4 = _ at d4
          refine ite_yes rfl ?_
          have c_M1 := fun i => (M1.kept hw).cell i
          simp only [Gives]
          go_simp
          exact ⟨Below.refl _ _, rfl, fun h => by cases h⟩
        refine And.intro (fun w hw hd => ?_) ?_
        · have d3 := hd 3 (by decide) rfl
          change vs 3 = _ at d3
          have d5 := hd 5 (by decide) rfl
          change vs 5 = _ at d5
          refine ite_yes rfl ?_
          simp only [Gives]
          go_simp
          exact ⟨Below.refl _ _, rfl, fun h => by cases h⟩
        refine And.intro (fun w hw hd => ?_) ?_
        · refine ite_yes rfl ?_
          simp only [Gives]
          go_simp
          exact ⟨Below.refl _ _, rfl, fun h => by cases h⟩
        refine And.intro (fun w hw hd => ?_) ?_
        · have d6 := hd 6 (by decide) rfl
          change vs 6 = _ at d6
          have d7 := hd 7 (by decide) rfl
          change vs 7 = _ at d7
          refine ite_yes rfl ?_
          simp only [Gives]
          go_simp
          refine (HasPrefix_b (r.extract j r.size) t true w HP.out).mono ?_
          rintro e w1 ⟨rfl, hb⟩
          exact ⟨_, rfl, hb, rfl, fun h => by cases h⟩
        refine And.intro (fun w hw hd => ?_) ?_
        · have d8 := hd 8 (by decide) rfl
          change vs 8 = _ at d8
          refine ite_yes rfl ?_
          simp only [Gives]
          go_simp
          exact ⟨Below.refl _ _, rfl, fun h => by cases h⟩
        exact trivial
      intro vs wt hw hd hne hlo
      have d0 := hd 0 (by decide)
      change vs 0 = _ at d0
      have d1 := hd 1 (by decide)
      change vs 1 = _ at d1
      have d2 := hd 2 (by decide)
      change vs 2 = _ at d2
      have d3 := hd 3 (by decide)
      change vs 3 = _ at d3
      have d4 := hd 4 (by decide)
      change vs 4 = _ at d4
      have d5 := hd 5 (by decide)
      change vs 5 = _ at d5
      have d6 := hd 6 (by decide)
      change vs 6 = _ at d6
      have d7 := hd 7 (by decide)
      change vs 7 = _ at d7
      have d8 := hd 8 (by decide)
      change vs 8 = _ at d8
      have d9 := hd 9 (by decide)
      change vs 9 = _ at d9
      simp only [d0, d1, d2, d3, d4, d5, d6, d7, d8, d9, List.drop_succ_cons, List.drop_nil]
      have M1 := M1.kept hw
      have c_M1 := fun i => M1.cell i
      have f_M1 := fun i => M1.free i
      clear hd hne hlo d0 d1 d2 d3 d4 d5 d6 d7 d8 d9
      have N1 := M1
      have N2 := M2.kept hw
      have N3 := M3.kept hw
      have c1 := fun i => N1.cell i
      have c2 := fun i => N2.cell i
      have c3 := fun i => N3.cell i
      have f2 := fun i => N2.free i
      have l2 := N2.lt
      have hW1 : IntKind.i64.wrap ((i : Int) + 1) = (i : Int) + 1 := wrapK_in _ 3000 (by omega) (by omega)
      have hW2 : IntKind.i64.wrap ((j : Int) + (n : Int)) = (j : Int) + (n : Int) := wrapK_in _ 3000 (by omega) (by omega)
      go_wp2_with fail
      refine bodyPost_ret (v := .tuple #[.agg #[iv ((i : Int) + 1), iv ((j : Int) + (n : Int))], .bool true]) (results_cell_tmp rfl rfl rfl (Box.put2 N2) (d := .struct (Tryz.prog.fieldsOf 89)) (by kernel_rfl) rfl (by kernel_rfl)) rfl ⟨by rw [Hr.out]; rfl, ?_⟩
      exact up_put (up_put (up_later HB hw) (by simp) _) (by simp) _
set_option maxRecDepth 100000 in
set_option maxHeartbeats 1000000 in
theorem after3_any (g i j : Nat) (s r : ByteArray) (w : World) (h : Box w g 137 (linesC s r)) (hi : i ≤ s.size) (hj : j ≤ r.size) (hs9 : s.size ≤ 1000) (hr9 : r.size ≤ 1000) :
    Calls Tryz.prog 85 #[.pointer (some ⟨g, 0, none⟩), .agg #[iv i, iv j], iv 3] w fun e w' => e = .returned (aftV (aftI s.data.toList r.data.toList (i, j) 3)) ∧ Below w.heap.size w w' := by
  have hl := h.lt
  have N := (h.alloc (.cells #[iv i, iv j] 89)).alloc (.cells #[iv 0, iv 0] 89)
  have q0 : _ = some (sv s) := N.cell 0
  have p0 : ∀ o, _ = some (sv s) := fun o => (N.alloc o).cell 0
  have q1 : _ = some (sv r) := N.cell 1
  have p1 : ∀ o, _ = some (sv r) := fun o => (N.alloc o).cell 1
  have q2 : _ = some (fnV 108) := N.cell 14
  have p2 : ∀ o, _ = some (fnV 108) := fun o => (N.alloc o).cell 14
  have q3 : _ = some (fnV 109) := N.cell 15
  have p3 : ∀ o, _ = some (fnV 109) := fun o => (N.alloc o).cell 15
  have q4 : _ = some (iv 2) := N.cell 16
  have p4 : ∀ o, _ = some (iv 2) := fun o => (N.alloc o).cell 16
  have q5 : _ = some (iv 1) := N.cell 17
  have p5 : ∀ o, _ = some (iv 1) := fun o => (N.alloc o).cell 17
  have i0 : (0 : Int) ≤ (i : Int) := by omega
  have i1 : (i : Int) ≤ (s.size : Int) := by omega
  have j0 : (0 : Int) ≤ (j : Int) := by omega
  have j1 : (j : Int) ≤ (r.size : Int) := by omega
  unfold fnV at q2 q3 p2 p3
  have HN := Lib.hid h
  clear h N
  go_enter Tryz.func85, Tryz.ntmps85
  go_wp2_with fail
  go_region
  clear q0 q1 q2 q3 q4 q5 p0 p1 p2 p3 p4 p5
  obtain ⟨W, hW⟩ : ∃ W, (((w.alloc (.cells #[iv i, iv j] 89)).alloc (.cells #[iv 0, iv 0] 89)).alloc (.cells #[.func (.func 108) #[] #[], .func (.func 109) #[] #[], iv 2, iv 1] 133)).drew = W := ⟨_, rfl⟩
  have M1 : Box W w.heap.size 89 #[iv i, iv j] := hW ▸ (((Box.new rfl).alloc _).alloc _).drew
  have M2 : Box W (w.heap.size + 1) 89 #[iv 0, iv 0] := hW ▸ ((Box.new (by simp)).alloc _).drew
  have M3 : Box W (w.heap.size + 1 + 1) 133 #[.func (.func 108) #[] #[], .func (.func 109) #[] #[], iv 2, iv 1] := hW ▸ (Box.new (by simp)).drew
  have HB : Below w.heap.size w W := hW ▸ up_drew (up_alloc (up_alloc (up_alloc up0 _) _) _)
  have M0 := HN.out.kept HB
  have hWs := HB.size
  rw [hW]
  clear hW
  have c3 := fun i => M3.cell i
  have c2 := fun i => M2.cell i
  have f2 := fun i => M2.free i
  have l2 := M2.lt
  have hx := extract_rest s i
  go_wp2_with fail
  refine (twoPoints_any _ _).mono ?_
  rintro e w1 ⟨rfl, rfl⟩
  rw [hx]
  cases hn : needsB 3 (s.data.toList.drop i) with
  | false =>
    have Hr := Lib.hid (show aftI s.data.toList r.data.toList (i, j) 3 = none by unfold aftI; rw [hn]; rfl)
    clear hn
    go_wp2_with fail
    refine bodyPost_ret (v := .tuple #[.agg #[iv 0, iv 0], .bool false]) (results_cell_tmp rfl rfl rfl (Box.put2 M2) (d := .struct (Tryz.prog.fieldsOf 89)) (by kernel_rfl) rfl (by kernel_rfl)) rfl ⟨by rw [Hr.out]; rfl, ?_⟩
    exact up_put (up_put HB (by simp) _) (by simp) _
  | true =>
    go_wp2_with fail
    refine (asLong_any _ _).mono ?_
    rintro e w2 ⟨t, rfl, ht, rfl⟩
    rw [hx] at ht
    obtain ⟨n, hn9⟩ : ∃ n, (writesL 3 (s.data.toList.drop i)).length = n := ⟨_, rfl⟩
    have hts : t.size = n := by rw [Lib.size_eq, ht, hn9]
    have hn2 : n ≤ 2 := by rw [← hn9]; exact writes_in _ _
    have hy := extract_rest r j
    have c1 := fun i => M1.cell i
    cases hp : Lib.hasPrefix (r.data.toList.drop j) (writesL 3 (s.data.toList.drop i)) with
    | false =>
      have HP := Lib.hid (show Lib.hasPrefix (r.extract j r.size).data.toList t.data.toList = false by rw [hy, ht, hp])
      have Hr := Lib.hid (show aftI s.data.toList r.data.toList (i, j) 3 = none by unfold aftI; rw [hp, Bool.and_false]; rfl)
      clear hn hp ht hy hx hts hn9 c1 c2 c3 f2 l2
      go_wp2_with fail
      apply wp_region_by 10 [(Fact.eq _), (Fact.eq _), (Fact.eq _), (Fact.eq _), (Fact.eq _), (Fact.eq _), (Fact.eq _), (Fact.eq _), (Fact.eq _), (Fact.eq _)]
      case hm => kernel_rfl
      case hB => kernel_rfl
      case hA => (intro vs; simp only [List.take_succ_cons, List.take_zero, putAll, if_true, Act.put, List.setIfInBounds_toArray, List.set_cons_zero, List.set_cons_succ]; exact rfl)
      case hstep =>
        intro vs
        refine And.intro (fun w hw hd => ?_) ?_
        · refine ite_yes rfl ?_
          simp only [Gives]
          go_simp
          exact ⟨Below.refl _ _, rfl, fun h => by cases h⟩
        refine And.intro (fun w hw hd => ?_) ?_
        · have d0 := hd 0 (by decide) rfl
          change vs 0 = _ at d0
          refine ite_yes rfl ?_
          simp only [Gives]
          go_simp
          exact ⟨Below.refl _ _, rfl, fun h => by cases h⟩
        refine And.intro (fun w hw hd => ?_) ?_
        · have d1 := hd 1 (by decide) rfl
          change vs 1 = _ at d1
          refine ite_yes rfl ?_
          simp only [Gives]
          go_simp
          exact ⟨Below.refl _ _, rfl, fun h => by cases h⟩
        refine And.intro (fun w hw hd => ?_) ?_
        · have d2 := hd 2 (by decide) rfl
          change vs 2 = _ at d2
          refine ite_yes rfl ?_
          have c_M1 := fun i => (M1.kept hw).cell i
          have q1 : w.cell? ⟨g, 1, none⟩ = some (sv r) := (M0.kept hw).cell 1
          simp only [Gives]
          go_simp
          exact ⟨Below.refl _ _, rfl, fun h => by cases h⟩
        refine And.intro (fun w hw hd => ?_) ?_
        · refine ite_yes rfl ?_
          simp only [Gives]
          go_simp
          exact ⟨Below.refl _ _, rfl, fun h => by cases h⟩
        refine And.intro (fun w hw hd => ?_) ?_
        · have d4 := hd 4 (by decide) rfl
          change vs 4 = _ at d4
          refine ite_yes rfl ?_
          have c_M1 := fun i => (M1.kept hw).cell i
          simp only [Gives]
          go_simp
          exact ⟨Below.refl _ _, rfl, fun h => by cases h⟩
        refine And.intro (fun w hw hd => ?_) ?_
        · have d3 := hd 3 (by decide) rfl
          change vs 3 = _ at d3
          have d5 := hd 5 (by decide) rfl
          change vs 5 = _ at d5
          refine ite_yes rfl ?_
          simp only [Gives]
          go_simp
          exact ⟨Below.refl _ _, rfl, fun h => by cases h⟩
        refine And.intro (fun w hw hd => ?_) ?_
        · refine ite_yes rfl ?_
          simp only [Gives]
          go_simp
          exact ⟨Below.refl _ _, rfl, fun h => by cases h⟩
        refine And.intro (fun w hw hd => ?_) ?_
        · have d6 := hd 6 (by decide) rfl
          change vs 6 = _ at d6
          have d7 := hd 7 (by decide) rfl
          change vs 7 = _ at d7
          refine ite_yes rfl ?_
          simp only [Gives]
          go_simp
          refine (HasPrefix_b (r.extract j r.size) t false w HP.out).mono ?_
          rintro e w1 ⟨rfl, hb⟩
          exact ⟨_, rfl, hb, rfl, fun h => by cases h⟩
        refine And.intro (fun w hw hd => ?_) ?_
        · have d8 := hd 8 (by decide) rfl
          change vs 8 = _ at d8
          refine ite_yes rfl ?_
          simp only [Gives]
          go_simp
          exact ⟨Below.refl _ _, rfl, fun h => by cases h⟩
        exact trivial
      intro vs wt hw hd hne hlo
      have d0 := hd 0 (by decide)
      change vs 0 = _ at d0
      have d1 := hd 1 (by decide)
      change vs 1 = _ at d1
      have d2 := hd 2 (by decide)
      change vs 2 = _ at d2
      have d3 := hd 3 (by decide)
      change vs 3 = _ at d3
      have d4 := hd 4 (by decide)
      change vs 4 = _ at d4
      have d5 := hd 5 (by decide)
      change vs 5 = _ at d5
      have d6 := hd 6 (by decide)
      change vs 6 = _ at d6
      have d7 := hd 7 (by decide)
      change vs 7 = _ at d7
      have d8 := hd 8 (by decide)
      change vs 8 = _ at d8
      have d9 := hd 9 (by decide)
      change vs 9 = _ at d9
      simp only [d0, d1, d2, d3, d4, d5, d6, d7, d8, d9, List.drop_succ_cons, List.drop_nil]
      have M1 := M1.kept hw
      have c_M1 := fun i => M1.cell i
      have f_M1 := fun i => M1.free i
      clear hd hne hlo d0 d1 d2 d3 d4 d5 d6 d7 d8 d9
      have N2 := M2.kept hw
      have c2 := fun i => N2.cell i
      have f2 := fun i => N2.free i
      have l2 := N2.lt
      go_wp2_with fail
      refine bodyPost_ret (v := .tuple #[.agg #[iv 0, iv 0], .bool false]) (results_cell_tmp rfl rfl rfl (Box.put2 N2) (d := .struct (Tryz.prog.fieldsOf 89)) (by kernel_rfl) rfl (by kernel_rfl)) rfl ⟨by rw [Hr.out]; rfl, ?_⟩
      exact up_put (up_put (up_later HB hw) (by simp) _) (by simp) _
    | true =>
      have HP := Lib.hid (show Lib.hasPrefix (r.extract j r.size).data.toList t.data.toList = true by rw [hy, ht, hp])
      have Hr := Lib.hid (show aftI s.data.toList r.data.toList (i, j) 3 = some (i + takesN 3, j + n) by unfold aftI; rw [hp, hn, hn9]; rfl)
      clear hn hp ht hy hx hn9 c1 c2 c3 f2 l2
      go_wp2_with fail
      apply wp_region_by 10 [(Fact.eq _), (Fact.eq _), (Fact.eq _), (Fact.eq _), (Fact.eq _), (Fact.eq _), (Fact.eq _), (Fact.eq _), (Fact.eq _), (Fact.eq _)]
      case hm => kernel_rfl
      case hB => kernel_rfl
      case hA => (intro vs; simp only [List.take_succ_cons, List.take_zero, putAll, if_true, Act.put, List.setIfInBounds_toArray, List.set_cons_zero, List.set_cons_succ]; exact rfl)
      case hstep =>
        intro vs
        refine And.intro (fun w hw hd => ?_) ?_
        · refine ite_yes rfl ?_
          simp only [Gives]
          go_simp
          exact ⟨Below.refl _ _, rfl, fun h => by cases h⟩
        refine And.intro (fun w hw hd => ?_) ?_
        · have d0 := hd 0 (by decide) rfl
          change vs 0 = _ at d0
          refine ite_yes rfl ?_
          simp only [Gives]
          go_simp
          exact ⟨Below.refl _ _, rfl, fun h => by cases h⟩
        refine And.intro (fun w hw hd => ?_) ?_
        · have d1 := hd 1 (by decide) rfl
          change vs 1 = _ at d1
          refine ite_yes rfl ?_
          simp only [Gives]
          go_simp
          exact ⟨Below.refl _ _, rfl, fun h => by cases h⟩
        refine And.intro (fun w hw hd => ?_) ?_
        · have d2 := hd 2 (by decide) rfl
          change vs 2 = _ at d2
          refine ite_yes rfl ?_
          have c_M1 := fun i => (M1.kept hw).cell i
          have q1 : w.cell? ⟨g, 1, none⟩ = some (sv r) := (M0.kept hw).cell 1
          simp only [Gives]
          go_simp
          exact ⟨Below.refl _ _, rfl, fun h => by cases h⟩
        refine And.intro (fun w hw hd => ?_) ?_
        · refine ite_yes rfl ?_
          simp only [Gives]
          go_simp
          exact ⟨Below.refl _ _, rfl, fun h => by cases h⟩
        refine And.intro (fun w hw hd => ?_) ?_
        · have d4 := hd 4 (by decide) rfl
          change vs 4 = _ at d4
          refine ite_yes rfl ?_
          have c_M1 := fun i => (M1.kept hw).cell i
          simp only [Gives]
          go_simp
          exact ⟨Below.refl _ _, rfl, fun h => by cases h⟩
        refine And.intro (fun w hw hd => ?_) ?_
        · have d3 := hd 3 (by decide) rfl
          change vs 3 = _ at d3
          have d5 := hd 5 (by decide) rfl
          change vs 5 = _ at d5
          refine ite_yes rfl ?_
          simp only [Gives]
          go_simp
          exact ⟨Below.refl _ _, rfl, fun h => by cases h⟩
        refine And.intro (fun w hw hd => ?_) ?_
        · refine ite_yes rfl ?_
          simp only [Gives]
          go_simp
          exact ⟨Below.refl _ _, rfl, fun h => by cases h⟩
        refine And.intro (fun w hw hd => ?_) ?_
        · have d6 := hd 6 (by decide) rfl
          change vs 6 = _ at d6
          have d7 := hd 7 (by decide) rfl
          change vs 7 = _ at d7
          refine ite_yes rfl ?_
          simp only [Gives]
          go_simp
          refine (HasPrefix_b (r.extract j r.size) t true w HP.out).mono ?_
          rintro e w1 ⟨rfl, hb⟩
          exact ⟨_, rfl, hb, rfl, fun h => by cases h⟩
        refine And.intro (fun w hw hd => ?_) ?_
        · have d8 := hd 8 (by decide) rfl
          change vs 8 = _ at d8
          refine ite_yes rfl ?_
          simp only [Gives]
          go_simp
          exact ⟨Below.refl _ _, rfl, fun h => by cases h⟩
        exact trivial
      intro vs wt hw hd hne hlo
      have d0 := hd 0 (by decide)
      change vs 0 = _ at d0
      have d1 := hd 1 (by decide)
      change vs 1 = _ at d1
      have d2 := hd 2 (by decide)
      change vs 2 = _ at d2
      have d3 := hd 3 (by decide)
      change vs 3 = _ at d3
      have d4 := hd 4 (by decide)
      change vs 4 = _ at d4
      have d5 := hd 5 (by decide)
      change vs 5 = _ at d5
      have d6 := hd 6 (by decide)
      change vs 6 = _ at d6
      have d7 := hd 7 (by decide)
      change vs 7 = _ at d7
      have d8 := hd 8 (by decide)
      change vs 8 = _ at d8
      have d9 := hd 9 (by decide)
      change vs 9 = _ at d9
      simp only [d0, d1, d2, d3, d4, d5, d6, d7, d8, d9, List.drop_succ_cons, List.drop_nil]
      have M1 := M1.kept hw
      have c_M1 := fun i => M1.cell i
      have f_M1 := fun i => M1.free i
      clear hd hne hlo d0 d1 d2 d3 d4 d5 d6 d7 d8 d9
      have N1 := M1
      have N2 := M2.kept hw
      have N3 := M3.kept hw
      have c1 := fun i => N1.cell i
      have c2 := fun i => N2.cell i
      have c3 := fun i => N3.cell i
      have f2 := fun i => N2.free i
      have l2 := N2.lt
      have hW1 : IntKind.i64.wrap ((i : Int) + 2) = (i : Int) + 2 := wrapK_in _ 3000 (by omega) (by omega)
      have hW2 : IntKind.i64.wrap ((j : Int) + (n : Int)) = (j : Int) + (n : Int) := wrapK_in _ 3000 (by omega) (by omega)
      go_wp2_with fail
      refine bodyPost_ret (v := .tuple #[.agg #[iv ((i : Int) + 2), iv ((j : Int) + (n : Int))], .bool true]) (results_cell_tmp rfl rfl rfl (Box.put2 N2) (d := .struct (Tryz.prog.fieldsOf 89)) (by kernel_rfl) rfl (by kernel_rfl)) rfl ⟨by rw [Hr.out]; rfl, ?_⟩
      exact up_put (up_put (up_later HB hw) (by simp) _) (by simp) _
set_option maxRecDepth 100000 in
set_option maxHeartbeats 1000000 in
theorem after4_any (g i j : Nat) (s r : ByteArray) (w : World) (h : Box w g 137 (linesC s r)) (hi : i ≤ s.size) (hj : j ≤ r.size) (hs9 : s.size ≤ 1000) (hr9 : r.size ≤ 1000) :
    Calls Tryz.prog 85 #[.pointer (some ⟨g, 0, none⟩), .agg #[iv i, iv j], iv 4] w fun e w' => e = .returned (aftV (aftI s.data.toList r.data.toList (i, j) 4)) ∧ Below w.heap.size w w' := by
  have hl := h.lt
  have N := (h.alloc (.cells #[iv i, iv j] 89)).alloc (.cells #[iv 0, iv 0] 89)
  have q0 : _ = some (sv s) := N.cell 0
  have p0 : ∀ o, _ = some (sv s) := fun o => (N.alloc o).cell 0
  have q1 : _ = some (sv r) := N.cell 1
  have p1 : ∀ o, _ = some (sv r) := fun o => (N.alloc o).cell 1
  have q2 : _ = some (fnV 110) := N.cell 18
  have p2 : ∀ o, _ = some (fnV 110) := fun o => (N.alloc o).cell 18
  have q3 : _ = some (fnV 105) := N.cell 19
  have p3 : ∀ o, _ = some (fnV 105) := fun o => (N.alloc o).cell 19
  have q4 : _ = some (iv 1) := N.cell 20
  have p4 : ∀ o, _ = some (iv 1) := fun o => (N.alloc o).cell 20
  have q5 : _ = some (iv 1) := N.cell 21
  have p5 : ∀ o, _ = some (iv 1) := fun o => (N.alloc o).cell 21
  have i0 : (0 : Int) ≤ (i : Int) := by omega
  have i1 : (i : Int) ≤ (s.size : Int) := by omega
  have j0 : (0 : Int) ≤ (j : Int) := by omega
  have j1 : (j : Int) ≤ (r.size : Int) := by omega
  unfold fnV at q2 q3 p2 p3
  have HN := Lib.hid h
  clear h N
  go_enter Tryz.func85, Tryz.ntmps85
  go_wp2_with fail
  go_region
  clear q0 q1 q2 q3 q4 q5 p0 p1 p2 p3 p4 p5
  obtain ⟨W, hW⟩ : ∃ W, (((w.alloc (.cells #[iv i, iv j] 89)).alloc (.cells #[iv 0, iv 0] 89)).alloc (.cells #[.func (.func 110) #[] #[], .func (.func 105) #[] #[], iv 1, iv 1] 133)).drew = W := ⟨_, rfl⟩
  have M1 : Box W w.heap.size 89 #[iv i, iv j] := hW ▸ (((Box.new rfl).alloc _).alloc _).drew
  have M2 : Box W (w.heap.size + 1) 89 #[iv 0, iv 0] := hW ▸ ((Box.new (by simp)).alloc _).drew
  have M3 : Box W (w.heap.size + 1 + 1) 133 #[.func (.func 110) #[] #[], .func (.func 105) #[] #[], iv 1, iv 1] := hW ▸ (Box.new (by simp)).drew
  have HB : Below w.heap.size w W := hW ▸ up_drew (up_alloc (up_alloc (up_alloc up0 _) _) _)
  have M0 := HN.out.kept HB
  have hWs := HB.size
  rw [hW]
  clear hW
  have c3 := fun i => M3.cell i
  have c2 := fun i => M2.cell i
  have f2 := fun i => M2.free i
  have l2 := M2.lt
  have hx := extract_rest s i
  go_wp2_with fail
  refine (gap_any _ _).mono ?_
  rintro e w1 ⟨rfl, rfl⟩
  rw [hx]
  cases hn : needsB 4 (s.data.toList.drop i) with
  | false =>
    have Hr := Lib.hid (show aftI s.data.toList r.data.toList (i, j) 4 = none by unfold aftI; rw [hn]; rfl)
    clear hn
    go_wp2_with fail
    refine bodyPost_ret (v := .tuple #[.agg #[iv 0, iv 0], .bool false]) (results_cell_tmp rfl rfl rfl (Box.put2 M2) (d := .struct (Tryz.prog.fieldsOf 89)) (by kernel_rfl) rfl (by kernel_rfl)) rfl ⟨by rw [Hr.out]; rfl, ?_⟩
    exact up_put (up_put HB (by simp) _) (by simp) _
  | true =>
    go_wp2_with fail
    refine (nothing4_any _ _).mono ?_
    rintro e w2 ⟨t, rfl, ht, rfl⟩
    rw [hx] at ht
    obtain ⟨n, hn9⟩ : ∃ n, (writesL 4 (s.data.toList.drop i)).length = n := ⟨_, rfl⟩
    have hts : t.size = n := by rw [Lib.size_eq, ht, hn9]
    have hn2 : n ≤ 2 := by rw [← hn9]; exact writes_in _ _
    have hy := extract_rest r j
    have c1 := fun i => M1.cell i
    cases hp : Lib.hasPrefix (r.data.toList.drop j) (writesL 4 (s.data.toList.drop i)) with
    | false =>
      have HP := Lib.hid (show Lib.hasPrefix (r.extract j r.size).data.toList t.data.toList = false by rw [hy, ht, hp])
      have Hr := Lib.hid (show aftI s.data.toList r.data.toList (i, j) 4 = none by unfold aftI; rw [hp, Bool.and_false]; rfl)
      clear hn hp ht hy hx hts hn9 c1 c2 c3 f2 l2
      go_wp2_with fail
      apply wp_region_by 10 [(Fact.eq _), (Fact.eq _), (Fact.eq _), (Fact.eq _), (Fact.eq _), (Fact.eq _), (Fact.eq _), (Fact.eq _), (Fact.eq _), (Fact.eq _)]
      case hm => kernel_rfl
      case hB => kernel_rfl
      case hA => (intro vs; simp only [List.take_succ_cons, List.take_zero, putAll, if_true, Act.put, List.setIfInBounds_toArray, List.set_cons_zero, List.set_cons_succ]; exact rfl)
      case hstep =>
        intro vs
        refine And.intro (fun w hw hd => ?_) ?_
        · refine ite_yes rfl ?_
          simp only [Gives]
          go_simp
          exact ⟨Below.refl _ _, rfl, fun h => by cases h⟩
        refine And.intro (fun w hw hd => ?_) ?_
        · have d0 := hd 0 (by decide) rfl
          change vs 0 = _ at d0
          refine ite_yes rfl ?_
          simp only [Gives]
          go_simp
          exact ⟨Below.refl _ _, rfl, fun h => by cases h⟩
        refine And.intro (fun w hw hd => ?_) ?_
        · have d1 := hd 1 (by decide) rfl
          change vs 1 = _ at d1
          refine ite_yes rfl ?_
          simp only [Gives]
          go_simp
          exact ⟨Below.refl _ _, rfl, fun h => by cases h⟩
        refine And.intro (fun w hw hd => ?_) ?_
        · have d2 := hd 2 (by decide) rfl
          change vs 2 = _ at d2
          refine ite_yes rfl ?_
          have c_M1 := fun i => (M1.kept hw).cell i
          have q1 : w.cell? ⟨g, 1, none⟩ = some (sv r) := (M0.kept hw).cell 1
          simp only [Gives]
          go_simp
          exact ⟨Below.refl _ _, rfl, fun h => by cases h⟩
        refine And.intro (fun w hw hd => ?_) ?_
        · refine ite_yes rfl ?_
          simp only [Gives]
          go_simp
          exact ⟨Below.refl _ _, rfl, fun h => by cases h⟩
        refine And.intro (fun w hw hd => ?_) ?_
        · have d4 := hd 4 (by decide) rfl
          change vs 4 = _ at d4
          refine ite_yes rfl ?_
          have c_M1 := fun i => (M1.kept hw).cell i
          simp only [Gives]
          go_simp
          exact ⟨Below.refl _ _, rfl, fun h => by cases h⟩
        refine And.intro (fun w hw hd => ?_) ?_
        · have d3 := hd 3 (by decide) rfl
          change vs 3 = _ at d3
          have d5 := hd 5 (by decide) rfl
          change vs 5 = _ at d5
          refine ite_yes rfl ?_
          simp only [Gives]
          go_simp
          exact ⟨Below.refl _ _, rfl, fun h => by cases h⟩
        refine And.intro (fun w hw hd => ?_) ?_
        · refine ite_yes rfl ?_
          simp only [Gives]
          go_simp
          exact ⟨Below.refl _ _, rfl, fun h => by cases h⟩
        refine And.intro (fun w hw hd => ?_) ?_
        · have d6 := hd 6 (by decide) rfl
          change vs 6 = _ at d6
          have d7 := hd 7 (by decide) rfl
          change vs 7 = _ at d7
          refine ite_yes rfl ?_
          simp only [Gives]
          go_simp
          refine (HasPrefix_b (r.extract j r.size) t false w HP.out).mono ?_
          rintro e w1 ⟨rfl, hb⟩
          exact ⟨_, rfl, hb, rfl, fun h => by cases h⟩
        refine And.intro (fun w hw hd => ?_) ?_
        · have d8 := hd 8 (by decide) rfl
          change vs 8 = _ at d8
          refine ite_yes rfl ?_
          simp only [Gives]
          go_simp
          exact ⟨Below.refl _ _, rfl, fun h => by cases h⟩
        exact trivial
      intro vs wt hw hd hne hlo
      have d0 := hd 0 (by decide)
      change vs 0 = _ at d0
      have d1 := hd 1 (by decide)
      change vs 1 = _ at d1
      have d2 := hd 2 (by decide)
      change vs 2 = _ at d2
      have d3 := hd 3 (by decide)
      change vs 3 = _ at d3
      have d4 := hd 4 (by decide)
      change vs 4 = _ at d4
      have d5 := hd 5 (by decide)
      change vs 5 = _ at d5
      have d6 := hd 6 (by decide)
      change vs 6 = _ at d6
      have d7 := hd 7 (by decide)
      change vs 7 = _ at d7
      have d8 := hd 8 (by decide)
      change vs 8 = _ at d8
      have d9 := hd 9 (by decide)
      change vs 9 = _ at d9
      simp only [d0, d1, d2, d3, d4, d5, d6, d7, d8, d9, List.drop_succ_cons, List.drop_nil]
      have M1 := M1.kept hw
      have c_M1 := fun i => M1.cell i
      have f_M1 := fun i => M1.free i
      clear hd hne hlo d0 d1 d2 d3 d4 d5 d6 d7 d8 d9
      have N2 := M2.kept hw
      have c2 := fun i => N2.cell i
      have f2 := fun i => N2.free i
      have l2 := N2.lt
      go_wp2_with fail
      refine bodyPost_ret (v := .tuple #[.agg #[iv 0, iv 0], .bool false]) (results_cell_tmp rfl rfl rfl (Box.put2 N2) (d := .struct (Tryz.prog.fieldsOf 89)) (by kernel_rfl) rfl (by kernel_rfl)) rfl ⟨by rw [Hr.out]; rfl, ?_⟩
      exact up_put (up_put (up_later HB hw) (by simp) _) (by simp) _
    | true =>
      have HP := Lib.hid (show Lib.hasPrefix (r.extract j r.size).data.toList t.data.toList = true by rw [hy, ht, hp])
      have Hr := Lib.hid (show aftI s.data.toList r.data.toList (i, j) 4 = some (i + takesN 4, j + n) by unfold aftI; rw [hp, hn, hn9]; rfl)
      clear hn hp ht hy hx hn9 c1 c2 c3 f2 l2
      go_wp2_with fail
      apply wp_region_by 10 [(Fact.eq _), (Fact.eq _), (Fact.eq _), (Fact.eq _), (Fact.eq _), (Fact.eq _), (Fact.eq _), (Fact.eq _), (Fact.eq _), (Fact.eq _)]
      case hm => kernel_rfl
      case hB => kernel_rfl
      case hA => (intro vs; simp only [List.take_succ_cons, List.take_zero, putAll, if_true, Act.put, List.setIfInBounds_toArray, List.set_cons_zero, List.set_cons_succ]; exact rfl)
      case hstep =>
        intro vs
        refine And.intro (fun w hw hd => ?_) ?_
        · refine ite_yes rfl ?_
          simp only [Gives]
          go_simp
          exact ⟨Below.refl _ _, rfl, fun h => by cases h⟩
        refine And.intro (fun w hw hd => ?_) ?_
        · have d0 := hd 0 (by decide) rfl
          change vs 0 = _ at d0
          refine ite_yes rfl ?_
          simp only [Gives]
          go_simp
          exact ⟨Below.refl _ _, rfl, fun h => by cases h⟩
        refine And.intro (fun w hw hd => ?_) ?_
        · have d1 := hd 1 (by decide) rfl
          change vs 1 = _ at d1
          refine ite_yes rfl ?_
          simp only [Gives]
          go_simp
          exact ⟨Below.refl _ _, rfl, fun h => by cases h⟩
        refine And.intro (fun w hw hd => ?_) ?_
        · have d2 := hd 2 (by decide) rfl
          change vs 2 = _ at d2
          refine ite_yes rfl ?_
          have c_M1 := fun i => (M1.kept hw).cell i
          have q1 : w.cell? ⟨g, 1, none⟩ = some (sv r) := (M0.kept hw).cell 1
          simp only [Gives]
          go_simp
          exact ⟨Below.refl _ _, rfl, fun h => by cases h⟩
        refine And.intro (fun w hw hd => ?_) ?_
        · refine ite_yes rfl ?_
          simp only [Gives]
          go_simp
          exact ⟨Below.refl _ _, rfl, fun h => by cases h⟩
        refine And.intro (fun w hw hd => ?_) ?_
        · have d4 := hd 4 (by decide) rfl
          change vs 4 = _ at d4
          refine ite_yes rfl ?_
          have c_M1 := fun i => (M1.kept hw).cell i
          simp only [Gives]
          go_simp
          exact ⟨Below.refl _ _, rfl, fun h => by cases h⟩
        refine And.intro (fun w hw hd => ?_) ?_
        · have d3 := hd 3 (by decide) rfl
          change vs 3 = _ at d3
          have d5 := hd 5 (by decide) rfl
          change vs 5 = _ at d5
          refine ite_yes rfl ?_
          simp only [Gives]
          go_simp
          exact ⟨Below.refl _ _, rfl, fun h => by cases h⟩
        refine And.intro (fun w hw hd => ?_) ?_
        · refine ite_yes rfl ?_
          simp only [Gives]
          go_simp
          exact ⟨Below.refl _ _, rfl, fun h => by cases h⟩
        refine And.intro (fun w hw hd => ?_) ?_
        · have d6 := hd 6 (by decide) rfl
          change vs 6 = _ at d6
          have d7 := hd 7 (by decide) rfl
          change vs 7 = _ at d7
          refine ite_yes rfl ?_
          simp only [Gives]
          go_simp
          refine (HasPrefix_b (r.extract j r.size) t true w HP.out).mono ?_
          rintro e w1 ⟨rfl, hb⟩
          exact ⟨_, rfl, hb, rfl, fun h => by cases h⟩
        refine And.intro (fun w hw hd => ?_) ?_
        · have d8 := hd 8 (by decide) rfl
          change vs 8 = _ at d8
          refine ite_yes rfl ?_
          simp only [Gives]
          go_simp
          exact ⟨Below.refl _ _, rfl, fun h => by cases h⟩
        exact trivial
      intro vs wt hw hd hne hlo
      have d0 := hd 0 (by decide)
      change vs 0 = _ at d0
      have d1 := hd 1 (by decide)
      change vs 1 = _ at d1
      have d2 := hd 2 (by decide)
      change vs 2 = _ at d2
      have d3 := hd 3 (by decide)
      change vs 3 = _ at d3
      have d4 := hd 4 (by decide)
      change vs 4 = _ at d4
      have d5 := hd 5 (by decide)
      change vs 5 = _ at d5
      have d6 := hd 6 (by decide)
      change vs 6 = _ at d6
      have d7 := hd 7 (by decide)
      change vs 7 = _ at d7
      have d8 := hd 8 (by decide)
      change vs 8 = _ at d8
      have d9 := hd 9 (by decide)
      change vs 9 = _ at d9
      simp only [d0, d1, d2, d3, d4, d5, d6, d7, d8, d9, List.drop_succ_cons, List.drop_nil]
      have M1 := M1.kept hw
      have c_M1 := fun i => M1.cell i
      have f_M1 := fun i => M1.free i
      clear hd hne hlo d0 d1 d2 d3 d4 d5 d6 d7 d8 d9
      have N1 := M1
      have N2 := M2.kept hw
      have N3 := M3.kept hw
      have c1 := fun i => N1.cell i
      have c2 := fun i => N2.cell i
      have c3 := fun i => N3.cell i
      have f2 := fun i => N2.free i
      have l2 := N2.lt
      have hW1 : IntKind.i64.wrap ((i : Int) + 1) = (i : Int) + 1 := wrapK_in _ 3000 (by omega) (by omega)
      have hW2 : IntKind.i64.wrap ((j : Int) + (n : Int)) = (j : Int) + (n : Int) := wrapK_in _ 3000 (by omega) (by omega)
      go_wp2_with fail
      refine bodyPost_ret (v := .tuple #[.agg #[iv ((i : Int) + 1), iv ((j : Int) + (n : Int))], .bool true]) (results_cell_tmp rfl rfl rfl (Box.put2 N2) (d := .struct (Tryz.prog.fieldsOf 89)) (by kernel_rfl) rfl (by kernel_rfl)) rfl ⟨by rw [Hr.out]; rfl, ?_⟩
      exact up_put (up_put (up_later HB hw) (by simp) _) (by simp) _
set_option maxRecDepth 100000 in
set_option maxHeartbeats 1000000 in
theorem after5_any (g i j : Nat) (s r : ByteArray) (w : World) (h : Box w g 137 (linesC s r)) (hi : i ≤ s.size) (hj : j ≤ r.size) (hs9 : s.size ≤ 1000) (hr9 : r.size ≤ 1000) :
    Calls Tryz.prog 85 #[.pointer (some ⟨g, 0, none⟩), .agg #[iv i, iv j], iv 5] w fun e w' => e = .returned (aftV (aftI s.data.toList r.data.toList (i, j) 5)) ∧ Below w.heap.size w w' := by
  have hl := h.lt
  have N := (h.alloc (.cells #[iv i, iv j] 89)).alloc (.cells #[iv 0, iv 0] 89)
  have q0 : _ = some (sv s) := N.cell 0
  have p0 : ∀ o, _ = some (sv s) := fun o => (N.alloc o).cell 0
  have q1 : _ = some (sv r) := N.cell 1
  have p1 : ∀ o, _ = some (sv r) := fun o => (N.alloc o).cell 1
  have q2 : _ = some (fnV 111) := N.cell 22
  have p2 : ∀ o, _ = some (fnV 111) := fun o => (N.alloc o).cell 22
  have q3 : _ = some (fnV 112) := N.cell 23
  have p3 : ∀ o, _ = some (fnV 112) := fun o => (N.alloc o).cell 23
  have q4 : _ = some (iv 0) := N.cell 24
  have p4 : ∀ o, _ = some (iv 0) := fun o => (N.alloc o).cell 24
  have q5 : _ = some (iv 1) := N.cell 25
  have p5 : ∀ o, _ = some (iv 1) := fun o => (N.alloc o).cell 25
  have i0 : (0 : Int) ≤ (i : Int) := by omega
  have i1 : (i : Int) ≤ (s.size : Int) := by omega
  have j0 : (0 : Int) ≤ (j : Int) := by omega
  have j1 : (j : Int) ≤ (r.size : Int) := by omega
  unfold fnV at q2 q3 p2 p3
  have HN := Lib.hid h
  clear h N
  go_enter Tryz.func85, Tryz.ntmps85
  go_wp2_with fail
  go_region
  clear q0 q1 q2 q3 q4 q5 p0 p1 p2 p3 p4 p5
  obtain ⟨W, hW⟩ : ∃ W, (((w.alloc (.cells #[iv i, iv j] 89)).alloc (.cells #[iv 0, iv 0] 89)).alloc (.cells #[.func (.func 111) #[] #[], .func (.func 112) #[] #[], iv 0, iv 1] 133)).drew = W := ⟨_, rfl⟩
  have M1 : Box W w.heap.size 89 #[iv i, iv j] := hW ▸ (((Box.new rfl).alloc _).alloc _).drew
  have M2 : Box W (w.heap.size + 1) 89 #[iv 0, iv 0] := hW ▸ ((Box.new (by simp)).alloc _).drew
  have M3 : Box W (w.heap.size + 1 + 1) 133 #[.func (.func 111) #[] #[], .func (.func 112) #[] #[], iv 0, iv 1] := hW ▸ (Box.new (by simp)).drew
  have HB : Below w.heap.size w W := hW ▸ up_drew (up_alloc (up_alloc (up_alloc up0 _) _) _)
  have M0 := HN.out.kept HB
  have hWs := HB.size
  rw [hW]
  clear hW
  have c3 := fun i => M3.cell i
  have c2 := fun i => M2.cell i
  have f2 := fun i => M2.free i
  have l2 := M2.lt
  have hx := extract_rest s i
  go_wp2_with fail
  refine (whatever_any _ _).mono ?_
  rintro e w1 ⟨rfl, rfl⟩
  rw [hx]
  cases hn : needsB 5 (s.data.toList.drop i) with
  | false =>
    have Hr := Lib.hid (show aftI s.data.toList r.data.toList (i, j) 5 = none by unfold aftI; rw [hn]; rfl)
    clear hn
    go_wp2_with fail
    refine bodyPost_ret (v := .tuple #[.agg #[iv 0, iv 0], .bool false]) (results_cell_tmp rfl rfl rfl (Box.put2 M2) (d := .struct (Tryz.prog.fieldsOf 89)) (by kernel_rfl) rfl (by kernel_rfl)) rfl ⟨by rw [Hr.out]; rfl, ?_⟩
    exact up_put (up_put HB (by simp) _) (by simp) _
  | true =>
    go_wp2_with fail
    refine (asGap_any _ _).mono ?_
    rintro e w2 ⟨t, rfl, ht, rfl⟩
    rw [hx] at ht
    obtain ⟨n, hn9⟩ : ∃ n, (writesL 5 (s.data.toList.drop i)).length = n := ⟨_, rfl⟩
    have hts : t.size = n := by rw [Lib.size_eq, ht, hn9]
    have hn2 : n ≤ 2 := by rw [← hn9]; exact writes_in _ _
    have hy := extract_rest r j
    have c1 := fun i => M1.cell i
    cases hp : Lib.hasPrefix (r.data.toList.drop j) (writesL 5 (s.data.toList.drop i)) with
    | false =>
      have HP := Lib.hid (show Lib.hasPrefix (r.extract j r.size).data.toList t.data.toList = false by rw [hy, ht, hp])
      have Hr := Lib.hid (show aftI s.data.toList r.data.toList (i, j) 5 = none by unfold aftI; rw [hp, Bool.and_false]; rfl)
      clear hn hp ht hy hx hts hn9 c1 c2 c3 f2 l2
      go_wp2_with fail
      apply wp_region_by 10 [(Fact.eq _), (Fact.eq _), (Fact.eq _), (Fact.eq _), (Fact.eq _), (Fact.eq _), (Fact.eq _), (Fact.eq _), (Fact.eq _), (Fact.eq _)]
      case hm => kernel_rfl
      case hB => kernel_rfl
      case hA => (intro vs; simp only [List.take_succ_cons, List.take_zero, putAll, if_true, Act.put, List.setIfInBounds_toArray, List.set_cons_zero, List.set_cons_succ]; exact rfl)
      case hstep =>
        intro vs
        refine And.intro (fun w hw hd => ?_) ?_
        · refine ite_yes rfl ?_
          simp only [Gives]
          go_simp
          exact ⟨Below.refl _ _, rfl, fun h => by cases h⟩
        refine And.intro (fun w hw hd => ?_) ?_
        · have d0 := hd 0 (by decide) rfl
          change vs 0 = _ at d0
          refine ite_yes rfl ?_
          simp only [Gives]
          go_simp
          exact ⟨Below.refl _ _, rfl, fun h => by cases h⟩
        refine And.intro (fun w hw hd => ?_) ?_
        · have d1 := hd 1 (by decide) rfl
          change vs 1 = _ at d1
          refine ite_yes rfl ?_
          simp only [Gives]
          go_simp
          exact ⟨Below.refl _ _, rfl, fun h => by cases h⟩
        refine And.intro (fun w hw hd => ?_) ?_
        · have d2 := hd 2 (by decide) rfl
          change vs 2 = _ at d2
          refine ite_yes rfl ?_
          have c_M1 := fun i => (M1.kept hw).cell i
          have q1 : w.cell? ⟨g, 1, none⟩ = some (sv r) := (M0.kept hw).cell 1
          simp only [Gives]
          go_simp
          exact ⟨Below.refl _ _, rfl, fun h => by cases h⟩
        refine And.intro (fun w hw hd => ?_) ?_
        · refine ite_yes rfl ?_
          simp only [Gives]
          go_simp
          exact ⟨Below.refl _ _, rfl, fun h => by cases h⟩
        refine And.intro (fun w hw hd => ?_) ?_
        · have d4 := hd 4 (by decide) rfl
          change vs 4 = _ at d4
          refine ite_yes rfl ?_
          have c_M1 := fun i => (M1.kept hw).cell i
          simp only [Gives]
          go_simp
          exact ⟨Below.refl _ _, rfl, fun h => by cases h⟩
        refine And.intro (fun w hw hd => ?_) ?_
        · have d3 := hd 3 (by decide) rfl
          change vs 3 = _ at d3
          have d5 := hd 5 (by decide) rfl
          change vs 5 = _ at d5
          refine ite_yes rfl ?_
          simp only [Gives]
          go_simp
          exact ⟨Below.refl _ _, rfl, fun h => by cases h⟩
        refine And.intro (fun w hw hd => ?_) ?_
        · refine ite_yes rfl ?_
          simp only [Gives]
          go_simp
          exact ⟨Below.refl _ _, rfl, fun h => by cases h⟩
        refine And.intro (fun w hw hd => ?_) ?_
        · have d6 := hd 6 (by decide) rfl
          change vs 6 = _ at d6
          have d7 := hd 7 (by decide) rfl
          change vs 7 = _ at d7
          refine ite_yes rfl ?_
          simp only [Gives]
          go_simp
          refine (HasPrefix_b (r.extract j r.size) t false w HP.out).mono ?_
          rintro e w1 ⟨rfl, hb⟩
          exact ⟨_, rfl, hb, rfl, fun h => by cases h⟩
        refine And.intro (fun w hw hd => ?_) ?_
        · have d8 := hd 8 (by decide) rfl
          change vs 8 = _ at d8
          refine ite_yes rfl ?_
          simp only [Gives]
          go_simp
          exact ⟨Below.refl _ _, rfl, fun h => by cases h⟩
        exact trivial
      intro vs wt hw hd hne hlo
      have d0 := hd 0 (by decide)
      change vs 0 = _ at d0
      have d1 := hd 1 (by decide)
      change vs 1 = _ at d1
      have d2 := hd 2 (by decide)
      change vs 2 = _ at d2
      have d3 := hd 3 (by decide)
      change vs 3 = _ at d3
      have d4 := hd 4 (by decide)
      change vs 4 = _ at d4
      have d5 := hd 5 (by decide)
      change vs 5 = _ at d5
      have d6 := hd 6 (by decide)
      change vs 6 = _ at d6
      have d7 := hd 7 (by decide)
      change vs 7 = _ at d7
      have d8 := hd 8 (by decide)
      change vs 8 = _ at d8
      have d9 := hd 9 (by decide)
      change vs 9 = _ at d9
      simp only [d0, d1, d2, d3, d4, d5, d6, d7, d8, d9, List.drop_succ_cons, List.drop_nil]
      have M1 := M1.kept hw
      have c_M1 := fun i => M1.cell i
      have f_M1 := fun i => M1.free i
      clear hd hne hlo d0 d1 d2 d3 d4 d5 d6 d7 d8 d9
      have N2 := M2.kept hw
      have c2 := fun i => N2.cell i
      have f2 := fun i => N2.free i
      have l2 := N2.lt
      go_wp2_with fail
      refine bodyPost_ret (v := .tuple #[.agg #[iv 0, iv 0], .bool false]) (results_cell_tmp rfl rfl rfl (Box.put2 N2) (d := .struct (Tryz.prog.fieldsOf 89)) (by kernel_rfl) rfl (by kernel_rfl)) rfl ⟨by rw [Hr.out]; rfl, ?_⟩
      exact up_put (up_put (up_later HB hw) (by simp) _) (by simp) _
    | true =>
      have HP := Lib.hid (show Lib.hasPrefix (r.extract j r.size).data.toList t.data.toList = true by rw [hy, ht, hp])
      have Hr := Lib.hid (show aftI s.data.toList r.data.toList (i, j) 5 = some (i + takesN 5, j + n) by unfold aftI; rw [hp, hn, hn9]; rfl)
      clear hn hp ht hy hx hn9 c1 c2 c3 f2 l2
      go_wp2_with fail
      apply wp_region_by 10 [(Fact.eq _), (Fact.eq _), (Fact.eq _), (Fact.eq _), (Fact.eq _), (Fact.eq _), (Fact.eq _), (Fact.eq _), (Fact.eq _), (Fact.eq _)]
      case hm => kernel_rfl
      case hB => kernel_rfl
      case hA => (intro vs; simp only [List.take_succ_cons, List.take_zero, putAll, if_true, Act.put, List.setIfInBounds_toArray, List.set_cons_zero, List.set_cons_succ]; exact rfl)
      case hstep =>
        intro vs
        refine And.intro (fun w hw hd => ?_) ?_
        · refine ite_yes rfl ?_
          simp only [Gives]
          go_simp
          exact ⟨Below.refl _ _, rfl, fun h => by cases h⟩
        refine And.intro (fun w hw hd => ?_) ?_
        · have d0 := hd 0 (by decide) rfl
          change vs 0 = _ at d0
          refine ite_yes rfl ?_
          simp only [Gives]
          go_simp
          exact ⟨Below.refl _ _, rfl, fun h => by cases h⟩
        refine And.intro (fun w hw hd => ?_) ?_
        · have d1 := hd 1 (by decide) rfl
          change vs 1 = _ at d1
          refine ite_yes rfl ?_
          simp only [Gives]
          go_simp
          exact ⟨Below.refl _ _, rfl, fun h => by cases h⟩
        refine And.intro (fun w hw hd => ?_) ?_
        · have d2 := hd 2 (by decide) rfl
          change vs 2 = _ at d2
          refine ite_yes rfl ?_
          have c_M1 := fun i => (M1.kept hw).cell i
          have q1 : w.cell? ⟨g, 1, none⟩ = some (sv r) := (M0.kept hw).cell 1
          simp only [Gives]
          go_simp
          exact ⟨Below.refl _ _, rfl, fun h => by cases h⟩
        refine And.intro (fun w hw hd => ?_) ?_
        · refine ite_yes rfl ?_
          simp only [Gives]
          go_simp
          exact ⟨Below.refl _ _, rfl, fun h => by cases h⟩
        refine And.intro (fun w hw hd => ?_) ?_
        · have d4 := hd 4 (by decide) rfl
          change vs 4 = _ at d4
          refine ite_yes rfl ?_
          have c_M1 := fun i => (M1.kept hw).cell i
          simp only [Gives]
          go_simp
          exact ⟨Below.refl _ _, rfl, fun h => by cases h⟩
        refine And.intro (fun w hw hd => ?_) ?_
        · have d3 := hd 3 (by decide) rfl
          change vs 3 = _ at d3
          have d5 := hd 5 (by decide) rfl
          change vs 5 = _ at d5
          refine ite_yes rfl ?_
          simp only [Gives]
          go_simp
          exact ⟨Below.refl _ _, rfl, fun h => by cases h⟩
        refine And.intro (fun w hw hd => ?_) ?_
        · refine ite_yes rfl ?_
          simp only [Gives]
          go_simp
          exact ⟨Below.refl _ _, rfl, fun h => by cases h⟩
        refine And.intro (fun w hw hd => ?_) ?_
        · have d6 := hd 6 (by decide) rfl
          change vs 6 = _ at d6
          have d7 := hd 7 (by decide) rfl
          change vs 7 = _ at d7
          refine ite_yes rfl ?_
          simp only [Gives]
          go_simp
          refine (HasPrefix_b (r.extract j r.size) t true w HP.out).mono ?_
          rintro e w1 ⟨rfl, hb⟩
          exact ⟨_, rfl, hb, rfl, fun h => by cases h⟩
        refine And.intro (fun w hw hd => ?_) ?_
        · have d8 := hd 8 (by decide) rfl
          change vs 8 = _ at d8
          refine ite_yes rfl ?_
          simp only [Gives]
          go_simp
          exact ⟨Below.refl _ _, rfl, fun h => by cases h⟩
        exact trivial
      intro vs wt hw hd hne hlo
      have d0 := hd 0 (by decide)
      change vs 0 = _ at d0
      have d1 := hd 1 (by decide)
      change vs 1 = _ at d1
      have d2 := hd 2 (by decide)
      change vs 2 = _ at d2
      have d3 := hd 3 (by decide)
      change vs 3 = _ at d3
      have d4 := hd 4 (by decide)
      change vs 4 = _ at d4
      have d5 := hd 5 (by decide)
      change vs 5 = _ at d5
      have d6 := hd 6 (by decide)
      change vs 6 = _ at d6
      have d7 := hd 7 (by decide)
      change vs 7 = _ at d7
      have d8 := hd 8 (by decide)
      change vs 8 = _ at d8
      have d9 := hd 9 (by decide)
      change vs 9 = _ at d9
      simp only [d0, d1, d2, d3, d4, d5, d6, d7, d8, d9, List.drop_succ_cons, List.drop_nil]
      have M1 := M1.kept hw
      have c_M1 := fun i => M1.cell i
      have f_M1 := fun i => M1.free i
      clear hd hne hlo d0 d1 d2 d3 d4 d5 d6 d7 d8 d9
      have N1 := M1
      have N2 := M2.kept hw
      have N3 := M3.kept hw
      have c1 := fun i => N1.cell i
      have c2 := fun i => N2.cell i
      have c3 := fun i => N3.cell i
      have f2 := fun i => N2.free i
      have l2 := N2.lt
      have hW1 : IntKind.i64.wrap ((i : Int) + 0) = (i : Int) + 0 := wrapK_in _ 3000 (by omega) (by omega)
      have hW2 : IntKind.i64.wrap ((j : Int) + (n : Int)) = (j : Int) + (n : Int) := wrapK_in _ 3000 (by omega) (by omega)
      go_wp2_with fail
      refine bodyPost_ret (v := .tuple #[.agg #[iv (i : Int), iv ((j : Int) + (n : Int))], .bool true]) (results_cell_tmp rfl rfl rfl (Box.put2 N2) (d := .struct (Tryz.prog.fieldsOf 89)) (by kernel_rfl) rfl (by kernel_rfl)) rfl ⟨by rw [Hr.out]; rfl, ?_⟩
      exact up_put (up_put (up_later HB hw) (by simp) _) (by simp) _
theorem after_any (g i j k : Nat) (s r : ByteArray) (w : World) (hk : k < 6) (h : Box w g 137 (linesC s r)) (hi : i ≤ s.size) (hj : j ≤ r.size) (hs9 : s.size ≤ 1000) (hr9 : r.size ≤ 1000) :
    Calls Tryz.prog 85 #[.pointer (some ⟨g, 0, none⟩), .agg #[iv i, iv j], iv k] w fun e w' => e = .returned (aftV (aftI s.data.toList r.data.toList (i, j) k)) ∧ Below w.heap.size w w' := by
  rcases k with _ | _ | _ | _ | _ | _ | k
  · exact after0_any g i j s r w h hi hj hs9 hr9
  · exact after1_any g i j s r w h hi hj hs9 hr9
  · exact after2_any g i j s r w h hi hj hs9 hr9
  · exact after3_any g i j s r w h hi hj hs9 hr9
  · exact after4_any g i j s r w h hi hj hs9 hr9
  · exact after5_any g i j s r w h hi hj hs9 hr9
  · omega
end Go.Proofs.YtonekgefegfapaaGreat
