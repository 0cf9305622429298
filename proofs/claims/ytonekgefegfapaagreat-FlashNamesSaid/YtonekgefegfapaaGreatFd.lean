/-
  WALKS of newLines and (lines).end. No condition.
-/
import Derived.Test.YtonekgefegfapaaGreatFc
namespace Go.Proofs.YtonekgefegfapaaGreat
open Go.RowKit

/-- What newLines lays: both strings, and the kinds. -/
def linesC (s r : ByteArray) : Array Value := #[sv s, sv r, fnV 102, fnV 103, iv 1, iv 0, fnV 104, fnV 105, iv 1, iv 1, fnV 106, fnV 107, iv 1, iv 1, fnV 108, fnV 109, iv 2, iv 1, fnV 110, fnV 105, iv 1, iv 1, fnV 111, fnV 112, iv 0, iv 1]
set_option maxRecDepth 100000 in
set_option maxHeartbeats 400000 in
theorem newLines_any (s r : ByteArray) (w : World) : Calls Tryz.prog 65 #[sv s, sv r] w fun e w' => ∃ g, e = .returned (.pointer (some ⟨g, 0, none⟩)) ∧ Box w' g 137 (linesC s r) ∧ w.heap.size ≤ g ∧ Below w.heap.size w w' := by
  go_enter Tryz.func65, Tryz.ntmps65
  go_wp2_with fail
  refine (allKinds_any _).mono ?_
  rintro e w1 ⟨rfl, hb⟩
  unfold kindsC fnV
  have hs := hb.size
  go_wp2_with fail
  go_ret
  exact ⟨_, rfl, Box.new rfl, hs, up_alloc hb _⟩

set_option maxRecDepth 100000 in
set_option maxHeartbeats 400000 in
theorem end_any (g : Nat) (s r : ByteArray) (w : World) (h : Box w g 137 (linesC s r)) : Calls Tryz.prog 80 #[.pointer (some ⟨g, 0, none⟩)] w fun e w' => e = .returned (.agg #[iv s.size, iv r.size]) ∧ Below w.heap.size w w' := by
  have hl := h.lt
  have N := h.alloc (.cells #[iv 0, iv 0] 89)
  have N2 := Box.new (w := w) (t := 89) (cs := #[iv 0, iv 0]) rfl
  clear h
  go_enter Tryz.func80, Tryz.ntmps80
  go_wp2_with fail
  apply wp_region_by 11 [(Fact.eq _), (Fact.eq _), (Fact.eq _), (Fact.eq _), (Fact.eq _), (Fact.eq _), (Fact.eq _), (Fact.eq _), (Fact.eq _), (Fact.eq _), (Fact.eq _)]
  case hm => kernel_rfl
  case hB => kernel_rfl
  case hA => (intro vs; simp only [List.take_succ_cons, List.take_zero, putAll, if_true, Act.put, List.setIfInBounds_toArray, List.set_cons_zero, List.set_cons_succ]; exact rfl)
  case hstep =>
    intro vs
    refine And.intro (fun w hw hd => ?_) ?_
    · refine ite_yes rfl ?_
      simp only [Gives]
      go_simp
      exact ⟨Below.refl _ _, rfl, fun h => by cases h⟩
    refine And.intro (fun w hw hd => ?_) ?_
    · have d0 := hd 0 (by decide) rfl
      change vs 0 = _ at d0
      refine ite_yes rfl ?_
      simp only [Gives]
      go_simp
      exact ⟨Below.refl _ _, rfl, fun h => by cases h⟩
    refine And.intro (fun w hw hd => ?_) ?_
    · have d1 := hd 1 (by decide) rfl
      change vs 1 = _ at d1
      refine ite_yes rfl ?_
      simp only [Gives]
      go_simp
      exact ⟨Below.refl _ _, rfl, fun h => by cases h⟩
    refine And.intro (fun w hw hd => ?_) ?_
    · have d2 := hd 2 (by decide) rfl
      change vs 2 = _ at d2
      refine ite_yes rfl ?_
      have q0 : w.cell? ⟨g, 0, none⟩ = some (sv s) := (N.kept hw).cell 0
      have q1 : w.cell? ⟨g, 1, none⟩ = some (sv r) := (N.kept hw).cell 1
      simp only [Gives]
      go_simp
      exact ⟨Below.refl _ _, rfl, fun h => by cases h⟩
    refine And.intro (fun w hw hd => ?_) ?_
    · have d3 := hd 3 (by decide) rfl
      change vs 3 = _ at d3
      refine ite_yes rfl ?_
      simp only [Gives]
      go_simp
      exact ⟨Below.refl _ _, rfl, fun h => by cases h⟩
    refine And.intro (fun w hw hd => ?_) ?_
    · refine ite_yes rfl ?_
      simp only [Gives]
      go_simp
      exact ⟨Below.refl _ _, rfl, fun h => by cases h⟩
    refine And.intro (fun w hw hd => ?_) ?_
    · have d5 := hd 5 (by decide) rfl
      change vs 5 = _ at d5
      refine ite_yes rfl ?_
      simp only [Gives]
      go_simp
      exact ⟨Below.refl _ _, rfl, fun h => by cases h⟩
    refine And.intro (fun w hw hd => ?_) ?_
    · have d6 := hd 6 (by decide) rfl
      change vs 6 = _ at d6
      refine ite_yes rfl ?_
      simp only [Gives]
      go_simp
      exact ⟨Below.refl _ _, rfl, fun h => by cases h⟩
    refine And.intro (fun w hw hd => ?_) ?_
    · have d7 := hd 7 (by decide) rfl
      change vs 7 = _ at d7
      refine ite_yes rfl ?_
      have q0 : w.cell? ⟨g, 0, none⟩ = some (sv s) := (N.kept hw).cell 0
      have q1 : w.cell? ⟨g, 1, none⟩ = some (sv r) := (N.kept hw).cell 1
      simp only [Gives]
      go_simp
      exact ⟨Below.refl _ _, rfl, fun h => by cases h⟩
    refine And.intro (fun w hw hd => ?_) ?_
    · have d8 := hd 8 (by decide) rfl
      change vs 8 = _ at d8
      refine ite_yes rfl ?_
      simp only [Gives]
      go_simp
      exact ⟨Below.refl _ _, rfl, fun h => by cases h⟩
    refine And.intro (fun w hw hd => ?_) ?_
    · have d4 := hd 4 (by decide) rfl
      change vs 4 = _ at d4
      have d9 := hd 9 (by decide) rfl
      change vs 9 = _ at d9
      refine ite_yes rfl ?_
      simp only [Gives]
      go_simp
      exact ⟨Below.refl _ _, rfl, fun h => by cases h⟩
    exact trivial
  intro vs wt hw hd hne hlo
  have d0 := hd 0 (by decide)
  change vs 0 = _ at d0
  have d1 := hd 1 (by decide)
  change vs 1 = _ at d1
  have d2 := hd 2 (by decide)
  change vs 2 = _ at d2
  have d3 := hd 3 (by decide)
  change vs 3 = _ at d3
  have d4 := hd 4 (by decide)
  change vs 4 = _ at d4
  have d5 := hd 5 (by decide)
  change vs 5 = _ at d5
  have d6 := hd 6 (by decide)
  change vs 6 = _ at d6
  have d7 := hd 7 (by decide)
  change vs 7 = _ at d7
  have d8 := hd 8 (by decide)
  change vs 8 = _ at d8
  have d9 := hd 9 (by decide)
  change vs 9 = _ at d9
  have d10 := hd 10 (by decide)
  change vs 10 = _ at d10
  simp only [d0, d1, d2, d3, d4, d5, d6, d7, d8, d9, d10, List.drop_succ_cons, List.drop_zero]
  clear hd hne hlo d0 d1 d2 d3 d4 d5 d6 d7 d8 d9 d10
  have M2 := N2.kept hw
  have c2 := fun i => M2.cell i
  have f2 := fun i => M2.free i
  go_wp2_with fail
  exact bodyPost_ret (v := .agg #[iv s.size, iv r.size]) (results_cell rfl rfl (Box.put2 M2) (d := .struct (Tryz.prog.fieldsOf 89)) (by kernel_rfl) rfl (by kernel_rfl)) rfl ⟨rfl, up_put (up_put (up_later (up_alloc up0 _) hw) (by simp) _) (by simp) _⟩
end Go.Proofs.YtonekgefegfapaaGreat
