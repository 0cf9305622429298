/-
  WALK of '(*site).line'. Conditions: both stations are there.
-/
import Derived.Test.YtpmhhdhkhhlfpaaOp
namespace Go.Proofs.Ytpmhhdhkhhlfpaa
open Go.RowKit

theorem RowsAt.cellAt {α : Type} {w : World} {b off n cap sz : Nat} {cells : α → List Value} {l : List α} (h : RowsAt w (.slice (some ⟨b, off, none⟩) n cap) sz cells l) {i : Nat} {x : α} (hx : l[i]? = some x) {j : Nat} {u : Value} (hu : (cells x)[j]? = some u) :
    w.cell? ⟨b, off + i * sz + j, none⟩ = some u := by
  obtain ⟨b', off', e, _, hc⟩ := h.at rfl hx
  simp only [Option.some.injEq, Addr.mk.injEq, and_true] at e
  obtain ⟨rfl, rfl⟩ := e
  exact hc j u hu

set_option maxRecDepth 100000 in
set_option maxHeartbeats 2000000 in
theorem line_any (gs gm i j : Nat) (s t : St) (v1 v2 v3 v4 : Value) (L : Ld) (c : List (Value × List Cl)) (m : List ((Int × Int) × Value)) (w : World) (hS : SiteAt w gs gm v1 v2 v3 v4 L c m) (hi : L.st[i]? = some s) (hj : L.st[j]? = some t) :
    Calls Try.prog 62 #[.pointer (some ⟨gs, 0, none⟩), .int .i64 i, .int .i64 j] w fun e w' =>
      e = .returned (.agg #[.int .i64 s.x, .int .i64 s.y, .int .i64 s.z, .int .i64 s.m, .int .i64 t.x, .int .i64 t.y, .int .i64 t.z, .int .i64 t.m]) ∧ Below w.heap.size w w' := by
  obtain ⟨hn1, A1, cap1, rfl, _, _⟩ := hS.land.st.form
  have hB := hS.box
  have hR := hS.land.st
  obtain ⟨b, off, rfl, hb, _⟩ := hR.at rfl hi
  have hil : i < L.st.length := (List.getElem?_eq_some_iff.1 hi).1
  have hjl : j < L.st.length := (List.getElem?_eq_some_iff.1 hj).1
  have Hi := Lib.hid hi
  have Hj := Lib.hid hj
  have HR := Lib.hid hR
  clear hi hj hS hR
  have hi0 : (0 : Int) ≤ (i : Int) := by omega
  have hi1 : (i : Int) < (L.st.length : Int) := by omega
  have hj0 : (0 : Int) ≤ (j : Int) := by omega
  have hj1 : (j : Int) < (L.st.length : Int) := by omega
  go_enter Try.func62, Try.ntmps62
  go_wp2
  have hB := hB.alloc (.cells #[iv 0, iv 0, iv 0, iv 0, iv 0, iv 0, iv 0, iv 0] 112)
  have HR := Lib.hid (HR.out.kept (up_alloc up0 (.cells #[iv 0, iv 0, iv 0, iv 0, iv 0, iv 0, iv 0, iv 0] 112)))
  have B6 := Box.new (w := w) (t := 112) (cs := #[iv 0, iv 0, iv 0, iv 0, iv 0, iv 0, iv 0, iv 0]) rfl
  apply wp_region_by 17 [(Fact.eq _), (Fact.eq _), (Fact.eq _), (Fact.eq _), (Fact.eq _), (Fact.eq _), (Fact.eq _), (Fact.eq _), (Fact.eq _), (Fact.eq _), (Fact.eq _), (Fact.eq _), (Fact.eq _), (Fact.eq _), (Fact.eq _), (Fact.eq _), (Fact.eq _)]
  case hm => kernel_rfl
  case hB => kernel_rfl
  case hA => (intro vs; simp only [List.take_succ_cons, List.take_zero, putAll, if_true, Act.put, List.setIfInBounds_toArray, List.set_cons_zero, List.set_cons_succ]; exact rfl)
  case hstep =>
    intro vs
    refine And.intro (fun w hw hd => ?_) ?_
    · refine ite_yes rfl ?_
      simp only [Gives]
      go_simp
      exact ⟨Below.refl _ _, rfl, fun h => by cases h⟩
    refine And.intro (fun w hw hd => ?_) ?_
    · have d0 := hd 0 (by decide) rfl
      change vs 0 = _ at d0
      refine ite_yes rfl ?_
      simp only [Gives]
      go_simp
      exact ⟨Below.refl _ _, rfl, fun h => by cases h⟩
    refine And.intro (fun w hw hd => ?_) ?_
    · have d1 := hd 1 (by decide) rfl
      change vs 1 = _ at d1
      refine ite_yes rfl ?_
      simp only [Gives]
      go_simp
      exact ⟨Below.refl _ _, rfl, fun h => by cases h⟩
    refine And.intro (fun w hw hd => ?_) ?_
    · have d2 := hd 2 (by decide) rfl
      change vs 2 = _ at d2
      refine ite_yes rfl ?_
      simp only [Gives]
      go_simp
      exact ⟨Below.refl _ _, rfl, fun h => by cases h⟩
    refine And.intro (fun w hw hd => ?_) ?_
    · have d3 := hd 3 (by decide) rfl
      change vs 3 = _ at d3
      refine ite_yes rfl ?_
      have c_hB := fun i => (hB.kept hw).cell i
      have c_B6 := fun i => (B6.kept hw).cell i
      simp only [Gives]
      go_simp
      exact ⟨Below.refl _ _, rfl, fun h => by cases h⟩
    refine And.intro (fun w hw hd => ?_) ?_
    · refine ite_yes rfl ?_
      simp only [Gives]
      go_simp
      exact ⟨Below.refl _ _, rfl, fun h => by cases h⟩
    refine And.intro (fun w hw hd => ?_) ?_
    · have d4 := hd 4 (by decide) rfl
      change vs 4 = _ at d4
      have d5 := hd 5 (by decide) rfl
      change vs 5 = _ at d5
      refine ite_yes rfl ?_
      simp only [Gives]
      go_simp
      exact ⟨Below.refl _ _, rfl, fun h => by cases h⟩
    refine And.intro (fun w hw hd => ?_) ?_
    · have d6 := hd 6 (by decide) rfl
      change vs 6 = _ at d6
      refine ite_yes rfl ?_
      have c_hB := fun i => (hB.kept hw).cell i
      have c_B6 := fun i => (B6.kept hw).cell i
      have p0 : w.cell? ⟨b, off + i * 4, none⟩ = some (.int .i64 s.x) := (HR.out.kept hw).cellAt Hi.out (j := 0) rfl
      have p1 : w.cell? ⟨b, off + i * 4 + 1, none⟩ = some (.int .i64 s.y) := (HR.out.kept hw).cellAt Hi.out (j := 1) rfl
      have p2 : w.cell? ⟨b, off + i * 4 + 2, none⟩ = some (.int .i64 s.z) := (HR.out.kept hw).cellAt Hi.out (j := 2) rfl
      have p3 : w.cell? ⟨b, off + i * 4 + 3, none⟩ = some (.int .i64 s.m) := (HR.out.kept hw).cellAt Hi.out (j := 3) rfl
      have u0 : w.cell? ⟨b, off + j * 4, none⟩ = some (.int .i64 t.x) := (HR.out.kept hw).cellAt Hj.out (j := 0) rfl
      have u1 : w.cell? ⟨b, off + j * 4 + 1, none⟩ = some (.int .i64 t.y) := (HR.out.kept hw).cellAt Hj.out (j := 1) rfl
      have u2 : w.cell? ⟨b, off + j * 4 + 2, none⟩ = some (.int .i64 t.z) := (HR.out.kept hw).cellAt Hj.out (j := 2) rfl
      have u3 : w.cell? ⟨b, off + j * 4 + 3, none⟩ = some (.int .i64 t.m) := (HR.out.kept hw).cellAt Hj.out (j := 3) rfl
      simp only [Gives]
      go_simp
      exact ⟨Below.refl _ _, rfl, fun h => by cases h⟩
    refine And.intro (fun w hw hd => ?_) ?_
    · refine ite_yes rfl ?_
      simp only [Gives]
      go_simp
      exact ⟨Below.refl _ _, rfl, fun h => by cases h⟩
    refine And.intro (fun w hw hd => ?_) ?_
    · have d8 := hd 8 (by decide) rfl
      change vs 8 = _ at d8
      refine ite_yes rfl ?_
      simp only [Gives]
      go_simp
      exact ⟨Below.refl _ _, rfl, fun h => by cases h⟩
    refine And.intro (fun w hw hd => ?_) ?_
    · have d9 := hd 9 (by decide) rfl
      change vs 9 = _ at d9
      refine ite_yes rfl ?_
      simp only [Gives]
      go_simp
      exact ⟨Below.refl _ _, rfl, fun h => by cases h⟩
    refine And.intro (fun w hw hd => ?_) ?_
    · have d10 := hd 10 (by decide) rfl
      change vs 10 = _ at d10
      refine ite_yes rfl ?_
      simp only [Gives]
      go_simp
      exact ⟨Below.refl _ _, rfl, fun h => by cases h⟩
    refine And.intro (fun w hw hd => ?_) ?_
    · have d11 := hd 11 (by decide) rfl
      change vs 11 = _ at d11
      refine ite_yes rfl ?_
      have c_hB := fun i => (hB.kept hw).cell i
      have c_B6 := fun i => (B6.kept hw).cell i
      simp only [Gives]
      go_simp
      exact ⟨Below.refl _ _, rfl, fun h => by cases h⟩
    refine And.intro (fun w hw hd => ?_) ?_
    · refine ite_yes rfl ?_
      simp only [Gives]
      go_simp
      exact ⟨Below.refl _ _, rfl, fun h => by cases h⟩
    refine And.intro (fun w hw hd => ?_) ?_
    · have d12 := hd 12 (by decide) rfl
      change vs 12 = _ at d12
      have d13 := hd 13 (by decide) rfl
      change vs 13 = _ at d13
      refine ite_yes rfl ?_
      simp only [Gives]
      go_simp
      exact ⟨Below.refl _ _, rfl, fun h => by cases h⟩
    refine And.intro (fun w hw hd => ?_) ?_
    · have d14 := hd 14 (by decide) rfl
      change vs 14 = _ at d14
      refine ite_yes rfl ?_
      have c_hB := fun i => (hB.kept hw).cell i
      have c_B6 := fun i => (B6.kept hw).cell i
      have p0 : w.cell? ⟨b, off + i * 4, none⟩ = some (.int .i64 s.x) := (HR.out.kept hw).cellAt Hi.out (j := 0) rfl
      have p1 : w.cell? ⟨b, off + i * 4 + 1, none⟩ = some (.int .i64 s.y) := (HR.out.kept hw).cellAt Hi.out (j := 1) rfl
      have p2 : w.cell? ⟨b, off + i * 4 + 2, none⟩ = some (.int .i64 s.z) := (HR.out.kept hw).cellAt Hi.out (j := 2) rfl
      have p3 : w.cell? ⟨b, off + i * 4 + 3, none⟩ = some (.int .i64 s.m) := (HR.out.kept hw).cellAt Hi.out (j := 3) rfl
      have u0 : w.cell? ⟨b, off + j * 4, none⟩ = some (.int .i64 t.x) := (HR.out.kept hw).cellAt Hj.out (j := 0) rfl
      have u1 : w.cell? ⟨b, off + j * 4 + 1, none⟩ = some (.int .i64 t.y) := (HR.out.kept hw).cellAt Hj.out (j := 1) rfl
      have u2 : w.cell? ⟨b, off + j * 4 + 2, none⟩ = some (.int .i64 t.z) := (HR.out.kept hw).cellAt Hj.out (j := 2) rfl
      have u3 : w.cell? ⟨b, off + j * 4 + 3, none⟩ = some (.int .i64 t.m) := (HR.out.kept hw).cellAt Hj.out (j := 3) rfl
      simp only [Gives]
      go_simp
      exact ⟨Below.refl _ _, rfl, fun h => by cases h⟩
    refine And.intro (fun w hw hd => ?_) ?_
    · have d7 := hd 7 (by decide) rfl
      change vs 7 = _ at d7
      have d15 := hd 15 (by decide) rfl
      change vs 15 = _ at d15
      refine ite_yes rfl ?_
      simp only [Gives]
      go_simp
      exact ⟨Below.refl _ _, rfl, fun h => by cases h⟩
    exact trivial
  intro vs wt hw hd hne hlo
  have d0 := hd 0 (by decide)
  change vs 0 = _ at d0
  have d1 := hd 1 (by decide)
  change vs 1 = _ at d1
  have d2 := hd 2 (by decide)
  change vs 2 = _ at d2
  have d3 := hd 3 (by decide)
  change vs 3 = _ at d3
  have d4 := hd 4 (by decide)
  change vs 4 = _ at d4
  have d5 := hd 5 (by decide)
  change vs 5 = _ at d5
  have d6 := hd 6 (by decide)
  change vs 6 = _ at d6
  have d7 := hd 7 (by decide)
  change vs 7 = _ at d7
  have d8 := hd 8 (by decide)
  change vs 8 = _ at d8
  have d9 := hd 9 (by decide)
  change vs 9 = _ at d9
  have d10 := hd 10 (by decide)
  change vs 10 = _ at d10
  have d11 := hd 11 (by decide)
  change vs 11 = _ at d11
  have d12 := hd 12 (by decide)
  change vs 12 = _ at d12
  have d13 := hd 13 (by decide)
  change vs 13 = _ at d13
  have d14 := hd 14 (by decide)
  change vs 14 = _ at d14
  have d15 := hd 15 (by decide)
  change vs 15 = _ at d15
  have d16 := hd 16 (by decide)
  change vs 16 = _ at d16
  simp only [d0, d1, d2, d3, d4, d5, d6, d7, d8, d9, d10, d11, d12, d13, d14, d15, d16, List.drop_succ_cons, List.drop_zero]
  have hB := hB.kept hw
  have B6 := B6.kept hw
  have c_hB := fun i => hB.cell i
  have f_hB := fun i => hB.free i
  have c_B6 := fun i => B6.cell i
  have f_B6 := fun i => B6.free i
  clear hd hne hlo d0 d1 d2 d3 d4 d5 d6 d7 d8 d9 d10 d11 d12 d13 d14 d15 d16
  go_wp2
  refine bodyPost_ret (v := .agg #[.int .i64 s.x, .int .i64 s.y, .int .i64 s.z, .int .i64 s.m, .int .i64 t.x, .int .i64 t.y, .int .i64 t.z, .int .i64 t.m]) (by
    have N := Box.put8 (u0 := iv s.x) (u1 := iv s.y) (u2 := iv s.z) (u3 := iv s.m) (u4 := iv t.x) (u5 := iv t.y) (u6 := iv t.z) (u7 := iv t.m) B6
    have cN := fun i => N.cell i
    simp [results, Try.results62, go_sem, cN]) rfl ⟨rfl, ?_⟩
  exact up_put (up_put (up_put (up_put (up_put (up_put (up_put (up_put (up_later (up_alloc up0 _) hw) (Nat.le_refl _) _) (Nat.le_refl _) _) (Nat.le_refl _) _) (Nat.le_refl _) _) (Nat.le_refl _) _) (Nat.le_refl _) _) (Nat.le_refl _) _) (Nat.le_refl _) _

end Go.Proofs.Ytpmhhdhkhhlfpaa
