/-
  WALK of '(*site).ridges': all ridges that block between two stations, out of the map, or put into it. Conditions: both stations are there; the land is without an error.
-/
import Derived.Test.YtojbdmdjepgpjaaSg
namespace Go.Proofs.Ytojbdmdjepgpjaa
open Go.RowKit


set_option maxRecDepth 100000 in
set_option maxHeartbeats 2000000 in
theorem siteRidges_any (gs gm i j : Nat) (s t : St) (v1 v2 v3 v4 : Value) (L : Ld) (c : List (Value × List Cl)) (m : List ((Int × Int) × Value)) (w : World) (hS : SiteAt w gs gm v1 v2 v3 v4 L c m) (hO : LandOK L) (hi : L.st[i]? = some s) (hj : L.st[j]? = some t) (N : Nat → Prop) (hN : ∀ g, N g → g < w.heap.size) (hF : ∀ x ∈ m, farN N (ridgesI L x.1.1 x.1.2) x.2) :
    Calls Try.prog 49 #[.pointer (some ⟨gs, 0, none⟩), .int .i64 i, .int .i64 j] w fun e w' => ∃ v m', e = .returned v ∧ RowsAt w' v 1 (fun n => [iv n]) (ridgesI L i j) ∧ SiteAt w' gs gm v1 v2 v3 v4 L c m' ∧ (∀ x ∈ m', farN N (ridgesI L x.1.1 x.1.2) x.2) ∧ w.grownBy w' (some gm) := by
  have HS := Lib.hid hS
  have HO := Lib.hid hO
  have Hi := Lib.hid hi
  have Hj := Lib.hid hj
  obtain ⟨hn2, A2, cap2, rfl, _, _⟩ := hS.land.rg.form
  have hB := hS.box
  have hM := hS.map
  have HN := Lib.hid hN
  have HF := Lib.hid hF
  obtain ⟨w0, hw0⟩ : ∃ w0, w0 = w := ⟨_, rfl⟩
  have hsz0 : w0.heap.size ≤ w.heap.size := by rw [hw0]; exact Nat.le_refl _
  have HW0 := Lib.hid hw0
  clear hS hO hi hj hN hF hw0
  rcases Nat.lt_trichotomy i j with hij | hij | hij
  · go_enter Try.func49, Try.ntmps49
    go_wp2
    all_goals try (exfalso; omega)
    have hB := hB.alloc (.cells #[.int .i64 i, .int .i64 j] 130)
    have hM := hM.kept (up_alloc up0 (.cells #[.int .i64 i, .int .i64 j] 130))
    have B7 := Box.new (w := w) (t := 130) (cs := #[iv i, iv j]) rfl
    have hl := fun (w' : World) (hk : MapAt w' gm m) => run_lookup (T := 106) (E := 41) Try.underlying106 pair_key (z := .slice none 0 0) (fun _ => by kernel_rfl) hk i j true
    cases hlk : look m i j with
    | some u =>
      rw [hlk] at hl
      have Hlk := Lib.hid hlk
      clear hlk
      simp only [if_true, Option.getD_some, Option.isSome_some] at hl
      apply wp_region_by 11 [(Fact.eq _), (Fact.eq _), (Fact.eq _), (Fact.eq _), (Fact.eq _), (Fact.eq (.tuple #[u, .bool true])), (Fact.eq _), (Fact.eq _), (Fact.eq _), (Fact.eq _), (Fact.eq _)]
      case hm => kernel_rfl
      case hB => kernel_rfl
      case hA => (intro vs; simp only [List.take_succ_cons, List.take_zero, putAll, if_true, Act.put, List.setIfInBounds_toArray, List.set_cons_zero, List.set_cons_succ]; exact rfl)
      case hstep =>
        intro vs
        refine And.intro (fun w hw hd => ?_) ?_
        · refine ite_yes rfl ?_
          simp only [Gives]
          go_simp
          exact ⟨Below.refl _ _, rfl, fun h => by cases h⟩
        refine And.intro (fun w hw hd => ?_) ?_
        · have d0 := hd 0 (by decide) rfl
          change vs 0 = _ at d0
          refine ite_yes rfl ?_
          simp only [Gives]
          go_simp
          exact ⟨Below.refl _ _, rfl, fun h => by cases h⟩
        refine And.intro (fun w hw hd => ?_) ?_
        · have d1 := hd 1 (by decide) rfl
          change vs 1 = _ at d1
          refine ite_yes rfl ?_
          simp only [Gives]
          go_simp
          exact ⟨Below.refl _ _, rfl, fun h => by cases h⟩
        refine And.intro (fun w hw hd => ?_) ?_
        · have d2 := hd 2 (by decide) rfl
          change vs 2 = _ at d2
          refine ite_yes rfl ?_
          have c_hB := fun i => (hB.kept hw).cell i
          have c_B7 := fun i => (B7.kept hw).cell i
          simp only [Gives]
          go_simp
          exact ⟨Below.refl _ _, rfl, fun h => by cases h⟩
        refine And.intro (fun w hw hd => ?_) ?_
        · refine ite_yes rfl ?_
          have c_hB := fun i => (hB.kept hw).cell i
          have c_B7 := fun i => (B7.kept hw).cell i
          simp only [Gives]
          go_simp
          exact ⟨Below.refl _ _, rfl, fun h => by cases h⟩
        refine And.intro (fun w hw hd => ?_) ?_
        · have d3 := hd 3 (by decide) rfl
          change vs 3 = _ at d3
          have d4 := hd 4 (by decide) rfl
          change vs 4 = _ at d4
          refine ite_yes rfl ?_
          simp only [Gives]
          (go_simp; rw [hl _ (hM.kept hw)]; exact ⟨Below.refl _ _, rfl, fun h => by cases h⟩)
        refine And.intro (fun w hw hd => ?_) ?_
        · have d5 := hd 5 (by decide) rfl
          change vs 5 = _ at d5
          refine ite_yes rfl ?_
          simp only [Gives]
          go_simp
          exact ⟨Below.refl _ _, rfl, fun h => by cases h⟩
        refine And.intro (fun w hw hd => ?_) ?_
        · have d6 := hd 6 (by decide) rfl
          change vs 6 = _ at d6
          refine ite_yes rfl ?_
          simp only [Gives]
          go_simp
          exact ⟨Below.refl _ _, rfl, fun h => by cases h⟩
        refine And.intro (fun w hw hd => ?_) ?_
        · have d6 := hd 6 (by decide) rfl
          change vs 6 = _ at d6
          refine ite_yes rfl ?_
          simp only [Gives]
          go_simp
          exact ⟨Below.refl _ _, rfl, fun h => by cases h⟩
        refine And.intro (fun w hw hd => ?_) ?_
        · have d7 := hd 7 (by decide) rfl
          change vs 7 = _ at d7
          refine ite_yes rfl ?_
          simp only [Gives]
          go_simp
          exact ⟨Below.refl _ _, rfl, fun h => by cases h⟩
        refine And.intro (fun w hw hd => ?_) ?_
        · have d8 := hd 8 (by decide) rfl
          change vs 8 = _ at d8
          refine ite_yes rfl ?_
          simp only [Gives]
          go_simp
          exact ⟨Below.refl _ _, rfl, fun h => by cases h⟩
        exact trivial
      intro vs wt hw hd hne hlo
      have d0 := hd 0 (by decide)
      change vs 0 = _ at d0
      have d1 := hd 1 (by decide)
      change vs 1 = _ at d1
      have d2 := hd 2 (by decide)
      change vs 2 = _ at d2
      have d3 := hd 3 (by decide)
      change vs 3 = _ at d3
      have d4 := hd 4 (by decide)
      change vs 4 = _ at d4
      have d5 := hd 5 (by decide)
      change vs 5 = _ at d5
      have d6 := hd 6 (by decide)
      change vs 6 = _ at d6
      have d7 := hd 7 (by decide)
      change vs 7 = _ at d7
      have d8 := hd 8 (by decide)
      change vs 8 = _ at d8
      have d9 := hd 9 (by decide)
      change vs 9 = _ at d9
      have d10 := hd 10 (by decide)
      change vs 10 = _ at d10
      simp only [d0, d1, d2, d3, d4, d6, d7, d8, d9, d10, List.drop_succ_cons, List.drop_nil]
      have hB := hB.kept hw
      have B7 := B7.kept hw
      have c_hB := fun i => hB.cell i
      have f_hB := fun i => hB.free i
      have c_B7 := fun i => B7.cell i
      have f_B7 := fun i => B7.free i
      clear hd hne hlo d0 d1 d2 d3 d4 d6 d7 d8 d9 d10
      go_wp2
      go_ret
      have bw := up_later (up_alloc up0 (.cells #[.int .i64 i, .int .i64 j] 130)) hw
      have hS := HS.out.kept bw
      exact ⟨u, m, by simp [go_sem], by have h := hS.old Hlk.out; first | exact h | (rw [ridgesI_back] at h; exact h), hS, HF.out, grown_below bw⟩
    | none =>
      rw [hlk] at hl
      have Hlk := Lib.hid hlk
      clear hlk
      simp only [if_true, Option.getD_none, Option.isSome_none] at hl
      apply wp_region_by 11 [(Fact.eq _), (Fact.eq _), (Fact.eq _), (Fact.eq _), (Fact.eq _), (Fact.eq (.tuple #[.slice none 0 0, .bool false])), (Fact.eq _), (Fact.eq _), (Fact.eq _), (Fact.eq _), (Fact.eq _)]
      case hm => kernel_rfl
      case hB => kernel_rfl
      case hA => (intro vs; simp only [List.take_succ_cons, List.take_zero, putAll, if_true, Act.put, List.setIfInBounds_toArray, List.set_cons_zero, List.set_cons_succ]; exact rfl)
      case hstep =>
        intro vs
        refine And.intro (fun w hw hd => ?_) ?_
        · refine ite_yes rfl ?_
          simp only [Gives]
          go_simp
          exact ⟨Below.refl _ _, rfl, fun h => by cases h⟩
        refine And.intro (fun w hw hd => ?_) ?_
        · have d0 := hd 0 (by decide) rfl
          change vs 0 = _ at d0
          refine ite_yes rfl ?_
          simp only [Gives]
          go_simp
          exact ⟨Below.refl _ _, rfl, fun h => by cases h⟩
        refine And.intro (fun w hw hd => ?_) ?_
        · have d1 := hd 1 (by decide) rfl
          change vs 1 = _ at d1
          refine ite_yes rfl ?_
          simp only [Gives]
          go_simp
          exact ⟨Below.refl _ _, rfl, fun h => by cases h⟩
        refine And.intro (fun w hw hd => ?_) ?_
        · have d2 := hd 2 (by decide) rfl
          change vs 2 = _ at d2
          refine ite_yes rfl ?_
          have c_hB := fun i => (hB.kept hw).cell i
          have c_B7 := fun i => (B7.kept hw).cell i
          simp only [Gives]
          go_simp
          exact ⟨Below.refl _ _, rfl, fun h => by cases h⟩
        refine And.intro (fun w hw hd => ?_) ?_
        · refine ite_yes rfl ?_
          have c_hB := fun i => (hB.kept hw).cell i
          have c_B7 := fun i => (B7.kept hw).cell i
          simp only [Gives]
          go_simp
          exact ⟨Below.refl _ _, rfl, fun h => by cases h⟩
        refine And.intro (fun w hw hd => ?_) ?_
        · have d3 := hd 3 (by decide) rfl
          change vs 3 = _ at d3
          have d4 := hd 4 (by decide) rfl
          change vs 4 = _ at d4
          refine ite_yes rfl ?_
          simp only [Gives]
          (go_simp; rw [hl _ (hM.kept hw)]; exact ⟨Below.refl _ _, rfl, fun h => by cases h⟩)
        refine And.intro (fun w hw hd => ?_) ?_
        · have d5 := hd 5 (by decide) rfl
          change vs 5 = _ at d5
          refine ite_yes rfl ?_
          simp only [Gives]
          go_simp
          exact ⟨Below.refl _ _, rfl, fun h => by cases h⟩
        refine And.intro (fun w hw hd => ?_) ?_
        · have d6 := hd 6 (by decide) rfl
          change vs 6 = _ at d6
          refine ite_yes rfl ?_
          simp only [Gives]
          go_simp
          exact ⟨Below.refl _ _, rfl, fun h => by cases h⟩
        refine And.intro (fun w hw hd => ?_) ?_
        · have d6 := hd 6 (by decide) rfl
          change vs 6 = _ at d6
          refine ite_yes rfl ?_
          simp only [Gives]
          go_simp
          exact ⟨Below.refl _ _, rfl, fun h => by cases h⟩
        refine And.intro (fun w hw hd => ?_) ?_
        · have d7 := hd 7 (by decide) rfl
          change vs 7 = _ at d7
          refine ite_yes rfl ?_
          simp only [Gives]
          go_simp
          exact ⟨Below.refl _ _, rfl, fun h => by cases h⟩
        refine And.intro (fun w hw hd => ?_) ?_
        · have d8 := hd 8 (by decide) rfl
          change vs 8 = _ at d8
          refine ite_yes rfl ?_
          simp only [Gives]
          go_simp
          exact ⟨Below.refl _ _, rfl, fun h => by cases h⟩
        exact trivial
      intro vs wt hw hd hne hlo
      have d0 := hd 0 (by decide)
      change vs 0 = _ at d0
      have d1 := hd 1 (by decide)
      change vs 1 = _ at d1
      have d2 := hd 2 (by decide)
      change vs 2 = _ at d2
      have d3 := hd 3 (by decide)
      change vs 3 = _ at d3
      have d4 := hd 4 (by decide)
      change vs 4 = _ at d4
      have d5 := hd 5 (by decide)
      change vs 5 = _ at d5
      have d6 := hd 6 (by decide)
      change vs 6 = _ at d6
      have d7 := hd 7 (by decide)
      change vs 7 = _ at d7
      have d8 := hd 8 (by decide)
      change vs 8 = _ at d8
      have d9 := hd 9 (by decide)
      change vs 9 = _ at d9
      have d10 := hd 10 (by decide)
      change vs 10 = _ at d10
      simp only [d0, d1, d2, d3, d4, d6, d7, d8, d9, d10, List.drop_succ_cons, List.drop_nil]
      have hB := hB.kept hw
      have B7 := B7.kept hw
      have c_hB := fun i => hB.cell i
      have f_hB := fun i => hB.free i
      have c_B7 := fun i => B7.cell i
      have f_B7 := fun i => B7.free i
      clear hd hne hlo d0 d1 d2 d3 d4 d6 d7 d8 d9 d10
      clear hl
      have HS := Lib.hid ((HS.out.kept (up_alloc up0 (.cells #[.int .i64 i, .int .i64 j] 130))).kept hw)
      have bw := up_later (up_alloc up0 (.cells #[.int .i64 i, .int .i64 j] 130)) hw
      have hsz0 := Nat.le_trans hsz0 bw.size
      go_upto_region 4 with fail
      have hB := HS.out.box
      apply wp_region_by 13 [(Fact.eq _), (Fact.eq _), (Fact.eq _), (Fact.eq _), (Fact.eq _), (Fact.eq _), (Fact.eq _), (Fact.eq _), (Fact.eq _), (Fact.all 100 (.slice A2 L.rg.length cap2)), (Fact.bl 99 100 s t (.slice A2 L.rg.length cap2)), (Fact.rowFrom w0.heap.size 1 (fun n => [iv n]) (ridgesI L i j)), (Fact.rowFrom w0.heap.size 1 (fun n => [iv n]) (ridgesI L i j))]
      case hm => kernel_rfl
      case hB => kernel_rfl
      case hA => (intro vs; simp only [List.take_succ_cons, List.take_zero, putAll, if_true, Act.put, List.setIfInBounds_toArray, List.set_cons_zero, List.set_cons_succ]; exact rfl)
      case hstep =>
        intro vs
        refine And.intro (fun w hw hd => ?_) ?_
        · refine ite_yes rfl ?_
          simp only [Gives]
          go_simp
          exact ⟨Below.refl _ _, rfl, fun h => by cases h⟩
        refine And.intro (fun w hw hd => ?_) ?_
        · refine ite_yes rfl ?_
          simp only [Gives]
          go_simp
          exact ⟨Below.refl _ _, rfl, fun h => by cases h⟩
        refine And.intro (fun w hw hd => ?_) ?_
        · refine ite_yes rfl ?_
          simp only [Gives]
          go_simp
          exact ⟨Below.refl _ _, rfl, fun h => by cases h⟩
        refine And.intro (fun w hw hd => ?_) ?_
        · have d0 := hd 0 (by decide) rfl
          change vs 0 = _ at d0
          have d1 := hd 1 (by decide) rfl
          change vs 1 = _ at d1
          have d2 := hd 2 (by decide) rfl
          change vs 2 = _ at d2
          refine ite_yes rfl ?_
          simp only [Gives]
          go_simp
          refine (line_any gs gm i j s t v1 _ v3 v4 L c m w (HS.out.kept hw) Hi.out Hj.out).mono ?_
          rintro e w1 ⟨rfl, hb⟩
          exact ⟨_, rfl, hb, rfl, fun h => by cases h⟩
        refine And.intro (fun w hw hd => ?_) ?_
        · refine ite_yes rfl ?_
          simp only [Gives]
          go_simp
          exact ⟨Below.refl _ _, rfl, fun h => by cases h⟩
        refine And.intro (fun w hw hd => ?_) ?_
        · have d4 := hd 4 (by decide) rfl
          change vs 4 = _ at d4
          refine ite_yes rfl ?_
          simp only [Gives]
          go_simp
          exact ⟨Below.refl _ _, rfl, fun h => by cases h⟩
        refine And.intro (fun w hw hd => ?_) ?_
        · have d5 := hd 5 (by decide) rfl
          change vs 5 = _ at d5
          refine ite_yes rfl ?_
          simp only [Gives]
          go_simp
          exact ⟨Below.refl _ _, rfl, fun h => by cases h⟩
        refine And.intro (fun w hw hd => ?_) ?_
        · have d6 := hd 6 (by decide) rfl
          change vs 6 = _ at d6
          refine ite_yes rfl ?_
          simp only [Gives]
          go_simp
          exact ⟨Below.refl _ _, rfl, fun h => by cases h⟩
        refine And.intro (fun w hw hd => ?_) ?_
        · have d7 := hd 7 (by decide) rfl
          change vs 7 = _ at d7
          refine ite_yes rfl ?_
          have c_hB := fun i => (hB.kept hw).cell i
          have c_B7 := fun i => (B7.kept hw).cell i
          simp only [Gives]
          go_simp
          exact ⟨Below.refl _ _, rfl, fun h => by cases h⟩
        refine And.intro (fun w hw hd => ?_) ?_
        · have d8 := hd 8 (by decide) rfl
          change vs 8 = _ at d8
          refine ite_yes rfl ?_
          simp only [Gives]
          go_simp
          refine (All_mk A2 L.rg.length cap2 w).mono ?_
          rintro e w1 ⟨rfl, rfl⟩
          exact ⟨_, rfl, up_alloc up0 _, ⟨_, rfl, Box.new rfl⟩, fun h => by cases h⟩
        refine And.intro (fun w hw hd => ?_) ?_
        · have d3 := hd 3 (by decide) rfl
          change vs 3 = _ at d3
          have d9 := hd 9 (by decide) rfl
          obtain ⟨g9, d9, N9⟩ := d9
          refine ite_yes rfl ?_
          simp only [Gives]
          go_simp
          refine (blocking_mk s t _ _ w).mono ?_
          rintro e w1 ⟨rfl, rfl⟩
          exact ⟨_, rfl, up_alloc (up_alloc up0 _) _, ⟨_, _, _, rfl, (Box.new rfl).alloc _, Box.new (by simp), (N9.alloc _).alloc _⟩, fun h => by cases h⟩
        refine And.intro (fun w hw hd => ?_) ?_
        · have d10 := hd 10 (by decide) rfl
          obtain ⟨b1, b2, g10, d10, N1, N2, N3⟩ := d10
          refine ite_yes rfl ?_
          simp only [Gives]
          go_simp
          refine (Collect_blocking w w b1 b2 _ _ s t (okSt_of (HO.out.st s (List.mem_of_getElem? Hi.out)).1) (okSt_of (HO.out.st t (List.mem_of_getElem? Hj.out)).1) (wAt L.rg) (okWl_w HO.out.rg) _ _ L.rg.length hn2 enters_All1 (fun n hn => All_stops Fence.wide n trivial rfl hn g10 _ L.rg w ((N3.cell 0).trans rfl) N3.lt (HS.out.kept hw).land.rg) up0 N1 N2).mono ?_
          rintro e w1 ⟨v, xs, rfl, ⟨ys, rfl, rfl⟩, ho, hb⟩
          rw [ridges_eq Hi.out Hj.out] at ho
          exact ⟨_, rfl, hb, ⟨RowsAt.of_own ho (by have := ridgesI_length L i j; omega), fun A n cap e => Nat.le_trans (Nat.le_trans hsz0 hw.size) (own_from ho A n cap e)⟩, fun h => by cases h⟩
        refine And.intro (fun w hw hd => ?_) ?_
        · have d11 := hd 11 (by decide) rfl
          refine ite_yes rfl ?_
          simp only [Gives]
          go_simp
          exact ⟨Below.refl _ _, d11, fun h => by cases h⟩
        exact trivial
      intro vs wt hw hd hne hlo
      have d0 := hd 0 (by decide)
      change vs 0 = _ at d0
      have d1 := hd 1 (by decide)
      change vs 1 = _ at d1
      have d2 := hd 2 (by decide)
      change vs 2 = _ at d2
      have d3 := hd 3 (by decide)
      change vs 3 = _ at d3
      have d4 := hd 4 (by decide)
      change vs 4 = _ at d4
      have d5 := hd 5 (by decide)
      change vs 5 = _ at d5
      have d6 := hd 6 (by decide)
      change vs 6 = _ at d6
      have d7 := hd 7 (by decide)
      change vs 7 = _ at d7
      have d8 := hd 8 (by decide)
      change vs 8 = _ at d8
      have d9 := hd 9 (by decide)
      obtain ⟨g9, d9, N9⟩ := d9
      have d10 := hd 10 (by decide)
      obtain ⟨b1, b2, g10, d10, N1, N2, N3⟩ := d10
      have d11 := hd 11 (by decide)
      have d12 := hd 12 (by decide)
      simp only [d0, d1, d2, d3, d4, d5, d6, d7, d8, List.drop_succ_cons, List.drop_nil]
      have hB := hB.kept hw
      have B7 := B7.kept hw
      have c_hB := fun i => hB.cell i
      have f_hB := fun i => hB.free i
      have c_B7 := fun i => B7.cell i
      have f_B7 := fun i => B7.free i
      clear hd hne hlo d0 d1 d2 d3 d4 d5 d6 d7 d8
      have HS := Lib.hid (HS.out.kept hw)
      have bw2 := up_later bw hw
      change RowsAt wt (vs 12) 1 _ _ ∧ (∀ A n cap, vs 12 = .slice (some A) n cap → w0.heap.size ≤ A.block) at d12
      simp only [Nat.reduceAdd, Nat.zero_add]
      generalize vs 12 = u at d12 ⊢
      have Hu := Lib.hid d12
      clear d12 d11 d10 d9 hw bw
      go_upto_region 5 with fail
      have hup := fun (w' : World) (hk : MapAt w' gm m) => run_update (T := 106) (E := 41) Try.underlying106 pair_key hk i j u Hlk.out
      apply wp_region_by 6 [(Fact.eq _), (Fact.eq _), (Fact.eq _), (Fact.eq _), (Fact.eq _), (Fact.eq _)]
      case hm => kernel_rfl
      case hB => kernel_rfl
      case hA => (intro vs; simp only [List.take_succ_cons, List.take_zero, putAll, if_true, Act.put, List.setIfInBounds_toArray, List.set_cons_zero, List.set_cons_succ]; exact rfl)
      case hstep =>
        intro vs
        refine And.intro (fun w hw hd => ?_) ?_
        · refine ite_yes rfl ?_
          simp only [Gives]
          go_simp
          exact ⟨Below.refl _ _, rfl, fun h => by cases h⟩
        refine And.intro (fun w hw hd => ?_) ?_
        · have d0 := hd 0 (by decide) rfl
          change vs 0 = _ at d0
          refine ite_yes rfl ?_
          simp only [Gives]
          go_simp
          exact ⟨Below.refl _ _, rfl, fun h => by cases h⟩
        refine And.intro (fun w hw hd => ?_) ?_
        · have d1 := hd 1 (by decide) rfl
          change vs 1 = _ at d1
          refine ite_yes rfl ?_
          simp only [Gives]
          go_simp
          exact ⟨Below.refl _ _, rfl, fun h => by cases h⟩
        refine And.intro (fun w hw hd => ?_) ?_
        · have d2 := hd 2 (by decide) rfl
          change vs 2 = _ at d2
          refine ite_yes rfl ?_
          have c_hB := fun i => (hB.kept hw).cell i
          have c_B7 := fun i => (B7.kept hw).cell i
          simp only [Gives]
          go_simp
          exact ⟨Below.refl _ _, rfl, fun h => by cases h⟩
        refine And.intro (fun w hw hd => ?_) ?_
        · refine ite_yes rfl ?_
          have c_hB := fun i => (hB.kept hw).cell i
          have c_B7 := fun i => (B7.kept hw).cell i
          simp only [Gives]
          go_simp
          exact ⟨Below.refl _ _, rfl, fun h => by cases h⟩
        refine And.intro (fun w hw hd => ?_) ?_
        · refine ite_yes rfl ?_
          simp only [Gives]
          go_simp
          exact ⟨Below.refl _ _, rfl, fun h => by cases h⟩
        exact trivial
      intro vs wt hw hd hne hlo
      have d0 := hd 0 (by decide)
      change vs 0 = _ at d0
      have d1 := hd 1 (by decide)
      change vs 1 = _ at d1
      have d2 := hd 2 (by decide)
      change vs 2 = _ at d2
      have d3 := hd 3 (by decide)
      change vs 3 = _ at d3
      have d4 := hd 4 (by decide)
      change vs 4 = _ at d4
      have d5 := hd 5 (by decide)
      change vs 5 = _ at d5
      simp only [d0, d1, d2, d3, d4, d5, List.drop_succ_cons, List.drop_zero]
      have hB := hB.kept hw
      have B7 := B7.kept hw
      have c_hB := fun i => hB.cell i
      have f_hB := fun i => hB.free i
      have c_B7 := fun i => B7.cell i
      have f_B7 := fun i => B7.free i
      clear hd hne hlo d0 d1 d2 d3 d4 d5
      have hS := HS.out.kept hw
      obtain ⟨w3, hrun, hM3, hg⟩ := hup wt hS.map
      have HM3 := Lib.hid hM3
      have HG := Lib.hid hg
      clear hM3 hg hup
      go_wp2
      go_ret
      have hu0 := Hu.out.1.kept hw
      have hu1 : RowsAt wt u 1 (fun n => [iv n]) (ridgesI L i j) := by first | exact hu0 | (rw [ridgesI_back]; exact hu0)
      have hgw := grown_trans (grown_below (gm := gm) (up_later bw2 hw)) HG.out
      refine ⟨u, m ++ [(((i : Int), (j : Int)), u)], by simp [go_sem], hu0.grown hS.map HG.out, hS.new HG.out HM3.out hu1, fun x hx => ?_, hgw⟩
      rcases List.mem_append.1 hx with hx | hx
      · exact HF.out x hx
      · rw [List.mem_singleton.1 hx]
        exact farN_far HN.out (by rw [← HW0.out]; exact Hu.out.2)
  · subst hij
    go_enter Try.func49, Try.ntmps49
    go_wp2
    all_goals try (exfalso; omega)
    have hB := hB.alloc (.cells #[.int .i64 i, .int .i64 i] 130)
    have hM := hM.kept (up_alloc up0 (.cells #[.int .i64 i, .int .i64 i] 130))
    have B7 := Box.new (w := w) (t := 130) (cs := #[iv i, iv i]) rfl
    have hl := fun (w' : World) (hk : MapAt w' gm m) => run_lookup (T := 106) (E := 41) Try.underlying106 pair_key (z := .slice none 0 0) (fun _ => by kernel_rfl) hk i i true
    cases hlk : look m i i with
    | some u =>
      rw [hlk] at hl
      have Hlk := Lib.hid hlk
      clear hlk
      simp only [if_true, Option.getD_some, Option.isSome_some] at hl
      apply wp_region_by 11 [(Fact.eq _), (Fact.eq _), (Fact.eq _), (Fact.eq _), (Fact.eq _), (Fact.eq (.tuple #[u, .bool true])), (Fact.eq _), (Fact.eq _), (Fact.eq _), (Fact.eq _), (Fact.eq _)]
      case hm => kernel_rfl
      case hB => kernel_rfl
      case hA => (intro vs; simp only [List.take_succ_cons, List.take_zero, putAll, if_true, Act.put, List.setIfInBounds_toArray, List.set_cons_zero, List.set_cons_succ]; exact rfl)
      case hstep =>
        intro vs
        refine And.intro (fun w hw hd => ?_) ?_
        · refine ite_yes rfl ?_
          simp only [Gives]
          go_simp
          exact ⟨Below.refl _ _, rfl, fun h => by cases h⟩
        refine And.intro (fun w hw hd => ?_) ?_
        · have d0 := hd 0 (by decide) rfl
          change vs 0 = _ at d0
          refine ite_yes rfl ?_
          simp only [Gives]
          go_simp
          exact ⟨Below.refl _ _, rfl, fun h => by cases h⟩
        refine And.intro (fun w hw hd => ?_) ?_
        · have d1 := hd 1 (by decide) rfl
          change vs 1 = _ at d1
          refine ite_yes rfl ?_
          simp only [Gives]
          go_simp
          exact ⟨Below.refl _ _, rfl, fun h => by cases h⟩
        refine And.intro (fun w hw hd => ?_) ?_
        · have d2 := hd 2 (by decide) rfl
          change vs 2 = _ at d2
          refine ite_yes rfl ?_
          have c_hB := fun i => (hB.kept hw).cell i
          have c_B7 := fun i => (B7.kept hw).cell i
          simp only [Gives]
          go_simp
          exact ⟨Below.refl _ _, rfl, fun h => by cases h⟩
        refine And.intro (fun w hw hd => ?_) ?_
        · refine ite_yes rfl ?_
          have c_hB := fun i => (hB.kept hw).cell i
          have c_B7 := fun i => (B7.kept hw).cell i
          simp only [Gives]
          go_simp
          exact ⟨Below.refl _ _, rfl, fun h => by cases h⟩
        refine And.intro (fun w hw hd => ?_) ?_
        · have d3 := hd 3 (by decide) rfl
          change vs 3 = _ at d3
          have d4 := hd 4 (by decide) rfl
          change vs 4 = _ at d4
          refine ite_yes rfl ?_
          simp only [Gives]
          (go_simp; rw [hl _ (hM.kept hw)]; exact ⟨Below.refl _ _, rfl, fun h => by cases h⟩)
        refine And.intro (fun w hw hd => ?_) ?_
        · have d5 := hd 5 (by decide) rfl
          change vs 5 = _ at d5
          refine ite_yes rfl ?_
          simp only [Gives]
          go_simp
          exact ⟨Below.refl _ _, rfl, fun h => by cases h⟩
        refine And.intro (fun w hw hd => ?_) ?_
        · have d6 := hd 6 (by decide) rfl
          change vs 6 = _ at d6
          refine ite_yes rfl ?_
          simp only [Gives]
          go_simp
          exact ⟨Below.refl _ _, rfl, fun h => by cases h⟩
        refine And.intro (fun w hw hd => ?_) ?_
        · have d6 := hd 6 (by decide) rfl
          change vs 6 = _ at d6
          refine ite_yes rfl ?_
          simp only [Gives]
          go_simp
          exact ⟨Below.refl _ _, rfl, fun h => by cases h⟩
        refine And.intro (fun w hw hd => ?_) ?_
        · have d7 := hd 7 (by decide) rfl
          change vs 7 = _ at d7
          refine ite_yes rfl ?_
          simp only [Gives]
          go_simp
          exact ⟨Below.refl _ _, rfl, fun h => by cases h⟩
        refine And.intro (fun w hw hd => ?_) ?_
        · have d8 := hd 8 (by decide) rfl
          change vs 8 = _ at d8
          refine ite_yes rfl ?_
          simp only [Gives]
          go_simp
          exact ⟨Below.refl _ _, rfl, fun h => by cases h⟩
        exact trivial
      intro vs wt hw hd hne hlo
      have d0 := hd 0 (by decide)
      change vs 0 = _ at d0
      have d1 := hd 1 (by decide)
      change vs 1 = _ at d1
      have d2 := hd 2 (by decide)
      change vs 2 = _ at d2
      have d3 := hd 3 (by decide)
      change vs 3 = _ at d3
      have d4 := hd 4 (by decide)
      change vs 4 = _ at d4
      have d5 := hd 5 (by decide)
      change vs 5 = _ at d5
      have d6 := hd 6 (by decide)
      change vs 6 = _ at d6
      have d7 := hd 7 (by decide)
      change vs 7 = _ at d7
      have d8 := hd 8 (by decide)
      change vs 8 = _ at d8
      have d9 := hd 9 (by decide)
      change vs 9 = _ at d9
      have d10 := hd 10 (by decide)
      change vs 10 = _ at d10
      simp only [d0, d1, d2, d3, d4, d6, d7, d8, d9, d10, List.drop_succ_cons, List.drop_nil]
      have hB := hB.kept hw
      have B7 := B7.kept hw
      have c_hB := fun i => hB.cell i
      have f_hB := fun i => hB.free i
      have c_B7 := fun i => B7.cell i
      have f_B7 := fun i => B7.free i
      clear hd hne hlo d0 d1 d2 d3 d4 d6 d7 d8 d9 d10
      go_wp2
      go_ret
      have bw := up_later (up_alloc up0 (.cells #[.int .i64 i, .int .i64 i] 130)) hw
      have hS := HS.out.kept bw
      exact ⟨u, m, by simp [go_sem], by have h := hS.old Hlk.out; first | exact h | (rw [ridgesI_back] at h; exact h), hS, HF.out, grown_below bw⟩
    | none =>
      rw [hlk] at hl
      have Hlk := Lib.hid hlk
      clear hlk
      simp only [if_true, Option.getD_none, Option.isSome_none] at hl
      apply wp_region_by 11 [(Fact.eq _), (Fact.eq _), (Fact.eq _), (Fact.eq _), (Fact.eq _), (Fact.eq (.tuple #[.slice none 0 0, .bool false])), (Fact.eq _), (Fact.eq _), (Fact.eq _), (Fact.eq _), (Fact.eq _)]
      case hm => kernel_rfl
      case hB => kernel_rfl
      case hA => (intro vs; simp only [List.take_succ_cons, List.take_zero, putAll, if_true, Act.put, List.setIfInBounds_toArray, List.set_cons_zero, List.set_cons_succ]; exact rfl)
      case hstep =>
        intro vs
        refine And.intro (fun w hw hd => ?_) ?_
        · refine ite_yes rfl ?_
          simp only [Gives]
          go_simp
          exact ⟨Below.refl _ _, rfl, fun h => by cases h⟩
        refine And.intro (fun w hw hd => ?_) ?_
        · have d0 := hd 0 (by decide) rfl
          change vs 0 = _ at d0
          refine ite_yes rfl ?_
          simp only [Gives]
          go_simp
          exact ⟨Below.refl _ _, rfl, fun h => by cases h⟩
        refine And.intro (fun w hw hd => ?_) ?_
        · have d1 := hd 1 (by decide) rfl
          change vs 1 = _ at d1
          refine ite_yes rfl ?_
          simp only [Gives]
          go_simp
          exact ⟨Below.refl _ _, rfl, fun h => by cases h⟩
        refine And.intro (fun w hw hd => ?_) ?_
        · have d2 := hd 2 (by decide) rfl
          change vs 2 = _ at d2
          refine ite_yes rfl ?_
          have c_hB := fun i => (hB.kept hw).cell i
          have c_B7 := fun i => (B7.kept hw).cell i
          simp only [Gives]
          go_simp
          exact ⟨Below.refl _ _, rfl, fun h => by cases h⟩
        refine And.intro (fun w hw hd => ?_) ?_
        · refine ite_yes rfl ?_
          have c_hB := fun i => (hB.kept hw).cell i
          have c_B7 := fun i => (B7.kept hw).cell i
          simp only [Gives]
          go_simp
          exact ⟨Below.refl _ _, rfl, fun h => by cases h⟩
        refine And.intro (fun w hw hd => ?_) ?_
        · have d3 := hd 3 (by decide) rfl
          change vs 3 = _ at d3
          have d4 := hd 4 (by decide) rfl
          change vs 4 = _ at d4
          refine ite_yes rfl ?_
          simp only [Gives]
          (go_simp; rw [hl _ (hM.kept hw)]; exact ⟨Below.refl _ _, rfl, fun h => by cases h⟩)
        refine And.intro (fun w hw hd => ?_) ?_
        · have d5 := hd 5 (by decide) rfl
          change vs 5 = _ at d5
          refine ite_yes rfl ?_
          simp only [Gives]
          go_simp
          exact ⟨Below.refl _ _, rfl, fun h => by cases h⟩
        refine And.intro (fun w hw hd => ?_) ?_
        · have d6 := hd 6 (by decide) rfl
          change vs 6 = _ at d6
          refine ite_yes rfl ?_
          simp only [Gives]
          go_simp
          exact ⟨Below.refl _ _, rfl, fun h => by cases h⟩
        refine And.intro (fun w hw hd => ?_) ?_
        · have d6 := hd 6 (by decide) rfl
          change vs 6 = _ at d6
          refine ite_yes rfl ?_
          simp only [Gives]
          go_simp
          exact ⟨Below.refl _ _, rfl, fun h => by cases h⟩
        refine And.intro (fun w hw hd => ?_) ?_
        · have d7 := hd 7 (by decide) rfl
          change vs 7 = _ at d7
          refine ite_yes rfl ?_
          simp only [Gives]
          go_simp
          exact ⟨Below.refl _ _, rfl, fun h => by cases h⟩
        refine And.intro (fun w hw hd => ?_) ?_
        · have d8 := hd 8 (by decide) rfl
          change vs 8 = _ at d8
          refine ite_yes rfl ?_
          simp only [Gives]
          go_simp
          exact ⟨Below.refl _ _, rfl, fun h => by cases h⟩
        exact trivial
      intro vs wt hw hd hne hlo
      have d0 := hd 0 (by decide)
      change vs 0 = _ at d0
      have d1 := hd 1 (by decide)
      change vs 1 = _ at d1
      have d2 := hd 2 (by decide)
      change vs 2 = _ at d2
      have d3 := hd 3 (by decide)
      change vs 3 = _ at d3
      have d4 := hd 4 (by decide)
      change vs 4 = _ at d4
      have d5 := hd 5 (by decide)
      change vs 5 = _ at d5
      have d6 := hd 6 (by decide)
      change vs 6 = _ at d6
      have d7 := hd 7 (by decide)
      change vs 7 = _ at d7
      have d8 := hd 8 (by decide)
      change vs 8 = _ at d8
      have d9 := hd 9 (by decide)
      change vs 9 = _ at d9
      have d10 := hd 10 (by decide)
      change vs 10 = _ at d10
      simp only [d0, d1, d2, d3, d4, d6, d7, d8, d9, d10, List.drop_succ_cons, List.drop_nil]
      have hB := hB.kept hw
      have B7 := B7.kept hw
      have c_hB := fun i => hB.cell i
      have f_hB := fun i => hB.free i
      have c_B7 := fun i => B7.cell i
      have f_B7 := fun i => B7.free i
      clear hd hne hlo d0 d1 d2 d3 d4 d6 d7 d8 d9 d10
      clear hl
      have HS := Lib.hid ((HS.out.kept (up_alloc up0 (.cells #[.int .i64 i, .int .i64 i] 130))).kept hw)
      have bw := up_later (up_alloc up0 (.cells #[.int .i64 i, .int .i64 i] 130)) hw
      have hsz0 := Nat.le_trans hsz0 bw.size
      go_upto_region 4 with fail
      have hB := HS.out.box
      apply wp_region_by 13 [(Fact.eq _), (Fact.eq _), (Fact.eq _), (Fact.eq _), (Fact.eq _), (Fact.eq _), (Fact.eq _), (Fact.eq _), (Fact.eq _), (Fact.all 100 (.slice A2 L.rg.length cap2)), (Fact.bl 99 100 s t (.slice A2 L.rg.length cap2)), (Fact.rowFrom w0.heap.size 1 (fun n => [iv n]) (ridgesI L i i)), (Fact.rowFrom w0.heap.size 1 (fun n => [iv n]) (ridgesI L i i))]
      case hm => kernel_rfl
      case hB => kernel_rfl
      case hA => (intro vs; simp only [List.take_succ_cons, List.take_zero, putAll, if_true, Act.put, List.setIfInBounds_toArray, List.set_cons_zero, List.set_cons_succ]; exact rfl)
      case hstep =>
        intro vs
        refine And.intro (fun w hw hd => ?_) ?_
        · refine ite_yes rfl ?_
          simp only [Gives]
          go_simp
          exact ⟨Below.refl _ _, rfl, fun h => by cases h⟩
        refine And.intro (fun w hw hd => ?_) ?_
        · refine ite_yes rfl ?_
          simp only [Gives]
          go_simp
          exact ⟨Below.refl _ _, rfl, fun h => by cases h⟩
        refine And.intro (fun w hw hd => ?_) ?_
        · refine ite_yes rfl ?_
          simp only [Gives]
          go_simp
          exact ⟨Below.refl _ _, rfl, fun h => by cases h⟩
        refine And.intro (fun w hw hd => ?_) ?_
        · have d0 := hd 0 (by decide) rfl
          change vs 0 = _ at d0
          have d1 := hd 1 (by decide) rfl
          change vs 1 = _ at d1
          have d2 := hd 2 (by decide) rfl
          change vs 2 = _ at d2
          refine ite_yes rfl ?_
          simp only [Gives]
          go_simp
          refine (line_any gs gm i i s t v1 _ v3 v4 L c m w (HS.out.kept hw) Hi.out Hj.out).mono ?_
          rintro e w1 ⟨rfl, hb⟩
          exact ⟨_, rfl, hb, rfl, fun h => by cases h⟩
        refine And.intro (fun w hw hd => ?_) ?_
        · refine ite_yes rfl ?_
          simp only [Gives]
          go_simp
          exact ⟨Below.refl _ _, rfl, fun h => by cases h⟩
        refine And.intro (fun w hw hd => ?_) ?_
        · have d4 := hd 4 (by decide) rfl
          change vs 4 = _ at d4
          refine ite_yes rfl ?_
          simp only [Gives]
          go_simp
          exact ⟨Below.refl _ _, rfl, fun h => by cases h⟩
        refine And.intro (fun w hw hd => ?_) ?_
        · have d5 := hd 5 (by decide) rfl
          change vs 5 = _ at d5
          refine ite_yes rfl ?_
          simp only [Gives]
          go_simp
          exact ⟨Below.refl _ _, rfl, fun h => by cases h⟩
        refine And.intro (fun w hw hd => ?_) ?_
        · have d6 := hd 6 (by decide) rfl
          change vs 6 = _ at d6
          refine ite_yes rfl ?_
          simp only [Gives]
          go_simp
          exact ⟨Below.refl _ _, rfl, fun h => by cases h⟩
        refine And.intro (fun w hw hd => ?_) ?_
        · have d7 := hd 7 (by decide) rfl
          change vs 7 = _ at d7
          refine ite_yes rfl ?_
          have c_hB := fun i => (hB.kept hw).cell i
          have c_B7 := fun i => (B7.kept hw).cell i
          simp only [Gives]
          go_simp
          exact ⟨Below.refl _ _, rfl, fun h => by cases h⟩
        refine And.intro (fun w hw hd => ?_) ?_
        · have d8 := hd 8 (by decide) rfl
          change vs 8 = _ at d8
          refine ite_yes rfl ?_
          simp only [Gives]
          go_simp
          refine (All_mk A2 L.rg.length cap2 w).mono ?_
          rintro e w1 ⟨rfl, rfl⟩
          exact ⟨_, rfl, up_alloc up0 _, ⟨_, rfl, Box.new rfl⟩, fun h => by cases h⟩
        refine And.intro (fun w hw hd => ?_) ?_
        · have d3 := hd 3 (by decide) rfl
          change vs 3 = _ at d3
          have d9 := hd 9 (by decide) rfl
          obtain ⟨g9, d9, N9⟩ := d9
          refine ite_yes rfl ?_
          simp only [Gives]
          go_simp
          refine (blocking_mk s t _ _ w).mono ?_
          rintro e w1 ⟨rfl, rfl⟩
          exact ⟨_, rfl, up_alloc (up_alloc up0 _) _, ⟨_, _, _, rfl, (Box.new rfl).alloc _, Box.new (by simp), (N9.alloc _).alloc _⟩, fun h => by cases h⟩
        refine And.intro (fun w hw hd => ?_) ?_
        · have d10 := hd 10 (by decide) rfl
          obtain ⟨b1, b2, g10, d10, N1, N2, N3⟩ := d10
          refine ite_yes rfl ?_
          simp only [Gives]
          go_simp
          refine (Collect_blocking w w b1 b2 _ _ s t (okSt_of (HO.out.st s (List.mem_of_getElem? Hi.out)).1) (okSt_of (HO.out.st t (List.mem_of_getElem? Hj.out)).1) (wAt L.rg) (okWl_w HO.out.rg) _ _ L.rg.length hn2 enters_All1 (fun n hn => All_stops Fence.wide n trivial rfl hn g10 _ L.rg w ((N3.cell 0).trans rfl) N3.lt (HS.out.kept hw).land.rg) up0 N1 N2).mono ?_
          rintro e w1 ⟨v, xs, rfl, ⟨ys, rfl, rfl⟩, ho, hb⟩
          rw [ridges_eq Hi.out Hj.out] at ho
          exact ⟨_, rfl, hb, ⟨RowsAt.of_own ho (by have := ridgesI_length L i i; omega), fun A n cap e => Nat.le_trans (Nat.le_trans hsz0 hw.size) (own_from ho A n cap e)⟩, fun h => by cases h⟩
        refine And.intro (fun w hw hd => ?_) ?_
        · have d11 := hd 11 (by decide) rfl
          refine ite_yes rfl ?_
          simp only [Gives]
          go_simp
          exact ⟨Below.refl _ _, d11, fun h => by cases h⟩
        exact trivial
      intro vs wt hw hd hne hlo
      have d0 := hd 0 (by decide)
      change vs 0 = _ at d0
      have d1 := hd 1 (by decide)
      change vs 1 = _ at d1
      have d2 := hd 2 (by decide)
      change vs 2 = _ at d2
      have d3 := hd 3 (by decide)
      change vs 3 = _ at d3
      have d4 := hd 4 (by decide)
      change vs 4 = _ at d4
      have d5 := hd 5 (by decide)
      change vs 5 = _ at d5
      have d6 := hd 6 (by decide)
      change vs 6 = _ at d6
      have d7 := hd 7 (by decide)
      change vs 7 = _ at d7
      have d8 := hd 8 (by decide)
      change vs 8 = _ at d8
      have d9 := hd 9 (by decide)
      obtain ⟨g9, d9, N9⟩ := d9
      have d10 := hd 10 (by decide)
      obtain ⟨b1, b2, g10, d10, N1, N2, N3⟩ := d10
      have d11 := hd 11 (by decide)
      have d12 := hd 12 (by decide)
      simp only [d0, d1, d2, d3, d4, d5, d6, d7, d8, List.drop_succ_cons, List.drop_nil]
      have hB := hB.kept hw
      have B7 := B7.kept hw
      have c_hB := fun i => hB.cell i
      have f_hB := fun i => hB.free i
      have c_B7 := fun i => B7.cell i
      have f_B7 := fun i => B7.free i
      clear hd hne hlo d0 d1 d2 d3 d4 d5 d6 d7 d8
      have HS := Lib.hid (HS.out.kept hw)
      have bw2 := up_later bw hw
      change RowsAt wt (vs 12) 1 _ _ ∧ (∀ A n cap, vs 12 = .slice (some A) n cap → w0.heap.size ≤ A.block) at d12
      simp only [Nat.reduceAdd, Nat.zero_add]
      generalize vs 12 = u at d12 ⊢
      have Hu := Lib.hid d12
      clear d12 d11 d10 d9 hw bw
      go_upto_region 5 with fail
      have hup := fun (w' : World) (hk : MapAt w' gm m) => run_update (T := 106) (E := 41) Try.underlying106 pair_key hk i i u Hlk.out
      apply wp_region_by 6 [(Fact.eq _), (Fact.eq _), (Fact.eq _), (Fact.eq _), (Fact.eq _), (Fact.eq _)]
      case hm => kernel_rfl
      case hB => kernel_rfl
      case hA => (intro vs; simp only [List.take_succ_cons, List.take_zero, putAll, if_true, Act.put, List.setIfInBounds_toArray, List.set_cons_zero, List.set_cons_succ]; exact rfl)
      case hstep =>
        intro vs
        refine And.intro (fun w hw hd => ?_) ?_
        · refine ite_yes rfl ?_
          simp only [Gives]
          go_simp
          exact ⟨Below.refl _ _, rfl, fun h => by cases h⟩
        refine And.intro (fun w hw hd => ?_) ?_
        · have d0 := hd 0 (by decide) rfl
          change vs 0 = _ at d0
          refine ite_yes rfl ?_
          simp only [Gives]
          go_simp
          exact ⟨Below.refl _ _, rfl, fun h => by cases h⟩
        refine And.intro (fun w hw hd => ?_) ?_
        · have d1 := hd 1 (by decide) rfl
          change vs 1 = _ at d1
          refine ite_yes rfl ?_
          simp only [Gives]
          go_simp
          exact ⟨Below.refl _ _, rfl, fun h => by cases h⟩
        refine And.intro (fun w hw hd => ?_) ?_
        · have d2 := hd 2 (by decide) rfl
          change vs 2 = _ at d2
          refine ite_yes rfl ?_
          have c_hB := fun i => (hB.kept hw).cell i
          have c_B7 := fun i => (B7.kept hw).cell i
          simp only [Gives]
          go_simp
          exact ⟨Below.refl _ _, rfl, fun h => by cases h⟩
        refine And.intro (fun w hw hd => ?_) ?_
        · refine ite_yes rfl ?_
          have c_hB := fun i => (hB.kept hw).cell i
          have c_B7 := fun i => (B7.kept hw).cell i
          simp only [Gives]
          go_simp
          exact ⟨Below.refl _ _, rfl, fun h => by cases h⟩
        refine And.intro (fun w hw hd => ?_) ?_
        · refine ite_yes rfl ?_
          simp only [Gives]
          go_simp
          exact ⟨Below.refl _ _, rfl, fun h => by cases h⟩
        exact trivial
      intro vs wt hw hd hne hlo
      have d0 := hd 0 (by decide)
      change vs 0 = _ at d0
      have d1 := hd 1 (by decide)
      change vs 1 = _ at d1
      have d2 := hd 2 (by decide)
      change vs 2 = _ at d2
      have d3 := hd 3 (by decide)
      change vs 3 = _ at d3
      have d4 := hd 4 (by decide)
      change vs 4 = _ at d4
      have d5 := hd 5 (by decide)
      change vs 5 = _ at d5
      simp only [d0, d1, d2, d3, d4, d5, List.drop_succ_cons, List.drop_zero]
      have hB := hB.kept hw
      have B7 := B7.kept hw
      have c_hB := fun i => hB.cell i
      have f_hB := fun i => hB.free i
      have c_B7 := fun i => B7.cell i
      have f_B7 := fun i => B7.free i
      clear hd hne hlo d0 d1 d2 d3 d4 d5
      have hS := HS.out.kept hw
      obtain ⟨w3, hrun, hM3, hg⟩ := hup wt hS.map
      have HM3 := Lib.hid hM3
      have HG := Lib.hid hg
      clear hM3 hg hup
      go_wp2
      go_ret
      have hu0 := Hu.out.1.kept hw
      have hu1 : RowsAt wt u 1 (fun n => [iv n]) (ridgesI L i i) := by first | exact hu0 | (rw [ridgesI_back]; exact hu0)
      have hgw := grown_trans (grown_below (gm := gm) (up_later bw2 hw)) HG.out
      refine ⟨u, m ++ [(((i : Int), (i : Int)), u)], by simp [go_sem], hu0.grown hS.map HG.out, hS.new HG.out HM3.out hu1, fun x hx => ?_, hgw⟩
      rcases List.mem_append.1 hx with hx | hx
      · exact HF.out x hx
      · rw [List.mem_singleton.1 hx]
        exact farN_far HN.out (by rw [← HW0.out]; exact Hu.out.2)
  · go_enter Try.func49, Try.ntmps49
    go_wp2
    all_goals try (exfalso; omega)
    have hB := hB.alloc (.cells #[.int .i64 j, .int .i64 i] 130)
    have hM := hM.kept (up_alloc up0 (.cells #[.int .i64 j, .int .i64 i] 130))
    have B7 := Box.new (w := w) (t := 130) (cs := #[iv j, iv i]) rfl
    have hl := fun (w' : World) (hk : MapAt w' gm m) => run_lookup (T := 106) (E := 41) Try.underlying106 pair_key (z := .slice none 0 0) (fun _ => by kernel_rfl) hk j i true
    cases hlk : look m j i with
    | some u =>
      rw [hlk] at hl
      have Hlk := Lib.hid hlk
      clear hlk
      simp only [if_true, Option.getD_some, Option.isSome_some] at hl
      apply wp_region_by 11 [(Fact.eq _), (Fact.eq _), (Fact.eq _), (Fact.eq _), (Fact.eq _), (Fact.eq (.tuple #[u, .bool true])), (Fact.eq _), (Fact.eq _), (Fact.eq _), (Fact.eq _), (Fact.eq _)]
      case hm => kernel_rfl
      case hB => kernel_rfl
      case hA => (intro vs; simp only [List.take_succ_cons, List.take_zero, putAll, if_true, Act.put, List.setIfInBounds_toArray, List.set_cons_zero, List.set_cons_succ]; exact rfl)
      case hstep =>
        intro vs
        refine And.intro (fun w hw hd => ?_) ?_
        · refine ite_yes rfl ?_
          simp only [Gives]
          go_simp
          exact ⟨Below.refl _ _, rfl, fun h => by cases h⟩
        refine And.intro (fun w hw hd => ?_) ?_
        · have d0 := hd 0 (by decide) rfl
          change vs 0 = _ at d0
          refine ite_yes rfl ?_
          simp only [Gives]
          go_simp
          exact ⟨Below.refl _ _, rfl, fun h => by cases h⟩
        refine And.intro (fun w hw hd => ?_) ?_
        · have d1 := hd 1 (by decide) rfl
          change vs 1 = _ at d1
          refine ite_yes rfl ?_
          simp only [Gives]
          go_simp
          exact ⟨Below.refl _ _, rfl, fun h => by cases h⟩
        refine And.intro (fun w hw hd => ?_) ?_
        · have d2 := hd 2 (by decide) rfl
          change vs 2 = _ at d2
          refine ite_yes rfl ?_
          have c_hB := fun i => (hB.kept hw).cell i
          have c_B7 := fun i => (B7.kept hw).cell i
          simp only [Gives]
          go_simp
          exact ⟨Below.refl _ _, rfl, fun h => by cases h⟩
        refine And.intro (fun w hw hd => ?_) ?_
        · refine ite_yes rfl ?_
          have c_hB := fun i => (hB.kept hw).cell i
          have c_B7 := fun i => (B7.kept hw).cell i
          simp only [Gives]
          go_simp
          exact ⟨Below.refl _ _, rfl, fun h => by cases h⟩
        refine And.intro (fun w hw hd => ?_) ?_
        · have d3 := hd 3 (by decide) rfl
          change vs 3 = _ at d3
          have d4 := hd 4 (by decide) rfl
          change vs 4 = _ at d4
          refine ite_yes rfl ?_
          simp only [Gives]
          (go_simp; rw [hl _ (hM.kept hw)]; exact ⟨Below.refl _ _, rfl, fun h => by cases h⟩)
        refine And.intro (fun w hw hd => ?_) ?_
        · have d5 := hd 5 (by decide) rfl
          change vs 5 = _ at d5
          refine ite_yes rfl ?_
          simp only [Gives]
          go_simp
          exact ⟨Below.refl _ _, rfl, fun h => by cases h⟩
        refine And.intro (fun w hw hd => ?_) ?_
        · have d6 := hd 6 (by decide) rfl
          change vs 6 = _ at d6
          refine ite_yes rfl ?_
          simp only [Gives]
          go_simp
          exact ⟨Below.refl _ _, rfl, fun h => by cases h⟩
        refine And.intro (fun w hw hd => ?_) ?_
        · have d6 := hd 6 (by decide) rfl
          change vs 6 = _ at d6
          refine ite_yes rfl ?_
          simp only [Gives]
          go_simp
          exact ⟨Below.refl _ _, rfl, fun h => by cases h⟩
        refine And.intro (fun w hw hd => ?_) ?_
        · have d7 := hd 7 (by decide) rfl
          change vs 7 = _ at d7
          refine ite_yes rfl ?_
          simp only [Gives]
          go_simp
          exact ⟨Below.refl _ _, rfl, fun h => by cases h⟩
        refine And.intro (fun w hw hd => ?_) ?_
        · have d8 := hd 8 (by decide) rfl
          change vs 8 = _ at d8
          refine ite_yes rfl ?_
          simp only [Gives]
          go_simp
          exact ⟨Below.refl _ _, rfl, fun h => by cases h⟩
        exact trivial
      intro vs wt hw hd hne hlo
      have d0 := hd 0 (by decide)
      change vs 0 = _ at d0
      have d1 := hd 1 (by decide)
      change vs 1 = _ at d1
      have d2 := hd 2 (by decide)
      change vs 2 = _ at d2
      have d3 := hd 3 (by decide)
      change vs 3 = _ at d3
      have d4 := hd 4 (by decide)
      change vs 4 = _ at d4
      have d5 := hd 5 (by decide)
      change vs 5 = _ at d5
      have d6 := hd 6 (by decide)
      change vs 6 = _ at d6
      have d7 := hd 7 (by decide)
      change vs 7 = _ at d7
      have d8 := hd 8 (by decide)
      change vs 8 = _ at d8
      have d9 := hd 9 (by decide)
      change vs 9 = _ at d9
      have d10 := hd 10 (by decide)
      change vs 10 = _ at d10
      simp only [d0, d1, d2, d3, d4, d6, d7, d8, d9, d10, List.drop_succ_cons, List.drop_nil]
      have hB := hB.kept hw
      have B7 := B7.kept hw
      have c_hB := fun i => hB.cell i
      have f_hB := fun i => hB.free i
      have c_B7 := fun i => B7.cell i
      have f_B7 := fun i => B7.free i
      clear hd hne hlo d0 d1 d2 d3 d4 d6 d7 d8 d9 d10
      go_wp2
      go_ret
      have bw := up_later (up_alloc up0 (.cells #[.int .i64 j, .int .i64 i] 130)) hw
      have hS := HS.out.kept bw
      exact ⟨u, m, by simp [go_sem], by have h := hS.old Hlk.out; first | exact h | (rw [ridgesI_back] at h; exact h), hS, HF.out, grown_below bw⟩
    | none =>
      rw [hlk] at hl
      have Hlk := Lib.hid hlk
      clear hlk
      simp only [if_true, Option.getD_none, Option.isSome_none] at hl
      apply wp_region_by 11 [(Fact.eq _), (Fact.eq _), (Fact.eq _), (Fact.eq _), (Fact.eq _), (Fact.eq (.tuple #[.slice none 0 0, .bool false])), (Fact.eq _), (Fact.eq _), (Fact.eq _), (Fact.eq _), (Fact.eq _)]
      case hm => kernel_rfl
      case hB => kernel_rfl
      case hA => (intro vs; simp only [List.take_succ_cons, List.take_zero, putAll, if_true, Act.put, List.setIfInBounds_toArray, List.set_cons_zero, List.set_cons_succ]; exact rfl)
      case hstep =>
        intro vs
        refine And.intro (fun w hw hd => ?_) ?_
        · refine ite_yes rfl ?_
          simp only [Gives]
          go_simp
          exact ⟨Below.refl _ _, rfl, fun h => by cases h⟩
        refine And.intro (fun w hw hd => ?_) ?_
        · have d0 := hd 0 (by decide) rfl
          change vs 0 = _ at d0
          refine ite_yes rfl ?_
          simp only [Gives]
          go_simp
          exact ⟨Below.refl _ _, rfl, fun h => by cases h⟩
        refine And.intro (fun w hw hd => ?_) ?_
        · have d1 := hd 1 (by decide) rfl
          change vs 1 = _ at d1
          refine ite_yes rfl ?_
          simp only [Gives]
          go_simp
          exact ⟨Below.refl _ _, rfl, fun h => by cases h⟩
        refine And.intro (fun w hw hd => ?_) ?_
        · have d2 := hd 2 (by decide) rfl
          change vs 2 = _ at d2
          refine ite_yes rfl ?_
          have c_hB := fun i => (hB.kept hw).cell i
          have c_B7 := fun i => (B7.kept hw).cell i
          simp only [Gives]
          go_simp
          exact ⟨Below.refl _ _, rfl, fun h => by cases h⟩
        refine And.intro (fun w hw hd => ?_) ?_
        · refine ite_yes rfl ?_
          have c_hB := fun i => (hB.kept hw).cell i
          have c_B7 := fun i => (B7.kept hw).cell i
          simp only [Gives]
          go_simp
          exact ⟨Below.refl _ _, rfl, fun h => by cases h⟩
        refine And.intro (fun w hw hd => ?_) ?_
        · have d3 := hd 3 (by decide) rfl
          change vs 3 = _ at d3
          have d4 := hd 4 (by decide) rfl
          change vs 4 = _ at d4
          refine ite_yes rfl ?_
          simp only [Gives]
          (go_simp; rw [hl _ (hM.kept hw)]; exact ⟨Below.refl _ _, rfl, fun h => by cases h⟩)
        refine And.intro (fun w hw hd => ?_) ?_
        · have d5 := hd 5 (by decide) rfl
          change vs 5 = _ at d5
          refine ite_yes rfl ?_
          simp only [Gives]
          go_simp
          exact ⟨Below.refl _ _, rfl, fun h => by cases h⟩
        refine And.intro (fun w hw hd => ?_) ?_
        · have d6 := hd 6 (by decide) rfl
          change vs 6 = _ at d6
          refine ite_yes rfl ?_
          simp only [Gives]
          go_simp
          exact ⟨Below.refl _ _, rfl, fun h => by cases h⟩
        refine And.intro (fun w hw hd => ?_) ?_
        · have d6 := hd 6 (by decide) rfl
          change vs 6 = _ at d6
          refine ite_yes rfl ?_
          simp only [Gives]
          go_simp
          exact ⟨Below.refl _ _, rfl, fun h => by cases h⟩
        refine And.intro (fun w hw hd => ?_) ?_
        · have d7 := hd 7 (by decide) rfl
          change vs 7 = _ at d7
          refine ite_yes rfl ?_
          simp only [Gives]
          go_simp
          exact ⟨Below.refl _ _, rfl, fun h => by cases h⟩
        refine And.intro (fun w hw hd => ?_) ?_
        · have d8 := hd 8 (by decide) rfl
          change vs 8 = _ at d8
          refine ite_yes rfl ?_
          simp only [Gives]
          go_simp
          exact ⟨Below.refl _ _, rfl, fun h => by cases h⟩
        exact trivial
      intro vs wt hw hd hne hlo
      have d0 := hd 0 (by decide)
      change vs 0 = _ at d0
      have d1 := hd 1 (by decide)
      change vs 1 = _ at d1
      have d2 := hd 2 (by decide)
      change vs 2 = _ at d2
      have d3 := hd 3 (by decide)
      change vs 3 = _ at d3
      have d4 := hd 4 (by decide)
      change vs 4 = _ at d4
      have d5 := hd 5 (by decide)
      change vs 5 = _ at d5
      have d6 := hd 6 (by decide)
      change vs 6 = _ at d6
      have d7 := hd 7 (by decide)
      change vs 7 = _ at d7
      have d8 := hd 8 (by decide)
      change vs 8 = _ at d8
      have d9 := hd 9 (by decide)
      change vs 9 = _ at d9
      have d10 := hd 10 (by decide)
      change vs 10 = _ at d10
      simp only [d0, d1, d2, d3, d4, d6, d7, d8, d9, d10, List.drop_succ_cons, List.drop_nil]
      have hB := hB.kept hw
      have B7 := B7.kept hw
      have c_hB := fun i => hB.cell i
      have f_hB := fun i => hB.free i
      have c_B7 := fun i => B7.cell i
      have f_B7 := fun i => B7.free i
      clear hd hne hlo d0 d1 d2 d3 d4 d6 d7 d8 d9 d10
      clear hl
      have HS := Lib.hid ((HS.out.kept (up_alloc up0 (.cells #[.int .i64 j, .int .i64 i] 130))).kept hw)
      have bw := up_later (up_alloc up0 (.cells #[.int .i64 j, .int .i64 i] 130)) hw
      have hsz0 := Nat.le_trans hsz0 bw.size
      go_upto_region 4 with fail
      have hB := HS.out.box
      apply wp_region_by 13 [(Fact.eq _), (Fact.eq _), (Fact.eq _), (Fact.eq _), (Fact.eq _), (Fact.eq _), (Fact.eq _), (Fact.eq _), (Fact.eq _), (Fact.all 100 (.slice A2 L.rg.length cap2)), (Fact.bl 99 100 s t (.slice A2 L.rg.length cap2)), (Fact.rowFrom w0.heap.size 1 (fun n => [iv n]) (ridgesI L i j)), (Fact.rowFrom w0.heap.size 1 (fun n => [iv n]) (ridgesI L i j))]
      case hm => kernel_rfl
      case hB => kernel_rfl
      case hA => (intro vs; simp only [List.take_succ_cons, List.take_zero, putAll, if_true, Act.put, List.setIfInBounds_toArray, List.set_cons_zero, List.set_cons_succ]; exact rfl)
      case hstep =>
        intro vs
        refine And.intro (fun w hw hd => ?_) ?_
        · refine ite_yes rfl ?_
          simp only [Gives]
          go_simp
          exact ⟨Below.refl _ _, rfl, fun h => by cases h⟩
        refine And.intro (fun w hw hd => ?_) ?_
        · refine ite_yes rfl ?_
          simp only [Gives]
          go_simp
          exact ⟨Below.refl _ _, rfl, fun h => by cases h⟩
        refine And.intro (fun w hw hd => ?_) ?_
        · refine ite_yes rfl ?_
          simp only [Gives]
          go_simp
          exact ⟨Below.refl _ _, rfl, fun h => by cases h⟩
        refine And.intro (fun w hw hd => ?_) ?_
        · have d0 := hd 0 (by decide) rfl
          change vs 0 = _ at d0
          have d1 := hd 1 (by decide) rfl
          change vs 1 = _ at d1
          have d2 := hd 2 (by decide) rfl
          change vs 2 = _ at d2
          refine ite_yes rfl ?_
          simp only [Gives]
          go_simp
          refine (line_any gs gm i j s t v1 _ v3 v4 L c m w (HS.out.kept hw) Hi.out Hj.out).mono ?_
          rintro e w1 ⟨rfl, hb⟩
          exact ⟨_, rfl, hb, rfl, fun h => by cases h⟩
        refine And.intro (fun w hw hd => ?_) ?_
        · refine ite_yes rfl ?_
          simp only [Gives]
          go_simp
          exact ⟨Below.refl _ _, rfl, fun h => by cases h⟩
        refine And.intro (fun w hw hd => ?_) ?_
        · have d4 := hd 4 (by decide) rfl
          change vs 4 = _ at d4
          refine ite_yes rfl ?_
          simp only [Gives]
          go_simp
          exact ⟨Below.refl _ _, rfl, fun h => by cases h⟩
        refine And.intro (fun w hw hd => ?_) ?_
        · have d5 := hd 5 (by decide) rfl
          change vs 5 = _ at d5
          refine ite_yes rfl ?_
          simp only [Gives]
          go_simp
          exact ⟨Below.refl _ _, rfl, fun h => by cases h⟩
        refine And.intro (fun w hw hd => ?_) ?_
        · have d6 := hd 6 (by decide) rfl
          change vs 6 = _ at d6
          refine ite_yes rfl ?_
          simp only [Gives]
          go_simp
          exact ⟨Below.refl _ _, rfl, fun h => by cases h⟩
        refine And.intro (fun w hw hd => ?_) ?_
        · have d7 := hd 7 (by decide) rfl
          change vs 7 = _ at d7
          refine ite_yes rfl ?_
          have c_hB := fun i => (hB.kept hw).cell i
          have c_B7 := fun i => (B7.kept hw).cell i
          simp only [Gives]
          go_simp
          exact ⟨Below.refl _ _, rfl, fun h => by cases h⟩
        refine And.intro (fun w hw hd => ?_) ?_
        · have d8 := hd 8 (by decide) rfl
          change vs 8 = _ at d8
          refine ite_yes rfl ?_
          simp only [Gives]
          go_simp
          refine (All_mk A2 L.rg.length cap2 w).mono ?_
          rintro e w1 ⟨rfl, rfl⟩
          exact ⟨_, rfl, up_alloc up0 _, ⟨_, rfl, Box.new rfl⟩, fun h => by cases h⟩
        refine And.intro (fun w hw hd => ?_) ?_
        · have d3 := hd 3 (by decide) rfl
          change vs 3 = _ at d3
          have d9 := hd 9 (by decide) rfl
          obtain ⟨g9, d9, N9⟩ := d9
          refine ite_yes rfl ?_
          simp only [Gives]
          go_simp
          refine (blocking_mk s t _ _ w).mono ?_
          rintro e w1 ⟨rfl, rfl⟩
          exact ⟨_, rfl, up_alloc (up_alloc up0 _) _, ⟨_, _, _, rfl, (Box.new rfl).alloc _, Box.new (by simp), (N9.alloc _).alloc _⟩, fun h => by cases h⟩
        refine And.intro (fun w hw hd => ?_) ?_
        · have d10 := hd 10 (by decide) rfl
          obtain ⟨b1, b2, g10, d10, N1, N2, N3⟩ := d10
          refine ite_yes rfl ?_
          simp only [Gives]
          go_simp
          refine (Collect_blocking w w b1 b2 _ _ s t (okSt_of (HO.out.st s (List.mem_of_getElem? Hi.out)).1) (okSt_of (HO.out.st t (List.mem_of_getElem? Hj.out)).1) (wAt L.rg) (okWl_w HO.out.rg) _ _ L.rg.length hn2 enters_All1 (fun n hn => All_stops Fence.wide n trivial rfl hn g10 _ L.rg w ((N3.cell 0).trans rfl) N3.lt (HS.out.kept hw).land.rg) up0 N1 N2).mono ?_
          rintro e w1 ⟨v, xs, rfl, ⟨ys, rfl, rfl⟩, ho, hb⟩
          rw [ridges_eq Hi.out Hj.out] at ho
          exact ⟨_, rfl, hb, ⟨RowsAt.of_own ho (by have := ridgesI_length L i j; omega), fun A n cap e => Nat.le_trans (Nat.le_trans hsz0 hw.size) (own_from ho A n cap e)⟩, fun h => by cases h⟩
        refine And.intro (fun w hw hd => ?_) ?_
        · have d11 := hd 11 (by decide) rfl
          refine ite_yes rfl ?_
          simp only [Gives]
          go_simp
          exact ⟨Below.refl _ _, d11, fun h => by cases h⟩
        exact trivial
      intro vs wt hw hd hne hlo
      have d0 := hd 0 (by decide)
      change vs 0 = _ at d0
      have d1 := hd 1 (by decide)
      change vs 1 = _ at d1
      have d2 := hd 2 (by decide)
      change vs 2 = _ at d2
      have d3 := hd 3 (by decide)
      change vs 3 = _ at d3
      have d4 := hd 4 (by decide)
      change vs 4 = _ at d4
      have d5 := hd 5 (by decide)
      change vs 5 = _ at d5
      have d6 := hd 6 (by decide)
      change vs 6 = _ at d6
      have d7 := hd 7 (by decide)
      change vs 7 = _ at d7
      have d8 := hd 8 (by decide)
      change vs 8 = _ at d8
      have d9 := hd 9 (by decide)
      obtain ⟨g9, d9, N9⟩ := d9
      have d10 := hd 10 (by decide)
      obtain ⟨b1, b2, g10, d10, N1, N2, N3⟩ := d10
      have d11 := hd 11 (by decide)
      have d12 := hd 12 (by decide)
      simp only [d0, d1, d2, d3, d4, d5, d6, d7, d8, List.drop_succ_cons, List.drop_nil]
      have hB := hB.kept hw
      have B7 := B7.kept hw
      have c_hB := fun i => hB.cell i
      have f_hB := fun i => hB.free i
      have c_B7 := fun i => B7.cell i
      have f_B7 := fun i => B7.free i
      clear hd hne hlo d0 d1 d2 d3 d4 d5 d6 d7 d8
      have HS := Lib.hid (HS.out.kept hw)
      have bw2 := up_later bw hw
      change RowsAt wt (vs 12) 1 _ _ ∧ (∀ A n cap, vs 12 = .slice (some A) n cap → w0.heap.size ≤ A.block) at d12
      simp only [Nat.reduceAdd, Nat.zero_add]
      generalize vs 12 = u at d12 ⊢
      have Hu := Lib.hid d12
      clear d12 d11 d10 d9 hw bw
      go_upto_region 5 with fail
      have hup := fun (w' : World) (hk : MapAt w' gm m) => run_update (T := 106) (E := 41) Try.underlying106 pair_key hk j i u Hlk.out
      apply wp_region_by 6 [(Fact.eq _), (Fact.eq _), (Fact.eq _), (Fact.eq _), (Fact.eq _), (Fact.eq _)]
      case hm => kernel_rfl
      case hB => kernel_rfl
      case hA => (intro vs; simp only [List.take_succ_cons, List.take_zero, putAll, if_true, Act.put, List.setIfInBounds_toArray, List.set_cons_zero, List.set_cons_succ]; exact rfl)
      case hstep =>
        intro vs
        refine And.intro (fun w hw hd => ?_) ?_
        · refine ite_yes rfl ?_
          simp only [Gives]
          go_simp
          exact ⟨Below.refl _ _, rfl, fun h => by cases h⟩
        refine And.intro (fun w hw hd => ?_) ?_
        · have d0 := hd 0 (by decide) rfl
          change vs 0 = _ at d0
          refine ite_yes rfl ?_
          simp only [Gives]
          go_simp
          exact ⟨Below.refl _ _, rfl, fun h => by cases h⟩
        refine And.intro (fun w hw hd => ?_) ?_
        · have d1 := hd 1 (by decide) rfl
          change vs 1 = _ at d1
          refine ite_yes rfl ?_
          simp only [Gives]
          go_simp
          exact ⟨Below.refl _ _, rfl, fun h => by cases h⟩
        refine And.intro (fun w hw hd => ?_) ?_
        · have d2 := hd 2 (by decide) rfl
          change vs 2 = _ at d2
          refine ite_yes rfl ?_
          have c_hB := fun i => (hB.kept hw).cell i
          have c_B7 := fun i => (B7.kept hw).cell i
          simp only [Gives]
          go_simp
          exact ⟨Below.refl _ _, rfl, fun h => by cases h⟩
        refine And.intro (fun w hw hd => ?_) ?_
        · refine ite_yes rfl ?_
          have c_hB := fun i => (hB.kept hw).cell i
          have c_B7 := fun i => (B7.kept hw).cell i
          simp only [Gives]
          go_simp
          exact ⟨Below.refl _ _, rfl, fun h => by cases h⟩
        refine And.intro (fun w hw hd => ?_) ?_
        · refine ite_yes rfl ?_
          simp only [Gives]
          go_simp
          exact ⟨Below.refl _ _, rfl, fun h => by cases h⟩
        exact trivial
      intro vs wt hw hd hne hlo
      have d0 := hd 0 (by decide)
      change vs 0 = _ at d0
      have d1 := hd 1 (by decide)
      change vs 1 = _ at d1
      have d2 := hd 2 (by decide)
      change vs 2 = _ at d2
      have d3 := hd 3 (by decide)
      change vs 3 = _ at d3
      have d4 := hd 4 (by decide)
      change vs 4 = _ at d4
      have d5 := hd 5 (by decide)
      change vs 5 = _ at d5
      simp only [d0, d1, d2, d3, d4, d5, List.drop_succ_cons, List.drop_zero]
      have hB := hB.kept hw
      have B7 := B7.kept hw
      have c_hB := fun i => hB.cell i
      have f_hB := fun i => hB.free i
      have c_B7 := fun i => B7.cell i
      have f_B7 := fun i => B7.free i
      clear hd hne hlo d0 d1 d2 d3 d4 d5
      have hS := HS.out.kept hw
      obtain ⟨w3, hrun, hM3, hg⟩ := hup wt hS.map
      have HM3 := Lib.hid hM3
      have HG := Lib.hid hg
      clear hM3 hg hup
      go_wp2
      go_ret
      have hu0 := Hu.out.1.kept hw
      have hu1 : RowsAt wt u 1 (fun n => [iv n]) (ridgesI L j i) := by first | exact hu0 | (rw [ridgesI_back]; exact hu0)
      have hgw := grown_trans (grown_below (gm := gm) (up_later bw2 hw)) HG.out
      refine ⟨u, m ++ [(((j : Int), (i : Int)), u)], by simp [go_sem], hu0.grown hS.map HG.out, hS.new HG.out HM3.out hu1, fun x hx => ?_, hgw⟩
      rcases List.mem_append.1 hx with hx | hx
      · exact HF.out x hx
      · rw [List.mem_singleton.1 hx]
        exact farN_far HN.out (by rw [← HW0.out]; exact Hu.out.2)

end Go.Proofs.Ytojbdmdjepgpjaa
