/-
  WALK of Mirrors. Conditions: lists have at most 1000 elements.
-/
import Derived.Test.YtojbdmdjepgpjaaIx
namespace Go.Proofs.Ytojbdmdjepgpjaa
open Go.RowKit

set_option maxRecDepth 100000 in
set_option maxHeartbeats 4000000 in
theorem Mirrors_any (v1 v2 v3 v4 : Value) (L : Ld) (c : List (Value × List Cl)) (a b hour : Int) (w : World) (hL : LandAt w v1 v2 v3 v4 L c) :
    Calls Try.prog 31 #[.agg #[v1, v2, v3, v4], .int .i64 a, .int .i64 b, .int .i64 hour] w fun e w' =>
      e = .returned (.tuple #[.int .i64 (mirI L a b hour).1, .int .i64 (mirI L a b hour).2]) ∧ Below w.heap.size w w' := by
  have HL := Lib.hid hL
  obtain ⟨hn1, A1, cap1, rfl, _, _⟩ := hL.st.form
  obtain ⟨hn2, A2, cap2, rfl, _, _⟩ := hL.rg.form
  obtain ⟨hn3, A3, cap3, rfl, _, _⟩ := hL.cs.form
  obtain ⟨hn4, A4, cap4, rfl, _, _⟩ := hL.sn.form
  clear hL
  by_cases ho : openI L 0 hour [a, b] = 0
  · obtain ⟨he, _, ⟨hh0, hh1⟩, hst⟩ := open_ok ho
    have hne := open_ne ho
    have hok := land_ok he
    obtain ⟨ha0, ha1⟩ := hst a (by simp)
    obtain ⟨hb0, hb1⟩ := hst b (by simp)
    obtain ⟨i, rfl⟩ := Int.eq_ofNat_of_zero_le ha0
    obtain ⟨j, rfl⟩ := Int.eq_ofNat_of_zero_le hb0
    obtain ⟨h, rfl⟩ := Int.eq_ofNat_of_zero_le hh0
    obtain ⟨x, hx⟩ : ∃ x, L.st[i]? = some x := ⟨_, List.getElem?_eq_getElem (by omega)⟩
    obtain ⟨y, hy⟩ : ∃ y, L.st[j]? = some y := ⟨_, List.getElem?_eq_getElem (by omega)⟩
    obtain ⟨s, hs⟩ : ∃ s, L.sn[h]? = some s := ⟨_, List.getElem?_eq_getElem (by omega)⟩
    have hfin : mirI L i j h = if s.u ≤ 0 then (0, 7) else if behindI s.e s.n x.x x.y y.x y.y then (2, 0) else (1, 0) := by
      unfold mirI behindL snAt stAt
      rw [if_neg (by simp [ho])]
      simp [hx, hy, hs]
    have hxo := (hok.st x (List.mem_of_getElem? hx)).1
    have hyo := (hok.st y (List.mem_of_getElem? hy)).1
    have hso := hok.sn s (List.mem_of_getElem? hs)
    have Hfin := Lib.hid hfin
    have Ho := Lib.hid ho
    have Hx := Lib.hid hx
    have Hy := Lib.hid hy
    have Hh := Lib.hid hs
    have Hxo := Lib.hid hxo
    have Hyo := Lib.hid hyo
    have Hso := Lib.hid hso
    clear hfin ho hx hy hs hne hok he hst hxo hyo hso
    go_enter Try.func31, Try.ntmps31
    go_wp2_with fail
    refine (open2_any _ _ _ _ L c 0 h _ i j _ ((HL.out.kept (up_alloc up0 _)).kept (up_alloc up0 _)) (Box.new (by simp))).mono ?_
    rintro e w1 ⟨hb1, (⟨hne, rfl⟩ | ⟨h0, gs, gm, rfl, hS, _, _⟩)⟩
    · exact absurd Ho.out hne
    · clear h0
      have hB := up_later (up_alloc (up_alloc up0 _) _) hb1
      clear hb1 HL
      have hX := hS.box
      have hR := hS.land.sn
      obtain ⟨b4, o4, rfl, _, _⟩ := hR.at rfl Hh.out
      have HR := Lib.hid hR
      have HS := Lib.hid hS
      clear hR hS
      go_upto_region 4 with fail
      by_cases hu : s.u ≤ 0
      · have hd : decide (0 < s.u) = false := by simp; omega
        have Hu := Lib.hid hu
        clear hu
        refine wp_region_lit ?_
        apply wpList_by 11 [(Fact.eq _), (Fact.eq _), (Fact.eq _), (Fact.eq _), (Fact.eq _), (Fact.eq _), (Fact.eq _), (Fact.eq _), (Fact.eq _), (Fact.eq _), (Fact.eq _)]
        case hB => kernel_rfl
        case hA => (intro vs; simp only [List.take_succ_cons, List.take_zero, putAll, if_true, Act.put, List.setIfInBounds_toArray, List.set_cons_zero, List.set_cons_succ]; exact rfl)
        case hstep =>
          intro vs
          refine And.intro (fun w hw hd => ?_) ?_
          · refine ite_yes rfl ?_
            simp only [Gives]
            go_simp
            exact ⟨Below.refl _ _, rfl, fun h => by cases h⟩
          refine And.intro (fun w hw hd => ?_) ?_
          · have d0 := hd 0 (by decide) rfl
            change vs 0 = _ at d0
            refine ite_yes rfl ?_
            simp only [Gives]
            go_simp
            exact ⟨Below.refl _ _, rfl, fun h => by cases h⟩
          refine And.intro (fun w hw hd => ?_) ?_
          · have d1 := hd 1 (by decide) rfl
            change vs 1 = _ at d1
            refine ite_yes rfl ?_
            simp only [Gives]
            go_simp
            exact ⟨Below.refl _ _, rfl, fun h => by cases h⟩
          refine And.intro (fun w hw hd => ?_) ?_
          · have d2 := hd 2 (by decide) rfl
            change vs 2 = _ at d2
            refine ite_yes rfl ?_
            simp only [Gives]
            go_simp
            exact ⟨Below.refl _ _, rfl, fun h => by cases h⟩
          refine And.intro (fun w hw hd => ?_) ?_
          · have d3 := hd 3 (by decide) rfl
            change vs 3 = _ at d3
            refine ite_yes rfl ?_
            have c_hX := fun i => (hX.kept hw).cell i
            simp only [Gives]
            go_simp
            exact ⟨Below.refl _ _, rfl, fun h => by cases h⟩
          refine And.intro (fun w hw hd => ?_) ?_
          · refine ite_yes rfl ?_
            simp only [Gives]
            go_simp
            exact ⟨Below.refl _ _, rfl, fun h => by cases h⟩
          refine And.intro (fun w hw hd => ?_) ?_
          · have d4 := hd 4 (by decide) rfl
            change vs 4 = _ at d4
            have d5 := hd 5 (by decide) rfl
            change vs 5 = _ at d5
            refine ite_yes rfl ?_
            simp only [Gives]
            go_simp
            exact ⟨Below.refl _ _, rfl, fun h => by cases h⟩
          refine And.intro (fun w hw hd => ?_) ?_
          · have d6 := hd 6 (by decide) rfl
            change vs 6 = _ at d6
            refine ite_yes rfl ?_
            have c_hX := fun i => (hX.kept hw).cell i
            have q0 : w.cell? ⟨b4, o4 + h * 3, none⟩ = some (.int .i64 s.e) := (HR.out.kept hw).cellAt Hh.out (j := 0) rfl
            have q1 : w.cell? ⟨b4, o4 + h * 3 + 1, none⟩ = some (.int .i64 s.n) := (HR.out.kept hw).cellAt Hh.out (j := 1) rfl
            have q2 : w.cell? ⟨b4, o4 + h * 3 + 2, none⟩ = some (.int .i64 s.u) := (HR.out.kept hw).cellAt Hh.out (j := 2) rfl
            simp only [Gives]
            go_simp
            exact ⟨Below.refl _ _, rfl, fun h => by cases h⟩
          refine And.intro (fun w hw hd => ?_) ?_
          · have d7 := hd 7 (by decide) rfl
            change vs 7 = _ at d7
            refine ite_yes rfl ?_
            simp only [Gives]
            go_simp
            refine (isUp_any _ _ _ _).mono ?_
            rintro e w1 ⟨rfl, hb⟩
            exact ⟨_, rfl, hb, rfl, fun h => by cases h⟩
          refine And.intro (fun w hw hd => ?_) ?_
          · have d8 := hd 8 (by decide) rfl
            change vs 8 = _ at d8
            refine ite_yes rfl ?_
            simp only [Gives]
            go_simp
            exact ⟨Below.refl _ _, rfl, fun h => by cases h⟩
          refine And.intro (fun w hw hd => ?_) ?_
          · have d9 := hd 9 (by decide) rfl
            change vs 9 = _ at d9
            refine ite_yes rfl ?_
            simp only [Gives]
            go_simp
            exact ⟨Below.refl _ _, rfl, fun h => by cases h⟩
          exact trivial
        intro vs wt hw hd hne hlo
        have d0 := hd 0 (by decide)
        change vs 0 = _ at d0
        have d1 := hd 1 (by decide)
        change vs 1 = _ at d1
        have d2 := hd 2 (by decide)
        change vs 2 = _ at d2
        have d3 := hd 3 (by decide)
        change vs 3 = _ at d3
        have d4 := hd 4 (by decide)
        change vs 4 = _ at d4
        have d5 := hd 5 (by decide)
        change vs 5 = _ at d5
        have d6 := hd 6 (by decide)
        change vs 6 = _ at d6
        have d7 := hd 7 (by decide)
        change vs 7 = _ at d7
        have d8 := hd 8 (by decide)
        change vs 8 = _ at d8
        have d9 := hd 9 (by decide)
        change vs 9 = _ at d9
        have d10 := hd 10 (by decide)
        change vs 10 = _ at d10
        simp only [d0, d1, d2, d3, d4, d5, d6, d7, d8, d9, d10, List.drop_succ_cons, List.drop_nil]
        have hX := hX.kept hw
        have c_hX := fun i => hX.cell i
        have f_hX := fun i => hX.free i
        clear hd hne hlo d0 d1 d2 d3 d4 d5 d6 d7 d8 d9 d10
        go_wp2
        go_ret2
        exact ⟨by rw [Hfin.out, if_pos Hu.out]; rfl, up_later hB hw⟩
      · have hd : decide (0 < s.u) = true := by simp; omega
        have Hu := Lib.hid hu
        clear hu
        refine wp_region_lit ?_
        apply wpList_by 11 [(Fact.eq _), (Fact.eq _), (Fact.eq _), (Fact.eq _), (Fact.eq _), (Fact.eq _), (Fact.eq _), (Fact.eq _), (Fact.eq _), (Fact.eq _), (Fact.eq _)]
        case hB => kernel_rfl
        case hA => (intro vs; simp only [List.take_succ_cons, List.take_zero, putAll, if_true, Act.put, List.setIfInBounds_toArray, List.set_cons_zero, List.set_cons_succ]; exact rfl)
        case hstep =>
          intro vs
          refine And.intro (fun w hw hd => ?_) ?_
          · refine ite_yes rfl ?_
            simp only [Gives]
            go_simp
            exact ⟨Below.refl _ _, rfl, fun h => by cases h⟩
          refine And.intro (fun w hw hd => ?_) ?_
          · have d0 := hd 0 (by decide) rfl
            change vs 0 = _ at d0
            refine ite_yes rfl ?_
            simp only [Gives]
            go_simp
            exact ⟨Below.refl _ _, rfl, fun h => by cases h⟩
          refine And.intro (fun w hw hd => ?_) ?_
          · have d1 := hd 1 (by decide) rfl
            change vs 1 = _ at d1
            refine ite_yes rfl ?_
            simp only [Gives]
            go_simp
            exact ⟨Below.refl _ _, rfl, fun h => by cases h⟩
          refine And.intro (fun w hw hd => ?_) ?_
          · have d2 := hd 2 (by decide) rfl
            change vs 2 = _ at d2
            refine ite_yes rfl ?_
            simp only [Gives]
            go_simp
            exact ⟨Below.refl _ _, rfl, fun h => by cases h⟩
          refine And.intro (fun w hw hd => ?_) ?_
          · have d3 := hd 3 (by decide) rfl
            change vs 3 = _ at d3
            refine ite_yes rfl ?_
            have c_hX := fun i => (hX.kept hw).cell i
            simp only [Gives]
            go_simp
            exact ⟨Below.refl _ _, rfl, fun h => by cases h⟩
          refine And.intro (fun w hw hd => ?_) ?_
          · refine ite_yes rfl ?_
            simp only [Gives]
            go_simp
            exact ⟨Below.refl _ _, rfl, fun h => by cases h⟩
          refine And.intro (fun w hw hd => ?_) ?_
          · have d4 := hd 4 (by decide) rfl
            change vs 4 = _ at d4
            have d5 := hd 5 (by decide) rfl
            change vs 5 = _ at d5
            refine ite_yes rfl ?_
            simp only [Gives]
            go_simp
            exact ⟨Below.refl _ _, rfl, fun h => by cases h⟩
          refine And.intro (fun w hw hd => ?_) ?_
          · have d6 := hd 6 (by decide) rfl
            change vs 6 = _ at d6
            refine ite_yes rfl ?_
            have c_hX := fun i => (hX.kept hw).cell i
            have q0 : w.cell? ⟨b4, o4 + h * 3, none⟩ = some (.int .i64 s.e) := (HR.out.kept hw).cellAt Hh.out (j := 0) rfl
            have q1 : w.cell? ⟨b4, o4 + h * 3 + 1, none⟩ = some (.int .i64 s.n) := (HR.out.kept hw).cellAt Hh.out (j := 1) rfl
            have q2 : w.cell? ⟨b4, o4 + h * 3 + 2, none⟩ = some (.int .i64 s.u) := (HR.out.kept hw).cellAt Hh.out (j := 2) rfl
            simp only [Gives]
            go_simp
            exact ⟨Below.refl _ _, rfl, fun h => by cases h⟩
          refine And.intro (fun w hw hd => ?_) ?_
          · have d7 := hd 7 (by decide) rfl
            change vs 7 = _ at d7
            refine ite_yes rfl ?_
            simp only [Gives]
            go_simp
            refine (isUp_any _ _ _ _).mono ?_
            rintro e w1 ⟨rfl, hb⟩
            exact ⟨_, rfl, hb, rfl, fun h => by cases h⟩
          refine And.intro (fun w hw hd => ?_) ?_
          · have d8 := hd 8 (by decide) rfl
            change vs 8 = _ at d8
            refine ite_yes rfl ?_
            simp only [Gives]
            go_simp
            exact ⟨Below.refl _ _, rfl, fun h => by cases h⟩
          refine And.intro (fun w hw hd => ?_) ?_
          · have d9 := hd 9 (by decide) rfl
            change vs 9 = _ at d9
            refine ite_yes rfl ?_
            simp only [Gives]
            go_simp
            exact ⟨Below.refl _ _, rfl, fun h => by cases h⟩
          exact trivial
        intro vs wt hw hd hne hlo
        have d0 := hd 0 (by decide)
        change vs 0 = _ at d0
        have d1 := hd 1 (by decide)
        change vs 1 = _ at d1
        have d2 := hd 2 (by decide)
        change vs 2 = _ at d2
        have d3 := hd 3 (by decide)
        change vs 3 = _ at d3
        have d4 := hd 4 (by decide)
        change vs 4 = _ at d4
        have d5 := hd 5 (by decide)
        change vs 5 = _ at d5
        have d6 := hd 6 (by decide)
        change vs 6 = _ at d6
        have d7 := hd 7 (by decide)
        change vs 7 = _ at d7
        have d8 := hd 8 (by decide)
        change vs 8 = _ at d8
        have d9 := hd 9 (by decide)
        change vs 9 = _ at d9
        have d10 := hd 10 (by decide)
        change vs 10 = _ at d10
        simp only [d0, d1, d2, d3, d4, d5, d6, d7, d8, d9, d10, List.drop_succ_cons, List.drop_nil]
        have hX := hX.kept hw
        have c_hX := fun i => hX.cell i
        have f_hX := fun i => hX.free i
        clear hd hne hlo d0 d1 d2 d3 d4 d5 d6 d7 d8 d9 d10
        have hB := up_later hB hw
        have HR := Lib.hid (HR.out.kept hw)
        have HS := Lib.hid (HS.out.kept hw)
        clear hw
        go_upto_region 6 with fail
        cases hbh : behindI s.e s.n x.x x.y y.x y.y with
        | true =>
          apply wp_region_by 14 [(Fact.eq _), (Fact.eq _), (Fact.eq _), (Fact.eq _), (Fact.eq _), (Fact.eq _), (Fact.eq _), (Fact.eq _), (Fact.eq _), (Fact.eq _), (Fact.eq _), (Fact.eq _), (Fact.eq _), (Fact.eq _)]
          case hm => kernel_rfl
          case hB => kernel_rfl
          case hA => (intro vs; simp only [List.take_succ_cons, List.take_zero, putAll, if_true, Act.put, List.setIfInBounds_toArray, List.set_cons_zero, List.set_cons_succ]; exact rfl)
          case hstep =>
            intro vs
            refine And.intro (fun w hw hd => ?_) ?_
            · refine ite_yes rfl ?_
              simp only [Gives]
              go_simp
              exact ⟨Below.refl _ _, rfl, fun h => by cases h⟩
            refine And.intro (fun w hw hd => ?_) ?_
            · have d0 := hd 0 (by decide) rfl
              change vs 0 = _ at d0
              refine ite_yes rfl ?_
              simp only [Gives]
              go_simp
              exact ⟨Below.refl _ _, rfl, fun h => by cases h⟩
            refine And.intro (fun w hw hd => ?_) ?_
            · have d1 := hd 1 (by decide) rfl
              change vs 1 = _ at d1
              refine ite_yes rfl ?_
              simp only [Gives]
              go_simp
              exact ⟨Below.refl _ _, rfl, fun h => by cases h⟩
            refine And.intro (fun w hw hd => ?_) ?_
            · have d2 := hd 2 (by decide) rfl
              change vs 2 = _ at d2
              refine ite_yes rfl ?_
              simp only [Gives]
              go_simp
              exact ⟨Below.refl _ _, rfl, fun h => by cases h⟩
            refine And.intro (fun w hw hd => ?_) ?_
            · have d3 := hd 3 (by decide) rfl
              change vs 3 = _ at d3
              refine ite_yes rfl ?_
              have c_hX := fun i => (hX.kept hw).cell i
              simp only [Gives]
              go_simp
              exact ⟨Below.refl _ _, rfl, fun h => by cases h⟩
            refine And.intro (fun w hw hd => ?_) ?_
            · refine ite_yes rfl ?_
              simp only [Gives]
              go_simp
              exact ⟨Below.refl _ _, rfl, fun h => by cases h⟩
            refine And.intro (fun w hw hd => ?_) ?_
            · have d4 := hd 4 (by decide) rfl
              change vs 4 = _ at d4
              have d5 := hd 5 (by decide) rfl
              change vs 5 = _ at d5
              refine ite_yes rfl ?_
              simp only [Gives]
              go_simp
              exact ⟨Below.refl _ _, rfl, fun h => by cases h⟩
            refine And.intro (fun w hw hd => ?_) ?_
            · have d6 := hd 6 (by decide) rfl
              change vs 6 = _ at d6
              refine ite_yes rfl ?_
              have c_hX := fun i => (hX.kept hw).cell i
              have q0 : w.cell? ⟨b4, o4 + h * 3, none⟩ = some (.int .i64 s.e) := (HR.out.kept hw).cellAt Hh.out (j := 0) rfl
              have q1 : w.cell? ⟨b4, o4 + h * 3 + 1, none⟩ = some (.int .i64 s.n) := (HR.out.kept hw).cellAt Hh.out (j := 1) rfl
              have q2 : w.cell? ⟨b4, o4 + h * 3 + 2, none⟩ = some (.int .i64 s.u) := (HR.out.kept hw).cellAt Hh.out (j := 2) rfl
              simp only [Gives]
              go_simp
              exact ⟨Below.refl _ _, rfl, fun h => by cases h⟩
            refine And.intro (fun w hw hd => ?_) ?_
            · refine ite_yes rfl ?_
              simp only [Gives]
              go_simp
              exact ⟨Below.refl _ _, rfl, fun h => by cases h⟩
            refine And.intro (fun w hw hd => ?_) ?_
            · refine ite_yes rfl ?_
              simp only [Gives]
              go_simp
              exact ⟨Below.refl _ _, rfl, fun h => by cases h⟩
            refine And.intro (fun w hw hd => ?_) ?_
            · refine ite_yes rfl ?_
              simp only [Gives]
              go_simp
              exact ⟨Below.refl _ _, rfl, fun h => by cases h⟩
            refine And.intro (fun w hw hd => ?_) ?_
            · have d8 := hd 8 (by decide) rfl
              change vs 8 = _ at d8
              have d9 := hd 9 (by decide) rfl
              change vs 9 = _ at d9
              have d10 := hd 10 (by decide) rfl
              change vs 10 = _ at d10
              refine ite_yes rfl ?_
              simp only [Gives]
              go_simp
              refine (line_any _ _ _ _ _ _ _ _ _ _ L c _ _ (HS.out.kept hw) Hx.out Hy.out).mono ?_
              rintro e w1 ⟨rfl, hb⟩
              exact ⟨_, rfl, hb, rfl, fun h => by cases h⟩
            refine And.intro (fun w hw hd => ?_) ?_
            · have d7 := hd 7 (by decide) rfl
              change vs 7 = _ at d7
              have d11 := hd 11 (by decide) rfl
              change vs 11 = _ at d11
              refine ite_yes rfl ?_
              simp only [Gives]
              go_simp
              refine (behind_any _ _ _ _ _ _ _ _ _ _ _ _ Hxo.out.1 Hxo.out.2.1 Hyo.out.1 Hyo.out.2.1 Hso.out.1 Hso.out.2.1).mono ?_
              rintro e w1 ⟨rfl, hb⟩
              exact ⟨_, rfl, hb, rfl, fun h => by cases h⟩
            refine And.intro (fun w hw hd => ?_) ?_
            · have d12 := hd 12 (by decide) rfl
              change vs 12 = _ at d12
              refine ite_yes rfl ?_
              simp only [Gives]
              go_simp
              exact ⟨Below.refl _ _, rfl, fun h => by cases h⟩
            exact trivial
          intro vs wt hw hd hne hlo
          have d0 := hd 0 (by decide)
          change vs 0 = _ at d0
          have d1 := hd 1 (by decide)
          change vs 1 = _ at d1
          have d2 := hd 2 (by decide)
          change vs 2 = _ at d2
          have d3 := hd 3 (by decide)
          change vs 3 = _ at d3
          have d4 := hd 4 (by decide)
          change vs 4 = _ at d4
          have d5 := hd 5 (by decide)
          change vs 5 = _ at d5
          have d6 := hd 6 (by decide)
          change vs 6 = _ at d6
          have d7 := hd 7 (by decide)
          change vs 7 = _ at d7
          have d8 := hd 8 (by decide)
          change vs 8 = _ at d8
          have d9 := hd 9 (by decide)
          change vs 9 = _ at d9
          have d10 := hd 10 (by decide)
          change vs 10 = _ at d10
          have d11 := hd 11 (by decide)
          change vs 11 = _ at d11
          have d12 := hd 12 (by decide)
          change vs 12 = _ at d12
          have d13 := hd 13 (by decide)
          change vs 13 = _ at d13
          simp only [d0, d1, d2, d3, d4, d5, d6, d7, d8, d9, d10, d11, d12, d13, List.drop_succ_cons, List.drop_nil]
          have hX := hX.kept hw
          have c_hX := fun i => hX.cell i
          have f_hX := fun i => hX.free i
          clear hd hne hlo d0 d1 d2 d3 d4 d5 d6 d7 d8 d9 d10 d11 d12 d13
          go_wp2
          go_ret2
          exact ⟨by rw [Hfin.out, if_neg (by have := Hu.out; omega), hbh]; rfl, up_later hB hw⟩
        | false =>
          apply wp_region_by 14 [(Fact.eq _), (Fact.eq _), (Fact.eq _), (Fact.eq _), (Fact.eq _), (Fact.eq _), (Fact.eq _), (Fact.eq _), (Fact.eq _), (Fact.eq _), (Fact.eq _), (Fact.eq _), (Fact.eq _), (Fact.eq _)]
          case hm => kernel_rfl
          case hB => kernel_rfl
          case hA => (intro vs; simp only [List.take_succ_cons, List.take_zero, putAll, if_true, Act.put, List.setIfInBounds_toArray, List.set_cons_zero, List.set_cons_succ]; exact rfl)
          case hstep =>
            intro vs
            refine And.intro (fun w hw hd => ?_) ?_
            · refine ite_yes rfl ?_
              simp only [Gives]
              go_simp
              exact ⟨Below.refl _ _, rfl, fun h => by cases h⟩
            refine And.intro (fun w hw hd => ?_) ?_
            · have d0 := hd 0 (by decide) rfl
              change vs 0 = _ at d0
              refine ite_yes rfl ?_
              simp only [Gives]
              go_simp
              exact ⟨Below.refl _ _, rfl, fun h => by cases h⟩
            refine And.intro (fun w hw hd => ?_) ?_
            · have d1 := hd 1 (by decide) rfl
              change vs 1 = _ at d1
              refine ite_yes rfl ?_
              simp only [Gives]
              go_simp
              exact ⟨Below.refl _ _, rfl, fun h => by cases h⟩
            refine And.intro (fun w hw hd => ?_) ?_
            · have d2 := hd 2 (by decide) rfl
              change vs 2 = _ at d2
              refine ite_yes rfl ?_
              simp only [Gives]
              go_simp
              exact ⟨Below.refl _ _, rfl, fun h => by cases h⟩
            refine And.intro (fun w hw hd => ?_) ?_
            · have d3 := hd 3 (by decide) rfl
              change vs 3 = _ at d3
              refine ite_yes rfl ?_
              have c_hX := fun i => (hX.kept hw).cell i
              simp only [Gives]
              go_simp
              exact ⟨Below.refl _ _, rfl, fun h => by cases h⟩
            refine And.intro (fun w hw hd => ?_) ?_
            · refine ite_yes rfl ?_
              simp only [Gives]
              go_simp
              exact ⟨Below.refl _ _, rfl, fun h => by cases h⟩
            refine And.intro (fun w hw hd => ?_) ?_
            · have d4 := hd 4 (by decide) rfl
              change vs 4 = _ at d4
              have d5 := hd 5 (by decide) rfl
              change vs 5 = _ at d5
              refine ite_yes rfl ?_
              simp only [Gives]
              go_simp
              exact ⟨Below.refl _ _, rfl, fun h => by cases h⟩
            refine And.intro (fun w hw hd => ?_) ?_
            · have d6 := hd 6 (by decide) rfl
              change vs 6 = _ at d6
              refine ite_yes rfl ?_
              have c_hX := fun i => (hX.kept hw).cell i
              have q0 : w.cell? ⟨b4, o4 + h * 3, none⟩ = some (.int .i64 s.e) := (HR.out.kept hw).cellAt Hh.out (j := 0) rfl
              have q1 : w.cell? ⟨b4, o4 + h * 3 + 1, none⟩ = some (.int .i64 s.n) := (HR.out.kept hw).cellAt Hh.out (j := 1) rfl
              have q2 : w.cell? ⟨b4, o4 + h * 3 + 2, none⟩ = some (.int .i64 s.u) := (HR.out.kept hw).cellAt Hh.out (j := 2) rfl
              simp only [Gives]
              go_simp
              exact ⟨Below.refl _ _, rfl, fun h => by cases h⟩
            refine And.intro (fun w hw hd => ?_) ?_
            · refine ite_yes rfl ?_
              simp only [Gives]
              go_simp
              exact ⟨Below.refl _ _, rfl, fun h => by cases h⟩
            refine And.intro (fun w hw hd => ?_) ?_
            · refine ite_yes rfl ?_
              simp only [Gives]
              go_simp
              exact ⟨Below.refl _ _, rfl, fun h => by cases h⟩
            refine And.intro (fun w hw hd => ?_) ?_
            · refine ite_yes rfl ?_
              simp only [Gives]
              go_simp
              exact ⟨Below.refl _ _, rfl, fun h => by cases h⟩
            refine And.intro (fun w hw hd => ?_) ?_
            · have d8 := hd 8 (by decide) rfl
              change vs 8 = _ at d8
              have d9 := hd 9 (by decide) rfl
              change vs 9 = _ at d9
              have d10 := hd 10 (by decide) rfl
              change vs 10 = _ at d10
              refine ite_yes rfl ?_
              simp only [Gives]
              go_simp
              refine (line_any _ _ _ _ _ _ _ _ _ _ L c _ _ (HS.out.kept hw) Hx.out Hy.out).mono ?_
              rintro e w1 ⟨rfl, hb⟩
              exact ⟨_, rfl, hb, rfl, fun h => by cases h⟩
            refine And.intro (fun w hw hd => ?_) ?_
            · have d7 := hd 7 (by decide) rfl
              change vs 7 = _ at d7
              have d11 := hd 11 (by decide) rfl
              change vs 11 = _ at d11
              refine ite_yes rfl ?_
              simp only [Gives]
              go_simp
              refine (behind_any _ _ _ _ _ _ _ _ _ _ _ _ Hxo.out.1 Hxo.out.2.1 Hyo.out.1 Hyo.out.2.1 Hso.out.1 Hso.out.2.1).mono ?_
              rintro e w1 ⟨rfl, hb⟩
              exact ⟨_, rfl, hb, rfl, fun h => by cases h⟩
            refine And.intro (fun w hw hd => ?_) ?_
            · have d12 := hd 12 (by decide) rfl
              change vs 12 = _ at d12
              refine ite_yes rfl ?_
              simp only [Gives]
              go_simp
              exact ⟨Below.refl _ _, rfl, fun h => by cases h⟩
            exact trivial
          intro vs wt hw hd hne hlo
          have d0 := hd 0 (by decide)
          change vs 0 = _ at d0
          have d1 := hd 1 (by decide)
          change vs 1 = _ at d1
          have d2 := hd 2 (by decide)
          change vs 2 = _ at d2
          have d3 := hd 3 (by decide)
          change vs 3 = _ at d3
          have d4 := hd 4 (by decide)
          change vs 4 = _ at d4
          have d5 := hd 5 (by decide)
          change vs 5 = _ at d5
          have d6 := hd 6 (by decide)
          change vs 6 = _ at d6
          have d7 := hd 7 (by decide)
          change vs 7 = _ at d7
          have d8 := hd 8 (by decide)
          change vs 8 = _ at d8
          have d9 := hd 9 (by decide)
          change vs 9 = _ at d9
          have d10 := hd 10 (by decide)
          change vs 10 = _ at d10
          have d11 := hd 11 (by decide)
          change vs 11 = _ at d11
          have d12 := hd 12 (by decide)
          change vs 12 = _ at d12
          have d13 := hd 13 (by decide)
          change vs 13 = _ at d13
          simp only [d0, d1, d2, d3, d4, d5, d6, d7, d8, d9, d10, d11, d12, d13, List.drop_succ_cons, List.drop_nil]
          have hX := hX.kept hw
          have c_hX := fun i => hX.cell i
          have f_hX := fun i => hX.free i
          clear hd hne hlo d0 d1 d2 d3 d4 d5 d6 d7 d8 d9 d10 d11 d12 d13
          go_wp2
          go_ret2
          exact ⟨by rw [Hfin.out, if_neg (by have := Hu.out; omega), hbh]; rfl, up_later hB hw⟩
  · have hfin : mirI L a b hour = (0, openI L 0 hour [a, b]) := by unfold mirI; rw [if_pos ho]
    have hbo : (openI L 0 hour [a, b] != 0) = true := by simpa using ho
    have Ho := Lib.hid ho
    have Hfin := Lib.hid hfin
    clear ho hfin
    go_enter Try.func31, Try.ntmps31
    go_wp2_with fail
    refine (open2_any _ _ _ _ L c 0 hour _ a b _ ((HL.out.kept (up_alloc up0 _)).kept (up_alloc up0 _)) (Box.new (by simp))).mono ?_
    rintro e w1 ⟨hb1, (⟨hne, rfl⟩ | ⟨h0, gs, gm, rfl, hS, _, _⟩)⟩
    · clear hne
      go_wp2
      go_ret2
      exact ⟨by rw [Hfin.out]; rfl, up_later (up_alloc (up_alloc up0 _) _) hb1⟩
    · exact absurd h0 Ho.out

end Go.Proofs.Ytojbdmdjepgpjaa
