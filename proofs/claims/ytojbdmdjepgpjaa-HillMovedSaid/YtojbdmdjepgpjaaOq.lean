/-
  WALK of 'open' for one station. Conditions: lists have at most 1000 elements.
-/
import Derived.Test.YtojbdmdjepgpjaaOp
namespace Go.Proofs.Ytojbdmdjepgpjaa
open Go.RowKit
attribute [local go_sem ↓] Go.wp_at_zero Go.wp_at_succ

theorem open_row1 {w : World} {g : Nat} {a : Int} (h : Box w g 3 #[iv a]) : RowsAt w (.slice (some ⟨g, 0, none⟩) 1 1) 1 (fun n => [iv n]) [a] :=
  ⟨by simp, _, 1, rfl, by simp, by omega, fun _ => ⟨g, 0, rfl, h.lt, fun i x hx j y hy => by
    have hj : j = 0 := by rcases j with _ | j <;> simp at hy ⊢
    subst hj
    have hc := h.cell i
    simp only [Nat.mul_one, Nat.add_zero, Nat.zero_add]
    rw [hc]
    have hy' : iv x = y := by simpa using hy
    subst hy'
    rcases i with _ | i <;> simp at hx ⊢ <;> simp [hx]⟩⟩

set_option maxRecDepth 100000 in
set_option maxHeartbeats 4000000 in
theorem open1_any (v1 v2 v3 v4 : Value) (L : Ld) (c : List (Value × List Cl)) (kase hour : Int) (g : Nat) (a : Int) (w : World) (hL : LandAt w v1 v2 v3 v4 L c) (hg : Box w g 3 #[iv a]) :
    Calls Try.prog 47 #[.agg #[v1, v2, v3, v4], .int .i64 kase, .int .i64 hour, .slice (some ⟨g, 0, none⟩) 1 1] w (Opened v1 v2 v3 v4 L c (openI L kase hour [a]) w) := by
  have HL := Lib.hid hL
  obtain ⟨hn1, A1, cap1, rfl, _, _⟩ := hL.st.form
  obtain ⟨hn2, A2, cap2, rfl, _, _⟩ := hL.rg.form
  obtain ⟨hn3, A3, cap3, rfl, _, _⟩ := hL.cs.form
  obtain ⟨hn4, A4, cap4, rfl, _, _⟩ := hL.sn.form
  have hcl := cs_len hL.eq
  have Hcl := Lib.hid hcl
  clear hL hcl
  by_cases he : errI L = 0
  · have Hop : Hid (openI L kase hour [a] = if !(inB 0 ((c.length : Int) - 1) kase) || !(inB 0 ((L.sn.length : Int) - 1) hour) || !([a].all (inB 0 ((L.st.length : Int) - 1))) then 2 else 0) := by
      unfold openI
      rw [if_neg (by simp [he]), Hcl.out]
      rfl
    have He := Lib.hid he
    clear he
    go_enter Try.func47, Try.ntmps47
    go_wp2_with (go_at_call 17; refine (CheckLand_any _ _ _ _ L c _ (HL.out.kept (up_alloc up0 _))).mono ?_; rintro e w1 ⟨rfl, hb1⟩; rw [He.out])
    have B4 := Box.later hb1 (Box.new (w := w) (t := 37) (cs := #[.slice A1 L.st.length cap1, .slice A2 L.rg.length cap2, .slice A3 c.length cap3, .slice A4 L.sn.length cap4]) rfl)
    have hB := up_later (up_alloc up0 _) hb1
    have hg := hg.below hB hg.lt
    have HL1 := Lib.hid (HL.out.kept hB)
    clear HL hb1
    have K1 := wrapK_in ((c.length : Int) - 1) 1000 (by omega) (by omega)
    have K2 := wrapK_in ((L.sn.length : Int) - 1) 1000 (by omega) (by omega)
    have K3 := wrapK_in ((L.st.length : Int) - 1) 1000 (by omega) (by omega)
    go_upto_region 4 with fail
    go_cut [11, 12, 13] (fun s11 s12 s13 wx => ∃ n11 n12 n13 : Nat, s11 = .pointer (some ⟨n11, 0, none⟩) ∧ s12 = .pointer (some ⟨n12, 0, none⟩) ∧ s13 = .pointer (some ⟨n13, 0, none⟩) ∧ Box wx n11 119 #[iv 0, iv ((c.length : Int) - 1)] ∧ Box wx n12 119 #[iv 0, iv ((L.sn.length : Int) - 1)] ∧ Box wx n13 119 #[iv 0, iv ((L.st.length : Int) - 1)] ∧ Below w1.heap.size w1 wx)
    case first =>
      have c0 : w1.cell? ⟨w.heap.size, 0, none⟩ = some (.slice A1 L.st.length cap1) := B4.cell 0
      have c2 : w1.cell? ⟨w.heap.size, 2, none⟩ = some (.slice A3 c.length cap3) := B4.cell 2
      have c3 : w1.cell? ⟨w.heap.size, 3, none⟩ = some (.slice A4 L.sn.length cap4) := B4.cell 3
      have f30 := fun o1 o2 o3 => (((B4.alloc o1).alloc o2).alloc o3).cell 0
      have f32 := fun o1 o2 o3 => (((B4.alloc o1).alloc o2).alloc o3).cell 2
      have f33 := fun o1 o2 o3 => (((B4.alloc o1).alloc o2).alloc o3).cell 3
      have l4 := B4.lt
      have l5 : w.heap.size < w1.heap.size + 1 := by omega
      have l6 : w.heap.size < w1.heap.size + 1 + 1 := by omega
      have n4 : ¬ w.heap.size = w1.heap.size := by omega
      have n5 : ¬ w.heap.size = w1.heap.size + 1 := by omega
      have n6 : ¬ w.heap.size = w1.heap.size + 1 + 1 := by omega
      have m4 : ¬ w1.heap.size = w.heap.size := by omega
      have m5 : ¬ w1.heap.size + 1 = w.heap.size := by omega
      have m6 : ¬ w1.heap.size + 1 + 1 = w.heap.size := by omega
      go_region_held3 (fun w' => w'.cell? ⟨w.heap.size, 0, none⟩ = some (.slice A1 L.st.length cap1) ∧ w'.cell? ⟨w.heap.size, 2, none⟩ = some (.slice A3 c.length cap3) ∧ w'.cell? ⟨w.heap.size, 3, none⟩ = some (.slice A4 L.sn.length cap4)) (go_keep) (fail)
      all_goals
        go_wp2_with fail
        go_meet
        refine ⟨_, _, _, rfl, rfl, rfl, ?_, ?_, ?_, ?_⟩
        · first | exact ((Box.new rfl).alloc _).alloc _ | exact (Box.new (by simp)).alloc _ | exact Box.new (by simp)
        · first | exact ((Box.new rfl).alloc _).alloc _ | exact (Box.new (by simp)).alloc _ | exact Box.new (by simp)
        · first | exact ((Box.new rfl).alloc _).alloc _ | exact (Box.new (by simp)).alloc _ | exact Box.new (by simp)
        · exact up_drew (up_alloc (up_alloc (up_alloc up0 _) _) _)
    case rest =>
      rename_i wc
      obtain ⟨n11, n12, n13, rfl, rfl, rfl, M11, M12, M13, hB2⟩ := hcut
      have hB := up_later hB hB2
      have hg := hg.kept hB2
      have B4 := B4.kept hB2
      have HL2 := Lib.hid (HL1.out.kept hB2)
      clear HL1 hB2 K1 K2 K3
      go_upto_region 5 with fail
      cases k1 : inB 0 ((c.length : Int) - 1) kase with
      | false =>
        refine wp_region_lit ?_
        apply wpList_by 18 [(Fact.eq _), (Fact.eq _), (Fact.eq _), (Fact.eq _), (Fact.eq _), (Fact.eq _), (Fact.eq _), (Fact.eq _), (Fact.eq _), (Fact.eq _), (Fact.eq _), (Fact.eq _), (Fact.eq _), (Fact.eq _), (Fact.eq _), (Fact.eq _), (Fact.eq _), (Fact.eq _)]
        case hB => kernel_rfl
        case hA => (intro vs; simp only [List.take_succ_cons, List.take_zero, putAll, if_true, Act.put, List.setIfInBounds_toArray, List.set_cons_zero, List.set_cons_succ]; exact rfl)
        case hstep =>
          intro vs
          refine And.intro (fun w hw hd => ?_) ?_
          · refine ite_yes rfl ?_
            have c_M11 := fun i => (M11.kept hw).cell i
            have c_M12 := fun i => (M12.kept hw).cell i
            have c_M13 := fun i => (M13.kept hw).cell i
            have c_hg := fun i => (hg.kept hw).cell i
            simp only [Gives]
            go_simp
            exact ⟨Below.refl _ _, rfl, fun h => by cases h⟩
          refine And.intro (fun w hw hd => ?_) ?_
          · refine ite_yes rfl ?_
            simp only [Gives]
            go_simp
            exact ⟨Below.refl _ _, rfl, fun h => by cases h⟩
          refine And.intro (fun w hw hd => ?_) ?_
          · have d0 := hd 0 (by decide) rfl
            change vs 0 = _ at d0
            have d1 := hd 1 (by decide) rfl
            change vs 1 = _ at d1
            refine ite_yes rfl ?_
            simp only [Gives]
            go_simp
            refine (hasB_any _ _ _ _).mono ?_
            rintro e w1 ⟨rfl, hb⟩
            exact ⟨_, rfl, hb, rfl, fun h => by cases h⟩
          refine And.intro (fun w hw hd => ?_) ?_
          · have d2 := hd 2 (by decide) rfl
            change vs 2 = _ at d2
            refine ite_yes rfl ?_
            simp only [Gives]
            go_simp
            exact ⟨Below.refl _ _, rfl, fun h => by cases h⟩
          refine And.intro (fun w hw hd => ?_) ?_
          · have d3 := hd 3 (by decide) rfl
            change vs 3 = _ at d3
            refine ite_yes rfl ?_
            simp only [Gives]
            go_simp
            exact ⟨Below.refl _ _, rfl, fun h => by cases h⟩
          refine And.intro (fun w hw hd => ?_) ?_
          · have d4 := hd 4 (by decide) rfl
            change vs 4 = _ at d4
            refine ite_no (by simp [Region.wanted, yielded, d4]) ?_
            exact ⟨rfl, rfl⟩
          refine And.intro (fun w hw hd => ?_) ?_
          · have d4 := hd 4 (by decide) rfl
            change vs 4 = _ at d4
            refine ite_no (by simp [Region.wanted, yielded, d4]) ?_
            exact ⟨rfl, rfl⟩
          refine And.intro (fun w hw hd => ?_) ?_
          · have d5 := hd 5 (by decide) rfl
            change vs 5 = _ at d5
            have d6 := hd 6 (by decide) rfl
            change vs 6 = _ at d6
            have d4 := hd 4 (by decide) rfl
            change vs 4 = _ at d4
            refine ite_no (by simp [Region.wanted, yielded, d4]) ?_
            exact ⟨rfl, rfl⟩
          refine And.intro (fun w hw hd => ?_) ?_
          · have d7 := hd 7 (by decide) rfl
            change vs 7 = _ at d7
            have d4 := hd 4 (by decide) rfl
            change vs 4 = _ at d4
            refine ite_no (by simp [Region.wanted, yielded, d4]) ?_
            exact ⟨rfl, rfl⟩
          refine And.intro (fun w hw hd => ?_) ?_
          · have d4 := hd 4 (by decide) rfl
            change vs 4 = _ at d4
            have d8 := hd 8 (by decide) rfl
            change vs 8 = _ at d8
            refine ite_yes rfl ?_
            simp only [Gives]
            go_simp
            exact ⟨Below.refl _ _, rfl, fun h => by cases h⟩
          refine And.intro (fun w hw hd => ?_) ?_
          · have d9 := hd 9 (by decide) rfl
            change vs 9 = _ at d9
            refine ite_yes rfl ?_
            simp only [Gives]
            go_simp
            exact ⟨Below.refl _ _, rfl, fun h => by cases h⟩
          refine And.intro (fun w hw hd => ?_) ?_
          · have d10 := hd 10 (by decide) rfl
            change vs 10 = _ at d10
            refine ite_no (by simp [Region.wanted, yielded, d10]) ?_
            exact ⟨rfl, rfl⟩
          refine And.intro (fun w hw hd => ?_) ?_
          · have d10 := hd 10 (by decide) rfl
            change vs 10 = _ at d10
            refine ite_no (by simp [Region.wanted, yielded, d10]) ?_
            exact ⟨rfl, rfl⟩
          refine And.intro (fun w hw hd => ?_) ?_
          · have d12 := hd 12 (by decide) rfl
            change vs 12 = _ at d12
            have d10 := hd 10 (by decide) rfl
            change vs 10 = _ at d10
            refine ite_no (by simp [Region.wanted, yielded, d10]) ?_
            exact ⟨rfl, rfl⟩
          refine And.intro (fun w hw hd => ?_) ?_
          · have d11 := hd 11 (by decide) rfl
            change vs 11 = _ at d11
            have d13 := hd 13 (by decide) rfl
            change vs 13 = _ at d13
            have d10 := hd 10 (by decide) rfl
            change vs 10 = _ at d10
            refine ite_no (by simp [Region.wanted, yielded, d10]) ?_
            exact ⟨rfl, rfl⟩
          refine And.intro (fun w hw hd => ?_) ?_
          · have d14 := hd 14 (by decide) rfl
            change vs 14 = _ at d14
            have d10 := hd 10 (by decide) rfl
            change vs 10 = _ at d10
            refine ite_no (by simp [Region.wanted, yielded, d10]) ?_
            exact ⟨rfl, rfl⟩
          refine And.intro (fun w hw hd => ?_) ?_
          · have d10 := hd 10 (by decide) rfl
            change vs 10 = _ at d10
            have d15 := hd 15 (by decide) rfl
            change vs 15 = _ at d15
            refine ite_yes rfl ?_
            simp only [Gives]
            go_simp
            exact ⟨Below.refl _ _, rfl, fun h => by cases h⟩
          refine And.intro (fun w hw hd => ?_) ?_
          · have d16 := hd 16 (by decide) rfl
            change vs 16 = _ at d16
            refine ite_yes rfl ?_
            simp only [Gives]
            go_simp
            exact ⟨Below.refl _ _, rfl, fun h => by cases h⟩
          exact trivial
        intro vs wt hw hd hne hlo
        have d0 := hd 0 (by decide)
        change vs 0 = _ at d0
        have d1 := hd 1 (by decide)
        change vs 1 = _ at d1
        have d2 := hd 2 (by decide)
        change vs 2 = _ at d2
        have d3 := hd 3 (by decide)
        change vs 3 = _ at d3
        have d4 := hd 4 (by decide)
        change vs 4 = _ at d4
        have d5 := hd 5 (by decide)
        change vs 5 = _ at d5
        have d6 := hd 6 (by decide)
        change vs 6 = _ at d6
        have d7 := hd 7 (by decide)
        change vs 7 = _ at d7
        have d8 := hd 8 (by decide)
        change vs 8 = _ at d8
        have d9 := hd 9 (by decide)
        change vs 9 = _ at d9
        have d10 := hd 10 (by decide)
        change vs 10 = _ at d10
        have d11 := hd 11 (by decide)
        change vs 11 = _ at d11
        have d12 := hd 12 (by decide)
        change vs 12 = _ at d12
        have d13 := hd 13 (by decide)
        change vs 13 = _ at d13
        have d14 := hd 14 (by decide)
        change vs 14 = _ at d14
        have d15 := hd 15 (by decide)
        change vs 15 = _ at d15
        have d16 := hd 16 (by decide)
        change vs 16 = _ at d16
        have d17 := hd 17 (by decide)
        change vs 17 = _ at d17
        simp only [d0, d1, d2, d3, d4, d5, d6, d7, d8, d9, d10, d11, d12, d13, d14, d15, d16, d17, List.drop_succ_cons, List.drop_nil]
        have M11 := M11.kept hw
        have M12 := M12.kept hw
        have M13 := M13.kept hw
        have hg := hg.kept hw
        have c_M11 := fun i => M11.cell i
        have f_M11 := fun i => M11.free i
        have c_M12 := fun i => M12.cell i
        have f_M12 := fun i => M12.free i
        have c_M13 := fun i => M13.cell i
        have f_M13 := fun i => M13.free i
        have c_hg := fun i => hg.cell i
        have f_hg := fun i => hg.free i
        clear hd hne hlo d0 d1 d2 d3 d4 d5 d6 d7 d8 d9 d10 d11 d12 d13 d14 d15 d16 d17
        go_wp2
        go_ret2
        exact ⟨up_later hB hw, .inl ⟨by rw [Hop.out]; simp [*], by rw [Hop.out]; simp [*]⟩⟩
      | true =>
        cases k2 : inB 0 ((L.sn.length : Int) - 1) hour with
        | false =>
          refine wp_region_lit ?_
          apply wpList_by 18 [(Fact.eq _), (Fact.eq _), (Fact.eq _), (Fact.eq _), (Fact.eq _), (Fact.eq _), (Fact.eq _), (Fact.eq _), (Fact.eq _), (Fact.eq _), (Fact.eq _), (Fact.eq _), (Fact.eq _), (Fact.eq _), (Fact.eq _), (Fact.eq _), (Fact.eq _), (Fact.eq _)]
          case hB => kernel_rfl
          case hA => (intro vs; simp only [List.take_succ_cons, List.take_zero, putAll, if_true, Act.put, List.setIfInBounds_toArray, List.set_cons_zero, List.set_cons_succ]; exact rfl)
          case hstep =>
            intro vs
            refine And.intro (fun w hw hd => ?_) ?_
            · refine ite_yes rfl ?_
              have c_M11 := fun i => (M11.kept hw).cell i
              have c_M12 := fun i => (M12.kept hw).cell i
              have c_M13 := fun i => (M13.kept hw).cell i
              have c_hg := fun i => (hg.kept hw).cell i
              simp only [Gives]
              go_simp
              exact ⟨Below.refl _ _, rfl, fun h => by cases h⟩
            refine And.intro (fun w hw hd => ?_) ?_
            · refine ite_yes rfl ?_
              simp only [Gives]
              go_simp
              exact ⟨Below.refl _ _, rfl, fun h => by cases h⟩
            refine And.intro (fun w hw hd => ?_) ?_
            · have d0 := hd 0 (by decide) rfl
              change vs 0 = _ at d0
              have d1 := hd 1 (by decide) rfl
              change vs 1 = _ at d1
              refine ite_yes rfl ?_
              simp only [Gives]
              go_simp
              refine (hasB_any _ _ _ _).mono ?_
              rintro e w1 ⟨rfl, hb⟩
              exact ⟨_, rfl, hb, rfl, fun h => by cases h⟩
            refine And.intro (fun w hw hd => ?_) ?_
            · have d2 := hd 2 (by decide) rfl
              change vs 2 = _ at d2
              refine ite_yes rfl ?_
              simp only [Gives]
              go_simp
              exact ⟨Below.refl _ _, rfl, fun h => by cases h⟩
            refine And.intro (fun w hw hd => ?_) ?_
            · have d3 := hd 3 (by decide) rfl
              change vs 3 = _ at d3
              refine ite_yes rfl ?_
              simp only [Gives]
              go_simp
              exact ⟨Below.refl _ _, rfl, fun h => by cases h⟩
            refine And.intro (fun w hw hd => ?_) ?_
            · have d4 := hd 4 (by decide) rfl
              change vs 4 = _ at d4
              refine ite_yes (by simp [Region.wanted, yielded, d4]) ?_
              have c_M11 := fun i => (M11.kept hw).cell i
              have c_M12 := fun i => (M12.kept hw).cell i
              have c_M13 := fun i => (M13.kept hw).cell i
              have c_hg := fun i => (hg.kept hw).cell i
              simp only [Gives]
              go_simp
              exact ⟨Below.refl _ _, rfl, fun h => by cases h⟩
            refine And.intro (fun w hw hd => ?_) ?_
            · have d4 := hd 4 (by decide) rfl
              change vs 4 = _ at d4
              refine ite_yes (by simp [Region.wanted, yielded, d4]) ?_
              simp only [Gives]
              go_simp
              exact ⟨Below.refl _ _, rfl, fun h => by cases h⟩
            refine And.intro (fun w hw hd => ?_) ?_
            · have d5 := hd 5 (by decide) rfl
              change vs 5 = _ at d5
              have d6 := hd 6 (by decide) rfl
              change vs 6 = _ at d6
              have d4 := hd 4 (by decide) rfl
              change vs 4 = _ at d4
              refine ite_yes (by simp [Region.wanted, yielded, d4]) ?_
              simp only [Gives]
              go_simp
              refine (hasB_any _ _ _ _).mono ?_
              rintro e w1 ⟨rfl, hb⟩
              exact ⟨_, rfl, hb, rfl, fun h => by cases h⟩
            refine And.intro (fun w hw hd => ?_) ?_
            · have d7 := hd 7 (by decide) rfl
              change vs 7 = _ at d7
              have d4 := hd 4 (by decide) rfl
              change vs 4 = _ at d4
              refine ite_yes (by simp [Region.wanted, yielded, d4]) ?_
              simp only [Gives]
              go_simp
              exact ⟨Below.refl _ _, rfl, fun h => by cases h⟩
            refine And.intro (fun w hw hd => ?_) ?_
            · have d4 := hd 4 (by decide) rfl
              change vs 4 = _ at d4
              have d8 := hd 8 (by decide) rfl
              change vs 8 = _ at d8
              refine ite_yes rfl ?_
              simp only [Gives]
              go_simp
              exact ⟨Below.refl _ _, rfl, fun h => by cases h⟩
            refine And.intro (fun w hw hd => ?_) ?_
            · have d9 := hd 9 (by decide) rfl
              change vs 9 = _ at d9
              refine ite_yes rfl ?_
              simp only [Gives]
              go_simp
              exact ⟨Below.refl _ _, rfl, fun h => by cases h⟩
            refine And.intro (fun w hw hd => ?_) ?_
            · have d10 := hd 10 (by decide) rfl
              change vs 10 = _ at d10
              refine ite_no (by simp [Region.wanted, yielded, d10]) ?_
              exact ⟨rfl, rfl⟩
            refine And.intro (fun w hw hd => ?_) ?_
            · have d10 := hd 10 (by decide) rfl
              change vs 10 = _ at d10
              refine ite_no (by simp [Region.wanted, yielded, d10]) ?_
              exact ⟨rfl, rfl⟩
            refine And.intro (fun w hw hd => ?_) ?_
            · have d12 := hd 12 (by decide) rfl
              change vs 12 = _ at d12
              have d10 := hd 10 (by decide) rfl
              change vs 10 = _ at d10
              refine ite_no (by simp [Region.wanted, yielded, d10]) ?_
              exact ⟨rfl, rfl⟩
            refine And.intro (fun w hw hd => ?_) ?_
            · have d11 := hd 11 (by decide) rfl
              change vs 11 = _ at d11
              have d13 := hd 13 (by decide) rfl
              change vs 13 = _ at d13
              have d10 := hd 10 (by decide) rfl
              change vs 10 = _ at d10
              refine ite_no (by simp [Region.wanted, yielded, d10]) ?_
              exact ⟨rfl, rfl⟩
            refine And.intro (fun w hw hd => ?_) ?_
            · have d14 := hd 14 (by decide) rfl
              change vs 14 = _ at d14
              have d10 := hd 10 (by decide) rfl
              change vs 10 = _ at d10
              refine ite_no (by simp [Region.wanted, yielded, d10]) ?_
              exact ⟨rfl, rfl⟩
            refine And.intro (fun w hw hd => ?_) ?_
            · have d10 := hd 10 (by decide) rfl
              change vs 10 = _ at d10
              have d15 := hd 15 (by decide) rfl
              change vs 15 = _ at d15
              refine ite_yes rfl ?_
              simp only [Gives]
              go_simp
              exact ⟨Below.refl _ _, rfl, fun h => by cases h⟩
            refine And.intro (fun w hw hd => ?_) ?_
            · have d16 := hd 16 (by decide) rfl
              change vs 16 = _ at d16
              refine ite_yes rfl ?_
              simp only [Gives]
              go_simp
              exact ⟨Below.refl _ _, rfl, fun h => by cases h⟩
            exact trivial
          intro vs wt hw hd hne hlo
          have d0 := hd 0 (by decide)
          change vs 0 = _ at d0
          have d1 := hd 1 (by decide)
          change vs 1 = _ at d1
          have d2 := hd 2 (by decide)
          change vs 2 = _ at d2
          have d3 := hd 3 (by decide)
          change vs 3 = _ at d3
          have d4 := hd 4 (by decide)
          change vs 4 = _ at d4
          have d5 := hd 5 (by decide)
          change vs 5 = _ at d5
          have d6 := hd 6 (by decide)
          change vs 6 = _ at d6
          have d7 := hd 7 (by decide)
          change vs 7 = _ at d7
          have d8 := hd 8 (by decide)
          change vs 8 = _ at d8
          have d9 := hd 9 (by decide)
          change vs 9 = _ at d9
          have d10 := hd 10 (by decide)
          change vs 10 = _ at d10
          have d11 := hd 11 (by decide)
          change vs 11 = _ at d11
          have d12 := hd 12 (by decide)
          change vs 12 = _ at d12
          have d13 := hd 13 (by decide)
          change vs 13 = _ at d13
          have d14 := hd 14 (by decide)
          change vs 14 = _ at d14
          have d15 := hd 15 (by decide)
          change vs 15 = _ at d15
          have d16 := hd 16 (by decide)
          change vs 16 = _ at d16
          have d17 := hd 17 (by decide)
          change vs 17 = _ at d17
          simp only [d0, d1, d2, d3, d4, d5, d6, d7, d8, d9, d10, d11, d12, d13, d14, d15, d16, d17, List.drop_succ_cons, List.drop_nil]
          have M11 := M11.kept hw
          have M12 := M12.kept hw
          have M13 := M13.kept hw
          have hg := hg.kept hw
          have c_M11 := fun i => M11.cell i
          have f_M11 := fun i => M11.free i
          have c_M12 := fun i => M12.cell i
          have f_M12 := fun i => M12.free i
          have c_M13 := fun i => M13.cell i
          have f_M13 := fun i => M13.free i
          have c_hg := fun i => hg.cell i
          have f_hg := fun i => hg.free i
          clear hd hne hlo d0 d1 d2 d3 d4 d5 d6 d7 d8 d9 d10 d11 d12 d13 d14 d15 d16 d17
          go_wp2
          go_ret2
          exact ⟨up_later hB hw, .inl ⟨by rw [Hop.out]; simp [*], by rw [Hop.out]; simp [*]⟩⟩
        | true =>
          cases k3 : [a].all (inB 0 ((L.st.length : Int) - 1)) with
          | false =>
            refine wp_region_lit ?_
            apply wpList_by 18 [(Fact.eq _), (Fact.eq _), (Fact.eq _), (Fact.eq _), (Fact.eq _), (Fact.eq _), (Fact.eq _), (Fact.eq _), (Fact.eq _), (Fact.eq _), (Fact.eq _), (Fact.eq _), (Fact.eq _), (Fact.eq _), (Fact.eq _), (Fact.eq _), (Fact.eq _), (Fact.eq _)]
            case hB => kernel_rfl
            case hA => (intro vs; simp only [List.take_succ_cons, List.take_zero, putAll, if_true, Act.put, List.setIfInBounds_toArray, List.set_cons_zero, List.set_cons_succ]; exact rfl)
            case hstep =>
              intro vs
              refine And.intro (fun w hw hd => ?_) ?_
              · refine ite_yes rfl ?_
                have c_M11 := fun i => (M11.kept hw).cell i
                have c_M12 := fun i => (M12.kept hw).cell i
                have c_M13 := fun i => (M13.kept hw).cell i
                have c_hg := fun i => (hg.kept hw).cell i
                simp only [Gives]
                go_simp
                exact ⟨Below.refl _ _, rfl, fun h => by cases h⟩
              refine And.intro (fun w hw hd => ?_) ?_
              · refine ite_yes rfl ?_
                simp only [Gives]
                go_simp
                exact ⟨Below.refl _ _, rfl, fun h => by cases h⟩
              refine And.intro (fun w hw hd => ?_) ?_
              · have d0 := hd 0 (by decide) rfl
                change vs 0 = _ at d0
                have d1 := hd 1 (by decide) rfl
                change vs 1 = _ at d1
                refine ite_yes rfl ?_
                simp only [Gives]
                go_simp
                refine (hasB_any _ _ _ _).mono ?_
                rintro e w1 ⟨rfl, hb⟩
                exact ⟨_, rfl, hb, rfl, fun h => by cases h⟩
              refine And.intro (fun w hw hd => ?_) ?_
              · have d2 := hd 2 (by decide) rfl
                change vs 2 = _ at d2
                refine ite_yes rfl ?_
                simp only [Gives]
                go_simp
                exact ⟨Below.refl _ _, rfl, fun h => by cases h⟩
              refine And.intro (fun w hw hd => ?_) ?_
              · have d3 := hd 3 (by decide) rfl
                change vs 3 = _ at d3
                refine ite_yes rfl ?_
                simp only [Gives]
                go_simp
                exact ⟨Below.refl _ _, rfl, fun h => by cases h⟩
              refine And.intro (fun w hw hd => ?_) ?_
              · have d4 := hd 4 (by decide) rfl
                change vs 4 = _ at d4
                refine ite_yes (by simp [Region.wanted, yielded, d4]) ?_
                have c_M11 := fun i => (M11.kept hw).cell i
                have c_M12 := fun i => (M12.kept hw).cell i
                have c_M13 := fun i => (M13.kept hw).cell i
                have c_hg := fun i => (hg.kept hw).cell i
                simp only [Gives]
                go_simp
                exact ⟨Below.refl _ _, rfl, fun h => by cases h⟩
              refine And.intro (fun w hw hd => ?_) ?_
              · have d4 := hd 4 (by decide) rfl
                change vs 4 = _ at d4
                refine ite_yes (by simp [Region.wanted, yielded, d4]) ?_
                simp only [Gives]
                go_simp
                exact ⟨Below.refl _ _, rfl, fun h => by cases h⟩
              refine And.intro (fun w hw hd => ?_) ?_
              · have d5 := hd 5 (by decide) rfl
                change vs 5 = _ at d5
                have d6 := hd 6 (by decide) rfl
                change vs 6 = _ at d6
                have d4 := hd 4 (by decide) rfl
                change vs 4 = _ at d4
                refine ite_yes (by simp [Region.wanted, yielded, d4]) ?_
                simp only [Gives]
                go_simp
                refine (hasB_any _ _ _ _).mono ?_
                rintro e w1 ⟨rfl, hb⟩
                exact ⟨_, rfl, hb, rfl, fun h => by cases h⟩
              refine And.intro (fun w hw hd => ?_) ?_
              · have d7 := hd 7 (by decide) rfl
                change vs 7 = _ at d7
                have d4 := hd 4 (by decide) rfl
                change vs 4 = _ at d4
                refine ite_yes (by simp [Region.wanted, yielded, d4]) ?_
                simp only [Gives]
                go_simp
                exact ⟨Below.refl _ _, rfl, fun h => by cases h⟩
              refine And.intro (fun w hw hd => ?_) ?_
              · have d4 := hd 4 (by decide) rfl
                change vs 4 = _ at d4
                have d8 := hd 8 (by decide) rfl
                change vs 8 = _ at d8
                refine ite_yes rfl ?_
                simp only [Gives]
                go_simp
                exact ⟨Below.refl _ _, rfl, fun h => by cases h⟩
              refine And.intro (fun w hw hd => ?_) ?_
              · have d9 := hd 9 (by decide) rfl
                change vs 9 = _ at d9
                refine ite_yes rfl ?_
                simp only [Gives]
                go_simp
                exact ⟨Below.refl _ _, rfl, fun h => by cases h⟩
              refine And.intro (fun w hw hd => ?_) ?_
              · have d10 := hd 10 (by decide) rfl
                change vs 10 = _ at d10
                refine ite_yes (by simp [Region.wanted, yielded, d10]) ?_
                simp only [Gives]
                go_simp
                exact ⟨Below.refl _ _, rfl, fun h => by cases h⟩
              refine And.intro (fun w hw hd => ?_) ?_
              · have d10 := hd 10 (by decide) rfl
                change vs 10 = _ at d10
                refine ite_yes (by simp [Region.wanted, yielded, d10]) ?_
                have c_M11 := fun i => (M11.kept hw).cell i
                have c_M12 := fun i => (M12.kept hw).cell i
                have c_M13 := fun i => (M13.kept hw).cell i
                have c_hg := fun i => (hg.kept hw).cell i
                simp only [Gives]
                go_simp
                exact ⟨Below.refl _ _, rfl, fun h => by cases h⟩
              refine And.intro (fun w hw hd => ?_) ?_
              · have d12 := hd 12 (by decide) rfl
                change vs 12 = _ at d12
                have d10 := hd 10 (by decide) rfl
                change vs 10 = _ at d10
                refine ite_yes (by simp [Region.wanted, yielded, d10]) ?_
                simp only [Gives]
                go_simp
                exact ⟨Below.refl _ _, rfl, fun h => by cases h⟩
              refine And.intro (fun w hw hd => ?_) ?_
              · have d11 := hd 11 (by decide) rfl
                change vs 11 = _ at d11
                have d13 := hd 13 (by decide) rfl
                change vs 13 = _ at d13
                have d10 := hd 10 (by decide) rfl
                change vs 10 = _ at d10
                refine ite_yes (by simp [Region.wanted, yielded, d10]) ?_
                simp only [Gives]
                go_simp
                refine (every_int_any _ [a] _ _ _ (open_row1 (hg.kept hw))).mono ?_
                rintro e w1 ⟨rfl, hb⟩
                exact ⟨_, rfl, hb, rfl, fun h => by cases h⟩
              refine And.intro (fun w hw hd => ?_) ?_
              · have d14 := hd 14 (by decide) rfl
                change vs 14 = _ at d14
                have d10 := hd 10 (by decide) rfl
                change vs 10 = _ at d10
                refine ite_yes (by simp [Region.wanted, yielded, d10]) ?_
                simp only [Gives]
                go_simp
                exact ⟨Below.refl _ _, rfl, fun h => by cases h⟩
              refine And.intro (fun w hw hd => ?_) ?_
              · have d10 := hd 10 (by decide) rfl
                change vs 10 = _ at d10
                have d15 := hd 15 (by decide) rfl
                change vs 15 = _ at d15
                refine ite_yes rfl ?_
                simp only [Gives]
                go_simp
                exact ⟨Below.refl _ _, rfl, fun h => by cases h⟩
              refine And.intro (fun w hw hd => ?_) ?_
              · have d16 := hd 16 (by decide) rfl
                change vs 16 = _ at d16
                refine ite_yes rfl ?_
                simp only [Gives]
                go_simp
                exact ⟨Below.refl _ _, rfl, fun h => by cases h⟩
              exact trivial
            intro vs wt hw hd hne hlo
            have d0 := hd 0 (by decide)
            change vs 0 = _ at d0
            have d1 := hd 1 (by decide)
            change vs 1 = _ at d1
            have d2 := hd 2 (by decide)
            change vs 2 = _ at d2
            have d3 := hd 3 (by decide)
            change vs 3 = _ at d3
            have d4 := hd 4 (by decide)
            change vs 4 = _ at d4
            have d5 := hd 5 (by decide)
            change vs 5 = _ at d5
            have d6 := hd 6 (by decide)
            change vs 6 = _ at d6
            have d7 := hd 7 (by decide)
            change vs 7 = _ at d7
            have d8 := hd 8 (by decide)
            change vs 8 = _ at d8
            have d9 := hd 9 (by decide)
            change vs 9 = _ at d9
            have d10 := hd 10 (by decide)
            change vs 10 = _ at d10
            have d11 := hd 11 (by decide)
            change vs 11 = _ at d11
            have d12 := hd 12 (by decide)
            change vs 12 = _ at d12
            have d13 := hd 13 (by decide)
            change vs 13 = _ at d13
            have d14 := hd 14 (by decide)
            change vs 14 = _ at d14
            have d15 := hd 15 (by decide)
            change vs 15 = _ at d15
            have d16 := hd 16 (by decide)
            change vs 16 = _ at d16
            have d17 := hd 17 (by decide)
            change vs 17 = _ at d17
            simp only [d0, d1, d2, d3, d4, d5, d6, d7, d8, d9, d10, d11, d12, d13, d14, d15, d16, d17, List.drop_succ_cons, List.drop_nil]
            have M11 := M11.kept hw
            have M12 := M12.kept hw
            have M13 := M13.kept hw
            have hg := hg.kept hw
            have c_M11 := fun i => M11.cell i
            have f_M11 := fun i => M11.free i
            have c_M12 := fun i => M12.cell i
            have f_M12 := fun i => M12.free i
            have c_M13 := fun i => M13.cell i
            have f_M13 := fun i => M13.free i
            have c_hg := fun i => hg.cell i
            have f_hg := fun i => hg.free i
            clear hd hne hlo d0 d1 d2 d3 d4 d5 d6 d7 d8 d9 d10 d11 d12 d13 d14 d15 d16 d17
            go_wp2
            go_ret2
            exact ⟨up_later hB hw, .inl ⟨by rw [Hop.out]; simp [*], by rw [Hop.out]; simp [*]⟩⟩
          | true =>
            refine wp_region_lit ?_
            apply wpList_by 18 [(Fact.eq _), (Fact.eq _), (Fact.eq _), (Fact.eq _), (Fact.eq _), (Fact.eq _), (Fact.eq _), (Fact.eq _), (Fact.eq _), (Fact.eq _), (Fact.eq _), (Fact.eq _), (Fact.eq _), (Fact.eq _), (Fact.eq _), (Fact.eq _), (Fact.eq _), (Fact.eq _)]
            case hB => kernel_rfl
            case hA => (intro vs; simp only [List.take_succ_cons, List.take_zero, putAll, if_true, Act.put, List.setIfInBounds_toArray, List.set_cons_zero, List.set_cons_succ]; exact rfl)
            case hstep =>
              intro vs
              refine And.intro (fun w hw hd => ?_) ?_
              · refine ite_yes rfl ?_
                have c_M11 := fun i => (M11.kept hw).cell i
                have c_M12 := fun i => (M12.kept hw).cell i
                have c_M13 := fun i => (M13.kept hw).cell i
                have c_hg := fun i => (hg.kept hw).cell i
                simp only [Gives]
                go_simp
                exact ⟨Below.refl _ _, rfl, fun h => by cases h⟩
              refine And.intro (fun w hw hd => ?_) ?_
              · refine ite_yes rfl ?_
                simp only [Gives]
                go_simp
                exact ⟨Below.refl _ _, rfl, fun h => by cases h⟩
              refine And.intro (fun w hw hd => ?_) ?_
              · have d0 := hd 0 (by decide) rfl
                change vs 0 = _ at d0
                have d1 := hd 1 (by decide) rfl
                change vs 1 = _ at d1
                refine ite_yes rfl ?_
                simp only [Gives]
                go_simp
                refine (hasB_any _ _ _ _).mono ?_
                rintro e w1 ⟨rfl, hb⟩
                exact ⟨_, rfl, hb, rfl, fun h => by cases h⟩
              refine And.intro (fun w hw hd => ?_) ?_
              · have d2 := hd 2 (by decide) rfl
                change vs 2 = _ at d2
                refine ite_yes rfl ?_
                simp only [Gives]
                go_simp
                exact ⟨Below.refl _ _, rfl, fun h => by cases h⟩
              refine And.intro (fun w hw hd => ?_) ?_
              · have d3 := hd 3 (by decide) rfl
                change vs 3 = _ at d3
                refine ite_yes rfl ?_
                simp only [Gives]
                go_simp
                exact ⟨Below.refl _ _, rfl, fun h => by cases h⟩
              refine And.intro (fun w hw hd => ?_) ?_
              · have d4 := hd 4 (by decide) rfl
                change vs 4 = _ at d4
                refine ite_yes (by simp [Region.wanted, yielded, d4]) ?_
                have c_M11 := fun i => (M11.kept hw).cell i
                have c_M12 := fun i => (M12.kept hw).cell i
                have c_M13 := fun i => (M13.kept hw).cell i
                have c_hg := fun i => (hg.kept hw).cell i
                simp only [Gives]
                go_simp
                exact ⟨Below.refl _ _, rfl, fun h => by cases h⟩
              refine And.intro (fun w hw hd => ?_) ?_
              · have d4 := hd 4 (by decide) rfl
                change vs 4 = _ at d4
                refine ite_yes (by simp [Region.wanted, yielded, d4]) ?_
                simp only [Gives]
                go_simp
                exact ⟨Below.refl _ _, rfl, fun h => by cases h⟩
              refine And.intro (fun w hw hd => ?_) ?_
              · have d5 := hd 5 (by decide) rfl
                change vs 5 = _ at d5
                have d6 := hd 6 (by decide) rfl
                change vs 6 = _ at d6
                have d4 := hd 4 (by decide) rfl
                change vs 4 = _ at d4
                refine ite_yes (by simp [Region.wanted, yielded, d4]) ?_
                simp only [Gives]
                go_simp
                refine (hasB_any _ _ _ _).mono ?_
                rintro e w1 ⟨rfl, hb⟩
                exact ⟨_, rfl, hb, rfl, fun h => by cases h⟩
              refine And.intro (fun w hw hd => ?_) ?_
              · have d7 := hd 7 (by decide) rfl
                change vs 7 = _ at d7
                have d4 := hd 4 (by decide) rfl
                change vs 4 = _ at d4
                refine ite_yes (by simp [Region.wanted, yielded, d4]) ?_
                simp only [Gives]
                go_simp
                exact ⟨Below.refl _ _, rfl, fun h => by cases h⟩
              refine And.intro (fun w hw hd => ?_) ?_
              · have d4 := hd 4 (by decide) rfl
                change vs 4 = _ at d4
                have d8 := hd 8 (by decide) rfl
                change vs 8 = _ at d8
                refine ite_yes rfl ?_
                simp only [Gives]
                go_simp
                exact ⟨Below.refl _ _, rfl, fun h => by cases h⟩
              refine And.intro (fun w hw hd => ?_) ?_
              · have d9 := hd 9 (by decide) rfl
                change vs 9 = _ at d9
                refine ite_yes rfl ?_
                simp only [Gives]
                go_simp
                exact ⟨Below.refl _ _, rfl, fun h => by cases h⟩
              refine And.intro (fun w hw hd => ?_) ?_
              · have d10 := hd 10 (by decide) rfl
                change vs 10 = _ at d10
                refine ite_yes (by simp [Region.wanted, yielded, d10]) ?_
                simp only [Gives]
                go_simp
                exact ⟨Below.refl _ _, rfl, fun h => by cases h⟩
              refine And.intro (fun w hw hd => ?_) ?_
              · have d10 := hd 10 (by decide) rfl
                change vs 10 = _ at d10
                refine ite_yes (by simp [Region.wanted, yielded, d10]) ?_
                have c_M11 := fun i => (M11.kept hw).cell i
                have c_M12 := fun i => (M12.kept hw).cell i
                have c_M13 := fun i => (M13.kept hw).cell i
                have c_hg := fun i => (hg.kept hw).cell i
                simp only [Gives]
                go_simp
                exact ⟨Below.refl _ _, rfl, fun h => by cases h⟩
              refine And.intro (fun w hw hd => ?_) ?_
              · have d12 := hd 12 (by decide) rfl
                change vs 12 = _ at d12
                have d10 := hd 10 (by decide) rfl
                change vs 10 = _ at d10
                refine ite_yes (by simp [Region.wanted, yielded, d10]) ?_
                simp only [Gives]
                go_simp
                exact ⟨Below.refl _ _, rfl, fun h => by cases h⟩
              refine And.intro (fun w hw hd => ?_) ?_
              · have d11 := hd 11 (by decide) rfl
                change vs 11 = _ at d11
                have d13 := hd 13 (by decide) rfl
                change vs 13 = _ at d13
                have d10 := hd 10 (by decide) rfl
                change vs 10 = _ at d10
                refine ite_yes (by simp [Region.wanted, yielded, d10]) ?_
                simp only [Gives]
                go_simp
                refine (every_int_any _ [a] _ _ _ (open_row1 (hg.kept hw))).mono ?_
                rintro e w1 ⟨rfl, hb⟩
                exact ⟨_, rfl, hb, rfl, fun h => by cases h⟩
              refine And.intro (fun w hw hd => ?_) ?_
              · have d14 := hd 14 (by decide) rfl
                change vs 14 = _ at d14
                have d10 := hd 10 (by decide) rfl
                change vs 10 = _ at d10
                refine ite_yes (by simp [Region.wanted, yielded, d10]) ?_
                simp only [Gives]
                go_simp
                exact ⟨Below.refl _ _, rfl, fun h => by cases h⟩
              refine And.intro (fun w hw hd => ?_) ?_
              · have d10 := hd 10 (by decide) rfl
                change vs 10 = _ at d10
                have d15 := hd 15 (by decide) rfl
                change vs 15 = _ at d15
                refine ite_yes rfl ?_
                simp only [Gives]
                go_simp
                exact ⟨Below.refl _ _, rfl, fun h => by cases h⟩
              refine And.intro (fun w hw hd => ?_) ?_
              · have d16 := hd 16 (by decide) rfl
                change vs 16 = _ at d16
                refine ite_yes rfl ?_
                simp only [Gives]
                go_simp
                exact ⟨Below.refl _ _, rfl, fun h => by cases h⟩
              exact trivial
            intro vs wt hw hd hne hlo
            have d0 := hd 0 (by decide)
            change vs 0 = _ at d0
            have d1 := hd 1 (by decide)
            change vs 1 = _ at d1
            have d2 := hd 2 (by decide)
            change vs 2 = _ at d2
            have d3 := hd 3 (by decide)
            change vs 3 = _ at d3
            have d4 := hd 4 (by decide)
            change vs 4 = _ at d4
            have d5 := hd 5 (by decide)
            change vs 5 = _ at d5
            have d6 := hd 6 (by decide)
            change vs 6 = _ at d6
            have d7 := hd 7 (by decide)
            change vs 7 = _ at d7
            have d8 := hd 8 (by decide)
            change vs 8 = _ at d8
            have d9 := hd 9 (by decide)
            change vs 9 = _ at d9
            have d10 := hd 10 (by decide)
            change vs 10 = _ at d10
            have d11 := hd 11 (by decide)
            change vs 11 = _ at d11
            have d12 := hd 12 (by decide)
            change vs 12 = _ at d12
            have d13 := hd 13 (by decide)
            change vs 13 = _ at d13
            have d14 := hd 14 (by decide)
            change vs 14 = _ at d14
            have d15 := hd 15 (by decide)
            change vs 15 = _ at d15
            have d16 := hd 16 (by decide)
            change vs 16 = _ at d16
            have d17 := hd 17 (by decide)
            change vs 17 = _ at d17
            simp only [d0, d1, d2, d3, d4, d5, d6, d7, d8, d9, d10, d11, d12, d13, d14, d15, d16, d17, List.drop_succ_cons, List.drop_nil]
            have M11 := M11.kept hw
            have M12 := M12.kept hw
            have M13 := M13.kept hw
            have hg := hg.kept hw
            have c_M11 := fun i => M11.cell i
            have f_M11 := fun i => M11.free i
            have c_M12 := fun i => M12.cell i
            have f_M12 := fun i => M12.free i
            have c_M13 := fun i => M13.cell i
            have f_M13 := fun i => M13.free i
            have c_hg := fun i => hg.cell i
            have f_hg := fun i => hg.free i
            clear hd hne hlo d0 d1 d2 d3 d4 d5 d6 d7 d8 d9 d10 d11 d12 d13 d14 d15 d16 d17
            go_upto_region 7 with fail
            have hB := up_later hB hw
            have HL3 := Lib.hid (HL2.out.kept hw)
            have B4 := B4.kept hw
            clear hw HL2
            apply wp_region_by 13 [(Fact.eq _), (Fact.eq _), (Fact.eq _), (Fact.eq _), (Fact.eq _), (Fact.eq _), (Fact.eq _), (Fact.eq _), (Fact.eq _), (Fact.eq _), (Fact.eq _), (Fact.eq _), (Fact.eq _)]
            case hm => kernel_rfl
            case hB => kernel_rfl
            case hA => (intro vs; simp only [List.take_succ_cons, List.take_zero, putAll, if_true, Act.put, List.setIfInBounds_toArray, List.set_cons_zero, List.set_cons_succ]; exact rfl)
            case hstep =>
              intro vs
              refine And.intro (fun w hw hd => ?_) ?_
              · refine ite_yes rfl ?_
                simp only [Gives]
                go_simp
                exact ⟨Below.refl _ _, rfl, fun h => by cases h⟩
              refine And.intro (fun w hw hd => ?_) ?_
              · have d0 := hd 0 (by decide) rfl
                change vs 0 = _ at d0
                refine ite_yes rfl ?_
                simp only [Gives]
                go_simp
                exact ⟨Below.refl _ _, rfl, fun h => by cases h⟩
              refine And.intro (fun w hw hd => ?_) ?_
              · have d1 := hd 1 (by decide) rfl
                change vs 1 = _ at d1
                refine ite_yes rfl ?_
                simp only [Gives]
                go_simp
                exact ⟨Below.refl _ _, rfl, fun h => by cases h⟩
              refine And.intro (fun w hw hd => ?_) ?_
              · have d2 := hd 2 (by decide) rfl
                change vs 2 = _ at d2
                refine ite_yes rfl ?_
                simp only [Gives]
                go_simp
                exact ⟨Below.refl _ _, rfl, fun h => by cases h⟩
              refine And.intro (fun w hw hd => ?_) ?_
              · have d3 := hd 3 (by decide) rfl
                change vs 3 = _ at d3
                refine ite_no (by simp [Region.wanted, yielded, d3]) ?_
                exact ⟨rfl, rfl⟩
              refine And.intro (fun w hw hd => ?_) ?_
              · have d4 := hd 4 (by decide) rfl
                change vs 4 = _ at d4
                have d3 := hd 3 (by decide) rfl
                change vs 3 = _ at d3
                refine ite_no (by simp [Region.wanted, yielded, d3]) ?_
                exact ⟨rfl, rfl⟩
              refine And.intro (fun w hw hd => ?_) ?_
              · have d5 := hd 5 (by decide) rfl
                change vs 5 = _ at d5
                have d3 := hd 3 (by decide) rfl
                change vs 3 = _ at d3
                refine ite_no (by simp [Region.wanted, yielded, d3]) ?_
                exact ⟨rfl, rfl⟩
              refine And.intro (fun w hw hd => ?_) ?_
              · have d3 := hd 3 (by decide) rfl
                change vs 3 = _ at d3
                refine ite_no (by simp [Region.wanted, yielded, d3]) ?_
                exact ⟨rfl, rfl⟩
              refine And.intro (fun w hw hd => ?_) ?_
              · have d7 := hd 7 (by decide) rfl
                change vs 7 = _ at d7
                have d3 := hd 3 (by decide) rfl
                change vs 3 = _ at d3
                refine ite_no (by simp [Region.wanted, yielded, d3]) ?_
                exact ⟨rfl, rfl⟩
              refine And.intro (fun w hw hd => ?_) ?_
              · have d8 := hd 8 (by decide) rfl
                change vs 8 = _ at d8
                have d3 := hd 3 (by decide) rfl
                change vs 3 = _ at d3
                refine ite_no (by simp [Region.wanted, yielded, d3]) ?_
                exact ⟨rfl, rfl⟩
              refine And.intro (fun w hw hd => ?_) ?_
              · have d6 := hd 6 (by decide) rfl
                change vs 6 = _ at d6
                have d9 := hd 9 (by decide) rfl
                change vs 9 = _ at d9
                have d3 := hd 3 (by decide) rfl
                change vs 3 = _ at d3
                refine ite_no (by simp [Region.wanted, yielded, d3]) ?_
                exact ⟨rfl, rfl⟩
              refine And.intro (fun w hw hd => ?_) ?_
              · have d3 := hd 3 (by decide) rfl
                change vs 3 = _ at d3
                have d10 := hd 10 (by decide) rfl
                change vs 10 = _ at d10
                refine ite_yes rfl ?_
                simp only [Gives]
                go_simp
                exact ⟨Below.refl _ _, rfl, fun h => by cases h⟩
              refine And.intro (fun w hw hd => ?_) ?_
              · have d11 := hd 11 (by decide) rfl
                change vs 11 = _ at d11
                refine ite_yes rfl ?_
                simp only [Gives]
                go_simp
                exact ⟨Below.refl _ _, rfl, fun h => by cases h⟩
              exact trivial
            intro vs wt hw hd hne hlo
            have d0 := hd 0 (by decide)
            change vs 0 = _ at d0
            have d1 := hd 1 (by decide)
            change vs 1 = _ at d1
            have d2 := hd 2 (by decide)
            change vs 2 = _ at d2
            have d3 := hd 3 (by decide)
            change vs 3 = _ at d3
            have d4 := hd 4 (by decide)
            change vs 4 = _ at d4
            have d5 := hd 5 (by decide)
            change vs 5 = _ at d5
            have d6 := hd 6 (by decide)
            change vs 6 = _ at d6
            have d7 := hd 7 (by decide)
            change vs 7 = _ at d7
            have d8 := hd 8 (by decide)
            change vs 8 = _ at d8
            have d9 := hd 9 (by decide)
            change vs 9 = _ at d9
            have d10 := hd 10 (by decide)
            change vs 10 = _ at d10
            have d11 := hd 11 (by decide)
            change vs 11 = _ at d11
            have d12 := hd 12 (by decide)
            change vs 12 = _ at d12
            simp only [d0, d1, d2, d3, d4, d5, d6, d7, d8, d9, d10, d11, d12, List.drop_succ_cons, List.drop_nil]
            have hg := hg.kept hw
            have B4 := B4.kept hw
            have c_hg := fun i => hg.cell i
            have f_hg := fun i => hg.free i
            have c_B4 := fun i => B4.cell i
            have f_B4 := fun i => B4.free i
            clear hd hne hlo d0 d1 d2 d3 d4 d5 d6 d7 d8 d9 d10 d11 d12
            have hmm := @run_makeMap Try.prog
            have hB := up_later hB hw
            have HL4 := Lib.hid (HL3.out.kept hw)
            have hx : Hid (openI L kase hour [a] = 0) := by have h := Hop.out; simp [*] at h; exact h
            clear hw HL3
            go_wp2
            go_ret2
            rw [hx.out]
            exact ⟨up_alloc (up_alloc hB _) _, .inr ⟨rfl, _, _, rfl, ⟨Box.new (by simp), (HL4.out.kept (up_alloc up0 _)).kept (up_alloc up0 _), (MapAt.new rfl).kept (up_alloc up0 _), by simp⟩, by have := hB.size; simp; omega, hB.size⟩⟩
  · have He := Lib.hid he
    have Hop : Hid (openI L kase hour [a] = errI L) := by unfold openI; rw [if_pos (by simpa using he)]; rfl
    have hb : (errI L != 0) = true := by simpa using he
    clear he
    go_enter Try.func47, Try.ntmps47
    go_wp2_with (go_at_call 17; refine (CheckLand_any _ _ _ _ L c _ (HL.out.kept (up_alloc up0 _))).mono ?_; rintro e w1 ⟨rfl, hb1⟩)
    go_ret2
    rw [Hop.out]
    exact ⟨up_later (up_alloc up0 _) hb1, .inl ⟨He.out, rfl⟩⟩

end Go.Proofs.Ytojbdmdjepgpjaa
