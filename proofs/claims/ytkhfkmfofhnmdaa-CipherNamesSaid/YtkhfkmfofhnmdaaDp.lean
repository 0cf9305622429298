/-
  WALKS of the reference's LossFault and of the law's lossy. Conditions: lists have at most 1000 elements.
-/
import Derived.Test.YtkhfkmfofhnmdaaDi
import Derived.Test.YtkhfkmfofhnmdaaDo
namespace Go.Proofs.Ytkhfkmfofhnmdaa
open Go.RowKit Go.Shelf
attribute [local go_sem] Oper.semAt_some

/-- The error of losses. -/
def lossF (b : Bk) (ls : List Ls) : Int := if 6 < ls.length then 3 else if ls.all (lossB b) then 0 else 2
theorem lossB_in (b : Bk) (x : Ls) : lossB b x = (inB 0 ((b.ks.length : Int) - 1) x.k && inB 0 ((b.ds.length : Int) - 1) x.d) := by
  rw [inB_below, inB_below]
  rfl
theorem all_yes {α : Type} {l : List α} {p : α → Bool} {k : Nat} {x : α} (h : ∀ y ∈ l.take k, p y = true) (hx : l[k]? = some x) (hp : p x = true) : ∀ y ∈ l.take (k + 1), p y = true := fun y hy => by
  rw [List.take_add_one, hx] at hy
  rcases List.mem_append.1 hy with h1 | h1
  · exact h y h1
  · obtain rfl : y = x := by simpa using h1
    exact hp
set_option maxRecDepth 100000 in
set_option maxHeartbeats 1500000 in
theorem LossFault_any (v1 v2 v : Value) (b : Bk) (ls : List Ls) (w : World) (hL : BookAt w v1 v2 b) (hl : RowsAt w v 2 Ls.cells ls) :
    Calls Try.prog 69 #[.agg #[iv b.n, iv b.w, v1, v2], v] w fun e w' => e = .returned (iv (lossF b ls)) ∧ Below w.heap.size w w' := by
  obtain ⟨hk8, A1, cap1, rfl, _, _⟩ := hL.ks.form
  obtain ⟨hd8, A2, cap2, rfl, _, _⟩ := hL.ds.form
  obtain ⟨_, A3, cap3, rfl, _, _⟩ := hl.form
  have HL := Lib.hid hl
  clear hL hl
  have N0 := Box.new (w := w) (t := 25) (cs := #[iv b.n, iv b.w, .slice A1 b.ks.length cap1, .slice A2 b.ds.length cap2]) rfl
  have hB0 : Below w.heap.size w (w.alloc (.cells #[iv b.n, iv b.w, .slice A1 b.ks.length cap1, .slice A2 b.ds.length cap2] 25)) := up_alloc up0 _
  by_cases c1 : 6 < ls.length
  · have n1 : (6 : Int) < (ls.length : Int) := by omega
    have Hr := Lib.hid (show lossF b ls = 3 by unfold lossF; rw [if_pos c1])
    clear N0
    go_enter Try.func69, Try.ntmps69
    go_wp2_with fail
    go_ret
    exact ⟨by rw [Hr.out]; rfl, up_alloc up0 _⟩
  have n1 : ¬ (6 : Int) < (ls.length : Int) := by omega
  go_enter Try.func69, Try.ntmps69
  go_wp2_with fail
  go_loopw [5] (fun i wr => ∃ k : Nat, k ≤ ls.length ∧ i = .int .i64 k ∧ Hid (∀ x ∈ ls.take k, lossB b x = true) ∧ Hid (Box wr w.heap.size 25 #[iv b.n, iv b.w, .slice A1 b.ks.length cap1, .slice A2 b.ds.length cap2]) ∧ Hid (Below w.heap.size w wr)) (fun i _ => ls.length - (intOf i).toNat)
  case atStart => exact ⟨0, by omega, rfl, by simp [Hid], N0, hB0⟩
  case round =>
    clear N0 hB0
    obtain ⟨k, hk, rfl, Hno, hbx, HB⟩ := hrel
    have N := hbx.out
    have k0 : (0 : Int) ≤ (k : Int) := by omega
    have hW1 : IntKind.i64.wrap ((b.ks.length : Int) - 1) = (b.ks.length : Int) - 1 := wrapK_in _ 1000 (by omega) (by omega)
    have hW2 : IntKind.i64.wrap ((b.ds.length : Int) - 1) = (b.ds.length : Int) - 1 := wrapK_in _ 1000 (by omega) (by omega)
    by_cases hlt : k < ls.length
    · obtain ⟨x, hx⟩ : ∃ x, ls[k]? = some x := ⟨_, List.getElem?_eq_getElem hlt⟩
      have HR := Lib.hid (HL.out.kept HB.out)
      obtain ⟨b1, o1, rfl, _, _⟩ := HR.out.at rfl hx
      have k1 : (k : Int) < (ls.length : Int) := by omega
      have Hx := Lib.hid hx
      clear hx
      cases i1 : inB 0 ((b.ks.length : Int) - 1) x.k with
      | false =>
        have Hr := Lib.hid (show lossF b ls = 2 by unfold lossF; rw [if_neg c1, all_off (List.mem_of_getElem? Hx.out) (by rw [lossB_in, i1]; rfl)]; rfl)
        have HI1 := Lib.hid i1
        clear i1
        go_wp2_with fail
        apply wp_region_by 24 [(Fact.eq _), (Fact.eq _), (Fact.eq _), (Fact.eq _), (Fact.eq _), (Fact.eq _), (Fact.eq _), (Fact.eq _), (Fact.eq _), (Fact.eq _), (Fact.eq _), (Fact.eq _), (Fact.eq _), (Fact.eq _), (Fact.eq _), (Fact.eq _), (Fact.eq _), (Fact.eq _), (Fact.eq _), (Fact.eq _), (Fact.eq _), (Fact.eq _), (Fact.eq _), (Fact.eq _)]
        case hm => kernel_rfl
        case hB => kernel_rfl
        case hA => (intro vs; simp only [List.take_succ_cons, List.take_zero, putAll, if_true, Act.put, List.setIfInBounds_toArray, List.set_cons_zero, List.set_cons_succ]; exact rfl)
        case hstep =>
          intro vs
          refine And.intro (fun w hw hd => ?_) ?_
          · refine ite_yes rfl ?_
            simp only [Gives]
            go_simp
            exact ⟨Below.refl _ _, rfl, fun h => by cases h⟩
          refine And.intro (fun w hw hd => ?_) ?_
          · refine ite_yes rfl ?_
            simp only [Gives]
            go_simp
            exact ⟨Below.refl _ _, rfl, fun h => by cases h⟩
          refine And.intro (fun w hw hd => ?_) ?_
          · have d0 := hd 0 (by decide) rfl
            change vs 0 = _ at d0
            have d1 := hd 1 (by decide) rfl
            change vs 1 = _ at d1
            refine ite_yes rfl ?_
            simp only [Gives]
            go_simp
            exact ⟨Below.refl _ _, rfl, fun h => by cases h⟩
          refine And.intro (fun w hw hd => ?_) ?_
          · have d2 := hd 2 (by decide) rfl
            change vs 2 = _ at d2
            refine ite_yes rfl ?_
            simp only [Gives]
            go_simp
            exact ⟨Below.refl _ _, rfl, fun h => by cases h⟩
          refine And.intro (fun w hw hd => ?_) ?_
          · have d3 := hd 3 (by decide) rfl
            change vs 3 = _ at d3
            refine ite_yes rfl ?_
            have c_N := fun i => (N.kept hw).cell i
            have q0 : w.cell? ⟨b1, o1 + k * 2, none⟩ = some (.int .i64 x.k) := (HR.out.kept hw).cellAt Hx.out (j := 0) rfl
            have q1 : w.cell? ⟨b1, o1 + k * 2 + 1, none⟩ = some (.int .i64 x.d) := (HR.out.kept hw).cellAt Hx.out (j := 1) rfl
            simp only [Gives]
            go_simp
            exact ⟨Below.refl _ _, rfl, fun h => by cases h⟩
          refine And.intro (fun w hw hd => ?_) ?_
          · refine ite_yes rfl ?_
            simp only [Gives]
            go_simp
            exact ⟨Below.refl _ _, rfl, fun h => by cases h⟩
          refine And.intro (fun w hw hd => ?_) ?_
          · have d5 := hd 5 (by decide) rfl
            change vs 5 = _ at d5
            refine ite_yes rfl ?_
            have c_N := fun i => (N.kept hw).cell i
            simp only [Gives]
            go_simp
            exact ⟨Below.refl _ _, rfl, fun h => by cases h⟩
          refine And.intro (fun w hw hd => ?_) ?_
          · have d6 := hd 6 (by decide) rfl
            change vs 6 = _ at d6
            refine ite_yes rfl ?_
            simp only [Gives]
            go_simp
            exact ⟨Below.refl _ _, rfl, fun h => by cases h⟩
          refine And.intro (fun w hw hd => ?_) ?_
          · have d7 := hd 7 (by decide) rfl
            change vs 7 = _ at d7
            refine ite_yes rfl ?_
            simp only [Gives]
            go_simp
            exact ⟨Below.refl _ _, rfl, fun h => by cases h⟩
          refine And.intro (fun w hw hd => ?_) ?_
          · have d4 := hd 4 (by decide) rfl
            change vs 4 = _ at d4
            have d8 := hd 8 (by decide) rfl
            change vs 8 = _ at d8
            refine ite_yes rfl ?_
            simp only [Gives]
            go_simp
            refine (In_b x.k 0 ((b.ks.length : Int) - 1) false w HI1.out).mono ?_
            rintro e w1 ⟨rfl, hb⟩
            exact ⟨_, rfl, hb, rfl, fun h => by cases h⟩
          refine And.intro (fun w hw hd => ?_) ?_
          · have d9 := hd 9 (by decide) rfl
            change vs 9 = _ at d9
            refine ite_yes rfl ?_
            simp only [Gives]
            go_simp
            exact ⟨Below.refl _ _, rfl, fun h => by cases h⟩
          refine And.intro (fun w hw hd => ?_) ?_
          · have d10 := hd 10 (by decide) rfl
            change vs 10 = _ at d10
            refine ite_yes rfl ?_
            simp only [Gives]
            go_simp
            exact ⟨Below.refl _ _, rfl, fun h => by cases h⟩
          refine And.intro (fun w hw hd => ?_) ?_
          · have d11 := hd 11 (by decide) rfl
            change vs 11 = _ at d11
            refine ite_no (by simp [Region.wanted, yielded, d11]) ?_
            exact ⟨rfl, rfl⟩
          refine And.intro (fun w hw hd => ?_) ?_
          · have d11 := hd 11 (by decide) rfl
            change vs 11 = _ at d11
            refine ite_no (by simp [Region.wanted, yielded, d11]) ?_
            exact ⟨rfl, rfl⟩
          refine And.intro (fun w hw hd => ?_) ?_
          · have d12 := hd 12 (by decide) rfl
            change vs 12 = _ at d12
            have d13 := hd 13 (by decide) rfl
            change vs 13 = _ at d13
            have d11 := hd 11 (by decide) rfl
            change vs 11 = _ at d11
            refine ite_no (by simp [Region.wanted, yielded, d11]) ?_
            exact ⟨rfl, rfl⟩
          refine And.intro (fun w hw hd => ?_) ?_
          · have d14 := hd 14 (by decide) rfl
            change vs 14 = _ at d14
            have d11 := hd 11 (by decide) rfl
            change vs 11 = _ at d11
            refine ite_no (by simp [Region.wanted, yielded, d11]) ?_
            exact ⟨rfl, rfl⟩
          refine And.intro (fun w hw hd => ?_) ?_
          · have d15 := hd 15 (by decide) rfl
            change vs 15 = _ at d15
            have d11 := hd 11 (by decide) rfl
            change vs 11 = _ at d11
            refine ite_no (by simp [Region.wanted, yielded, d11]) ?_
            exact ⟨rfl, rfl⟩
          refine And.intro (fun w hw hd => ?_) ?_
          · have d11 := hd 11 (by decide) rfl
            change vs 11 = _ at d11
            refine ite_no (by simp [Region.wanted, yielded, d11]) ?_
            exact ⟨rfl, rfl⟩
          refine And.intro (fun w hw hd => ?_) ?_
          · have d17 := hd 17 (by decide) rfl
            change vs 17 = _ at d17
            have d11 := hd 11 (by decide) rfl
            change vs 11 = _ at d11
            refine ite_no (by simp [Region.wanted, yielded, d11]) ?_
            exact ⟨rfl, rfl⟩
          refine And.intro (fun w hw hd => ?_) ?_
          · have d18 := hd 18 (by decide) rfl
            change vs 18 = _ at d18
            have d11 := hd 11 (by decide) rfl
            change vs 11 = _ at d11
            refine ite_no (by simp [Region.wanted, yielded, d11]) ?_
            exact ⟨rfl, rfl⟩
          refine And.intro (fun w hw hd => ?_) ?_
          · have d19 := hd 19 (by decide) rfl
            change vs 19 = _ at d19
            have d11 := hd 11 (by decide) rfl
            change vs 11 = _ at d11
            refine ite_no (by simp [Region.wanted, yielded, d11]) ?_
            exact ⟨rfl, rfl⟩
          refine And.intro (fun w hw hd => ?_) ?_
          · have d16 := hd 16 (by decide) rfl
            change vs 16 = _ at d16
            have d20 := hd 20 (by decide) rfl
            change vs 20 = _ at d20
            have d11 := hd 11 (by decide) rfl
            change vs 11 = _ at d11
            refine ite_no (by simp [Region.wanted, yielded, d11]) ?_
            exact ⟨rfl, rfl⟩
          refine And.intro (fun w hw hd => ?_) ?_
          · have d21 := hd 21 (by decide) rfl
            change vs 21 = _ at d21
            have d11 := hd 11 (by decide) rfl
            change vs 11 = _ at d11
            refine ite_no (by simp [Region.wanted, yielded, d11]) ?_
            exact ⟨rfl, rfl⟩
          refine And.intro (fun w hw hd => ?_) ?_
          · have d11 := hd 11 (by decide) rfl
            change vs 11 = _ at d11
            have d22 := hd 22 (by decide) rfl
            change vs 22 = _ at d22
            refine ite_yes rfl ?_
            simp only [Gives]
            go_simp
            exact ⟨Below.refl _ _, rfl, fun h => by cases h⟩
          exact trivial
        intro vs wt hw hd hne hlo
        have d0 := hd 0 (by decide)
        change vs 0 = _ at d0
        have d1 := hd 1 (by decide)
        change vs 1 = _ at d1
        have d2 := hd 2 (by decide)
        change vs 2 = _ at d2
        have d3 := hd 3 (by decide)
        change vs 3 = _ at d3
        have d4 := hd 4 (by decide)
        change vs 4 = _ at d4
        have d5 := hd 5 (by decide)
        change vs 5 = _ at d5
        have d6 := hd 6 (by decide)
        change vs 6 = _ at d6
        have d7 := hd 7 (by decide)
        change vs 7 = _ at d7
        have d8 := hd 8 (by decide)
        change vs 8 = _ at d8
        have d9 := hd 9 (by decide)
        change vs 9 = _ at d9
        have d10 := hd 10 (by decide)
        change vs 10 = _ at d10
        have d11 := hd 11 (by decide)
        change vs 11 = _ at d11
        have d12 := hd 12 (by decide)
        change vs 12 = _ at d12
        have d13 := hd 13 (by decide)
        change vs 13 = _ at d13
        have d14 := hd 14 (by decide)
        change vs 14 = _ at d14
        have d15 := hd 15 (by decide)
        change vs 15 = _ at d15
        have d16 := hd 16 (by decide)
        change vs 16 = _ at d16
        have d17 := hd 17 (by decide)
        change vs 17 = _ at d17
        have d18 := hd 18 (by decide)
        change vs 18 = _ at d18
        have d19 := hd 19 (by decide)
        change vs 19 = _ at d19
        have d20 := hd 20 (by decide)
        change vs 20 = _ at d20
        have d21 := hd 21 (by decide)
        change vs 21 = _ at d21
        have d22 := hd 22 (by decide)
        change vs 22 = _ at d22
        have d23 := hd 23 (by decide)
        change vs 23 = _ at d23
        simp only [d0, d1, d2, d3, d4, d5, d6, d7, d8, d9, d10, d11, d12, d13, d14, d15, d16, d17, d18, d19, d20, d21, d22, d23, List.drop_succ_cons, List.drop_nil]
        have N := N.kept hw
        have c_N := fun i => N.cell i
        have f_N := fun i => N.free i
        clear hd hne hlo d0 d1 d2 d3 d4 d5 d6 d7 d8 d9 d10 d11 d12 d13 d14 d15 d16 d17 d18 d19 d20 d21 d22 d23
        go_wp2_with fail
        go_ret
        exact ⟨by rw [Hr.out]; rfl, up_later HB.out hw⟩
      | true =>
        have HI1 := Lib.hid i1
        cases i2 : inB 0 ((b.ds.length : Int) - 1) x.d with
        | false =>
          have Hr := Lib.hid (show lossF b ls = 2 by unfold lossF; rw [if_neg c1, all_off (List.mem_of_getElem? Hx.out) (by rw [lossB_in, i1, i2]; rfl)]; rfl)
          have HI2 := Lib.hid i2
          clear i1 i2
          go_wp2_with fail
          apply wp_region_by 24 [(Fact.eq _), (Fact.eq _), (Fact.eq _), (Fact.eq _), (Fact.eq _), (Fact.eq _), (Fact.eq _), (Fact.eq _), (Fact.eq _), (Fact.eq _), (Fact.eq _), (Fact.eq _), (Fact.eq _), (Fact.eq _), (Fact.eq _), (Fact.eq _), (Fact.eq _), (Fact.eq _), (Fact.eq _), (Fact.eq _), (Fact.eq _), (Fact.eq _), (Fact.eq _), (Fact.eq _)]
          case hm => kernel_rfl
          case hB => kernel_rfl
          case hA => (intro vs; simp only [List.take_succ_cons, List.take_zero, putAll, if_true, Act.put, List.setIfInBounds_toArray, List.set_cons_zero, List.set_cons_succ]; exact rfl)
          case hstep =>
            intro vs
            refine And.intro (fun w hw hd => ?_) ?_
            · refine ite_yes rfl ?_
              simp only [Gives]
              go_simp
              exact ⟨Below.refl _ _, rfl, fun h => by cases h⟩
            refine And.intro (fun w hw hd => ?_) ?_
            · refine ite_yes rfl ?_
              simp only [Gives]
              go_simp
              exact ⟨Below.refl _ _, rfl, fun h => by cases h⟩
            refine And.intro (fun w hw hd => ?_) ?_
            · have d0 := hd 0 (by decide) rfl
              change vs 0 = _ at d0
              have d1 := hd 1 (by decide) rfl
              change vs 1 = _ at d1
              refine ite_yes rfl ?_
              simp only [Gives]
              go_simp
              exact ⟨Below.refl _ _, rfl, fun h => by cases h⟩
            refine And.intro (fun w hw hd => ?_) ?_
            · have d2 := hd 2 (by decide) rfl
              change vs 2 = _ at d2
              refine ite_yes rfl ?_
              simp only [Gives]
              go_simp
              exact ⟨Below.refl _ _, rfl, fun h => by cases h⟩
            refine And.intro (fun w hw hd => ?_) ?_
            · have d3 := hd 3 (by decide) rfl
              change vs 3 = _ at d3
              refine ite_yes rfl ?_
              have c_N := fun i => (N.kept hw).cell i
              have q0 : w.cell? ⟨b1, o1 + k * 2, none⟩ = some (.int .i64 x.k) := (HR.out.kept hw).cellAt Hx.out (j := 0) rfl
              have q1 : w.cell? ⟨b1, o1 + k * 2 + 1, none⟩ = some (.int .i64 x.d) := (HR.out.kept hw).cellAt Hx.out (j := 1) rfl
              simp only [Gives]
              go_simp
              exact ⟨Below.refl _ _, rfl, fun h => by cases h⟩
            refine And.intro (fun w hw hd => ?_) ?_
            · refine ite_yes rfl ?_
              simp only [Gives]
              go_simp
              exact ⟨Below.refl _ _, rfl, fun h => by cases h⟩
            refine And.intro (fun w hw hd => ?_) ?_
            · have d5 := hd 5 (by decide) rfl
              change vs 5 = _ at d5
              refine ite_yes rfl ?_
              have c_N := fun i => (N.kept hw).cell i
              simp only [Gives]
              go_simp
              exact ⟨Below.refl _ _, rfl, fun h => by cases h⟩
            refine And.intro (fun w hw hd => ?_) ?_
            · have d6 := hd 6 (by decide) rfl
              change vs 6 = _ at d6
              refine ite_yes rfl ?_
              simp only [Gives]
              go_simp
              exact ⟨Below.refl _ _, rfl, fun h => by cases h⟩
            refine And.intro (fun w hw hd => ?_) ?_
            · have d7 := hd 7 (by decide) rfl
              change vs 7 = _ at d7
              refine ite_yes rfl ?_
              simp only [Gives]
              go_simp
              exact ⟨Below.refl _ _, rfl, fun h => by cases h⟩
            refine And.intro (fun w hw hd => ?_) ?_
            · have d4 := hd 4 (by decide) rfl
              change vs 4 = _ at d4
              have d8 := hd 8 (by decide) rfl
              change vs 8 = _ at d8
              refine ite_yes rfl ?_
              simp only [Gives]
              go_simp
              refine (In_b x.k 0 ((b.ks.length : Int) - 1) true w HI1.out).mono ?_
              rintro e w1 ⟨rfl, hb⟩
              exact ⟨_, rfl, hb, rfl, fun h => by cases h⟩
            refine And.intro (fun w hw hd => ?_) ?_
            · have d9 := hd 9 (by decide) rfl
              change vs 9 = _ at d9
              refine ite_yes rfl ?_
              simp only [Gives]
              go_simp
              exact ⟨Below.refl _ _, rfl, fun h => by cases h⟩
            refine And.intro (fun w hw hd => ?_) ?_
            · have d10 := hd 10 (by decide) rfl
              change vs 10 = _ at d10
              refine ite_yes rfl ?_
              simp only [Gives]
              go_simp
              exact ⟨Below.refl _ _, rfl, fun h => by cases h⟩
            refine And.intro (fun w hw hd => ?_) ?_
            · have d11 := hd 11 (by decide) rfl
              change vs 11 = _ at d11
              refine ite_yes (by simp [Region.wanted, yielded, d11]) ?_
              simp only [Gives]
              go_simp
              exact ⟨Below.refl _ _, rfl, fun h => by cases h⟩
            refine And.intro (fun w hw hd => ?_) ?_
            · have d11 := hd 11 (by decide) rfl
              change vs 11 = _ at d11
              refine ite_yes (by simp [Region.wanted, yielded, d11]) ?_
              simp only [Gives]
              go_simp
              exact ⟨Below.refl _ _, rfl, fun h => by cases h⟩
            refine And.intro (fun w hw hd => ?_) ?_
            · have d12 := hd 12 (by decide) rfl
              change vs 12 = _ at d12
              have d13 := hd 13 (by decide) rfl
              change vs 13 = _ at d13
              have d11 := hd 11 (by decide) rfl
              change vs 11 = _ at d11
              refine ite_yes (by simp [Region.wanted, yielded, d11]) ?_
              simp only [Gives]
              go_simp
              exact ⟨Below.refl _ _, rfl, fun h => by cases h⟩
            refine And.intro (fun w hw hd => ?_) ?_
            · have d14 := hd 14 (by decide) rfl
              change vs 14 = _ at d14
              have d11 := hd 11 (by decide) rfl
              change vs 11 = _ at d11
              refine ite_yes (by simp [Region.wanted, yielded, d11]) ?_
              simp only [Gives]
              go_simp
              exact ⟨Below.refl _ _, rfl, fun h => by cases h⟩
            refine And.intro (fun w hw hd => ?_) ?_
            · have d15 := hd 15 (by decide) rfl
              change vs 15 = _ at d15
              have d11 := hd 11 (by decide) rfl
              change vs 11 = _ at d11
              refine ite_yes (by simp [Region.wanted, yielded, d11]) ?_
              have c_N := fun i => (N.kept hw).cell i
              have q0 : w.cell? ⟨b1, o1 + k * 2, none⟩ = some (.int .i64 x.k) := (HR.out.kept hw).cellAt Hx.out (j := 0) rfl
              have q1 : w.cell? ⟨b1, o1 + k * 2 + 1, none⟩ = some (.int .i64 x.d) := (HR.out.kept hw).cellAt Hx.out (j := 1) rfl
              simp only [Gives]
              go_simp
              exact ⟨Below.refl _ _, rfl, fun h => by cases h⟩
            refine And.intro (fun w hw hd => ?_) ?_
            · have d11 := hd 11 (by decide) rfl
              change vs 11 = _ at d11
              refine ite_yes (by simp [Region.wanted, yielded, d11]) ?_
              simp only [Gives]
              go_simp
              exact ⟨Below.refl _ _, rfl, fun h => by cases h⟩
            refine And.intro (fun w hw hd => ?_) ?_
            · have d17 := hd 17 (by decide) rfl
              change vs 17 = _ at d17
              have d11 := hd 11 (by decide) rfl
              change vs 11 = _ at d11
              refine ite_yes (by simp [Region.wanted, yielded, d11]) ?_
              have c_N := fun i => (N.kept hw).cell i
              simp only [Gives]
              go_simp
              exact ⟨Below.refl _ _, rfl, fun h => by cases h⟩
            refine And.intro (fun w hw hd => ?_) ?_
            · have d18 := hd 18 (by decide) rfl
              change vs 18 = _ at d18
              have d11 := hd 11 (by decide) rfl
              change vs 11 = _ at d11
              refine ite_yes (by simp [Region.wanted, yielded, d11]) ?_
              simp only [Gives]
              go_simp
              exact ⟨Below.refl _ _, rfl, fun h => by cases h⟩
            refine And.intro (fun w hw hd => ?_) ?_
            · have d19 := hd 19 (by decide) rfl
              change vs 19 = _ at d19
              have d11 := hd 11 (by decide) rfl
              change vs 11 = _ at d11
              refine ite_yes (by simp [Region.wanted, yielded, d11]) ?_
              simp only [Gives]
              go_simp
              exact ⟨Below.refl _ _, rfl, fun h => by cases h⟩
            refine And.intro (fun w hw hd => ?_) ?_
            · have d16 := hd 16 (by decide) rfl
              change vs 16 = _ at d16
              have d20 := hd 20 (by decide) rfl
              change vs 20 = _ at d20
              have d11 := hd 11 (by decide) rfl
              change vs 11 = _ at d11
              refine ite_yes (by simp [Region.wanted, yielded, d11]) ?_
              simp only [Gives]
              go_simp
              refine (In_b x.d 0 ((b.ds.length : Int) - 1) false w HI2.out).mono ?_
              rintro e w1 ⟨rfl, hb⟩
              exact ⟨_, rfl, hb, rfl, fun h => by cases h⟩
            refine And.intro (fun w hw hd => ?_) ?_
            · have d21 := hd 21 (by decide) rfl
              change vs 21 = _ at d21
              have d11 := hd 11 (by decide) rfl
              change vs 11 = _ at d11
              refine ite_yes (by simp [Region.wanted, yielded, d11]) ?_
              simp only [Gives]
              go_simp
              exact ⟨Below.refl _ _, rfl, fun h => by cases h⟩
            refine And.intro (fun w hw hd => ?_) ?_
            · have d11 := hd 11 (by decide) rfl
              change vs 11 = _ at d11
              have d22 := hd 22 (by decide) rfl
              change vs 22 = _ at d22
              refine ite_yes rfl ?_
              simp only [Gives]
              go_simp
              exact ⟨Below.refl _ _, rfl, fun h => by cases h⟩
            exact trivial
          intro vs wt hw hd hne hlo
          have d0 := hd 0 (by decide)
          change vs 0 = _ at d0
          have d1 := hd 1 (by decide)
          change vs 1 = _ at d1
          have d2 := hd 2 (by decide)
          change vs 2 = _ at d2
          have d3 := hd 3 (by decide)
          change vs 3 = _ at d3
          have d4 := hd 4 (by decide)
          change vs 4 = _ at d4
          have d5 := hd 5 (by decide)
          change vs 5 = _ at d5
          have d6 := hd 6 (by decide)
          change vs 6 = _ at d6
          have d7 := hd 7 (by decide)
          change vs 7 = _ at d7
          have d8 := hd 8 (by decide)
          change vs 8 = _ at d8
          have d9 := hd 9 (by decide)
          change vs 9 = _ at d9
          have d10 := hd 10 (by decide)
          change vs 10 = _ at d10
          have d11 := hd 11 (by decide)
          change vs 11 = _ at d11
          have d12 := hd 12 (by decide)
          change vs 12 = _ at d12
          have d13 := hd 13 (by decide)
          change vs 13 = _ at d13
          have d14 := hd 14 (by decide)
          change vs 14 = _ at d14
          have d15 := hd 15 (by decide)
          change vs 15 = _ at d15
          have d16 := hd 16 (by decide)
          change vs 16 = _ at d16
          have d17 := hd 17 (by decide)
          change vs 17 = _ at d17
          have d18 := hd 18 (by decide)
          change vs 18 = _ at d18
          have d19 := hd 19 (by decide)
          change vs 19 = _ at d19
          have d20 := hd 20 (by decide)
          change vs 20 = _ at d20
          have d21 := hd 21 (by decide)
          change vs 21 = _ at d21
          have d22 := hd 22 (by decide)
          change vs 22 = _ at d22
          have d23 := hd 23 (by decide)
          change vs 23 = _ at d23
          simp only [d0, d1, d2, d3, d4, d5, d6, d7, d8, d9, d10, d11, d12, d13, d14, d15, d16, d17, d18, d19, d20, d21, d22, d23, List.drop_succ_cons, List.drop_nil]
          have N := N.kept hw
          have c_N := fun i => N.cell i
          have f_N := fun i => N.free i
          clear hd hne hlo d0 d1 d2 d3 d4 d5 d6 d7 d8 d9 d10 d11 d12 d13 d14 d15 d16 d17 d18 d19 d20 d21 d22 d23
          go_wp2_with fail
          go_ret
          exact ⟨by rw [Hr.out]; rfl, up_later HB.out hw⟩
        | true =>
          have Hp := Lib.hid (show lossB b x = true by rw [lossB_in, i1, i2]; rfl)
          have HI2 := Lib.hid i2
          clear i1 i2
          go_wp2_with fail
          apply wp_region_by 24 [(Fact.eq _), (Fact.eq _), (Fact.eq _), (Fact.eq _), (Fact.eq _), (Fact.eq _), (Fact.eq _), (Fact.eq _), (Fact.eq _), (Fact.eq _), (Fact.eq _), (Fact.eq _), (Fact.eq _), (Fact.eq _), (Fact.eq _), (Fact.eq _), (Fact.eq _), (Fact.eq _), (Fact.eq _), (Fact.eq _), (Fact.eq _), (Fact.eq _), (Fact.eq _), (Fact.eq _)]
          case hm => kernel_rfl
          case hB => kernel_rfl
          case hA => (intro vs; simp only [List.take_succ_cons, List.take_zero, putAll, if_true, Act.put, List.setIfInBounds_toArray, List.set_cons_zero, List.set_cons_succ]; exact rfl)
          case hstep =>
            intro vs
            refine And.intro (fun w hw hd => ?_) ?_
            · refine ite_yes rfl ?_
              simp only [Gives]
              go_simp
              exact ⟨Below.refl _ _, rfl, fun h => by cases h⟩
            refine And.intro (fun w hw hd => ?_) ?_
            · refine ite_yes rfl ?_
              simp only [Gives]
              go_simp
              exact ⟨Below.refl _ _, rfl, fun h => by cases h⟩
            refine And.intro (fun w hw hd => ?_) ?_
            · have d0 := hd 0 (by decide) rfl
              change vs 0 = _ at d0
              have d1 := hd 1 (by decide) rfl
              change vs 1 = _ at d1
              refine ite_yes rfl ?_
              simp only [Gives]
              go_simp
              exact ⟨Below.refl _ _, rfl, fun h => by cases h⟩
            refine And.intro (fun w hw hd => ?_) ?_
            · have d2 := hd 2 (by decide) rfl
              change vs 2 = _ at d2
              refine ite_yes rfl ?_
              simp only [Gives]
              go_simp
              exact ⟨Below.refl _ _, rfl, fun h => by cases h⟩
            refine And.intro (fun w hw hd => ?_) ?_
            · have d3 := hd 3 (by decide) rfl
              change vs 3 = _ at d3
              refine ite_yes rfl ?_
              have c_N := fun i => (N.kept hw).cell i
              have q0 : w.cell? ⟨b1, o1 + k * 2, none⟩ = some (.int .i64 x.k) := (HR.out.kept hw).cellAt Hx.out (j := 0) rfl
              have q1 : w.cell? ⟨b1, o1 + k * 2 + 1, none⟩ = some (.int .i64 x.d) := (HR.out.kept hw).cellAt Hx.out (j := 1) rfl
              simp only [Gives]
              go_simp
              exact ⟨Below.refl _ _, rfl, fun h => by cases h⟩
            refine And.intro (fun w hw hd => ?_) ?_
            · refine ite_yes rfl ?_
              simp only [Gives]
              go_simp
              exact ⟨Below.refl _ _, rfl, fun h => by cases h⟩
            refine And.intro (fun w hw hd => ?_) ?_
            · have d5 := hd 5 (by decide) rfl
              change vs 5 = _ at d5
              refine ite_yes rfl ?_
              have c_N := fun i => (N.kept hw).cell i
              simp only [Gives]
              go_simp
              exact ⟨Below.refl _ _, rfl, fun h => by cases h⟩
            refine And.intro (fun w hw hd => ?_) ?_
            · have d6 := hd 6 (by decide) rfl
              change vs 6 = _ at d6
              refine ite_yes rfl ?_
              simp only [Gives]
              go_simp
              exact ⟨Below.refl _ _, rfl, fun h => by cases h⟩
            refine And.intro (fun w hw hd => ?_) ?_
            · have d7 := hd 7 (by decide) rfl
              change vs 7 = _ at d7
              refine ite_yes rfl ?_
              simp only [Gives]
              go_simp
              exact ⟨Below.refl _ _, rfl, fun h => by cases h⟩
            refine And.intro (fun w hw hd => ?_) ?_
            · have d4 := hd 4 (by decide) rfl
              change vs 4 = _ at d4
              have d8 := hd 8 (by decide) rfl
              change vs 8 = _ at d8
              refine ite_yes rfl ?_
              simp only [Gives]
              go_simp
              refine (In_b x.k 0 ((b.ks.length : Int) - 1) true w HI1.out).mono ?_
              rintro e w1 ⟨rfl, hb⟩
              exact ⟨_, rfl, hb, rfl, fun h => by cases h⟩
            refine And.intro (fun w hw hd => ?_) ?_
            · have d9 := hd 9 (by decide) rfl
              change vs 9 = _ at d9
              refine ite_yes rfl ?_
              simp only [Gives]
              go_simp
              exact ⟨Below.refl _ _, rfl, fun h => by cases h⟩
            refine And.intro (fun w hw hd => ?_) ?_
            · have d10 := hd 10 (by decide) rfl
              change vs 10 = _ at d10
              refine ite_yes rfl ?_
              simp only [Gives]
              go_simp
              exact ⟨Below.refl _ _, rfl, fun h => by cases h⟩
            refine And.intro (fun w hw hd => ?_) ?_
            · have d11 := hd 11 (by decide) rfl
              change vs 11 = _ at d11
              refine ite_yes (by simp [Region.wanted, yielded, d11]) ?_
              simp only [Gives]
              go_simp
              exact ⟨Below.refl _ _, rfl, fun h => by cases h⟩
            refine And.intro (fun w hw hd => ?_) ?_
            · have d11 := hd 11 (by decide) rfl
              change vs 11 = _ at d11
              refine ite_yes (by simp [Region.wanted, yielded, d11]) ?_
              simp only [Gives]
              go_simp
              exact ⟨Below.refl _ _, rfl, fun h => by cases h⟩
            refine And.intro (fun w hw hd => ?_) ?_
            · have d12 := hd 12 (by decide) rfl
              change vs 12 = _ at d12
              have d13 := hd 13 (by decide) rfl
              change vs 13 = _ at d13
              have d11 := hd 11 (by decide) rfl
              change vs 11 = _ at d11
              refine ite_yes (by simp [Region.wanted, yielded, d11]) ?_
              simp only [Gives]
              go_simp
              exact ⟨Below.refl _ _, rfl, fun h => by cases h⟩
            refine And.intro (fun w hw hd => ?_) ?_
            · have d14 := hd 14 (by decide) rfl
              change vs 14 = _ at d14
              have d11 := hd 11 (by decide) rfl
              change vs 11 = _ at d11
              refine ite_yes (by simp [Region.wanted, yielded, d11]) ?_
              simp only [Gives]
              go_simp
              exact ⟨Below.refl _ _, rfl, fun h => by cases h⟩
            refine And.intro (fun w hw hd => ?_) ?_
            · have d15 := hd 15 (by decide) rfl
              change vs 15 = _ at d15
              have d11 := hd 11 (by decide) rfl
              change vs 11 = _ at d11
              refine ite_yes (by simp [Region.wanted, yielded, d11]) ?_
              have c_N := fun i => (N.kept hw).cell i
              have q0 : w.cell? ⟨b1, o1 + k * 2, none⟩ = some (.int .i64 x.k) := (HR.out.kept hw).cellAt Hx.out (j := 0) rfl
              have q1 : w.cell? ⟨b1, o1 + k * 2 + 1, none⟩ = some (.int .i64 x.d) := (HR.out.kept hw).cellAt Hx.out (j := 1) rfl
              simp only [Gives]
              go_simp
              exact ⟨Below.refl _ _, rfl, fun h => by cases h⟩
            refine And.intro (fun w hw hd => ?_) ?_
            · have d11 := hd 11 (by decide) rfl
              change vs 11 = _ at d11
              refine ite_yes (by simp [Region.wanted, yielded, d11]) ?_
              simp only [Gives]
              go_simp
              exact ⟨Below.refl _ _, rfl, fun h => by cases h⟩
            refine And.intro (fun w hw hd => ?_) ?_
            · have d17 := hd 17 (by decide) rfl
              change vs 17 = _ at d17
              have d11 := hd 11 (by decide) rfl
              change vs 11 = _ at d11
              refine ite_yes (by simp [Region.wanted, yielded, d11]) ?_
              have c_N := fun i => (N.kept hw).cell i
              simp only [Gives]
              go_simp
              exact ⟨Below.refl _ _, rfl, fun h => by cases h⟩
            refine And.intro (fun w hw hd => ?_) ?_
            · have d18 := hd 18 (by decide) rfl
              change vs 18 = _ at d18
              have d11 := hd 11 (by decide) rfl
              change vs 11 = _ at d11
              refine ite_yes (by simp [Region.wanted, yielded, d11]) ?_
              simp only [Gives]
              go_simp
              exact ⟨Below.refl _ _, rfl, fun h => by cases h⟩
            refine And.intro (fun w hw hd => ?_) ?_
            · have d19 := hd 19 (by decide) rfl
              change vs 19 = _ at d19
              have d11 := hd 11 (by decide) rfl
              change vs 11 = _ at d11
              refine ite_yes (by simp [Region.wanted, yielded, d11]) ?_
              simp only [Gives]
              go_simp
              exact ⟨Below.refl _ _, rfl, fun h => by cases h⟩
            refine And.intro (fun w hw hd => ?_) ?_
            · have d16 := hd 16 (by decide) rfl
              change vs 16 = _ at d16
              have d20 := hd 20 (by decide) rfl
              change vs 20 = _ at d20
              have d11 := hd 11 (by decide) rfl
              change vs 11 = _ at d11
              refine ite_yes (by simp [Region.wanted, yielded, d11]) ?_
              simp only [Gives]
              go_simp
              refine (In_b x.d 0 ((b.ds.length : Int) - 1) true w HI2.out).mono ?_
              rintro e w1 ⟨rfl, hb⟩
              exact ⟨_, rfl, hb, rfl, fun h => by cases h⟩
            refine And.intro (fun w hw hd => ?_) ?_
            · have d21 := hd 21 (by decide) rfl
              change vs 21 = _ at d21
              have d11 := hd 11 (by decide) rfl
              change vs 11 = _ at d11
              refine ite_yes (by simp [Region.wanted, yielded, d11]) ?_
              simp only [Gives]
              go_simp
              exact ⟨Below.refl _ _, rfl, fun h => by cases h⟩
            refine And.intro (fun w hw hd => ?_) ?_
            · have d11 := hd 11 (by decide) rfl
              change vs 11 = _ at d11
              have d22 := hd 22 (by decide) rfl
              change vs 22 = _ at d22
              refine ite_yes rfl ?_
              simp only [Gives]
              go_simp
              exact ⟨Below.refl _ _, rfl, fun h => by cases h⟩
            exact trivial
          intro vs wt hw hd hne hlo
          have d0 := hd 0 (by decide)
          change vs 0 = _ at d0
          have d1 := hd 1 (by decide)
          change vs 1 = _ at d1
          have d2 := hd 2 (by decide)
          change vs 2 = _ at d2
          have d3 := hd 3 (by decide)
          change vs 3 = _ at d3
          have d4 := hd 4 (by decide)
          change vs 4 = _ at d4
          have d5 := hd 5 (by decide)
          change vs 5 = _ at d5
          have d6 := hd 6 (by decide)
          change vs 6 = _ at d6
          have d7 := hd 7 (by decide)
          change vs 7 = _ at d7
          have d8 := hd 8 (by decide)
          change vs 8 = _ at d8
          have d9 := hd 9 (by decide)
          change vs 9 = _ at d9
          have d10 := hd 10 (by decide)
          change vs 10 = _ at d10
          have d11 := hd 11 (by decide)
          change vs 11 = _ at d11
          have d12 := hd 12 (by decide)
          change vs 12 = _ at d12
          have d13 := hd 13 (by decide)
          change vs 13 = _ at d13
          have d14 := hd 14 (by decide)
          change vs 14 = _ at d14
          have d15 := hd 15 (by decide)
          change vs 15 = _ at d15
          have d16 := hd 16 (by decide)
          change vs 16 = _ at d16
          have d17 := hd 17 (by decide)
          change vs 17 = _ at d17
          have d18 := hd 18 (by decide)
          change vs 18 = _ at d18
          have d19 := hd 19 (by decide)
          change vs 19 = _ at d19
          have d20 := hd 20 (by decide)
          change vs 20 = _ at d20
          have d21 := hd 21 (by decide)
          change vs 21 = _ at d21
          have d22 := hd 22 (by decide)
          change vs 22 = _ at d22
          have d23 := hd 23 (by decide)
          change vs 23 = _ at d23
          simp only [d0, d1, d2, d3, d4, d5, d6, d7, d8, d9, d10, d11, d12, d13, d14, d15, d16, d17, d18, d19, d20, d21, d22, d23, List.drop_succ_cons, List.drop_nil]
          have N := N.kept hw
          have c_N := fun i => N.cell i
          have f_N := fun i => N.free i
          clear hd hne hlo d0 d1 d2 d3 d4 d5 d6 d7 d8 d9 d10 d11 d12 d13 d14 d15 d16 d17 d18 d19 d20 d21 d22 d23
          go_wp2_with fail
          go_roundw
          case rel => exact ⟨k + 1, by omega, by go_num, all_yes Hno.out Hx.out Hp.out, N, up_later HB.out hw⟩
          case measure => simp [intOf]; omega
    · have Hr := Lib.hid (show lossF b ls = 0 by
        unfold lossF
        rw [if_neg c1, if_pos]
        rw [List.all_eq_true]
        have a := Hno.out
        rw [List.take_of_length_le (by omega)] at a
        exact a)
      go_wp2_with fail
      go_ret
      exact ⟨by rw [Hr.out]; rfl, HB.out⟩

set_option maxRecDepth 100000 in
set_option maxHeartbeats 1000000 in
theorem lossy_any (v1 v2 v : Value) (b : Bk) (ls : List Ls) (w : World) (hL : BookAt w v1 v2 b) (hl : RowsAt w v 2 Ls.cells ls) :
    Calls Try.prog 32 #[.agg #[iv b.n, iv b.w, v1, v2], v] w fun e w' => e = .returned (iv (deskE b ls)) ∧ Below w.heap.size w w' := by
  obtain ⟨_, A1, cap1, rfl, _, _⟩ := hL.ks.form
  obtain ⟨_, A2, cap2, rfl, _, _⟩ := hL.ds.form
  have HL := Lib.hid hL
  have HV := Lib.hid hl
  clear hL hl
  by_cases c1 : bookE b = 0
  · have e1 : (bookE b == 0) = true := by rw [beq_iff_eq]; exact c1
    have Hr := Lib.hid (show deskE b ls = lossF b ls by unfold deskE lossF; rw [if_neg (by simpa using c1)])
    clear c1
    go_enter Try.func32, Try.ntmps32
    go_wp2_with fail
    refine (Lfault_any _ _ b _ (HL.out.kept (up_alloc up0 _))).mono ?_
    rintro e w1 ⟨rfl, hb⟩
    have HB := Lib.hid (up_later (up_alloc (up0 (w := w)) (.cells #[iv b.n, iv b.w, .slice A1 b.ks.length cap1, .slice A2 b.ds.length cap2] 25)) hb)
    have B1 := Lib.hid ((Box.new (w := w) (t := 25) (cs := #[iv b.n, iv b.w, .slice A1 b.ks.length cap1, .slice A2 b.ds.length cap2]) rfl).kept hb)
    clear hb
    have BB := B1.out
    have cB := fun i => BB.cell i
    have fB := fun i => BB.free i
    have lB := BB.lt
    have mB := Nat.lt_succ_of_lt lB
    go_wp2_with fail
    clear cB fB lB mB BB
    refine (LossFault_any _ _ _ b ls _ (HL.out.kept HB.out) (HV.out.kept HB.out)).mono ?_
    rintro e w2 ⟨rfl, hb⟩
    go_wp2_with fail
    go_ret
    exact ⟨by rw [Hr.out]; rfl, up_later HB.out hb⟩
  · have e1 : (bookE b == 0) = false := by rw [beq_eq_false_iff_ne]; exact c1
    have Hr := Lib.hid (show deskE b ls = bookE b by unfold deskE; rw [if_pos c1])
    clear c1
    go_enter Try.func32, Try.ntmps32
    go_wp2_with fail
    refine (Lfault_any _ _ b _ (HL.out.kept (up_alloc up0 _))).mono ?_
    rintro e w1 ⟨rfl, hb⟩
    go_wp2_with fail
    go_ret
    exact ⟨by rw [Hr.out]; rfl, up_later (up_alloc up0 _) hb⟩
end Go.Proofs.Ytkhfkmfofhnmdaa
